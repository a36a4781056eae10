/- Slices of structs of a small kind, a number, bytes, and a struct of three numbers and bytes, opened: of no type of the program. -/
import Derived.Test.YtneifmnlailipaaOpenRows
namespace Go.Proofs.Ytneifmnlailipaa
open Go.RowKit Go.ChangeShapes Go.WideShapes Go.ChangeAt

structure WOp where
  kind : Int
  conn : Int
  b : Value
  xs : List UInt8
  ek : Int
  ec : Int
  en : Int
  eb : Value
  zs : List UInt8
def WOp.cells (o : WOp) : List Value := [.int .u8 o.kind, .int .i64 o.conn, o.b, .int .i64 o.ek, .int .i64 o.ec, .int .i64 o.en, o.eb]
structure WOp.Ok (w : World) (o : WOp) : Prop where
  kind : (Lit.int .u8 o.kind).wf = true
  conn : (Lit.int .i64 o.conn).wf = true
  rd : Rd w o.b (o.xs.map bv)
  len : o.xs.length ≤ maxLen
  ek : (Lit.int .i64 o.ek).wf = true
  ec : (Lit.int .i64 o.ec).wf = true
  en : (Lit.int .i64 o.en).wf = true
  erd : Rd w o.eb (o.zs.map bv)
  elen : o.zs.length ≤ maxLen

section
variable {P : Program} {H : Type} {enc : TypeId × Value → H} {w : World} {held : Bool} {t e f : TypeId} {k : IntKind} {v : Value} {b0 : Nat}
/-- Such structs, in a slice. -/
theorem open_wops {d : DataW H} {p : List MemPlace} {fs gs : Array Field} {f0 f1 f2 f3 g0 g1 g2 g3 : Field} (hv : Value.okWide P w .any b0 t v) (ht : P.underlying t = some (.slice e)) (he : P.underlying e = some (.struct fs)) (hCe : P.cellsOf e = 7)
    (hfs : fs = #[f0, f1, f2, f3]) (o0 : f0.offset = 0) (o1 : f1.offset = 1) (o2 : f2.offset = 2) (o3 : f3.offset = 3)
    (u0 : P.underlying f0.type = some (.int .u8)) (u1 : P.underlying f1.type = some (.int .i64)) (u2 : P.underlying f2.type = some (.slice f)) (u3 : P.underlying f3.type = some (.struct gs)) (uf : P.underlying f = some (.int .u8))
    (hgs : gs = #[g0, g1, g2, g3]) (q0 : g0.offset = 0) (q1 : g1.offset = 1) (q2 : g2.offset = 2) (q3 : g3.offset = 3)
    (v0 : P.underlying g0.type = some (.int .i64)) (v1 : P.underlying g1.type = some (.int .i64)) (v2 : P.underlying g2.type = some (.int .i64)) (v3 : P.underlying g3.type = some (.slice f))
    (c0 : P.cellsOf f0.type = 1) (c1 : P.cellsOf f1.type = 1) (c2 : P.cellsOf f2.type = 1) (c3 : P.cellsOf f3.type = 4) (cf : P.cellsOf f = 1)
    (d0 : P.cellsOf g0.type = 1) (d1 : P.cellsOf g1.type = 1) (d2 : P.cellsOf g2.type = 1) (d3 : P.cellsOf g3.type = 1)
    (h : DataW.Trod enc P w 0 (fun _ => true) held t v d p) :
    ∃ os : List WOp, RdN 7 w v (os.map WOp.cells) ∧ os.length ≤ maxLen ∧ ∀ o ∈ os, o.Ok w := by
  obtain ⟨a1, len, cap, rfl⟩ := okWide_slice ht hv
  obtain ⟨fuel, hfu⟩ := h
  obtain ⟨css, h1, h2, h3⟩ := open_rows ht hCe (by decide) (by simpa [Value.cells] using hfu)
  subst hfs hgs
  have hall : ∃ os : List WOp, css = os.map WOp.cells ∧ ∀ o ∈ os, o.Ok w := by
    clear h1 h2
    induction css with
    | nil => exact ⟨[], rfl, fun o ho => by cases ho⟩
    | cons cs css ih =>
      obtain ⟨os, h4, h5⟩ := ih (fun c hc => h3 c (List.mem_cons_of_mem _ hc))
      obtain ⟨hl, n, y, hy⟩ := h3 cs (List.mem_cons_self ..)
      match cs, hl with
      | [x0, x1, x2, x3, x4, x5, x6], _ =>
        obtain ⟨xs, m, _, _, _, hxl, hi⟩ := DataW.trod_struct he hy
        match xs, hxl with
        | [y0, y1, y2, y3], _ =>
          have g0' := hi 0 f0 rfl
          have g1' := hi 1 f1 rfl
          have g2' := hi 2 f2 rfl
          have g3' := hi 3 f3 rfl
          rw [o0, c0] at g0'
          rw [o1, c1] at g1'
          rw [o2, c2] at g2'
          rw [o3, c3] at g3'
          simp at g0' g1' g2' g3'
          obtain ⟨n0, e0, _, w0⟩ := DataW.trod_int u0 g0'
          obtain ⟨n1, e1, _, w1⟩ := DataW.trod_int u1 g1'
          obtain ⟨zs, r2, l2⟩ := open_u8s_at u2 uf cf g2'
          obtain ⟨ws, m2, _, _, _, hwl, hj⟩ := DataW.trod_struct u3 g3'
          match ws, hwl with
          | [z0, z1, z2, z3], _ =>
            have k0 := hj 0 g0 rfl
            have k1 := hj 1 g1 rfl
            have k2 := hj 2 g2 rfl
            have k3 := hj 3 g3 rfl
            rw [q0, d0] at k0
            rw [q1, d1] at k1
            rw [q2, d2] at k2
            rw [q3, d3] at k3
            simp at k0 k1 k2 k3
            obtain ⟨n3, e3, _, w3⟩ := DataW.trod_int v0 k0
            obtain ⟨n4, e4, _, w4⟩ := DataW.trod_int v1 k1
            obtain ⟨n5, e5, _, w5⟩ := DataW.trod_int v2 k2
            obtain ⟨us, r6, l6⟩ := open_u8s_at v3 uf cf k3
            simp at e0 e1 e3 e4 e5
            subst e0 e1 e3 e4 e5
            refine ⟨⟨n0, n1, x2, zs, n3, n4, n5, x6, us⟩ :: os, by rw [h4]; rfl, fun o ho => ?_⟩
            rcases List.mem_cons.1 ho with rfl | ho
            · exact ⟨w0, w1, r2, l2, w3, w4, w5, r6, l6⟩
            · exact h5 o ho
  obtain ⟨os, rfl, h4⟩ := hall
  rw [List.length_map] at h2
  exact ⟨os, h1, h2, h4⟩
end
end Go.Proofs.Ytneifmnlailipaa
