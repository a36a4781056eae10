/- Slices of structs of a small kind, one who waits, and a text, opened: of no type of the program. -/
import Derived.Test.YtimieknphedniaaOpenRows
import Derived.Test.YtimieknphedniaaPipeO
namespace Go.Proofs.Ytimieknphedniaa
open Go.RowKit Go.ChangeShapes Go.WideShapes Go.ChangeAt

structure POp where
  kind : Int
  x : Wt
  code : ByteArray
def POp.cells (o : POp) : List Value := [.int .u8 o.kind, .string o.x.text, .string o.x.codes, .bool o.x.body, .int .i64 o.x.due, .string o.code]
structure POp.Ok (o : POp) : Prop where
  kind : (Lit.int .u8 o.kind).wf = true
  text : o.x.text.size ≤ maxLen
  codes : o.x.codes.size ≤ maxLen
  due : (Lit.int .i64 o.x.due).wf = true
  code : o.code.size ≤ maxLen

section
variable {P : Program} {H : Type} {enc : TypeId × Value → H} {w : World} {held : Bool} {t e : TypeId} {v : Value} {b0 : Nat}
/-- Such structs, in a slice. -/
theorem open_pops {d : DataW H} {p : List MemPlace} {fs gs : Array Field} {f0 f1 f2 g0 g1 g2 g3 : Field} (hv : Value.okWide P w .any b0 t v) (ht : P.underlying t = some (.slice e)) (he : P.underlying e = some (.struct fs)) (hCe : P.cellsOf e = 6)
    (hfs : fs = #[f0, f1, f2]) (o0 : f0.offset = 0) (o1 : f1.offset = 1) (o2 : f2.offset = 5)
    (u0 : P.underlying f0.type = some (.int .u8)) (u1 : P.underlying f1.type = some (.struct gs)) (u2 : P.underlying f2.type = some .string)
    (hgs : gs = #[g0, g1, g2, g3]) (q0 : g0.offset = 0) (q1 : g1.offset = 1) (q2 : g2.offset = 2) (q3 : g3.offset = 3)
    (v0 : P.underlying g0.type = some .string) (v1 : P.underlying g1.type = some .string) (v2 : P.underlying g2.type = some .bool) (v3 : P.underlying g3.type = some (.int .i64))
    (c0 : P.cellsOf f0.type = 1) (c1 : P.cellsOf f1.type = 4) (c2 : P.cellsOf f2.type = 1)
    (d0 : P.cellsOf g0.type = 1) (d1 : P.cellsOf g1.type = 1) (d2 : P.cellsOf g2.type = 1) (d3 : P.cellsOf g3.type = 1)
    (h : DataW.Trod enc P w 0 (fun _ => true) held t v d p) :
    ∃ os : List POp, RdN 6 w v (os.map POp.cells) ∧ os.length ≤ maxLen ∧ ∀ o ∈ os, o.Ok := by
  obtain ⟨a1, len, cap, rfl⟩ := okWide_slice ht hv
  obtain ⟨fuel, hfu⟩ := h
  obtain ⟨css, h1, h2, h3⟩ := open_rows ht hCe (by decide) (by simpa [Value.cells] using hfu)
  subst hfs hgs
  have hall : ∃ os : List POp, css = os.map POp.cells ∧ ∀ o ∈ os, o.Ok := by
    clear h1 h2
    induction css with
    | nil => exact ⟨[], rfl, fun o ho => by cases ho⟩
    | cons cs css ih =>
      obtain ⟨os, h4, h5⟩ := ih (fun c hc => h3 c (List.mem_cons_of_mem _ hc))
      obtain ⟨hl, n, y, hy⟩ := h3 cs (List.mem_cons_self ..)
      match cs, hl with
      | [x0, x1, x2, x3, x4, x5], _ =>
        obtain ⟨xs, m, _, _, _, hxl, hi⟩ := DataW.trod_struct he hy
        match xs, hxl with
        | [y0, y1, y2], _ =>
          have g0' := hi 0 f0 rfl
          have g1' := hi 1 f1 rfl
          have g2' := hi 2 f2 rfl
          rw [o0, c0] at g0'
          rw [o1, c1] at g1'
          rw [o2, c2] at g2'
          simp at g0' g1' g2'
          obtain ⟨n0, e0, _, w0⟩ := DataW.trod_int u0 g0'
          obtain ⟨n5, e5, _, w5⟩ := DataW.trod_string u2 g2'
          obtain ⟨ws, m2, _, _, _, hwl, hj⟩ := DataW.trod_struct u1 g1'
          match ws, hwl with
          | [z0, z1, z2, z3], _ =>
            have k0 := hj 0 g0 rfl
            have k1 := hj 1 g1 rfl
            have k2 := hj 2 g2 rfl
            have k3 := hj 3 g3 rfl
            rw [q0, d0] at k0
            rw [q1, d1] at k1
            rw [q2, d2] at k2
            rw [q3, d3] at k3
            simp at k0 k1 k2 k3
            obtain ⟨n1, e1, _, w1⟩ := DataW.trod_string v0 k0
            obtain ⟨n2, e2, _, w2⟩ := DataW.trod_string v1 k1
            obtain ⟨n3, e3, _⟩ := DataW.trod_bool v2 k2
            obtain ⟨n4, e4, _, w4⟩ := DataW.trod_int v3 k3
            simp at e0 e1 e2 e3 e4 e5
            subst e0 e1 e2 e3 e4 e5
            refine ⟨⟨n0, ⟨n1, n2, n3, n4⟩, n5⟩ :: os, by rw [h4]; rfl, fun o ho => ?_⟩
            rcases List.mem_cons.1 ho with rfl | ho
            · exact ⟨w0, w1, w2, w4, w5⟩
            · exact h5 o ho
  obtain ⟨os, rfl, h4⟩ := hall
  rw [List.length_map] at h2
  exact ⟨os, h1, h2, h4⟩
end
end Go.Proofs.Ytimieknphedniaa
