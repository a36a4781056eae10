/- Slices of structs of a small kind and two texts, opened: of no type of the program. -/
import Derived.Test.YtkpahkcamgmlnaaDoorOpenRows
namespace Go.Proofs.YtkpahkcamgmlnaaDoor
open Go.RowKit Go.ChangeShapes Go.WideShapes Go.ChangeAt

structure SOp where
  kind : Int
  name : ByteArray
  value : ByteArray
def SOp.cells (o : SOp) : List Value := [.int .u8 o.kind, .string o.name, .string o.value]
structure SOp.Ok (o : SOp) : Prop where
  kind : (Lit.int .u8 o.kind).wf = true
  name : o.name.size ≤ maxLen
  value : o.value.size ≤ maxLen

section
variable {P : Program} {H : Type} {enc : TypeId × Value → H} {w : World} {held : Bool} {t e : TypeId} {v : Value} {b0 : Nat}
/-- Such structs, in a slice. -/
theorem open_sops {d : DataW H} {p : List MemPlace} {fs : Array Field} {f0 f1 f2 : Field} (hv : Value.okWide P w .any b0 t v) (ht : P.underlying t = some (.slice e)) (he : P.underlying e = some (.struct fs)) (hCe : P.cellsOf e = 3)
    (hfs : fs = #[f0, f1, f2]) (o0 : f0.offset = 0) (o1 : f1.offset = 1) (o2 : f2.offset = 2)
    (u0 : P.underlying f0.type = some (.int .u8)) (u1 : P.underlying f1.type = some .string) (u2 : P.underlying f2.type = some .string)
    (c0 : P.cellsOf f0.type = 1) (c1 : P.cellsOf f1.type = 1) (c2 : P.cellsOf f2.type = 1)
    (h : DataW.Trod enc P w 0 (fun _ => true) held t v d p) :
    ∃ os : List SOp, RdN 3 w v (os.map SOp.cells) ∧ os.length ≤ maxLen ∧ ∀ o ∈ os, o.Ok := by
  obtain ⟨a1, len, cap, rfl⟩ := okWide_slice ht hv
  obtain ⟨fuel, hfu⟩ := h
  obtain ⟨css, h1, h2, h3⟩ := open_rows ht hCe (by decide) (by simpa [Value.cells] using hfu)
  subst hfs
  have hall : ∃ os : List SOp, css = os.map SOp.cells ∧ ∀ o ∈ os, o.Ok := by
    clear h1 h2
    induction css with
    | nil => exact ⟨[], rfl, fun o ho => by cases ho⟩
    | cons cs css ih =>
      obtain ⟨os, h4, h5⟩ := ih (fun c hc => h3 c (List.mem_cons_of_mem _ hc))
      obtain ⟨hl, n, y, hy⟩ := h3 cs (List.mem_cons_self ..)
      match cs, hl with
      | [x0, x1, x2], _ =>
        obtain ⟨xs, m, _, _, _, hxl, hi⟩ := DataW.trod_struct he hy
        match xs, hxl with
        | [y0, y1, y2], _ =>
          have g0 := hi 0 f0 rfl
          have g1 := hi 1 f1 rfl
          have g2 := hi 2 f2 rfl
          rw [o0, c0] at g0
          rw [o1, c1] at g1
          rw [o2, c2] at g2
          simp at g0 g1 g2
          obtain ⟨n0, e0, _, w0⟩ := DataW.trod_int u0 g0
          obtain ⟨n1, e1, _, w1⟩ := DataW.trod_string u1 g1
          obtain ⟨n2, e2, _, w2⟩ := DataW.trod_string u2 g2
          simp at e0 e1 e2
          subst e0 e1 e2
          refine ⟨⟨n0, n1, n2⟩ :: os, by rw [h4]; rfl, fun o ho => ?_⟩
          rcases List.mem_cons.1 ho with rfl | ho
          · exact ⟨w0, w1, w2⟩
          · exact h5 o ho
  obtain ⟨os, rfl, h4⟩ := hall
  rw [List.length_map] at h2
  exact ⟨os, h1, h2, h4⟩
end
end Go.Proofs.YtkpahkcamgmlnaaDoor
