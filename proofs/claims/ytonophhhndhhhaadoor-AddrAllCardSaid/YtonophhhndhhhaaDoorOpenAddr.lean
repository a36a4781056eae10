/- Four numbers in an array, and a struct of such an array and a number, among a law's arguments, opened. -/
import Derived.Test.YtonophhhndhhhaaDoorFrame
import Derived.Lib.SmallJoins
import Derived.Carry
import Derived.OpenShut
namespace Go.Proofs.YtonophhhndhhhaaDoor
open Go.ChangeShapes Go.WideShapes Go.ChangeAt Go.RowKit Go.Lib
open Go.Joins Go.Deep

section
variable {H : Type} {enc : TypeId × Value → H} {P : Program} {w : World} {b0 b1 : Nat} {sp : Nat → Bool} {held : Bool} {t e : TypeId} {k : IntKind} {v : Value} {d : DataW H} {p : List MemPlace}
/-- Four numbers out of their cells. -/
theorem four_cells {c0 c1 c2 c3 : Value} {n : Nat} {y : DataW H × List MemPlace} (ht : P.underlying t = some (.array 4 e)) (he : P.underlying e = some (.int k)) (hCe : P.cellsOf e = 1)
    (hf : DataW.trod enc P w b1 sp held n t [c0, c1, c2, c3] = some y) :
    ∃ x0 x1 x2 x3, c0 = .int k x0 ∧ c1 = .int k x1 ∧ c2 = .int k x2 ∧ c3 = .int k x3 ∧ y = (.agg [.lit (.int k x0), .lit (.int k x1), .lit (.int k x2), .lit (.int k x3)], []) ∧ (Lit.int k x0).wf = true ∧ (Lit.int k x1).wf = true ∧ (Lit.int k x2).wf = true ∧ (Lit.int k x3).wf = true := by
  obtain ⟨ys, m, _, hx, _, hl, hi⟩ := DataW.trod_array ht hf
  match ys, hl with
  | [y0, y1, y2, y3], _ =>
    have h0 := hi 0 (by decide)
    have h1 := hi 1 (by decide)
    have h2 := hi 2 (by decide)
    have h3 := hi 3 (by decide)
    simp [hCe] at h0 h1 h2 h3
    obtain ⟨x0, e0, rfl, w0⟩ := DataW.trod_int he h0
    obtain ⟨x1, e1, rfl, w1⟩ := DataW.trod_int he h1
    obtain ⟨x2, e2, rfl, w2⟩ := DataW.trod_int he h2
    obtain ⟨x3, e3, rfl, w3⟩ := DataW.trod_int he h3
    simp at e0 e1 e2 e3
    subst e0 e1 e2 e3
    simp at hx
    exact ⟨x0, x1, x2, x3, rfl, rfl, rfl, rfl, hx, w0, w1, w2, w3⟩

theorem open_arr4 (ht : P.underlying t = some (.array 4 e)) (he : P.underlying e = some (.int k)) (hC : P.cellsOf t = 4) (hCe : P.cellsOf e = 1)
    (hv : Value.okWide P w .any b0 t v) (h : DataW.Trod enc P w b1 sp held t v d p) :
    ∃ x0 x1 x2 x3, v = .agg #[.int k x0, .int k x1, .int k x2, .int k x3] ∧ d = .agg [.lit (.int k x0), .lit (.int k x1), .lit (.int k x2), .lit (.int k x3)] ∧ p = [] ∧ (Lit.int k x0).wf = true ∧ (Lit.int k x1).wf = true ∧ (Lit.int k x2).wf = true ∧ (Lit.int k x3).wf = true := by
  obtain ⟨cs, rfl, hsz⟩ := okWide_array ht hv
  rw [hC] at hsz
  obtain ⟨l⟩ := cs
  match l, hsz with
  | [c0, c1, c2, c3], _ =>
    obtain ⟨fuel, hf⟩ := h
    obtain ⟨x0, x1, x2, x3, rfl, rfl, rfl, rfl, hy, w0, w1, w2, w3⟩ := four_cells ht he hCe (by simpa [Value.cells] using hf)
    simp only [Prod.mk.injEq] at hy
    exact ⟨x0, x1, x2, x3, rfl, hy.1, hy.2, w0, w1, w2, w3⟩
theorem shut_arr4 {x0 x1 x2 x3 : Int} (ht : P.underlying t = some (.array 4 e)) (he : P.underlying e = some (.int k)) (hC : P.cellsOf t = 4) (hCe : P.cellsOf e = 1) (w0 : (Lit.int k x0).wf = true) (w1 : (Lit.int k x1).wf = true) (w2 : (Lit.int k x2).wf = true) (w3 : (Lit.int k x3).wf = true) :
    DataW.Trod enc P w b1 sp held t (.agg #[.int k x0, .int k x1, .int k x2, .int k x3]) (.agg [.lit (.int k x0), .lit (.int k x1), .lit (.int k x2), .lit (.int k x3)]) [] :=
  ⟨2, by simp [DataW.trod, Value.cells, ht, he, hC, hCe, w0, w1, w2, w3, List.range, List.range.loop]⟩

theorem open_addr {f0 f1 : Field} (hs : P.underlying t = some (.struct #[f0, f1])) (o0 : f0.offset = 0) (o1 : f1.offset = 4) (hC : P.cellsOf t = 5) (h0 : P.underlying f0.type = some (.array 4 e)) (C0 : P.cellsOf f0.type = 4)
    (he : P.underlying e = some (.int .i64)) (hCe : P.cellsOf e = 1) (h1 : P.underlying f1.type = some (.int .i64)) (C1 : P.cellsOf f1.type = 1)
    (hv : Value.okWide P w .any b0 t v) (h : DataW.Trod enc P w b1 sp held t v d p) :
    ∃ x0 x1 x2 x3 x4 : Int, v = .agg #[.int .i64 x0, .int .i64 x1, .int .i64 x2, .int .i64 x3, .int .i64 x4] ∧ d = .agg [.agg [.lit (.int .i64 x0), .lit (.int .i64 x1), .lit (.int .i64 x2), .lit (.int .i64 x3)], .lit (.int .i64 x4)] ∧ p = [] ∧
      (Lit.int .i64 x0).wf = true ∧ (Lit.int .i64 x1).wf = true ∧ (Lit.int .i64 x2).wf = true ∧ (Lit.int .i64 x3).wf = true ∧ (Lit.int .i64 x4).wf = true := by
  obtain ⟨cs, rfl, hsz⟩ := okWide_struct hs hv
  rw [hC] at hsz
  obtain ⟨l⟩ := cs
  match l, hsz with
  | [c0, c1, c2, c3, c4], _ =>
    obtain ⟨fuel, hf⟩ := h
    obtain ⟨y0, y1, n, hx, _, k0, k1⟩ := trod_struct2 hs hf
    obtain ⟨x0, x1, x2, x3, rfl, rfl, rfl, rfl, rfl, w0, w1, w2, w3⟩ := four_cells (y := y0) h0 he hCe (by simpa [Value.cells, o0, C0] using k0)
    obtain ⟨x4, e4, rfl, w4⟩ := DataW.trod_int h1 (by simpa [Value.cells, o1, C1] using k1)
    simp at e4
    subst e4
    simp only [Prod.mk.injEq] at hx
    exact ⟨x0, x1, x2, x3, x4, rfl, hx.1, hx.2, w0, w1, w2, w3, w4⟩
end
end Go.Proofs.YtonophhhndhhhaaDoor
