/- A struct of a text and a number among a law's arguments, opened. -/
import Derived.Test.YtniinebgmkginaaDoorRd
import Derived.Lib.SmallJoins
import Derived.Carry
import Derived.OpenShut
namespace Go.Proofs.YtniinebgmkginaaDoor
open Go.ChangeShapes Go.WideShapes Go.ChangeAt Go.RowKit Go.Lib
open Go.Joins Go.Deep

theorem open_case {H : Type} {enc : TypeId × Value → H} {P : Program} {w : World} {base b0 : Nat} {sp : Nat → Bool} {held : Bool} {t : TypeId} {f0 f1 : Field} {v : Value} {d : DataW H} {ps : List MemPlace}
    (hs : P.underlying t = some (.struct #[f0, f1])) (hone : oneCellFields P #[f0, f1] = true) (hC : P.cellsOf t = 2) (h0 : P.underlying f0.type = some .string) (h1 : P.underlying f1.type = some (.int .i64))
    (hv : Value.okWide P w .any b0 t v) (h : DataW.Trod enc P w base sp held t v d ps) :
    ∃ (s : ByteArray) (x : Int), v = .agg #[.string s, .int .i64 x] ∧ d = .agg [.lit (.string s.data.toList), .lit (.int .i64 x)] ∧ ps = [] ∧ s.size ≤ maxLen ∧ (Lit.int .i64 x).wf = true := by
  obtain ⟨v0, v1, y0, y1, n, rfl, rfl, rfl, k0, k1⟩ := open_agg2 hs hone hC hv h
  obtain ⟨s, e0, hx0, hsz⟩ := DataW.trod_string h0 k0
  obtain ⟨x, e1, hx1, hw⟩ := DataW.trod_int h1 k1
  simp only [List.cons.injEq, and_true] at e0 e1
  subst e0 e1
  refine ⟨s, x, rfl, ?_, ?_, hsz, hw⟩
  · rw [hx0, hx1]
  · rw [hx0, hx1]; rfl
end Go.Proofs.YtniinebgmkginaaDoor
