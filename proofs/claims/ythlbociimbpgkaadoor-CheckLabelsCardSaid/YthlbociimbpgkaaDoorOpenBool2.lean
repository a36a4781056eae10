/- Two bools (an array of two) among a law's arguments, opened. -/
import Derived.Test.YthlbociimbpgkaaDoorPJ
namespace Go.Proofs.YthlbociimbpgkaaDoor
open Go.ChangeShapes Go.WideShapes Go.ChangeAt Go.RowKit

theorem open_bool2 {H : Type} {enc : TypeId × Value → H} {P : Program} {w : World} {b0 b1 : Nat} {sp : Nat → Bool} {held : Bool} {t e : TypeId} {v : Value} {d : DataW H} {p : List MemPlace}
    (ht : P.underlying t = some (.array 2 e)) (he : P.underlying e = some .bool) (hC : P.cellsOf t = 2) (hCe : P.cellsOf e = 1)
    (hv : Value.okWide P w .any b0 t v) (h : DataW.Trod enc P w b1 sp held t v d p) :
    ∃ x0 x1 : Bool, v = .agg #[.bool x0, .bool x1] := by
  obtain ⟨cs, rfl, hsz⟩ := okWide_array ht hv
  rw [hC] at hsz
  obtain ⟨l⟩ := cs
  match l, hsz with
  | [c0, c1], _ =>
    obtain ⟨fuel, hf⟩ := h
    obtain ⟨ys, m, _, hx, _, hl, hi⟩ := DataW.trod_array ht hf
    match ys, hl with
    | [y0, y1], _ =>
      have h0 := hi 0 (by decide)
      have h1 := hi 1 (by decide)
      simp [hCe, Value.cells] at h0 h1
      obtain ⟨s0, e0, _⟩ := DataW.trod_bool he h0
      obtain ⟨s1, e1, _⟩ := DataW.trod_bool he h1
      simp at e0 e1
      subst e0 e1
      exact ⟨s0, s1, rfl⟩
end Go.Proofs.YthlbociimbpgkaaDoor
