/- A row that the call owns, as one list with what is behind it; a cell of it stored. -/
import Derived.Test.YtkpahkcamgmlnaaDoorRdMake
import Derived.Test.YtkpahkcamgmlnaaDoorOwnSet
namespace Go.Proofs.YtkpahkcamgmlnaaDoor
open Go.RowKit

theorem own_open {w : World} {B n : Nat} {e : TypeId} {v : Value} {vs : List Value} (h : w.ownsRow B e 1 v n vs) (hn : 0 < n) :
    ∃ g cap rest, v = .slice (some ⟨g, 0, none⟩) n cap ∧ B ≤ g ∧ n ≤ cap ∧ cap ≤ maxLen ∧ w.heap[g]? = some (.cells (vs ++ rest).toArray e (0, 0)) ∧ (vs ++ rest).length = cap := by
  have hl := h.1
  rcases h.2 with ⟨rfl, rfl⟩ | ⟨g, cap, cur, rfl, h1, hg, h2, h3, h4, h5⟩
  · cases hn
  · have e : vs ++ cur.toList.drop n = cur.toList := by rw [← h5, Nat.mul_one, List.take_append_drop]
    refine ⟨g, cap, cur.toList.drop n, rfl, h1, h2, h3, by rw [e]; exact hg, by rw [e, Array.length_toList, h4, Nat.mul_one]⟩
theorem own_shut {w : World} {B n g cap : Nat} {e : TypeId} {vs rest : List Value} (h1 : B ≤ g) (h2 : n ≤ cap) (h3 : cap ≤ maxLen) (hg : w.heap[g]? = some (.cells (vs ++ rest).toArray e (0, 0))) (h4 : (vs ++ rest).length = cap) (hn : vs.length = n) :
    w.ownsRow B e 1 (.slice (some ⟨g, 0, none⟩) n cap) n vs :=
  ⟨by rw [hn, Nat.mul_one], .inr ⟨g, cap, _, rfl, h1, hg, h2, h3, by rw [List.size_toArray, h4, Nat.mul_one], by rw [Nat.mul_one, ← hn]; simp⟩⟩
theorem rowF_set_rest {n q : Nat} {f g : Nat → UInt8} {rest : List Value} (hq : q < n) (h : ∀ k, k ≠ q → f k = g k) {u : Value} (hu : u = bv (g q)) : (rowF n f ++ rest).toArray.setIfInBounds q u = (rowF n g ++ rest).toArray := by
  have := congrArg Array.toList (rowF_set hq h hu)
  rw [List.setIfInBounds_toArray] at this ⊢
  rw [List.set_append_left _ _ (by rw [rowF_len]; exact hq)]
  simp only at this
  rw [this]
theorem rowF_at_rest {n : Nat} {f : Nat → UInt8} {rest : List Value} {j : Nat} (h : j < n) : (rowF n f ++ rest).toArray[j]? = some (bv (f j)) := by
  rw [List.getElem?_toArray, List.getElem?_append_left (by rw [rowF_len]; exact h)]
  have := rowF_at (f := f) h
  simpa using this
end Go.Proofs.YtkpahkcamgmlnaaDoor
