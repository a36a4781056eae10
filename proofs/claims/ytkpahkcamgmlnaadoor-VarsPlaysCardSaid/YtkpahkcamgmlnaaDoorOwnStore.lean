/- A cell of an own row stored, of no type. -/
import Derived.Test.YtkpahkcamgmlnaaDoorOwnRow
namespace Go.Proofs.YtkpahkcamgmlnaaDoor
open Go.RowKit

theorem own_store {w : World} {B n g cap k : Nat} {e : TypeId} {vs : List Value} (h : w.ownsRow B e 1 (.slice (some ⟨g, 0, none⟩) n cap) n vs) (hk : k < n) (u : Value) :
    w.frozen? ⟨g, k, none⟩ = false ∧ (∃ u0, w.cell? ⟨g, k, none⟩ = some u0) ∧ (w.setCell ⟨g, k, none⟩ u).ownsRow B e 1 (.slice (some ⟨g, 0, none⟩) n cap) n (vs.set k u) ∧ B ≤ g ∧ g < w.heap.size := by
  have hlen := h.1
  rw [Nat.mul_one] at hlen
  obtain ⟨g', cap', rest, e1, hb, hn, hc, hg, hl⟩ := own_open h (by omega)
  simp only [Value.slice.injEq, Option.some.injEq, Addr.mk.injEq, true_and, and_true] at e1
  obtain ⟨rfl, rfl⟩ := e1
  refine ⟨frozen_of_row _ _ _ _ _ hg, ⟨(vs ++ rest)[k]'(by rw [hl]; omega), (cell_of_row _ _ k _ _ _ hg).trans (by rw [List.getElem?_toArray, List.getElem?_eq_getElem])⟩, own_shut (rest := rest) hb hn hc ?_ ?_ ?_, hb, (Array.getElem?_eq_some_iff.1 hg).1⟩
  · refine (setCell_row hg).trans ?_
    rw [List.setIfInBounds_toArray, List.set_append_left _ _ (by omega)]
  · rw [List.length_append, List.length_set, ← List.length_append]; exact hl
  · rw [List.length_set]; exact hlen
end Go.Proofs.YtkpahkcamgmlnaaDoor
