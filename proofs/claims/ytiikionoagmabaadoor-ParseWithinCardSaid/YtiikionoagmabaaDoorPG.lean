/- The texts RdMake, OwnRow, OwnStore, one behind the other. -/
import Derived.Test.YtiikionoagmabaaDoorPJ
import Derived.Laws.OwnMore
import Derived.Test.YtiikionoagmabaaDoorOwnSet
/- 'make([]byte, n)', and rows given by a function. -/
namespace Go.Proofs.YtiikionoagmabaaDoor
open Go.RowKit

theorem made_zero (n : Nat) : madeCells (Value.int .u8 0).cells n = (List.replicate n (Value.int .u8 0)).toArray := by
  apply Array.ext
  · simp [size_madeCells]
  · intro i h1 h2
    simp [madeCells, Value.cells]
    rw [Nat.mod_one]
    rfl

/-- 'make([]byte, n)'. -/
theorem make_u8n (w : World) (n : Nat) (hn : n ≤ 16777216) : ∃ w', (Instr.makeSlice 98 (.int .i64 (n : Int)) (.int .i64 (n : Int))).run Tryd.prog w = .ok (.slice (some ⟨w.heap.size, 0, Option.none⟩) n n) w' ∧
    w'.heap[w.heap.size]? = some (.cells (List.replicate n (Value.int .u8 0)).toArray 5) ∧ Below w.heap.size w w' := by
  obtain ⟨i0, hi, hz0, hz1, hz2⟩ := info_parts info_u8
  obtain ⟨w', h1, h2, h3⟩ := run_makeSlice_full (P := Tryd.prog) w w.heap.size 98 5 i0 (.int .u8 0) 1 Tryd.underlying98 hi hz0 hz1 .i64 .i64 n (by omega) (by rw [hz2]; omega) (by unfold maxLen; omega) (Nat.le_refl _)
  refine ⟨w', h1, ?_, (Below.refl _ _).grown h3 (Nat.le_refl _) (fun k hk => by cases hk)⟩
  rw [Nat.mul_one, made_zero] at h2
  rcases h2.2 with ⟨e, _⟩ | ⟨g, cap, cur, hv, hg, hc, h4, h5, h6, h7⟩
  · cases e
  · simp only [Value.slice.injEq, Option.some.injEq, Addr.mk.injEq, and_true, true_and] at hv
    obtain ⟨rfl, rfl⟩ := hv
    rw [hc]
    have : cur.toList = List.replicate n (Value.int .u8 0) := by
      have e : cur.toList.take (n * 1) = cur.toList := List.take_of_length_le (by simp; omega)
      rw [e] at h7
      rw [h7]
    rw [← this]

/-- A row of bytes given by a function. -/
def rowF (n : Nat) (f : Nat → UInt8) : List Value := (List.range n).map fun j => bv (f j)
theorem rowF_len (n : Nat) (f : Nat → UInt8) : (rowF n f).length = n := by simp [rowF]
theorem rowF_at {n : Nat} {f : Nat → UInt8} {j : Nat} (h : j < n) : (rowF n f).toArray[j]? = some (bv (f j)) := by simp [rowF, h]
theorem rowF_set {n q : Nat} {f g : Nat → UInt8} (hq : q < n) (h : ∀ k, k ≠ q → f k = g k) {u : Value} (hu : u = bv (g q)) : (rowF n f).toArray.setIfInBounds q u = (rowF n g).toArray := by
  subst hu
  unfold rowF
  rw [List.setIfInBounds_toArray]
  congr 1
  apply List.ext_getElem?
  intro j
  rw [List.getElem?_set, List.getElem?_map, List.getElem?_map]
  by_cases hj : q = j
  · subst hj
    rw [if_pos rfl, if_pos (by simpa using hq), List.getElem?_range hq]
    rfl
  · rw [if_neg hj]
    cases hr : (List.range n)[j]? with
    | none => rfl
    | some m =>
      have : m = j := by
        obtain ⟨h1, h2⟩ := List.getElem?_eq_some_iff.1 hr
        rw [← h2, List.getElem_range]
      subst this
      simp only [Option.map_some]
      rw [h m (fun e => hj e.symm)]
/-- Of a list of values: it is such a row. -/
theorem rowF_ext {n : Nat} {f : Nat → UInt8} {l : List Value} (hl : l.length = n) (h : ∀ j, j < n → l[j]? = some (bv (f j))) : l = rowF n f := by
  apply List.ext_getElem?
  intro j
  by_cases hj : j < n
  · rw [h j hj]; simp [rowF, hj]
  · rw [List.getElem?_eq_none (by omega), List.getElem?_eq_none (by rw [rowF_len]; omega)]
theorem rowF_rd {w : World} {b n : Nat} {f : Nat → UInt8} {t : TypeId} {fr : Nat × Nat} {l : List UInt8} (h : w.heap[b]? = some (.cells (rowF n f).toArray t fr)) (hn : n ≤ 16777216) (hl : l = (List.range n).map f) : Rd w (.slice (some ⟨b, 0, none⟩) n n) (l.map bv) := by
  subst hl
  refine .inr ⟨b, 0, n, by simp, by simp, by unfold maxLen; omega, fun j u hj => ?_⟩
  rw [cell_of_row _ _ _ _ _ _ h, Nat.zero_add, ← hj, List.map_map]
  simp only [rowF, List.getElem?_toArray]
  rfl

end Go.Proofs.YtiikionoagmabaaDoor

/- A row that the call owns, as one list with what is behind it; a cell of it stored. -/
namespace Go.Proofs.YtiikionoagmabaaDoor
open Go.RowKit

theorem own_open {w : World} {B n : Nat} {e : TypeId} {v : Value} {vs : List Value} (h : w.ownsRow B e 1 v n vs) (hn : 0 < n) :
    ∃ g cap rest, v = .slice (some ⟨g, 0, none⟩) n cap ∧ B ≤ g ∧ n ≤ cap ∧ cap ≤ maxLen ∧ w.heap[g]? = some (.cells (vs ++ rest).toArray e (0, 0)) ∧ (vs ++ rest).length = cap := by
  have hl := h.1
  rcases h.2 with ⟨rfl, rfl⟩ | ⟨g, cap, cur, rfl, h1, hg, h2, h3, h4, h5⟩
  · cases hn
  · have e : vs ++ cur.toList.drop n = cur.toList := by rw [← h5, Nat.mul_one, List.take_append_drop]
    refine ⟨g, cap, cur.toList.drop n, rfl, h1, h2, h3, by rw [e]; exact hg, by rw [e, Array.length_toList, h4, Nat.mul_one]⟩
theorem own_shut {w : World} {B n g cap : Nat} {e : TypeId} {vs rest : List Value} (h1 : B ≤ g) (h2 : n ≤ cap) (h3 : cap ≤ maxLen) (hg : w.heap[g]? = some (.cells (vs ++ rest).toArray e (0, 0))) (h4 : (vs ++ rest).length = cap) (hn : vs.length = n) :
    w.ownsRow B e 1 (.slice (some ⟨g, 0, none⟩) n cap) n vs :=
  ⟨by rw [hn, Nat.mul_one], .inr ⟨g, cap, _, rfl, h1, hg, h2, h3, by rw [List.size_toArray, h4, Nat.mul_one], by rw [Nat.mul_one, ← hn]; simp⟩⟩
theorem rowF_set_rest {n q : Nat} {f g : Nat → UInt8} {rest : List Value} (hq : q < n) (h : ∀ k, k ≠ q → f k = g k) {u : Value} (hu : u = bv (g q)) : (rowF n f ++ rest).toArray.setIfInBounds q u = (rowF n g ++ rest).toArray := by
  have := congrArg Array.toList (rowF_set hq h hu)
  rw [List.setIfInBounds_toArray] at this ⊢
  rw [List.set_append_left _ _ (by rw [rowF_len]; exact hq)]
  simp only at this
  rw [this]
theorem rowF_at_rest {n : Nat} {f : Nat → UInt8} {rest : List Value} {j : Nat} (h : j < n) : (rowF n f ++ rest).toArray[j]? = some (bv (f j)) := by
  rw [List.getElem?_toArray, List.getElem?_append_left (by rw [rowF_len]; exact h)]
  have := rowF_at (f := f) h
  simpa using this
end Go.Proofs.YtiikionoagmabaaDoor

/- A cell of an own row stored, of no type. -/
namespace Go.Proofs.YtiikionoagmabaaDoor
open Go.RowKit

theorem own_store {w : World} {B n g cap k : Nat} {e : TypeId} {vs : List Value} (h : w.ownsRow B e 1 (.slice (some ⟨g, 0, none⟩) n cap) n vs) (hk : k < n) (u : Value) :
    w.frozen? ⟨g, k, none⟩ = false ∧ (∃ u0, w.cell? ⟨g, k, none⟩ = some u0) ∧ (w.setCell ⟨g, k, none⟩ u).ownsRow B e 1 (.slice (some ⟨g, 0, none⟩) n cap) n (vs.set k u) ∧ B ≤ g ∧ g < w.heap.size := by
  have hlen := h.1
  rw [Nat.mul_one] at hlen
  obtain ⟨g', cap', rest, e1, hb, hn, hc, hg, hl⟩ := own_open h (by omega)
  simp only [Value.slice.injEq, Option.some.injEq, Addr.mk.injEq, true_and, and_true] at e1
  obtain ⟨rfl, rfl⟩ := e1
  refine ⟨frozen_of_row _ _ _ _ _ hg, ⟨(vs ++ rest)[k]'(by rw [hl]; omega), (cell_of_row _ _ k _ _ _ hg).trans (by rw [List.getElem?_toArray, List.getElem?_eq_getElem])⟩, own_shut (rest := rest) hb hn hc ?_ ?_ ?_, hb, (Array.getElem?_eq_some_iff.1 hg).1⟩
  · refine (setCell_row hg).trans ?_
    rw [List.setIfInBounds_toArray, List.set_append_left _ _ (by omega)]
  · rw [List.length_append, List.length_set, ← List.length_append]; exact hl
  · rw [List.length_set]; exact hlen
end Go.Proofs.YtiikionoagmabaaDoor
