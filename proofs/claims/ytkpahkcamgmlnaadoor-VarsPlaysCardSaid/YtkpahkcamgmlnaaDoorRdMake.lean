/- 'make([]byte, n)', and rows given by a function. -/
import Derived.Test.YtkpahkcamgmlnaaDoorRdB
import Derived.Test.YtkpahkcamgmlnaaDoorRdCut
import Derived.Laws.OwnMore
namespace Go.Proofs.YtkpahkcamgmlnaaDoor
open Go.RowKit

theorem made_zero (n : Nat) : madeCells (Value.int .u8 0).cells n = (List.replicate n (Value.int .u8 0)).toArray := by
  apply Array.ext
  · simp [size_madeCells]
  · intro i h1 h2
    simp [madeCells, Value.cells]
    rw [Nat.mod_one]
    rfl

/-- 'make([]byte, n)'. -/
theorem make_u8n (w : World) (n : Nat) (hn : n ≤ 16777216) : ∃ w', (Instr.makeSlice 61 (.int .i64 (n : Int)) (.int .i64 (n : Int))).run Tryd.prog w = .ok (.slice (some ⟨w.heap.size, 0, Option.none⟩) n n) w' ∧
    w'.heap[w.heap.size]? = some (.cells (List.replicate n (Value.int .u8 0)).toArray 5) ∧ Below w.heap.size w w' := by
  obtain ⟨i0, hi, hz0, hz1, hz2⟩ := info_parts info_u8
  obtain ⟨w', h1, h2, h3⟩ := run_makeSlice_full (P := Tryd.prog) w w.heap.size 61 5 i0 (.int .u8 0) 1 Tryd.underlying61 hi hz0 hz1 .i64 .i64 n (by omega) (by rw [hz2]; omega) (by unfold maxLen; omega) (Nat.le_refl _)
  refine ⟨w', h1, ?_, (Below.refl _ _).grown h3 (Nat.le_refl _) (fun k hk => by cases hk)⟩
  rw [Nat.mul_one, made_zero] at h2
  rcases h2.2 with ⟨e, _⟩ | ⟨g, cap, cur, hv, hg, hc, h4, h5, h6, h7⟩
  · cases e
  · simp only [Value.slice.injEq, Option.some.injEq, Addr.mk.injEq, and_true, true_and] at hv
    obtain ⟨rfl, rfl⟩ := hv
    rw [hc]
    have : cur.toList = List.replicate n (Value.int .u8 0) := by
      have e : cur.toList.take (n * 1) = cur.toList := List.take_of_length_le (by simp; omega)
      rw [e] at h7
      rw [h7]
    rw [← this]

/-- A row of bytes given by a function. -/
def rowF (n : Nat) (f : Nat → UInt8) : List Value := (List.range n).map fun j => bv (f j)
theorem rowF_len (n : Nat) (f : Nat → UInt8) : (rowF n f).length = n := by simp [rowF]
theorem rowF_at {n : Nat} {f : Nat → UInt8} {j : Nat} (h : j < n) : (rowF n f).toArray[j]? = some (bv (f j)) := by simp [rowF, h]
theorem rowF_set {n q : Nat} {f g : Nat → UInt8} (hq : q < n) (h : ∀ k, k ≠ q → f k = g k) {u : Value} (hu : u = bv (g q)) : (rowF n f).toArray.setIfInBounds q u = (rowF n g).toArray := by
  subst hu
  unfold rowF
  rw [List.setIfInBounds_toArray]
  congr 1
  apply List.ext_getElem?
  intro j
  rw [List.getElem?_set, List.getElem?_map, List.getElem?_map]
  by_cases hj : q = j
  · subst hj
    rw [if_pos rfl, if_pos (by simpa using hq), List.getElem?_range hq]
    rfl
  · rw [if_neg hj]
    cases hr : (List.range n)[j]? with
    | none => rfl
    | some m =>
      have : m = j := by
        obtain ⟨h1, h2⟩ := List.getElem?_eq_some_iff.1 hr
        rw [← h2, List.getElem_range]
      subst this
      simp only [Option.map_some]
      rw [h m (fun e => hj e.symm)]
/-- Of a list of values: it is such a row. -/
theorem rowF_ext {n : Nat} {f : Nat → UInt8} {l : List Value} (hl : l.length = n) (h : ∀ j, j < n → l[j]? = some (bv (f j))) : l = rowF n f := by
  apply List.ext_getElem?
  intro j
  by_cases hj : j < n
  · rw [h j hj]; simp [rowF, hj]
  · rw [List.getElem?_eq_none (by omega), List.getElem?_eq_none (by rw [rowF_len]; omega)]
theorem rowF_rd {w : World} {b n : Nat} {f : Nat → UInt8} {t : TypeId} {fr : Nat × Nat} {l : List UInt8} (h : w.heap[b]? = some (.cells (rowF n f).toArray t fr)) (hn : n ≤ 16777216) (hl : l = (List.range n).map f) : Rd w (.slice (some ⟨b, 0, none⟩) n n) (l.map bv) := by
  subst hl
  refine .inr ⟨b, 0, n, by simp, by simp, by unfold maxLen; omega, fun j u hj => ?_⟩
  rw [cell_of_row _ _ _ _ _ _ h, Nat.zero_add, ← hj, List.map_map]
  simp only [rowF, List.getElem?_toArray]
  rfl

end Go.Proofs.YtkpahkcamgmlnaaDoor
