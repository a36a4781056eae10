/- strings.Split at CR LF, in plain words: the lines of a body. -/
import Derived.Test.YtomeoploojjacaaDoorCapsP
import Derived.Lib.SplitLaws
import Derived.Lib.Split
namespace Go.Proofs.YtomeoploojjacaaDoor
namespace Cp
open Go.Lib

theorem pre_crlf (c : UInt8) (r : List UInt8) : ([13, 10] : List UInt8).isPrefixOf (c :: r) = decide (c = 13 ∧ r.head? = some 10) := by
  cases r with
  | nil => simp [List.isPrefixOf]
  | cons d r =>
    simp only [List.isPrefixOf, List.head?_cons, Option.some.injEq, Bool.and_true]
    by_cases h1 : c = 13
    · subst h1
      by_cases h2 : d = 10
      · subst h2; rfl
      · have : ((10 : UInt8) == d) = false := beq_eq_false_iff_ne.2 fun e => h2 e.symm
        simp [this, h2]
    · have : ((13 : UInt8) == c) = false := beq_eq_false_iff_ne.2 fun e => h1 e.symm
      simp [this, h1]
theorem split_miss : ∀ (l cur : List UInt8), index l [13, 10] = -1 → splitGo cur l = [cur ++ l]
  | [], cur, _ => by rw [List.append_nil]; rfl
  | c :: r, cur, h => by
    rw [index, pre_crlf] at h
    by_cases hc : c = 13 ∧ r.head? = some 10
    · rw [if_pos (by simpa using hc)] at h; cases h
    · rw [if_neg (by simpa using hc)] at h
      have hr : index r [13, 10] = -1 := by
        split at h
        · rename_i h2; exact beq_iff_eq.1 h2
        · have := index_ge r [13, 10]
          omega
      rw [splitGo_step _ _ _ hc, split_miss r _ hr, List.append_assoc]
      rfl
theorem split_hit : ∀ (l cur : List UInt8) (i : Nat), index l [13, 10] = i → splitGo cur l = (cur ++ l.take i) :: splitGo [] (l.drop (i + 2))
  | [], cur, i, h => by
    rw [index, if_neg (by decide)] at h
    omega
  | c :: r, cur, i, h => by
    rw [index, pre_crlf] at h
    by_cases hc : c = 13 ∧ r.head? = some 10
    · rw [if_pos (by simpa using hc)] at h
      obtain rfl : i = 0 := by omega
      obtain ⟨rfl, h2⟩ := hc
      cases r with
      | nil => cases h2
      | cons d r =>
        obtain rfl : d = 10 := by simpa using h2
        rw [splitGo_crlf, List.take_zero, List.append_nil]
        rfl
    · rw [if_neg (by simpa using hc)] at h
      split at h
      · omega
      · rename_i h2
        have h3 : index r [13, 10] ≠ -1 := fun e => h2 (beq_iff_eq.2 e)
        have h4 := index_ge r [13, 10]
        obtain ⟨k, rfl⟩ : ∃ k, i = k + 1 := ⟨i - 1, by omega⟩
        rw [splitGo_step _ _ _ hc, split_hit r _ k (by omega), List.take_succ_cons, List.append_assoc]
        rfl
theorem splitK_lines : ∀ (n : Nat) (l : List UInt8), l.length ≤ n → splitK [13, 10] 0 (Lib.count l [13, 10]) l = linesOf l := by
  intro n
  induction n with
  | zero =>
    intro l h
    obtain rfl : l = [] := List.length_eq_zero_iff.1 (by omega)
    rfl
  | succ n ih =>
    intro l h
    rcases index_spec l [13, 10] with ⟨h1, _⟩ | ⟨i, h1, h2, h3, _⟩
    · rw [count_miss h1]
      exact (split_miss l [] h1).symm
    · have hr := occAt_room h3
      have hr : i + 2 ≤ l.length := by
        rcases hr with hr | hr
        · exact hr
        · cases hr
      rw [count_hit (by decide) h1, Nat.add_comm 1, splitK, if_neg (by rw [h1]; simp)]
      rw [linesOf, split_hit l [] i h1, List.nil_append, h1]
      show l.take (i + 0) :: splitK [13, 10] 0 (Lib.count (l.drop (i + 2)) [13, 10]) (l.drop (i + 2)) = _
      rw [ih (l.drop (i + 2)) (by rw [List.length_drop]; omega)]
      rfl
theorem splitB_lines (s : ByteArray) : (splitB ⟨#[13, 10]⟩ 0 (countB s ⟨#[13, 10]⟩) s).map (·.data.toList) = linesOf s.data.toList := by
  rw [splitB_data]
  exact splitK_lines _ s.data.toList (Nat.le_refl _)
theorem splitB_rows (s : ByteArray) : (splitB ⟨#[13, 10]⟩ 0 (countB s ⟨#[13, 10]⟩) s).map Value.string = (linesOf s.data.toList).map fun l => Value.string ⟨l.toArray⟩ := by
  rw [← splitB_lines, List.map_map]
  rfl
theorem countB_lines (s : ByteArray) : countB s ⟨#[13, 10]⟩ + 1 = (linesOf s.data.toList).length := by
  rw [← splitB_lines, List.length_map, splitB_all ⟨#[13, 10]⟩ (by decide) 0 _ s rfl]
end Cp
end Go.Proofs.YtomeoploojjacaaDoor
