/- Words and capitals, in plain words (layer 1). -/
import Derived.Test.YtiikionoagmabaaDoorPure
import Derived.Laws.IdiomStrings
namespace Go.Proofs.YtiikionoagmabaaDoor
open Go.RowKit

namespace Tx
def upB (b : UInt8) : UInt8 := if 97 ≤ b.toNat ∧ b.toNat ≤ 122 then b - 32 else b
def up (l : List UInt8) : List UInt8 := l.map upB
theorem upB_low {b : UInt8} (h1 : 97 ≤ b.toNat) (h2 : b.toNat ≤ 122) : (upB b).toNat = b.toNat - 32 := by
  have h : (32 : UInt8) ≤ b := by rw [UInt8.le_iff_toNat_le]; show 32 ≤ b.toNat; omega
  rw [upB, if_pos ⟨h1, h2⟩, UInt8.toNat_sub_of_le _ _ h]
  rfl
theorem upB_other {b : UInt8} (h : ¬ (97 ≤ b.toNat ∧ b.toNat ≤ 122)) : upB b = b := if_neg h
theorem get_data (s : ByteArray) (j : Nat) (h : j < s.data.size) : s.data.toList.getD j 0 = s.data[j] := by
  rw [List.getD_eq_getElem?_getD, List.getElem?_eq_getElem (by simpa using h)]
  rfl
/-- Words with a blank between. -/
def joinW : List (List UInt8) → List UInt8
  | [] => []
  | [x] => x
  | x :: y :: r => x ++ 32 :: joinW (y :: r)
theorem words_ne : ∀ (l cur : List UInt8), ∀ x ∈ wordsGo cur l, x ≠ []
  | [], cur, x, h => by
    rw [wordsGo] at h
    split at h
    · cases h
    · simp at h; subst h; assumption
  | c :: r, cur, x, h => by
    rw [wordsGo] at h
    split at h
    · split at h
      · exact words_ne r [] x h
      · simp at h
        rcases h with rfl | h
        · assumption
        · exact words_ne r [] x h
    · exact words_ne r _ x h
theorem words_bare : ∀ (l cur : List UInt8), (∀ b ∈ cur, blk b = false) → ∀ x ∈ wordsGo cur l, ∀ b ∈ x, blk b = false
  | [], cur, hc, x, h => by
    rw [wordsGo] at h
    split at h
    · cases h
    · simp at h; subst h; exact hc
  | c :: r, cur, hc, x, h => by
    rw [wordsGo] at h
    split at h
    · split at h
      · exact words_bare r [] (by simp) x h
      · simp at h
        rcases h with rfl | h
        · exact hc
        · exact words_bare r [] (by simp) x h
    · rename_i hb
      refine words_bare r _ (fun b hb2 => ?_) x h
      simp at hb2
      rcases hb2 with h1 | rfl
      · exact hc b h1
      · simpa using hb
theorem words_flat : ∀ (l cur : List UInt8), (∀ b ∈ cur, blk b = false) → (wordsGo cur l).flatten = cur ++ l.filter (fun b => !blk b)
  | [], cur, _ => by
    rw [wordsGo]
    split
    · simp [*]
    · simp
  | c :: r, cur, hc => by
    rw [wordsGo]
    split
    · rename_i hb
      split
      · rw [words_flat r [] (by simp)]; simp [*]
      · rw [List.flatten_cons, words_flat r [] (by simp)]; simp [*]
    · rename_i hb
      rw [words_flat r (cur ++ [c]) (fun b hb2 => by
        simp at hb2
        rcases hb2 with h1 | rfl
        · exact hc b h1
        · simpa using hb)]
      simp at hb
      simp [hb]
theorem words_join : ∀ (ws : List (List UInt8)), (∀ x ∈ ws, x ≠ []) → (∀ x ∈ ws, ∀ b ∈ x, blk b = false) → words (joinW ws) = ws
  | [], _, _ => rfl
  | [x], h1, h2 => by
    show wordsGo [] x = _
    have := wordsGo_run x [] [] (h2 x (by simp))
    rw [List.append_nil] at this
    rw [this, wordsGo, if_neg (by simpa using h1 x (by simp))]
    rfl
  | x :: y :: r, h1, h2 => by
    show wordsGo [] (x ++ 32 :: joinW (y :: r)) = _
    rw [wordsGo_run x [] _ (h2 x (by simp)), wordsGo_blank 32 _ _ (by decide), List.nil_append, if_neg (h1 x (by simp))]
    have := words_join (y :: r) (fun z hz => h1 z (by simp [hz])) (fun z hz => h2 z (by simp [hz]))
    rw [words] at this
    rw [this]
    rfl
theorem words_again (l : List UInt8) : words (joinW (words l)) = words l := words_join _ (words_ne l []) (words_bare l [] (by simp))
/-- What stands in the line behind k words. -/
def lineTo (ws : List (List UInt8)) (k : Nat) : List UInt8 := joinW (ws.take k)
theorem joinW_snoc : ∀ (ws : List (List UInt8)) (x : List UInt8), joinW (ws ++ [x]) = if ws = [] then x else joinW ws ++ 32 :: x
  | [], x => rfl
  | [y], x => rfl
  | y :: z :: r, x => by
    show y ++ 32 :: joinW (z :: (r ++ [x])) = _
    have := joinW_snoc (z :: r) x
    rw [if_neg (by simp)] at this
    rw [show z :: (r ++ [x]) = (z :: r) ++ [x] from rfl, this, if_neg (by simp)]
    simp [joinW]
theorem lineTo_succ (ws : List (List UInt8)) (k : Nat) (h : k < ws.length) : lineTo ws (k + 1) = if k = 0 then ws.getD k [] else lineTo ws k ++ 32 :: ws.getD k [] := by
  have e : ws.getD k [] = ws[k] := by rw [List.getD_eq_getElem?_getD, List.getElem?_eq_getElem h]; rfl
  rw [lineTo, List.take_succ_eq_append_getElem h, joinW_snoc, e]
  by_cases hk : k = 0
  · subst hk; simp
  · rw [if_neg (fun e2 => by have := congrArg List.length e2; rw [List.length_take, List.length_nil] at this; omega), if_neg hk]
    rfl
theorem flat_succ (ws : List (List UInt8)) (k : Nat) (h : k < ws.length) : (ws.take (k + 1)).flatten = (ws.take k).flatten ++ ws.getD k [] := by
  have e : ws.getD k [] = ws[k] := by rw [List.getD_eq_getElem?_getD, List.getElem?_eq_getElem h]; rfl
  rw [List.take_succ_eq_append_getElem h, List.flatten_append, e]
  simp
theorem joinW_len : ∀ (ws : List (List UInt8)), (joinW ws).length ≤ ws.flatten.length + ws.length
  | [] => Nat.le_refl _
  | [x] => by simp [joinW]
  | x :: y :: r => by
    have := joinW_len (y :: r)
    simp [joinW] at this ⊢
    omega
theorem flat_take (ws : List (List UInt8)) (k : Nat) : (ws.take k).flatten.length ≤ ws.flatten.length := by
  have : ws.flatten = (ws.take k).flatten ++ (ws.drop k).flatten := by rw [← List.flatten_append, List.take_append_drop]
  rw [this]; simp
theorem words_len (l : List UInt8) : (words l).flatten.length ≤ l.length ∧ (words l).length ≤ l.length := by
  have h := words_flat l [] (by simp)
  have hf : (words l).flatten.length ≤ l.length := by
    rw [words, h]; simpa using List.length_filter_le _ _
  refine ⟨hf, Nat.le_trans ?_ hf⟩
  have hne := words_ne l []
  rw [words]
  generalize wordsGo [] l = ws at hne
  clear h hf
  induction ws with
  | nil => simp
  | cons x r ih =>
    have h1 := ih (fun z hz => hne z (by simp [hz]))
    have h2 : x.length ≠ 0 := fun e => hne x (by simp) (List.length_eq_zero_iff.1 e)
    simp at h1 ⊢
    omega
theorem upB_upB (b : UInt8) : upB (upB b) = upB b := by
  by_cases h : 97 ≤ b.toNat ∧ b.toNat ≤ 122
  · have := upB_low h.1 h.2
    exact upB_other (by omega)
  · rw [upB_other h, upB_other h]
theorem up_up (l : List UInt8) : up (up l) = up l := by simp [up, upB_upB]
theorem up_app (a b : List UInt8) : up (a ++ b) = up a ++ up b := by simp [up]
theorem up_len (l : List UInt8) : (up l).length = l.length := by simp [up]
theorem blk_up (b : UInt8) : blk (upB b) = blk b := by
  by_cases h : 97 ≤ b.toNat ∧ b.toNat ≤ 122
  · have := upB_low h.1 h.2
    unfold blk
    have e1 : ((upB b).toNat == 32) = false := beq_eq_false_iff_ne.2 (by omega)
    have e2 : ((upB b).toNat == 9) = false := beq_eq_false_iff_ne.2 (by omega)
    have e3 : (b.toNat == 32) = false := beq_eq_false_iff_ne.2 (by omega)
    have e4 : (b.toNat == 9) = false := beq_eq_false_iff_ne.2 (by omega)
    rw [e1, e2, e3, e4]
  · rw [upB_other h]
theorem wordsGo_up : ∀ (l cur : List UInt8), wordsGo (up cur) (up l) = (wordsGo cur l).map up
  | [], cur => by
    show wordsGo (up cur) [] = _
    rw [wordsGo, wordsGo]
    by_cases h : cur = []
    · subst h; rfl
    · rw [if_neg h, if_neg (by simpa [up] using h)]; rfl
  | c :: r, cur => by
    show wordsGo (up cur) (upB c :: up r) = _
    rw [wordsGo, wordsGo, blk_up]
    have e := wordsGo_up r (cur ++ [c])
    rw [up_app] at e
    have e0 := wordsGo_up r []
    have e1 : (up cur = []) ↔ (cur = []) := by simp [up]
    by_cases hb : blk c
    · rw [if_pos hb, if_pos hb]
      by_cases h : cur = []
      · rw [if_pos h, if_pos (e1.2 h)]; exact e0
      · rw [if_neg h, if_neg (fun h2 => h (e1.1 h2)), List.map_cons, ← e0]; rfl
    · rw [if_neg hb, if_neg hb]; exact e
theorem words_up (l : List UInt8) : words (up l) = (words l).map up := wordsGo_up l []
theorem blk_gap (tab : Bool) : blk (if tab then 9 else 32) = true := by cases tab <;> rfl
theorem wordsGo_joins (c : UInt8) (hc : blk c = true) : ∀ (l cur r : List UInt8), wordsGo cur (l ++ c :: r) = wordsGo cur l ++ wordsGo [] r
  | [], cur, r => by
    rw [List.nil_append, wordsGo_blank c cur r hc, wordsGo]
  | b :: l, cur, r => by
    show wordsGo cur (b :: (l ++ c :: r)) = _
    rw [wordsGo]
    conv => rhs; rw [wordsGo]
    split
    · split
      · exact wordsGo_joins c hc l [] r
      · rw [wordsGo_joins c hc l [] r]; rfl
    · exact wordsGo_joins c hc l _ r
theorem words_joins (c : UInt8) (hc : blk c = true) (l r : List UInt8) : words (l ++ c :: r) = words l ++ words r := wordsGo_joins c hc l [] r
end Tx

/-- The byte at place j, when all ahead of pos are in capitals. -/
def mix (l : List UInt8) (pos j : Nat) : UInt8 := if j < pos then Tx.upB (l.getD j 0) else l.getD j 0
theorem bytesRow_size (s : ByteArray) (cap : Nat) : (bytesRow s cap).size = s.size + (cap - s.size) := by
  rw [bytesRow, Array.size_append, Array.size_map, Array.size_replicate]
  rfl
theorem heap_setCell_row {w : World} {b i : Nat} {C : Array Value} {t : TypeId} {fr : Nat × Nat} {u : Value} (h : w.heap[b]? = some (.cells C t fr)) : (w.setCell ⟨b, i, none⟩ u).heap[b]? = some (.cells (C.setIfInBounds i u) t fr) := by
  simp [World.setCell, Array.getElem?_modify, h]
end Go.Proofs.YtiikionoagmabaaDoor
