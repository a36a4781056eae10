/- Plain facts about bytes and texts, of no program. -/
import Derived.WalkKit
import Derived.Lib.Strings
import Derived.Lib.OthersKept
namespace Go.Proofs.YtiikionoagmabaaDoor
namespace Tx

theorem get_bang (s : ByteArray) (k : Nat) : s.get! k = s.data.toList.getD k 0 := by
  show s.data[k]! = _
  by_cases h : k < s.data.size
  · rw [getElem!_pos s.data k h, List.getD_eq_getElem?_getD, List.getElem?_eq_getElem (by simpa using h)]
    simp
  · rw [getElem!_neg s.data k h, List.getD_eq_getElem?_getD, List.getElem?_eq_none (by simpa using h)]
    rfl

theorem cont_high {n : Nat} (h : n < 256) (e : n / 64 = 2) : 128 ≤ n := by omega

/-- A rune of several bytes: each of them is 128 or more, and within the text. -/
theorem decode_span (s : ByteArray) (p : Nat) (h : p < s.size) (hb : 128 ≤ (s.data.toList.getD p 0).toNat) :
    p + (Utf8.decode s p).2 ≤ s.size ∧ ∀ j, p ≤ j → j < p + (Utf8.decode s p).2 → 128 ≤ (s.data.toList.getD j 0).toNat := by
  have hlt : ∀ k, (s.data.toList.getD k 0).toNat < 256 := fun k => (s.data.toList.getD k 0).toNat_lt
  simp only [Utf8.decode, get_bang, Nat.add_zero]
  have hn : ¬ (s.data.toList.getD p 0).toNat < 128 := by omega
  rw [if_neg hn]
  have one : ∀ j, p ≤ j → j < p + 1 → 128 ≤ (s.data.toList.getD j 0).toNat := fun j h1 h2 => by
    obtain rfl : j = p := by omega
    exact hb
  have c1 := hlt (p + 1)
  have c2 := hlt (p + 2)
  have c3 := hlt (p + 3)
  split
  · rename_i h1
    simp at h1
    split
    · refine ⟨by show p + 2 ≤ _; omega, fun j g1 g2 => ?_⟩
      have g2 : j < p + 2 := g2
      rcases (show j = p ∨ j = p + 1 from by omega) with rfl | rfl
      · exact hb
      · simp at *; omega
    · exact ⟨by show p + 1 ≤ _; omega, one⟩
  · split
    · rename_i h1
      simp at h1
      split
      · refine ⟨by show p + 3 ≤ _; omega, fun j g1 g2 => ?_⟩
        have g2 : j < p + 3 := g2
        rcases (show j = p ∨ j = p + 1 ∨ j = p + 2 from by omega) with rfl | rfl | rfl
        · exact hb
        · simp at *; omega
        · simp at *; omega
      · exact ⟨by show p + 1 ≤ _; omega, one⟩
    · split
      · rename_i h1
        simp at h1
        split
        · refine ⟨by show p + 4 ≤ _; omega, fun j g1 g2 => ?_⟩
          have g2 : j < p + 4 := g2
          rcases (show j = p ∨ j = p + 1 ∨ j = p + 2 ∨ j = p + 3 from by omega) with rfl | rfl | rfl | rfl
          · exact hb
          · simp at *; omega
          · simp at *; omega
          · simp at *; omega
        · exact ⟨by show p + 1 ≤ _; omega, one⟩
      · exact ⟨by show p + 1 ≤ _; omega, one⟩

/-- The byte at a place; 0 behind the end. -/
abbrev at' (s : ByteArray) (p : Nat) : UInt8 := s.data.toList.getD p 0

theorem get_eq (s : ByteArray) (p : Nat) (h : p < s.size) : s[p]'h = s.data.toList.getD p 0 := by
  rw [List.getD_eq_getElem?_getD, List.getElem?_eq_getElem (by simpa using h)]
  rfl

/-- One step of a range over a text: the rune r, of n bytes, which are 'seg'. -/
structure Rune (s : ByteArray) (pos r n : Nat) (seg : List UInt8) : Prop where
  one : 1 ≤ n
  fits : pos + n ≤ s.size
  len : seg.length = n
  rest : s.data.toList.drop pos = seg ++ s.data.toList.drop (pos + n)
  low : r < 128 → ∃ b : UInt8, seg = [b] ∧ b.toNat = r
  high : 128 ≤ r → ∀ b ∈ seg, 128 ≤ b.toNat

theorem rune_of (s : ByteArray) (pos : Nat) (h : pos < s.size) : ∃ seg, Rune s pos (Utf8.decode s pos).1 (Utf8.decode s pos).2 seg := by
  have hl : s.data.toList.length = s.size := (Lib.size_eq s).symm
  by_cases hb : (s[pos]'h).toNat < 128
  · rw [decode_ascii s pos h hb]
    refine ⟨[s[pos]'h], by show 1 ≤ 1; omega, by show pos + 1 ≤ _; omega, rfl, ?_, fun _ => ⟨_, rfl, rfl⟩, fun h2 => absurd h2 (by show ¬ 128 ≤ (s[pos]'h).toNat; omega)⟩
    rw [List.drop_eq_getElem_cons (by omega)]
    rfl
  · have hb1 : 128 ≤ (s.data.toList.getD pos 0).toNat := by rw [← get_eq s pos h]; omega
    obtain ⟨h1, h2⟩ := decode_span s pos h hb1
    obtain ⟨h3, h4⟩ := decode_high s pos h (by omega)
    generalize (Utf8.decode s pos).1 = r at *
    generalize (Utf8.decode s pos).2 = n at *
    refine ⟨(s.data.toList.drop pos).take n, h4, h1, ?_, ?_, fun h5 => absurd h5 (by omega), fun _ b hb2 => ?_⟩
    · rw [List.length_take, List.length_drop, hl]; omega
    · rw [← List.drop_drop, List.take_append_drop]
    · obtain ⟨j, hj, rfl⟩ := List.getElem_of_mem hb2
      have hj2 : j < n := by rw [List.length_take] at hj; omega
      have h6 := h2 (pos + j) (by omega) (by omega)
      rw [List.getElem_take, List.getElem_drop]
      rw [List.getD_eq_getElem?_getD, List.getElem?_eq_getElem (by rw [hl]; omega)] at h6
      exact h6

theorem next_rune {P : Program} (w : World) (k : Nat) (s : ByteArray) (pos : Nat) (hk : w.heap[k]? = some (.stringIter s pos)) (h : pos < s.size) :
    ∃ (r n : Nat) (seg : List UInt8), Rune s pos r n seg ∧ ∀ ty, (Instr.next (.pointer (some ⟨k, 0, none⟩)) true ty).run P w =
      .ok (.tuple #[.bool true, .int .i64 pos, .int .i32 (r : Int)]) (w.iterAt k s (pos + n)) := by
  obtain ⟨seg, hr⟩ := rune_of s pos h
  exact ⟨_, _, seg, hr, fun ty => Lib.run_next_any_at w k s pos ty hk h⟩

theorem Rune.take {s : ByteArray} {pos r n : Nat} {seg : List UInt8} (h : Rune s pos r n seg) : s.data.toList.take (pos + n) = s.data.toList.take pos ++ seg := by
  have hl : s.data.toList.length = s.size := (Lib.size_eq s).symm
  rw [List.take_add, h.rest, List.take_left' h.len]

theorem Rune.cut {s : ByteArray} {pos r n : Nat} {seg : List UInt8} (h : Rune s pos r n seg) (a : Nat) (ha : a ≤ pos) : (s.data.toList.drop a).take (pos + n - a) = (s.data.toList.drop a).take (pos - a) ++ seg := by
  have e : pos + n - a = (pos - a) + n := by omega
  rw [e, List.take_add, List.drop_drop, show a + (pos - a) = pos from by omega, h.rest, List.take_left' h.len]

def plainB (b : UInt8) : Bool := decide (32 ≤ b.toNat) && decide (b.toNat ≤ 126)
def plain (l : List UInt8) : Bool := l.all plainB

theorem plain_app (a b : List UInt8) : plain (a ++ b) = (plain a && plain b) := by simp [plain]

def blk (b : UInt8) : Bool := b.toNat == 32 || b.toNat == 9

/-- The words of a text: 'cur' is what has come of the one that stands open. -/
def wordsGo : List UInt8 → List UInt8 → List (List UInt8)
  | cur, [] => if cur = [] then [] else [cur]
  | cur, c :: r => if blk c then (if cur = [] then wordsGo [] r else cur :: wordsGo [] r) else wordsGo (cur ++ [c]) r
def words (l : List UInt8) : List (List UInt8) := wordsGo [] l

theorem wordsGo_run : ∀ (xs cur rest : List UInt8), (∀ b ∈ xs, blk b = false) → wordsGo cur (xs ++ rest) = wordsGo (cur ++ xs) rest
  | [], cur, rest, _ => by simp
  | x :: xs, cur, rest, h => by
    have hx : blk x = false := h x (by simp)
    show wordsGo cur (x :: (xs ++ rest)) = _
    rw [wordsGo, hx]
    simp only [Bool.false_eq_true, if_false]
    rw [wordsGo_run xs (cur ++ [x]) rest (fun b hb => h b (by simp [hb]))]
    simp

theorem wordsGo_blank (c : UInt8) (cur rest : List UInt8) (h : blk c = true) : wordsGo cur (c :: rest) = (if cur = [] then [] else [cur]) ++ wordsGo [] rest := by
  rw [wordsGo, h]
  by_cases hc : cur = [] <;> simp [hc]

end Tx
end Go.Proofs.YtiikionoagmabaaDoor
