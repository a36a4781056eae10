/- A rune beyond 127, decoded: how many bytes it takes, what it is encoded to. Plain. -/
import Derived.Test.YtonophhhndhhhaaDoorPure
import Derived.Lib.MapLaws
import Derived.Laws.Runes
import Derived.Lib.IndexAny
import Derived.Lib.IndexEntry
import Derived.Lib.IndexLaws
namespace Go.Proofs.YtonophhhndhhhaaDoor
namespace Tx

/-- What is decoded at a place whose byte is no ASCII. -/
structure High (s : ByteArray) (p r n : Nat) : Prop where
  r128 : 128 ≤ r
  n1 : 1 ≤ n
  n4 : n ≤ 4
  fits : p + n ≤ s.size
  bytes : ∀ j, p ≤ j → j < p + n → 128 ≤ (s.data.toList.getD j 0).toNat
  big : r ≤ 1114111
  enc : r ≠ 65533 → Utf8.valid (r : Int) = true ∧ 2 ≤ n ∧ (Utf8.encode (r : Int)).size = n

theorem enc_size {r : Nat} (h : r ≠ 65533) {k : Nat} (hk : (128 ≤ r ∧ r < 2048 ∧ k = 2) ∨ (2048 ≤ r ∧ r < 65536 ∧ (r < 55296 ∨ 57344 ≤ r) ∧ k = 3) ∨ (65536 ≤ r ∧ r ≤ 1114111 ∧ k = 4)) :
    Utf8.valid (r : Int) = true ∧ 2 ≤ k ∧ (Utf8.encode (r : Int)).size = k := by
  have hv : Utf8.valid (r : Int) = true := by
    rw [validRune_eq, validRune]
    exact decide_eq_true (by omega)
  refine ⟨hv, by omega, ?_⟩
  unfold Utf8.encode
  simp only [hv, if_true, Int.toNat_natCast]
  rw [if_neg (by omega)]
  rcases hk with ⟨h1, h2, rfl⟩ | ⟨h1, h2, _, rfl⟩ | ⟨h1, h2, rfl⟩
  · rw [if_pos (by omega)]; rfl
  · rw [if_neg (by omega), if_pos (by omega)]; rfl
  · rw [if_neg (by omega), if_neg (by omega)]; rfl

theorem high_of (s : ByteArray) (p : Nat) (h : p < s.size) (hb : 128 ≤ (s.data.toList.getD p 0).toNat) : High s p (Utf8.decode s p).1 (Utf8.decode s p).2 := by
  obtain ⟨h1, h2⟩ := decode_span s p h hb
  obtain ⟨h3, h4⟩ := decode_high s p h (by rw [get_eq s p h]; exact hb)
  have hd := Lib.decode_at s p
  have g0 : (s.get! p).toNat = (s.data.toList.getD p 0).toNat := by rw [get_bang]
  have k1 := (s.get! (p + 1)).toNat_lt
  have k2 := (s.get! (p + 2)).toNat_lt
  have k3 := (s.get! (p + 3)).toNat_lt
  have k0 := (s.get! p).toNat_lt
  rcases Lib.decodeN_shape (s.size - p) (s.get! p).toNat (s.get! (p + 1)).toNat (s.get! (p + 2)).toNat (s.get! (p + 3)).toNat with ⟨c, e⟩ | ⟨c1, c2, c3, cv, e⟩ | ⟨c1, c2, c3, c4, cv, cs, e⟩ | ⟨c1, c2, c3, c4, c5, cv, cw, e⟩ | e
  · omega
  all_goals
    rw [e] at hd
    rw [hd] at h1 h2 h3 h4 ⊢
  · exact ⟨h3, h4, (by dsimp only; omega), h1, h2, (by dsimp only; omega), fun hr => enc_size hr (by dsimp only; omega)⟩
  · exact ⟨h3, h4, (by dsimp only; omega), h1, h2, (by dsimp only; omega), fun hr => enc_size hr (by dsimp only; omega)⟩
  · exact ⟨h3, h4, (by dsimp only; omega), h1, h2, (by dsimp only; omega), fun hr => enc_size hr (by dsimp only; omega)⟩
  · exact ⟨h3, h4, (by decide), h1, h2, (by decide), fun hr => absurd rfl hr⟩

theorem last_of (b : ByteArray) (h1 : 2 ≤ b.size) (h3 : ∀ h : b.size - 1 < b.size, 128 ≤ (b[b.size - 1]'h).toNat) : ∃ (ys : List UInt8) (y : UInt8), b.data.toList = ys ++ [y] ∧ 128 ≤ y.toNat := by
  have h4 := h3 (by omega)
  have hl : b.data.toList.length = b.size := (Lib.size_eq b).symm
  have hne : b.data.toList ≠ [] := fun e => by rw [e] at hl; simp at hl; omega
  refine ⟨b.data.toList.dropLast, b.data.toList.getLast hne, (List.dropLast_concat_getLast hne).symm, ?_⟩
  rw [get_eq b _ (by omega)] at h4
  rw [List.getLast_eq_getElem]
  rw [List.getD_eq_getElem?_getD, ← hl, List.getElem?_eq_getElem (by omega)] at h4
  exact h4
/-- The encoded rune is not the two letters of an end. -/
theorem enc_last {r : Nat} (h128 : 128 ≤ r) (hv : Utf8.valid (r : Int) = true) : ∃ (ys : List UInt8) (y : UInt8), (Utf8.encode (r : Int)).data.toList = ys ++ [y] ∧ 128 ≤ y.toNat :=
  last_of _ (encode_facts (r : Int) hv (by omega)).1 (encode_facts (r : Int) hv (by omega)).2.2
theorem enc_ne {r : Nat} (h128 : 128 ≤ r) (hv : Utf8.valid (r : Int) = true) : (Utf8.encode (r : Int)).data.toList ≠ [13, 10] := by
  obtain ⟨ys, y, h1, h2⟩ := enc_last h128 hv
  rw [h1]
  intro e
  have := congrArg List.getLast? e
  simp at this
  rw [this] at h2
  exact absurd h2 (by decide)

theorem enc_index {r : Nat} (h128 : 128 ≤ r) (hv : Utf8.valid (r : Int) = true) : Lib.index [13, 10] (Utf8.encode (r : Int)).data.toList = -1 := by
  obtain ⟨ys, y, h1, h2⟩ := enc_last h128 hv
  have hno : ∀ l : List UInt8, (∀ b ∈ l, b.toNat < 128) → (ys ++ [y]).isPrefixOf l = false := fun l hl => by
    cases hp : (ys ++ [y]).isPrefixOf l with
    | false => rfl
    | true =>
      obtain ⟨t, ht⟩ := List.isPrefixOf_iff_prefix.1 hp
      have := hl y (by rw [← ht]; simp)
      omega
  have h10 : ∀ b ∈ [(10 : UInt8)], b.toNat < 128 := by decide
  have h13 : ∀ b ∈ [(13 : UInt8), 10], b.toNat < 128 := by decide
  have hem : (ys ++ [y]).isEmpty = false := by cases ys <;> rfl
  rw [h1, Lib.index, hno _ h13, Lib.index, hno _ h10, Lib.index, hem]
  rfl

/-- None of several bytes beyond 127 is an end's letter. -/
theorem noAny_more {xs : List UInt8} {p n : Nat} (h : Lib.NoAny xs [13, 10] p) (hb : ∀ j, p ≤ j → j < p + n → 128 ≤ (xs.getD j 0).toNat) : Lib.NoAny xs [13, 10] (p + n) := fun j b hj hx => by
  by_cases hlt : j < p
  · exact h j b hlt hx
  · have := hb j (by omega) hj
    rw [List.getD_eq_getElem?_getD, hx] at this
    simp only [Option.getD_some] at this
    have h1 : b ≠ 13 := by rintro rfl; exact absurd this (by decide)
    have h2 : b ≠ 10 := by rintro rfl; exact absurd this (by decide)
    simp [h1, h2]

/-- How many bytes stand ahead of the first letter of an end. -/
def run (xs : List UInt8) : Nat := (xs.takeWhile fun b => !(b == 13 || b == 10)).length
theorem run_le (xs : List UInt8) : run xs ≤ xs.length := (List.takeWhile_prefix _).length_le
theorem run_bare (xs : List UInt8) : ∀ b ∈ xs.take (run xs), b ≠ 13 ∧ b ≠ 10 := by
  have e : xs.take (run xs) = xs.takeWhile fun b => !(b == 13 || b == 10) := by
    unfold run
    exact (List.prefix_iff_eq_take.1 (List.takeWhile_prefix _)).symm
  rw [e]
  intro b hb
  have := List.all_takeWhile (p := fun b : UInt8 => !(b == 13 || b == 10)) (l := xs)
  have h2 := List.all_eq_true.1 this b hb
  simp at h2
  exact h2
theorem run_end : ∀ (xs : List UInt8), run xs = xs.length ∨ xs.drop (run xs) = 13 :: xs.drop (run xs + 1) ∨ xs.drop (run xs) = 10 :: xs.drop (run xs + 1)
  | [] => .inl rfl
  | b :: bs => by
    by_cases h : b = 13 ∨ b = 10
    · have e : run (b :: bs) = 0 := by unfold run; rw [List.takeWhile_cons]; rcases h with rfl | rfl <;> rfl
      rw [e]
      rcases h with rfl | rfl
      · exact .inr (.inl rfl)
      · exact .inr (.inr rfl)
    · have e : run (b :: bs) = run bs + 1 := by
        unfold run
        rw [List.takeWhile_cons, if_pos (by simp; exact ⟨fun e => h (.inl e), fun e => h (.inr e)⟩)]
        rfl
      rw [e]
      rcases run_end bs with h2 | h2 | h2
      · exact .inl (by simp [h2])
      · exact .inr (.inl (by simpa using h2))
      · exact .inr (.inr (by simpa using h2))
theorem run_cons (b : UInt8) (bs : List UInt8) : run (b :: bs) = if b = 13 ∨ b = 10 then 0 else run bs + 1 := by
  unfold run
  rw [List.takeWhile_cons]
  by_cases h : b = 13 ∨ b = 10
  · rw [if_pos h]
    rcases h with rfl | rfl <;> rfl
  · rw [if_neg h, if_pos (by simp; exact ⟨fun e => h (.inl e), fun e => h (.inr e)⟩)]
    rfl
/-- 'indexAny' tells the run, or that it is all. -/
theorem indexAny_run : ∀ xs : List UInt8, (run xs = xs.length → Lib.indexAny xs [13, 10] = -1) ∧ (run xs < xs.length → Lib.indexAny xs [13, 10] = (run xs : Int))
  | [] => ⟨fun _ => rfl, fun h => by cases h⟩
  | b :: bs => by
    rw [run_cons]
    have ih := indexAny_run bs
    by_cases h : b = 13 ∨ b = 10
    · rw [if_pos h]
      have hc : ([13, 10] : List UInt8).contains b = true := by rcases h with rfl | rfl <;> rfl
      refine ⟨fun e => by simp at e, fun _ => ?_⟩
      rw [Lib.indexAny, hc]
      rfl
    · rw [if_neg h]
      have hc : ([13, 10] : List UInt8).contains b = false := by
        simp
        exact ⟨fun e => h (.inl e), fun e => h (.inr e)⟩
      refine ⟨fun e => ?_, fun e => ?_⟩
      · have := ih.1 (by simpa using e)
        rw [Lib.indexAny, hc, this]
        rfl
      · have := ih.2 (by simpa using e)
        rw [Lib.indexAny, hc, this]
        simp only [Bool.false_eq_true, if_false]
        rw [if_neg (by simp)]
        push_cast
        rfl
end Tx
end Go.Proofs.YtonophhhndhhhaaDoor
