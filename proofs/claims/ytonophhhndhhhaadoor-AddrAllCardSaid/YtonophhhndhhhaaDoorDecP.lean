/- Decimal digits, in plain words (layer 1). -/
import Derived.Test.YtonophhhndhhhaaDoorNumP
import Derived.Lib.ItoaLen
namespace Go.Proofs.YtonophhhndhhhaaDoor
open Go.RowKit

namespace Tx
theorem dig_of {k : Nat} (h : k < 10) : (UInt8.ofNat (48 + k)).toNat = 48 + k := by
  rw [UInt8.toNat_ofNat']
  omega
theorem dec_facts : ∀ (f u : Nat), u ≤ f → digits (Lib.decDigits u) = true ∧ val (Lib.decDigits u) = u ∧ (1 ≤ u → 10 ^ ((Lib.decDigits u).length - 1) ≤ u) ∧ 1 ≤ (Lib.decDigits u).length ∧ u < 10 ^ (Lib.decDigits u).length
  | 0, u, h => by
    obtain rfl : u = 0 := by omega
    refine ⟨by rw [Lib.decDigits]; decide, by rw [Lib.decDigits]; decide, fun h => absurd h (by omega), by rw [Lib.decDigits]; decide, by rw [Lib.decDigits]; decide⟩
  | f + 1, u, h => by
    rw [Lib.decDigits]
    by_cases h10 : u < 10
    · rw [dif_pos h10]
      have e := dig_of h10
      refine ⟨?_, ?_, fun h1 => h1, Nat.le_refl _, by simpa using h10⟩
      · simp [digits, dig]; omega
      · show 0 * 10 + ((UInt8.ofNat (48 + u)).toNat - 48) = u
        rw [e]; omega
    · rw [dif_neg h10]
      obtain ⟨g1, g2, g3, g4, g5⟩ := dec_facts f (u / 10) (by omega)
      have e := dig_of (show u % 10 < 10 by omega)
      refine ⟨?_, ?_, fun _ => ?_, by simp, ?_⟩
      · rw [digits_app, g1]; simp [digits, dig]; omega
      · rw [val_snoc, g2, e]; omega
      · rw [List.length_append]
        show 10 ^ ((Lib.decDigits (u / 10)).length + 1 - 1) ≤ u
        have h1 := g3 (by omega)
        have e2 : 10 ^ ((Lib.decDigits (u / 10)).length + 1 - 1) = 10 ^ ((Lib.decDigits (u / 10)).length - 1) * 10 := by
          rw [← Nat.pow_succ]; congr 1; omega
        rw [e2]
        omega
      · rw [List.length_append]
        show u < 10 ^ ((Lib.decDigits (u / 10)).length + 1)
        rw [Nat.pow_succ]
        omega
theorem dec_all (u : Nat) : digits (Lib.decDigits u) = true := (dec_facts u u (Nat.le_refl _)).1
theorem dec_val (u : Nat) : val (Lib.decDigits u) = u := (dec_facts u u (Nat.le_refl _)).2.1
theorem dec_pos (u : Nat) : 1 ≤ (Lib.decDigits u).length := (dec_facts u u (Nat.le_refl _)).2.2.2.1
theorem dec_nine (u : Nat) : (Lib.decDigits u).length ≤ 9 ↔ u < 1000000000 := by
  obtain ⟨_, _, h3, h4, h5⟩ := dec_facts u u (Nat.le_refl _)
  constructor
  · intro h
    exact Nat.lt_of_lt_of_le h5 (Nat.pow_le_pow_right (by decide) h : 10 ^ _ ≤ 10 ^ 9)
  · intro h
    rcases Nat.eq_zero_or_pos u with rfl | hp
    · rw [Lib.decDigits]; decide
    · have h6 := h3 hp
      rcases Nat.lt_or_ge 9 (Lib.decDigits u).length with h7 | h7
      · have h8 : 10 ^ 9 ≤ 10 ^ ((Lib.decDigits u).length - 1) := Nat.pow_le_pow_right (by decide) (by omega)
        have h9 : (10 : Nat) ^ 9 = 1000000000 := by decide
        omega
      · exact h7

/-- k noughts ahead of the digits of n. -/
def nulls (k : Nat) (n : Int) : List UInt8 := List.replicate k 48 ++ Lib.itoa n
theorem nulls_len (k : Nat) (n : Int) : (nulls k n).length = k + (Lib.itoa n).length := by simp [nulls]
theorem itoa_nat {n : Int} (h : 0 ≤ n) : Lib.itoa n = Lib.decDigits n.toNat := by rw [Lib.itoa, if_neg (by omega)]
theorem itoa_pos (n : Int) : 1 ≤ (Lib.itoa n).length := by
  rw [Lib.itoa]
  split
  · simp
  · exact dec_pos _
theorem val_nulls : ∀ (k : Nat) (l : List UInt8), val (List.replicate k 48 ++ l) = val l
  | 0, l => by simp
  | k + 1, l => by
    have := val_nulls k l
    rw [List.replicate_succ, List.cons_append]
    exact this
theorem digits_nulls (k : Nat) : digits (List.replicate k 48) = true := by
  simp only [digits, List.all_eq_true]
  intro b hb
  obtain ⟨_, rfl⟩ := List.mem_replicate.1 hb
  rfl
theorem nulls_bad {k : Nat} {n : Int} (h : n < 0) : digits (nulls k n) = false := by
  rw [nulls, digits_app, Lib.itoa, if_pos h]
  simp [digits, dig]
theorem number_yes {k : Nat} {n most : Int} (h0 : 0 ≤ n) (h1 : (nulls k n).length ≤ 9) (h2 : n ≤ most) : number (nulls k n) most = (n, true) := by
  have e : val (nulls k n) = n.toNat := by rw [nulls, val_nulls, itoa_nat h0, dec_val]
  have hp := itoa_pos n
  have hl := nulls_len k n
  rw [number, if_pos, e, Int.toNat_of_nonneg h0]
  refine ⟨⟨by omega, h1, ?_⟩, by rw [e, Int.toNat_of_nonneg h0]; exact h2⟩
  rw [nulls, digits_app, digits_nulls, itoa_nat h0, dec_all]
  rfl
theorem number_no {k : Nat} {n most : Int} (h : n < 0 ∨ 9 < (nulls k n).length ∨ most < n) : number (nulls k n) most = (0, false) := by
  rw [number, if_neg]
  rintro ⟨⟨h1, h2, h3⟩, h4⟩
  rcases Int.lt_or_le n 0 with h5 | h5
  · rw [nulls_bad h5] at h3; cases h3
  · have e : val (nulls k n) = n.toNat := by rw [nulls, val_nulls, itoa_nat h5, dec_val]
    rw [e, Int.toNat_of_nonneg h5] at h4
    omega
theorem nine_iff {n : Int} (h : 0 ≤ n) : (Lib.itoa n).length ≤ 9 ↔ n < 1000000000 := by
  rw [itoa_nat h, dec_nine]
  omega
theorem head_sign (n : Int) : ∃ b r, Lib.itoa n = b :: r ∧ (b.toNat = 45 ↔ n < 0) := by
  rcases Int.lt_or_le n 0 with h | h
  · refine ⟨45, Lib.decDigits n.natAbs, by rw [Lib.itoa, if_pos h], by simp [h]⟩
  · have hd := dec_all n.toNat
    have hp := dec_pos n.toNat
    rw [itoa_nat h]
    cases hl : Lib.decDigits n.toNat with
    | nil => rw [hl] at hp; simp at hp
    | cons b r =>
      refine ⟨b, r, rfl, ?_⟩
      rw [hl] at hd
      simp [digits, dig] at hd
      constructor
      · intro; omega
      · intro; omega
end Tx
end Go.Proofs.YtonophhhndhhhaaDoor
