/- The low bits of whatever int. Of no layer. -/
import Derived.WalkKit
import Derived.Laws.BitsLemmas
namespace Go.Proofs.Ytooijkndndoolaa
open Go.RowKit

theorem i64_low (k : Nat) (M : Int) (hM : (BitVec.ofInt 64 M).toNat = 2 ^ k - 1) (hk : (2 : Int) ^ k = M + 1) (hM0 : 0 ≤ M) (hM1 : M < 9223372036854775807) (n : Int) : bits .and .i64 n M = n % (M + 1) := by
  have key : (BitVec.ofInt 64 n &&& BitVec.ofInt 64 M).toNat = (n % ((2 ^ 64 : Nat) : Int)).toNat % 2 ^ k := by
    rw [BitVec.toNat_and, BitVec.toNat_ofInt, hM, Nat.and_two_pow_sub_one_eq_mod]
  show IntKind.i64.wrap ((BitVec.ofInt 64 n &&& BitVec.ofInt 64 M).toNat : Nat) = n % (M + 1)
  have h2 : ((2 ^ k : Nat) : Int) = M + 1 := by rw [← hk]; simp
  rw [key, Int.natCast_emod, h2, Int.toNat_of_nonneg (Int.emod_nonneg _ (by decide)), IntKind.wrap_i64]
  have hd : n % ((2 ^ 64 : Nat) : Int) % (M + 1) = n % (M + 1) := by
    refine Int.emod_emod_of_dvd n ?_
    rw [← h2]
    refine Int.natCast_dvd_natCast.2 (Nat.pow_dvd_pow 2 ?_)
    rcases Nat.lt_or_ge 64 k with h | h
    · exfalso
      have : 2 ^ 64 ≤ 2 ^ k := Nat.pow_le_pow_right (by decide) (by omega)
      have h3 : ((2 ^ 64 : Nat) : Int) ≤ ((2 ^ k : Nat) : Int) := Int.ofNat_le.2 this
      rw [h2] at h3
      have : ((2 ^ 64 : Nat) : Int) = 18446744073709551616 := by decide
      omega
    · exact h
  rw [hd]
  have a := Int.emod_nonneg n (show M + 1 ≠ 0 by omega)
  have b := Int.emod_lt_of_pos n (show 0 < M + 1 by omega)
  generalize n % (M + 1) = r at *
  omega
theorem i64_30 (n : Int) : bits .and .i64 n 1073741823 = n % 1073741824 := i64_low 30 1073741823 (by decide) (by decide) (by decide) (by decide) n
end Go.Proofs.Ytooijkndndoolaa
