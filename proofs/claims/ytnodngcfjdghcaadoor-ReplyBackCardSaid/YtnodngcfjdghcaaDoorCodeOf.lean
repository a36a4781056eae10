/- A number that is made a code: 100 + (n & 1023) % 500. -/
import Derived.Test.YtnodngcfjdghcaaDoorBits
import Derived.Test.YtnodngcfjdghcaaDoorLineP
namespace Go.Proofs.YtnodngcfjdghcaaDoor
open Go.RowKit

/-- 'n & 1023' of any int. -/
theorem and_1023 (n : Int) : bits .and .i64 n 1023 = n % 1024 := by
  have h : (BitVec.ofInt 64 n &&& BitVec.ofInt 64 1023).toNat = (n % 1024).toNat := by
    rw [BitVec.toNat_and, BitVec.toNat_ofInt, BitVec.toNat_ofInt]
    rw [show (1023 % ((2 ^ 64 : Nat) : Int)).toNat = 2 ^ 10 - 1 from by decide, Nat.and_two_pow_sub_one_eq_mod]
    omega
  show IntKind.i64.wrap (((BitVec.ofInt 64 n &&& BitVec.ofInt 64 1023).toNat : Nat) : Int) = _
  rw [h, wraps_i64 _ (by omega) (by omega)]
  omega

/-- Numbers that are made codes. -/
theorem code_of (n : Int) (_hn : (Lit.int .i64 n).wf = true) : ∃ m r N : Nat, bits .and .i64 n 1023 = (m : Int) ∧ (m : Int).tmod 500 = (r : Int) ∧ (100 : Int) + (r : Int) = (N : Int) ∧ 100 ≤ N ∧ N < 600 := by
  refine ⟨(n % 1024).toNat, (n % 1024).toNat % 500, 100 + (n % 1024).toNat % 500, ?_, ?_, by omega, by omega, by omega⟩
  · rw [and_1023]; omega
  · rw [Int.tmod_eq_emod_of_nonneg (by omega)]; omega
theorem code_shape (N : Nat) (h1 : 100 ≤ N) (h2 : N < 600) : ∃ a b c, Ln.codeOf N = [a, b, c] ∧ Ln.first a = true ∧ Ln.digit b = true ∧ Ln.digit c = true := by
  have := Ln.code_digits ⟨N - 100, by omega⟩
  simp only [show 100 + (N - 100) = N from by omega] at this
  exact ⟨_, _, _, rfl, this⟩
end Go.Proofs.YtnodngcfjdghcaaDoor
