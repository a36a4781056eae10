/- A code out of a number, by the reference's Digits. -/
import Derived.Test.YtnodngcfjdghcaaDoorRefDigits
import Derived.Test.YtnodngcfjdghcaaDoorCodeOf
import Derived.Test.YtnodngcfjdghcaaDoorBa
namespace Go.Proofs.YtnodngcfjdghcaaDoor
open Go.RowKit

theorem itoa_code {N : Nat} (h1 : 100 ≤ N) (h2 : N < 1000) : Lib.itoa (N : Int) = Ln.codeOf N := by
  have e1 : Lib.itoa (N : Int) = Lib.decDigits N := by
    rw [Lib.itoa, if_neg (by omega)]
    rfl
  have h3 : N / 10 / 10 = N / 100 := by omega
  have h4 : N / 100 % 10 = N / 100 := by omega
  rw [e1, dec_more (show ¬ N < 10 by omega), dec_more (show ¬ N / 10 < 10 by omega), dec_end (show N / 10 / 10 < 10 by omega), h3, h4]
  unfold Ln.codeOf
  simp [UInt8.ofNat_add]
theorem rcode_any (N : Nat) (h1 : 100 ≤ N) (h2 : N < 1000) (w : World) :
    Calls Tryd.prog 16 #[.int .i64 (N : Int)] w fun e w' => e = .returned (.string (ba (Ln.codeOf N))) ∧ w = w' := by
  have h := ref_digits (N : Int) w (by omega) (by omega)
  rw [itoa_code h1 h2] at h
  exact h
end Go.Proofs.YtnodngcfjdghcaaDoor
