/- text.isDigit walked. -/
import Derived.Test.YtonophhhndhhhaaDoorRd
namespace Go.Proofs.YtonophhhndhhhaaDoor
open Go.RowKit

def digitB (r : Int) : Bool := decide (48 ≤ r) && decide (r ≤ 57)

theorem digit_any (r : Int) (w : World) :
    Calls Tryd.prog 63 #[.int .i32 r] w fun e w' => e = .returned (.bool (digitB r)) ∧ w = w' := by
  go_enter Tryd.func63, Tryd.ntmps63
  go_wp2
  all_goals (go_ret; refine ⟨?_, rfl⟩; simp_all [digitB]; try omega)
end Go.Proofs.YtonophhhndhhhaaDoor
