/- text.isDigit walked. -/
import Derived.Test.YtiikionoagmabaaDoorRd
namespace Go.Proofs.YtiikionoagmabaaDoor
open Go.RowKit

def digitB (r : Int) : Bool := decide (48 ≤ r) && decide (r ≤ 57)

theorem digit_any (r : Int) (w : World) :
    Calls Tryd.prog 68 #[.int .i32 r] w fun e w' => e = .returned (.bool (digitB r)) ∧ w = w' := by
  go_enter Tryd.func68, Tryd.ntmps68
  go_wp2
  all_goals (go_ret; refine ⟨?_, rfl⟩; simp_all [digitB]; try omega)
end Go.Proofs.YtiikionoagmabaaDoor
