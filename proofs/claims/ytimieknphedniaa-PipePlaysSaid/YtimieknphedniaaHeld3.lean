/- A region that draws its order: three may come up at once. Of no layer. -/
import Derived.Test.YtimieknphedniaaHeld
namespace Go.Proofs.Ytimieknphedniaa
open Go.RowKit
section
variable {P : Program} {ops : Array Oper} {Q : Exit → Act → World → Prop} {md : Region.Mode} {S : World → Prop}
/-- Three may come up. -/
theorem heldThree {i j l : Nat} {oi oj ol : Oper} {r r' r'' : List Oper} {fuel : Nat} {listed : Array Bool} {a : Act} {w : World} (hi : ops.toList.drop i = oi :: r) (hj : ops.toList.drop j = oj :: r') (hl : ops.toList.drop l = ol :: r'')
    (hr : Region.ready md ops listed = [i, j, l]) (hwi : Region.wanted oi (yielded ops a.tmps) = true) (hwj : Region.wanted oj (yielded ops a.tmps) = true) (hwl : Region.wanted ol (yielded ops a.tmps) = true)
    (h : ∀ K : Act → World → Prop, Hid (∀ a w, S w → wpAnyH P md ops Q S fuel (listed.setIfInBounds i true) a w → K a w) → Oper.wp P oi a w K Q)
    (h' : ∀ K : Act → World → Prop, Hid (∀ a w, S w → wpAnyH P md ops Q S fuel (listed.setIfInBounds j true) a w → K a w) → Oper.wp P oj a w K Q)
    (h'' : ∀ K : Act → World → Prop, Hid (∀ a w, S w → wpAnyH P md ops Q S fuel (listed.setIfInBounds l true) a w → K a w) → Oper.wp P ol a w K Q) : wpAnyH P md ops Q S (fuel + 1) listed a w := by
  refine wpAnyH_ready hr (by simp) (AllReadyH.cons (heldAt hi) (fun K hK => ?_) (AllReadyH.cons (heldAt hj) (fun K hK => ?_) (AllReadyH.cons (heldAt hl) (fun K hK => ?_) AllReadyH.nil)))
  · rw [if_pos hwi]
    exact h K (show Hid _ from fun a w hS hW => hK.out a w hS (fun _ => hW))
  · rw [if_pos hwj]
    exact h' K (show Hid _ from fun a w hS hW => hK.out a w hS (fun _ => hW))
  · rw [if_pos hwl]
    exact h'' K (show Hid _ from fun a w hS hW => hK.out a w hS (fun _ => hW))
end
end Go.Proofs.Ytimieknphedniaa
