/- The document's example, as all statements of the layer have it at their head. -/
import Derived.Test.YtooijkndndoolaaClockO
namespace Go.Proofs.Ytooijkndndoolaa
open Go.RowKit

theorem shown_any (w : World) : Calls Try.prog 7 #[] w fun e w' => e = .returned (.bool true) ∧ Below w.heap.size w w' := by
  have e1 : Cl.due 0 5 = 5 := by decide
  have e2 : Cl.late 0 4 5 = false := by decide
  have e3 : Cl.late 0 5 5 = true := by decide
  go_enter Try.func7, Try.ntmps7
  go_wp2_with fail
  refine (new_any w).mono ?_
  rintro e w1 ⟨rfl, hb1, hc1⟩
  have HB1 := Lib.hid hb1
  have HC1 := Lib.hid hc1
  have h1 := due_any hc1 (d := 5) (by decide)
  rw [e1] at h1
  clear hb1 hc1
  go_wp2_with fail
  refine h1.mono ?_
  rintro e w2 ⟨rfl, hb2⟩
  have HB2 := Lib.hid (HB1.out.trans (hb2.mono HB1.out.size))
  have hc2 := HC1.out.next hb2
  have HC2 := Lib.hid hc2
  have h2 := late_any hc2 (n := 4) 5 (by decide)
  rw [e2] at h2
  clear h1 hb2 hc2 HB1 HC1
  go_wp2_with fail
  refine h2.mono ?_
  rintro e w3 ⟨rfl, hb3⟩
  have HB3 := Lib.hid (HB2.out.trans (hb3.mono HB2.out.size))
  have hc3 := HC2.out.next hb3
  have HC3 := Lib.hid hc3
  have h3 := late_any hc3 (n := 5) 5 (by decide)
  rw [e3] at h3
  clear h2 hb3 hc3 HB2 HC2
  go_wp2_with fail
  refine h3.mono ?_
  rintro e w4 ⟨rfl, hb4⟩
  have HB4 := Lib.hid (HB3.out.trans (hb4.mono HB3.out.size))
  have h4 := now_any (HC3.out.next hb4)
  clear h3 hb4 HB3 HC3
  go_wp2_with (refine h4.mono ?_; rintro e w' ⟨rfl, hw⟩; obtain rfl := hw; clear h4)
  go_ret
  exact ⟨rfl, HB4.out⟩
end Go.Proofs.Ytooijkndndoolaa
