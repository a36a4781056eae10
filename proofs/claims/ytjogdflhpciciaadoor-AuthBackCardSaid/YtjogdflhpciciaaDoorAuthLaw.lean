/- The small functions of the laws of layer 5, walked. -/
import Derived.Test.YtjogdflhpciciaaDoorAuthApop
namespace Go.Proofs.YtjogdflhpciciaaDoor
open Go.RowKit

def short5 (s : ByteArray) : ByteArray := if 200 < s.size then s.extract 0 200 else s
theorem short5_le (s : ByteArray) : (short5 s).size ≤ 200 := by
  unfold short5
  split
  · rw [ByteArray.size_extract]; omega
  · omega

theorem shortA_any (s : ByteArray) (w : World) (hs : s.size ≤ maxLen) :
    Calls Tryd.prog 8 #[.string s] w fun e w' => e = .returned (.string (short5 s)) ∧ w = w' := by
  unfold maxLen at hs
  by_cases h : 200 < s.size
  · have e : short5 s = s.extract 0 200 := if_pos h
    rw [e]; clear e
    go_enter Tryd.func8, Tryd.ntmps8
    go_wp2
    go_ret
    exact ⟨rfl, rfl⟩
  · have e : short5 s = s := if_neg h
    rw [e]; clear e
    go_enter Tryd.func8, Tryd.ntmps8
    go_wp2
    go_ret
    exact ⟨rfl, rfl⟩

set_option maxRecDepth 20000 in
theorem shownA_any (w : World) (ht : TBL w) : Calls Tryd.prog 7 #[] w fun e w' => e = .returned (.bool true) ∧ Below w.heap.size w w' := by
  have hc := apop_any ⟨#[60, 49, 56, 57, 54, 46, 54, 57, 55, 49, 55, 48, 57, 53, 50, 64, 100, 98, 99, 46, 109, 116, 118, 105, 101, 119, 46, 99, 97, 46, 117, 115, 62]⟩ ⟨#[116, 97, 110, 115, 116, 97, 97, 102]⟩ w (by decide) (by decide) ht
  have HC : Hid (Calls Tryd.prog 17 #[.string ⟨#[60, 49, 56, 57, 54, 46, 54, 57, 55, 49, 55, 48, 57, 53, 50, 64, 100, 98, 99, 46, 109, 116, 118, 105, 101, 119, 46, 99, 97, 46, 117, 115, 62]⟩, .string ⟨#[116, 97, 110, 115, 116, 97, 97, 102]⟩] w fun e w' =>
      e = .returned (sv [99, 52, 99, 57, 51, 51, 52, 98, 97, 99, 53, 54, 48, 101, 99, 99, 57, 55, 57, 101, 53, 56, 48, 48, 49, 98, 51, 101, 50, 50, 102, 98]) ∧ Below w.heap.size w w') := by
    have e := Au.apop_shown
    refine Lib.hid (hc.mono ?_)
    rintro e2 w' ⟨rfl, hb⟩
    exact ⟨congrArg (fun x => Ending.returned (sv x)) e, hb⟩
  clear hc
  go_enter Tryd.func7, Tryd.ntmps7
  go_wp2_with fail
  refine Calls.mono HC.out ?_
  rintro e w3 ⟨rfl, hb3⟩
  rw [sv]
  clear HC
  go_wp2
  go_ret
  exact ⟨rfl, hb3⟩
end Go.Proofs.YtjogdflhpciciaaDoor
