/- ClockLate, walked: what is due in some ticks is late at just the tick that brings the time there, however it is cut; what would be beyond all times never is: of any numbers. -/
import Derived.Test.YtooijkndndoolaaClockLaw
import Derived.Test.YtooijkndndoolaaFrame
namespace Go.Proofs.Ytooijkndndoolaa
open Go.RowKit Go.ChangeShapes Go.WideShapes Go.ChangeAt

set_option maxHeartbeats 4000000 in
theorem lawLateK (a d c : Int) (ha : (Lit.int .i64 a).wf = true) (hd : (Lit.int .i64 d).wf = true) (_hc : (Lit.int .i64 c).wf = true) (w : World) :
    Calls Try.prog 4 #[.int .i64 a, .int .i64 d, .int .i64 c] w fun e w' => e = .returned (.bool true) ∧ Below w.heap.size w w' := by
  have hA : -9223372036854775808 ≤ a ∧ a ≤ 9223372036854775807 := by have := bounds_i64 ha; exact ⟨by omega, by omega⟩
  have hD : -9223372036854775808 ≤ d ∧ d ≤ 9223372036854775807 := by have := bounds_i64 hd; exact ⟨by omega, by omega⟩
  have hT := Cl.on_after (n := a) Cl.on_zero
  have h0 := Cl.after_zero a
  obtain ⟨t, ht⟩ : ∃ t, Cl.after 0 a = t := ⟨_, rfl⟩
  obtain ⟨q, hq⟩ : ∃ q, min a 9223372036854775806 = q := ⟨_, rfl⟩
  rw [ht] at hT h0
  rw [hq] at h0
  have m1 : (if 9223372036854775806 < a then 9223372036854775806 else a) = q := by rw [← hq]; split <;> omega
  have m2 : (if q < 0 then 0 else q) = t := by rw [h0]; split <;> omega
  have HT := Lib.hid ht
  have HO := Lib.hid hT
  have HA := Lib.hid hA
  have HD := Lib.hid hD
  have HM := Lib.hid (And.intro m1 m2)
  clear ha hd _hc hA hD h0 ht hq m1 m2 hT
  by_cases hn : d < 1 ∨ 9223372036854775806 - t < d
  · obtain ⟨n1, n2⟩ := Cl.never_law hn
    rw [n1] at n2
    have N1 := Lib.hid n1
    have N2 := Lib.hid n2
    have HN := Lib.hid hn
    clear n1 n2 hn
    go_enter Try.func4, Try.ntmps4
    go_wp2_with fail
    refine (shown_any _).mono ?_
    rintro e w1 ⟨rfl, hb1⟩
    have HB1 := Lib.hid hb1
    clear hb1
    go_wp2_with fail
    refine (new_any _).mono ?_
    rintro e w2 ⟨rfl, hb2, hc2⟩
    have HBx := Lib.hid (HB1.out.trans (hb2.mono HB1.out.size))
    have HCx := Lib.hid hc2
    have HG := Lib.hid HB1.out.size
    generalize w1.heap.size = g at *
    clear hb2 hc2 HB1
    have hk := tick_any HCx.out HA.out
    rw [HT.out] at hk
    go_wp2_with fail
    refine hk.mono ?_
    rintro e wk1 ⟨rfl, hc, ho⟩
    replace HBx := Lib.hid (HBx.out.trans (ho.below HG.out HBx.out.size))
    replace HCx := Lib.hid hc
    clear hk hc ho
    obtain ⟨m1, m2⟩ := HM.out
    obtain ⟨t0, t1⟩ := HO.out
    clear HM
    have hk := due_any HCx.out HD.out
    rw [N1.out] at hk
    go_wp2_with fail
    refine hk.mono ?_
    rintro e wk2 ⟨rfl, hb⟩
    replace HBx := Lib.hid (HBx.out.trans (hb.mono HBx.out.size))
    replace HCx := Lib.hid (HCx.out.next hb)
    clear hk hb
    clear m1 m2
    rcases HN.out with hn | hn
    all_goals
      have hk := late_any HCx.out (n := 9223372036854775807) 9223372036854775807 (by decide)
      rw [N2.out] at hk
      go_wp2_with fail
      refine hk.mono ?_
      rintro e wk3 ⟨rfl, hb⟩
      replace HBx := Lib.hid (HBx.out.trans (hb.mono HBx.out.size))
      replace HCx := Lib.hid (HCx.out.next hb)
      clear hk hb
      have hk := late_any HCx.out 9223372036854775807 HD.out
      rw [N2.out] at hk
      go_wp2_with fail
      refine hk.mono ?_
      rintro e wk4 ⟨rfl, hb⟩
      replace HBx := Lib.hid (HBx.out.trans (hb.mono HBx.out.size))
      replace HCx := Lib.hid (HCx.out.next hb)
      clear hk hb
      go_wp2
      go_ret
      exact ⟨rfl, HBx.out⟩
  · have h1 : 1 ≤ d := by omega
    have h2 : d ≤ 9223372036854775806 - t := by omega
    obtain ⟨x1, x2, x3, x4, x5, x6, x7, x8⟩ := Cl.late_law (cut := c) HO.out h1 h2
    obtain ⟨f, hf⟩ : ∃ f, min (max c 0) (d - 1) = f := ⟨_, rfl⟩
    obtain ⟨r, hr⟩ : ∃ r, max c 0 = r := ⟨_, rfl⟩
    have hf0 : 0 ≤ f ∧ f ≤ d - 1 := by omega
    have m3 : (if c < 0 then 0 else c) = r := by rw [← hr]; split <;> omega
    have m4 : (if d - 1 < r then d - 1 else r) = f := by rw [← hf, hr]; split <;> omega
    rw [hf] at x4 x5 x6
    have X1 := Lib.hid x1
    have X2 := Lib.hid x2
    have X3 := Lib.hid x3
    have X4 := Lib.hid x4
    have X5 := Lib.hid x5
    have X6 := Lib.hid x6
    have X7 := Lib.hid x7
    have X8 := Lib.hid x8
    have HF := Lib.hid hf0
    have HM2 := Lib.hid (And.intro m3 m4)
    have HN := Lib.hid (And.intro h1 h2)
    clear x1 x2 x3 x4 x5 x6 x7 x8 hf0 m3 m4 h1 h2 hn hf hr
    go_enter Try.func4, Try.ntmps4
    go_wp2_with fail
    refine (shown_any _).mono ?_
    rintro e w1 ⟨rfl, hb1⟩
    have HB1 := Lib.hid hb1
    clear hb1
    go_wp2_with fail
    refine (new_any _).mono ?_
    rintro e w2 ⟨rfl, hb2, hc2⟩
    have HBx := Lib.hid (HB1.out.trans (hb2.mono HB1.out.size))
    have HCx := Lib.hid hc2
    have HG := Lib.hid HB1.out.size
    generalize w1.heap.size = g at *
    clear hb2 hc2 HB1
    have hk := tick_any HCx.out HA.out
    rw [HT.out] at hk
    go_wp2_with fail
    refine hk.mono ?_
    rintro e wk5 ⟨rfl, hc, ho⟩
    replace HBx := Lib.hid (HBx.out.trans (ho.below HG.out HBx.out.size))
    replace HCx := Lib.hid hc
    clear hk hc ho
    obtain ⟨m1, m2⟩ := HM.out
    obtain ⟨t0, t1⟩ := HO.out
    clear HM
    have hk := due_any HCx.out HD.out
    rw [X1.out] at hk
    go_wp2_with fail
    refine hk.mono ?_
    rintro e wk6 ⟨rfl, hb⟩
    replace HBx := Lib.hid (HBx.out.trans (hb.mono HBx.out.size))
    replace HCx := Lib.hid (HCx.out.next hb)
    clear hk hb
    obtain ⟨h1, h2⟩ := HN.out
    clear m1 m2
    have hk := late_any HCx.out (n := d - 1) (t + d) (by have := HD.out; omega)
    rw [X2.out] at hk
    go_wp2_with fail
    refine hk.mono ?_
    rintro e wk7 ⟨rfl, hb⟩
    replace HBx := Lib.hid (HBx.out.trans (hb.mono HBx.out.size))
    replace HCx := Lib.hid (HCx.out.next hb)
    clear hk hb
    have hk := late_any HCx.out (t + d) HD.out
    rw [X3.out] at hk
    go_wp2_with fail
    refine hk.mono ?_
    rintro e wk8 ⟨rfl, hb⟩
    replace HBx := Lib.hid (HBx.out.trans (hb.mono HBx.out.size))
    replace HCx := Lib.hid (HCx.out.next hb)
    clear hk hb
    obtain ⟨m3, m4⟩ := HM2.out
    obtain ⟨f0, f1⟩ := HF.out
    have hk := tick_any HCx.out (n := f) (by have := HD.out; omega)
    go_wp2_with fail
    refine hk.mono ?_
    rintro e wk9 ⟨rfl, hc, ho⟩
    replace HBx := Lib.hid (HBx.out.trans (ho.below HG.out HBx.out.size))
    replace HCx := Lib.hid hc
    clear hk hc ho
    clear m3 m4
    have hk := late_any HCx.out (n := d - f - 1) (t + d) (by have := HD.out; omega)
    rw [X4.out] at hk
    go_wp2_with fail
    refine hk.mono ?_
    rintro e wk10 ⟨rfl, hb⟩
    replace HBx := Lib.hid (HBx.out.trans (hb.mono HBx.out.size))
    replace HCx := Lib.hid (HCx.out.next hb)
    clear hk hb
    have hk := late_any HCx.out (n := d - f) (t + d) (by have := HD.out; omega)
    rw [X5.out] at hk
    go_wp2_with fail
    refine hk.mono ?_
    rintro e wk11 ⟨rfl, hb⟩
    replace HBx := Lib.hid (HBx.out.trans (hb.mono HBx.out.size))
    replace HCx := Lib.hid (HCx.out.next hb)
    clear hk hb
    have hk := tick_any HCx.out (n := d - f) (by have := HD.out; omega)
    rw [X6.out] at hk
    go_wp2_with fail
    refine hk.mono ?_
    rintro e wk12 ⟨rfl, hc, ho⟩
    replace HBx := Lib.hid (HBx.out.trans (ho.below HG.out HBx.out.size))
    replace HCx := Lib.hid hc
    clear hk hc ho
    have hk := now_any HCx.out
    go_wp2_with fail
    refine hk.mono ?_
    rintro e w' ⟨rfl, hw⟩
    obtain rfl := hw.symm
    clear hk hw
    have hk := late_any HCx.out (n := 0) (t + d) (by decide)
    rw [X7.out] at hk
    go_wp2_with fail
    refine hk.mono ?_
    rintro e wk13 ⟨rfl, hb⟩
    replace HBx := Lib.hid (HBx.out.trans (hb.mono HBx.out.size))
    replace HCx := Lib.hid (HCx.out.next hb)
    clear hk hb
    have hk := late_any HCx.out (n := -5) (t + d) (by decide)
    rw [X8.out] at hk
    go_wp2_with fail
    refine hk.mono ?_
    rintro e wk14 ⟨rfl, hb⟩
    replace HBx := Lib.hid (HBx.out.trans (hb.mono HBx.out.size))
    replace HCx := Lib.hid (HCx.out.next hb)
    clear hk hb
    go_wp2
    go_ret
    exact ⟨rfl, HBx.out⟩
end Go.Proofs.Ytooijkndndoolaa
