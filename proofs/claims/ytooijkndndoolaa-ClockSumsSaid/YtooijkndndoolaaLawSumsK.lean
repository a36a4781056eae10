/- ClockSums, walked: ticks add up, in any order; those that are none do nothing; the time stops short of never: of any two numbers of ticks. -/
import Derived.Test.YtooijkndndoolaaClockLaw
import Derived.Test.YtooijkndndoolaaFrame
namespace Go.Proofs.Ytooijkndndoolaa
open Go.RowKit Go.ChangeShapes Go.WideShapes Go.ChangeAt

theorem sum_lt {a b : Int} (h : max a 0 < 9223372036854775806 - min (max b 0) 9223372036854775806) : Cl.sum a b = max a 0 + max b 0 := by unfold Cl.sum; rw [if_pos h]
theorem sum_ge {a b : Int} (h : ¬ max a 0 < 9223372036854775806 - min (max b 0) 9223372036854775806) : Cl.sum a b = 9223372036854775806 := by unfold Cl.sum; rw [if_neg h]

set_option maxHeartbeats 4000000 in
theorem lawSumsK (a b : Int) (ha : (Lit.int .i64 a).wf = true) (hb : (Lit.int .i64 b).wf = true) (w : World) :
    Calls Try.prog 5 #[.int .i64 a, .int .i64 b] w fun e w' => e = .returned (.bool true) ∧ Below w.heap.size w w' := by
  have ha0 := bounds_i64 ha
  have hb0 := bounds_i64 hb
  have hA : -9223372036854775808 ≤ a ∧ a ≤ 9223372036854775807 := ⟨by omega, by omega⟩
  have hB : -9223372036854775808 ≤ b ∧ b ≤ 9223372036854775807 := ⟨by omega, by omega⟩
  clear ha hb ha0 hb0
  obtain ⟨s0, s1, s2⟩ := Cl.sums_law a b
  have hone : Cl.after 0 a = min (max a 0) 9223372036854775806 := by rw [s0]; omega
  obtain ⟨x, hx⟩ : ∃ x, max a 0 = x := ⟨_, rfl⟩
  obtain ⟨y, hy⟩ : ∃ y, max b 0 = y := ⟨_, rfl⟩
  obtain ⟨z, hz⟩ : ∃ z, Cl.after 0 a = z := ⟨_, rfl⟩
  obtain ⟨z', hz'⟩ : ∃ z', Cl.after 0 b = z' := ⟨_, rfl⟩
  obtain ⟨m, hm⟩ : ∃ m, min y 9223372036854775806 = m := ⟨_, rfl⟩
  have hx0 : 0 ≤ x ∧ x ≤ 9223372036854775807 := by omega
  have hy0 : 0 ≤ y ∧ y ≤ 9223372036854775807 := by omega
  have hm0 : 0 ≤ m ∧ m ≤ 9223372036854775806 := by omega
  have HZ := Lib.hid hz
  have HZ' := Lib.hid hz'
  have key : ∀ S : Int, Cl.sum a b = S → (x < 9223372036854775806 - m ∧ S = x + y ∨ ¬ x < 9223372036854775806 - m ∧ S = 9223372036854775806) := fun S hS => by
    unfold Cl.sum at hS
    rw [hx, hy, hm] at hS
    split at hS
    · exact .inl ⟨‹_›, hS.symm⟩
    · exact .inr ⟨‹_›, hS.symm⟩
  obtain ⟨S, hS⟩ : ∃ S, Cl.sum a b = S := ⟨_, rfl⟩
  have hk := key S hS
  rw [hz, hS] at s1
  rw [hz', hS] at s2
  rw [hz, hx] at hone
  replace hone := hone.symm
  have mx : (if a < 0 then 0 else a) = x := by rw [← hx]; split <;> omega
  have my : (if b < 0 then 0 else b) = y := by rw [← hy]; split <;> omega
  have HS1 := Lib.hid s1
  have HS2 := Lib.hid s2
  have HHA := Lib.hid hA
  have HHB := Lib.hid hB
  clear key hS s0 s1 s2 hz hz' hx hy hA hB
  have hone2 : (if 9223372036854775806 < x then 9223372036854775806 else x) = z := by rw [← hone]; split <;> omega
  have hm2 : (if 9223372036854775806 < y then 9223372036854775806 else y) = m := by rw [← hm]; split <;> omega
  clear hone hm
  have HF := Lib.hid (And.intro hone2 (And.intro mx (And.intro my hm2)))
  have HV := Lib.hid (And.intro hx0 (And.intro hy0 hm0))
  clear hone2 mx my hm2 hx0 hy0 hm0
  rcases hk with ⟨hlt, rfl⟩ | ⟨hlt, rfl⟩
  all_goals
    have HH := Lib.hid hlt
    clear hlt
    go_enter Try.func5, Try.ntmps5
    go_wp2_with fail
    refine (shown_any _).mono ?_
    rintro e w1 ⟨rfl, hb1⟩
    have HB1 := Lib.hid hb1
    clear hb1
    go_wp2_with fail
    refine (new_any _).mono ?_
    rintro e w2 ⟨rfl, hb2, hc2⟩
    have HB2 := Lib.hid (HB1.out.trans (hb2.mono HB1.out.size))
    have HC2 := Lib.hid hc2
    have HG := Lib.hid HB1.out.size
    generalize w1.heap.size = g at *
    clear hb2 hc2 HB1
    go_wp2_with fail
    refine (new_any _).mono ?_
    rintro e w3 ⟨rfl, hb3, hc3⟩
    have HB3 := Lib.hid (HB2.out.trans (hb3.mono HB2.out.size))
    have HC3 := Lib.hid (HC2.out.next hb3)
    have HD3 := Lib.hid hc3
    have HK := Lib.hid HB2.out.size
    have HNE := Lib.hid (Nat.ne_of_lt HC2.out.lt)
    generalize w2.heap.size = k at *
    clear hb3 hc3 HB2 HC2
    go_wp2_with fail
    refine (tick_any HC3.out HHA.out).mono ?_
    rintro e w4 ⟨rfl, hc4, ho4⟩
    have HB4 := Lib.hid (HB3.out.trans (ho4.below HG.out HB3.out.size))
    have HD4 := Lib.hid (HD3.out.apart ho4 HNE.out.symm)
    have HC4 := Lib.hid (HZ.out ▸ hc4)
    clear hc4 ho4 HB3 HC3 HD3
    go_wp2_with fail
    refine (now_any HC4.out).mono ?_
    rintro e w' ⟨rfl, hw⟩
    obtain rfl := hw
    go_wp2_with fail
    refine (tick_any HC4.out HHB.out).mono ?_
    rintro e w5 ⟨rfl, hc5, ho5⟩
    have HB5 := Lib.hid (HB4.out.trans (ho5.below HG.out HB4.out.size))
    have HD5 := Lib.hid (HD4.out.apart ho5 HNE.out.symm)
    have HC5 := Lib.hid (HS1.out ▸ hc5)
    clear hc5 ho5 HB4 HC4 HD4
    go_wp2_with fail
    refine (tick_any HD5.out HHB.out).mono ?_
    rintro e w6 ⟨rfl, hc6, ho6⟩
    have HB6 := Lib.hid (HB5.out.trans (ho6.below HK.out HB5.out.size))
    have HC6 := Lib.hid (HC5.out.apart ho6 HNE.out)
    have HD6 := Lib.hid (HZ'.out ▸ hc6)
    clear hc6 ho6 HB5 HC5 HD5
    go_wp2_with fail
    refine (tick_any HD6.out HHA.out).mono ?_
    rintro e w7 ⟨rfl, hc7, ho7⟩
    have HB7 := Lib.hid (HB6.out.trans (ho7.below HK.out HB6.out.size))
    have HC7 := Lib.hid (HC6.out.apart ho7 HNE.out)
    have HD7 := Lib.hid (HS2.out ▸ hc7)
    clear hc7 ho7 HB6 HC6 HD6 HNE
    obtain ⟨hone, mx, my, hm⟩ := HF.out
    obtain ⟨hx0, hy0, hm0⟩ := HV.out
    have hlt := HH.out
    go_wp2_with fail
    refine (now_any HC7.out).mono ?_
    rintro e w' ⟨rfl, hw⟩
    obtain rfl := hw
    go_wp2_with fail
    refine (now_any HD7.out).mono ?_
    rintro e w' ⟨rfl, hw⟩
    obtain rfl := hw
    go_wp2
    go_ret
    exact ⟨rfl, HB7.out⟩
end Go.Proofs.Ytooijkndndoolaa
