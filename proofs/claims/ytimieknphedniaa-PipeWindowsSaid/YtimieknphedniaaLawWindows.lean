/- PipeWindows, walked: a window is one without the server's leave, and of Ftp; and else what is asked for, from one to eight: of any numbers. -/
import Derived.Test.YtimieknphedniaaPipeLaw
namespace Go.Proofs.Ytimieknphedniaa
open Go.RowKit

theorem lawWindowsP (p a : Int) (_hp : (Lit.int .i64 p).wf = true) (_ha : (Lit.int .i64 a).wf = true) (w : World) :
    Calls Try.prog 6 #[.int .i64 p, .int .i64 a] w fun e w' => e = .returned (.bool true) ∧ Below w.heap.size w w' := by
  have hS := shown_any w
  have hA := fun w => window_any p a true w
  have hB := fun w => window_any p a false w
  have hw := Pi.window_law (p == 3) a
  generalize Pi.window (p == 3) true a = x at *
  obtain ⟨h0, h1, h2, h3, h4⟩ := hw
  rw [h0] at hB
  have k1 : (x < 1) = False := eq_false (by omega)
  have k2 : (8 < x) = False := eq_false (by omega)
  by_cases h : p = 3
  · subst h
    have hx : x = 1 := h3 rfl
    subst hx
    clear h0 h1 h2 h3 h4 k1 k2
    go_enter Try.func6, Try.ntmps6
    go_wp2_with fail
    refine hS.mono ?_
    rintro e w1 ⟨rfl, hb⟩
    have HB := Lib.hid hb
    clear hS hb
    go_wp2_with fail
    refine (hA _).mono ?_
    rintro e w' ⟨rfl, hw⟩
    obtain rfl := hw
    clear hA
    go_wp2_with fail
    refine (hB _).mono ?_
    rintro e w' ⟨rfl, hw⟩
    obtain rfl := hw
    clear hB
    go_wp2
    go_ret
    exact ⟨rfl, HB.out⟩
  · have e1 : (p == 3) = false := beq_eq_false_iff_ne.2 h
    have e2 : (p = 3) = False := eq_false h
    have h5 := h4 e1
    clear h0 h3 h4
    rcases h5 with ⟨h5, rfl⟩ | ⟨h5, rfl⟩ | rfl
    · have c1 : (a < 1) = True := eq_true h5
      clear h5 h1 h2 k1 k2
      go_enter Try.func6, Try.ntmps6
      go_wp2_with fail
      refine hS.mono ?_
      rintro e w1 ⟨rfl, hb⟩
      have HB := Lib.hid hb
      clear hS hb
      go_wp2_with fail
      refine (hA _).mono ?_
      rintro e w' ⟨rfl, hw⟩
      obtain rfl := hw
      clear hA
      go_wp2_with fail
      refine (hB _).mono ?_
      rintro e w' ⟨rfl, hw⟩
      obtain rfl := hw
      clear hB
      go_wp2
      go_ret
      exact ⟨rfl, HB.out⟩
    · have c1 : (a < 1) = False := eq_false (by omega)
      have c2 : (8 < a) = True := eq_true h5
      clear h5 h1 h2 k1 k2
      go_enter Try.func6, Try.ntmps6
      go_wp2_with fail
      refine hS.mono ?_
      rintro e w1 ⟨rfl, hb⟩
      have HB := Lib.hid hb
      clear hS hb
      go_wp2_with fail
      refine (hA _).mono ?_
      rintro e w' ⟨rfl, hw⟩
      obtain rfl := hw
      clear hA
      go_wp2_with fail
      refine (hB _).mono ?_
      rintro e w' ⟨rfl, hw⟩
      obtain rfl := hw
      clear hB
      go_wp2
      go_ret
      exact ⟨rfl, HB.out⟩
    · go_enter Try.func6, Try.ntmps6
      go_wp2_with fail
      refine hS.mono ?_
      rintro e w1 ⟨rfl, hb⟩
      have HB := Lib.hid hb
      clear hS hb
      go_wp2_with fail
      refine (hA _).mono ?_
      rintro e w' ⟨rfl, hw⟩
      obtain rfl := hw
      clear hA
      go_wp2_with fail
      refine (hB _).mono ?_
      rintro e w' ⟨rfl, hw⟩
      obtain rfl := hw
      clear hB
      go_wp2
      all_goals
        go_ret
        exact ⟨rfl, HB.out⟩
end Go.Proofs.Ytimieknphedniaa
