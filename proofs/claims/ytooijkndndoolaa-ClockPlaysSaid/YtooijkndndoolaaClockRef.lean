/- When it is too late: the reference's After, Due, Late, walked. -/
import Derived.Test.YtooijkndndoolaaClockP
import Derived.Test.YtooijkndndoolaaRd
namespace Go.Proofs.Ytooijkndndoolaa
open Go.RowKit

theorem rafter_any {t n : Int} (ht : Cl.On t) (hn : -9223372036854775808 ≤ n ∧ n ≤ 9223372036854775807) (w : World) :
    Calls Try.prog 15 #[.int .i64 t, .int .i64 n] w fun e w' => e = .returned (.int .i64 (Cl.after t n)) ∧ w = w' := by
  obtain ⟨h0, h1⟩ := ht
  unfold Cl.after
  by_cases h : n < 1
  · rw [if_pos h]
    go_enter Try.func15, Try.ntmps15
    go_wp2
    go_ret
    exact ⟨rfl, rfl⟩
  · rw [if_neg h]
    by_cases h2 : 9223372036854775806 - t < n
    · rw [if_pos h2]
      go_enter Try.func15, Try.ntmps15
      go_wp2
      go_ret
      exact ⟨rfl, rfl⟩
    · rw [if_neg h2]
      go_enter Try.func15, Try.ntmps15
      go_wp2
      go_ret
      exact ⟨rfl, rfl⟩

theorem rdue_any {t n : Int} (ht : Cl.On t) (hn : -9223372036854775808 ≤ n ∧ n ≤ 9223372036854775807) (w : World) :
    Calls Try.prog 11 #[.int .i64 t, .int .i64 n] w fun e w' => e = .returned (.int .i64 (Cl.due t n)) ∧ w = w' := by
  obtain ⟨h0, h1⟩ := ht
  by_cases h : n < 1
  · have e : Cl.due t n = 9223372036854775807 := by unfold Cl.due; rw [if_pos (.inl h)]
    rw [e]
    clear e
    go_enter Try.func11, Try.ntmps11
    go_wp2
    go_ret
    exact ⟨rfl, rfl⟩
  · by_cases h2 : 9223372036854775807 - t ≤ n
    · have e : Cl.due t n = 9223372036854775807 := by unfold Cl.due; rw [if_pos (.inr h2)]
      rw [e]
      clear e
      go_enter Try.func11, Try.ntmps11
      go_wp2
      go_ret
      exact ⟨rfl, rfl⟩
    · have e : Cl.due t n = t + n := by unfold Cl.due; rw [if_neg (by omega)]
      rw [e]
      clear e
      go_enter Try.func11, Try.ntmps11
      go_wp2
      go_ret
      exact ⟨rfl, rfl⟩

theorem rlate_any {t n : Int} (due : Int) (ht : Cl.On t) (hn : -9223372036854775808 ≤ n ∧ n ≤ 9223372036854775807) (w : World) :
    Calls Try.prog 13 #[.int .i64 t, .int .i64 n, .int .i64 due] w fun e w' => e = .returned (.bool (Cl.late t n due)) ∧ w = w' := by
  have hr := fun w => rafter_any ht hn w
  unfold Cl.late
  generalize Cl.after t n = x at *
  by_cases h : due = 9223372036854775807
  · subst h
    go_enter Try.func13, Try.ntmps13
    clear hr
    go_wp2
    go_ret
    exact ⟨ret_b (by simp), rfl⟩
  · have h1 : (due == 9223372036854775807) = false := beq_eq_false_iff_ne.2 h
    have h2 : (due = 9223372036854775807) = False := eq_false h
    have h3 : (due != 9223372036854775807) = true := by simp [h]
    have e : (decide (due ≠ 9223372036854775807) && decide (due ≤ x)) = decide (due ≤ x) := by simp [h]
    rw [e]
    clear e h
    go_enter Try.func13, Try.ntmps13
    go_wp2_with (refine (hr _).mono ?_; rintro e w' ⟨rfl, hw⟩; obtain rfl := hw; clear hr)
    go_ret
    exact ⟨rfl, rfl⟩
end Go.Proofs.Ytooijkndndoolaa
