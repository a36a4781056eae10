/- When it is too late, in plain words (layer 20). Laid in round 17, ahead of stage 20. Init alone. -/
namespace Go.Proofs.Ytooijkndndoolaa
namespace Cl
/-- The time, n more; what is due in d; whether it is late. 9223372036854775807 is never. -/
def after (now n : Int) : Int := if n < 1 then now else if 9223372036854775806 - now < n then 9223372036854775806 else now + n
def due (now d : Int) : Int := if d < 1 ∨ 9223372036854775807 - now ≤ d then 9223372036854775807 else now + d
def late (now n due : Int) : Bool := decide (due ≠ 9223372036854775807) && decide (due ≤ after now n)
theorem late_iff (now n x : Int) : late now n x = true ↔ x ≠ 9223372036854775807 ∧ x ≤ after now n := by simp [late]
theorem late_not (now n x : Int) : late now n x = false ↔ x = 9223372036854775807 ∨ after now n < x := by
  rw [← Bool.not_eq_true, late_iff]; omega
/-- A time that is one. -/
def On (now : Int) : Prop := 0 ≤ now ∧ now ≤ 9223372036854775806
theorem on_zero : On 0 := by constructor <;> decide
theorem on_after {now n : Int} (h : On now) : On (after now n) := by
  obtain ⟨h0, h1⟩ := h; unfold after On; split <;> (try split) <;> omega
theorem after_ge {now n : Int} (h : On now) : now ≤ after now n := by
  obtain ⟨h0, h1⟩ := h; unfold after; split <;> (try split) <;> omega
theorem due_range {now d : Int} (h : On now) : 0 ≤ due now d ∧ due now d ≤ 9223372036854775807 := by
  obtain ⟨h0, h1⟩ := h; unfold due; split <;> omega
theorem after_zero (n : Int) : after 0 n = max (min n 9223372036854775806) 0 := by unfold after; split <;> (try split) <;> omega
/-- As a program may have it, by min and max. -/
theorem after_min {now n : Int} (h : On now) : after now n = now + min (max n 0) (9223372036854775806 - now) := by
  obtain ⟨h0, h1⟩ := h; unfold after; split <;> (try split) <;> omega
/-- Many ticks. -/
def all (now : Int) (l : List Int) : Int := l.foldl after now
theorem all_snoc (now : Int) (l : List Int) (n : Int) : all now (l ++ [n]) = after (all now l) n := by simp [all]
theorem all_take (now : Int) (l : List Int) {i : Nat} (h : i < l.length) : all now (l.take (i + 1)) = after (all now (l.take i)) l[i] := by
  rw [List.take_succ_eq_append_getElem h, all_snoc]
theorem on_all (l : List Int) : ∀ now, On now → On (all now l) := by
  induction l with
  | nil => exact fun _ h => h
  | cons n l ih => exact fun _ h => ih _ (on_after h)

/-- ClockLate: never. -/
theorem never_law {now d : Int} (hd : d < 1 ∨ 9223372036854775806 - now < d) :
    due now d = 9223372036854775807 ∧ ∀ n, late now n (due now d) = false := by
  have e : due now d = 9223372036854775807 := by unfold due; rw [if_pos (by omega)]
  exact ⟨e, fun n => (late_not _ _ _).2 (.inl e)⟩
/-- ClockLate: at just the tick, however it is cut. -/
theorem late_law {now d cut : Int} (h : On now) (h1 : 1 ≤ d) (h2 : d ≤ 9223372036854775806 - now) :
    due now d = now + d ∧ late now (d - 1) (now + d) = false ∧ late now d (now + d) = true
    ∧ late (after now (min (max cut 0) (d - 1))) (d - min (max cut 0) (d - 1) - 1) (now + d) = false
    ∧ late (after now (min (max cut 0) (d - 1))) (d - min (max cut 0) (d - 1)) (now + d) = true
    ∧ after (after now (min (max cut 0) (d - 1))) (d - min (max cut 0) (d - 1)) = now + d
    ∧ late (now + d) 0 (now + d) = true ∧ late (now + d) (-5) (now + d) = true := by
  obtain ⟨h3, h4⟩ := h
  obtain ⟨f, hf, hf0, hf1⟩ : ∃ f, f = min (max cut 0) (d - 1) ∧ 0 ≤ f ∧ f ≤ d - 1 := ⟨_, rfl, by omega, by omega⟩
  rw [← hf]
  have step : ∀ n, 0 ≤ n → n ≤ d → after now n = now + n := by
    intro n a b; unfold after; split <;> (try split) <;> omega
  have step2 : ∀ n, 0 ≤ n → n ≤ d - f → after (now + f) n = now + f + n := by
    intro n a b; unfold after; split <;> (try split) <;> omega
  have e1 := step f hf0 (by omega)
  refine ⟨by unfold due; rw [if_neg (by omega)], (late_not _ _ _).2 (.inr (by rw [step _ (by omega) (by omega)]; omega)),
    (late_iff _ _ _).2 ⟨by omega, by rw [step _ (by omega) (by omega)]; omega⟩, (late_not _ _ _).2 (.inr ?_), (late_iff _ _ _).2 ⟨by omega, ?_⟩, ?_,
    (late_iff _ _ _).2 ⟨by omega, ?_⟩, (late_iff _ _ _).2 ⟨by omega, ?_⟩⟩
  · rw [e1, step2 _ (by omega) (by omega)]; omega
  · rw [e1, step2 _ (by omega) (by omega)]; omega
  · rw [e1, step2 _ (by omega) (by omega)]; omega
  · unfold after; rw [if_pos (by decide)]; omega
  · unfold after; rw [if_pos (by decide)]; omega
/-- ClockSums. -/
def sum (a b : Int) : Int :=
  if max a 0 < 9223372036854775806 - min (max b 0) 9223372036854775806 then max a 0 + max b 0 else 9223372036854775806
theorem sums_law (a b : Int) : after 0 a = max (min a 9223372036854775806) 0 ∧ after (after 0 a) b = sum a b ∧ after (after 0 b) a = sum a b := by
  refine ⟨after_zero a, ?_, ?_⟩ <;> · unfold after sum; (repeat' split) <;> omega
/-- ClockDue: ticks of up to 2^30, 20 of them at most. -/
theorem due_law {now n p : Int} (h0 : 0 ≤ now) (h1 : now ≤ 21474836480) (n0 : 0 ≤ n) (n1 : n ≤ 1073741823) (p1 : 1 ≤ p) (p2 : p ≤ 1073741824) :
    due now p = now + p ∧ late now n (now + p) = decide (p ≤ n) ∧ late now n (now + p + 1) = decide (p < n) ∧ after now n = now + n
    ∧ late now p 9223372036854775807 = false := by
  have e : after now n = now + n := by unfold after; split <;> (try split) <;> omega
  refine ⟨by unfold due; rw [if_neg (by omega)], ?_, ?_, e, (late_not _ _ _).2 (.inl rfl)⟩
  · rw [Bool.eq_iff_iff, late_iff, e, decide_eq_true_iff]; omega
  · rw [Bool.eq_iff_iff, late_iff, e, decide_eq_true_iff]; omega
theorem all_small (l : List Int) (m : Nat) (h : ∀ x ∈ l, 0 ≤ x ∧ x ≤ 1073741823) (hl : l.length ≤ m) (hm : m ≤ 20) :
    all 0 l = l.foldl (· + ·) 0 ∧ 0 ≤ all 0 l ∧ all 0 l ≤ (m : Int) * 1073741823 := by
  have : ∀ (l : List Int) (now : Int) (k : Nat), 0 ≤ now → now ≤ (k : Int) * 1073741823 → (∀ x ∈ l, 0 ≤ x ∧ x ≤ 1073741823) → k + l.length ≤ m →
      all now l = l.foldl (· + ·) now ∧ 0 ≤ all now l ∧ all now l ≤ (m : Int) * 1073741823 := by
    intro l
    induction l with
    | nil => intro now k h0 h1 _ h3; simp at h3; exact ⟨rfl, h0, by simp only [all, List.foldl_nil]; omega⟩
    | cons x l ih =>
      intro now k h0 h1 h2 h3
      simp at h3
      have hx := h2 x List.mem_cons_self
      have e : after now x = now + x := by unfold after; split <;> (try split) <;> omega
      show all (after now x) l = l.foldl (· + ·) (now + x) ∧ _ ∧ all (after now x) l ≤ _
      have := ih (now + x) (k + 1) (by omega) (by omega) (fun y hy => h2 y (List.mem_cons_of_mem _ hy)) (by omega)
      rw [e]; refine ⟨this.1, ?_, this.2.2⟩
      show 0 ≤ all (after now x) l
      rw [e]; exact this.2.1
  exact this l 0 0 (Int.le_refl _) (by omega) h (by omega)
end Cl
end Go.Proofs.Ytooijkndndoolaa
