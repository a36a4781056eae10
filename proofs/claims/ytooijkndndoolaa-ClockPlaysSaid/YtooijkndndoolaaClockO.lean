/- When it is too late, in memory: one number in a block of its own; New, Now, Due, Late, Tick, walked. -/
import Derived.Test.YtooijkndndoolaaClockP
import Derived.Test.YtooijkndndoolaaRd
import Derived.Test.YtooijkndndoolaaBits
namespace Go.Proofs.Ytooijkndndoolaa
open Go.RowKit

/-- Block g holds the time. -/
structure CO (w : World) (g : Nat) (t : Int) : Prop where
  c : w.heap[g]? = some (.cells #[.int .i64 t] 37 (0, 0))
  on : Cl.On t
/-- Of what was there, block g alone may have turned. -/
structure OnlyAt (g : Nat) (w w' : World) : Prop where
  os : w'.os = w.os
  tape : w'.tape = w.tape
  output : w'.output = w.output
  size : w.heap.size ≤ w'.heap.size
  block : ∀ k, k < w.heap.size → k ≠ g → w'.heap[k]? = w.heap[k]?
section
variable {w w' : World} {g : Nat} {t : Int}
theorem CO.lt (h : CO w g t) : g < w.heap.size := (Array.getElem?_eq_some_iff.1 h.c).1
theorem CO.next (h : CO w g t) (hb : Below w.heap.size w w') : CO w' g t := ⟨(hb.block _ h.lt).trans h.c, h.on⟩
theorem CO.apart {k : Nat} (h : CO w g t) (hT : OnlyAt k w w') (hk : g ≠ k) : CO w' g t := ⟨(hT.block _ h.lt hk).trans h.c, h.on⟩
theorem CO.c0 (h : CO w g t) : w.cell? ⟨g, 0, none⟩ = some (.int .i64 t) := cell_of_row _ _ _ _ _ _ h.c
theorem CO.f0 (h : CO w g t) : w.frozen? ⟨g, 0, none⟩ = false := frozen_of_row _ _ _ _ _ h.c
theorem CO.set (h : CO w g t) {n : Int} (hn : Cl.On n) : CO (w.setCell ⟨g, 0, none⟩ (.int .i64 n)) g n := ⟨(setCell_row h.c).trans rfl, hn⟩
theorem OnlyAt.of_set (hb : Below w.heap.size w w') (u : Value) : OnlyAt g w (w'.setCell ⟨g, 0, none⟩ u) :=
  ⟨hb.os, hb.tape, hb.output, by simpa [World.setCell] using hb.size, fun k hk h1 => (Below.heap_setCell _ _ _ _ h1).trans (hb.block k hk)⟩
theorem OnlyAt.below {B : Nat} (h : OnlyAt g w w') (hg : B ≤ g) (hB : B ≤ w.heap.size) : Below B w w' :=
  ⟨h.os, h.tape, h.output, h.size, fun k hk => h.block k (by omega) (by omega)⟩
end

/-- The time n ticks on, but at most m. -/
def onto (t n m : Int) : Int := if m - t < n then m else t + max 0 n
theorem onto_after {t n : Int} (ht : Cl.On t) : onto t n 9223372036854775806 = Cl.after t n := by
  obtain ⟨h0, h1⟩ := ht; unfold onto Cl.after; (repeat' split) <;> omega
theorem onto_due {t n : Int} (ht : Cl.On t) (hn : 1 ≤ n) : onto t n 9223372036854775807 = Cl.due t n := by
  obtain ⟨h0, h1⟩ := ht; unfold onto Cl.due; (repeat' split) <;> omega

theorem later_any {t n m : Int} (ht : Cl.On t) (hn : -9223372036854775808 ≤ n ∧ n ≤ 9223372036854775807) (hm : t ≤ m ∧ m ≤ 9223372036854775807) (w : World) :
    Calls Try.prog 16 #[.agg #[.int .i64 t], .int .i64 n, .int .i64 m] w fun e w' => e = .returned (.int .i64 (onto t n m)) ∧ Below w.heap.size w w' := by
  have hb : Below w.heap.size w (w.alloc (.cells #[.int .i64 t] 35)) := (Below.refl _ _).alloc (Nat.le_refl _) _
  have HB := Lib.hid hb
  obtain ⟨h0, h1⟩ := ht
  clear hb
  unfold onto
  by_cases h : m - t < n
  · rw [if_pos h]
    go_enter Try.func16, Try.ntmps16
    go_wp2
    go_ret
    exact ⟨rfl, HB.out⟩
  · rw [if_neg h]
    by_cases hz : 0 < n
    · have e : max 0 n = n := by omega
      rw [e]
      clear e
      go_enter Try.func16, Try.ntmps16
      go_wp2
      go_ret
      exact ⟨rfl, HB.out⟩
    · have e : max 0 n = 0 := by omega
      rw [e]
      clear e
      go_enter Try.func16, Try.ntmps16
      go_wp2
      go_ret
      exact ⟨rfl, HB.out⟩

theorem new_any (w : World) : Calls Try.prog 8 #[] w fun e w' => e = .returned (.pointer (some ⟨w.heap.size, 0, none⟩)) ∧ Below w.heap.size w w' ∧ CO w' w.heap.size 0 := by
  go_enter Try.func8, Try.ntmps8
  go_wp2
  go_ret
  exact ⟨rfl, (Below.refl _ _).alloc (Nat.le_refl _) _, ⟨heap_alloc_new w _, Cl.on_zero⟩⟩

section
variable {w : World} {g : Nat} {t : Int}
theorem now_any (h : CO w g t) : Calls Try.prog 9 #[.pointer (some ⟨g, 0, none⟩)] w fun e w' => e = .returned (.int .i64 t) ∧ w = w' := by
  have c0 := h.c0
  clear h
  go_enter Try.func9, Try.ntmps9
  go_wp2
  go_ret
  exact ⟨rfl, rfl⟩
theorem due_any (h : CO w g t) {d : Int} (hd : -9223372036854775808 ≤ d ∧ d ≤ 9223372036854775807) : Calls Try.prog 10 #[.pointer (some ⟨g, 0, none⟩), .int .i64 d] w fun e w' => e = .returned (.int .i64 (Cl.due t d)) ∧ Below w.heap.size w w' := by
  have c0 := h.c0
  have ho := h.on
  clear h
  by_cases h1 : d < 1
  · have e : Cl.due t d = 9223372036854775807 := by unfold Cl.due; rw [if_pos (.inl h1)]
    rw [e]
    clear e ho
    go_enter Try.func10, Try.ntmps10
    go_wp2
    go_ret
    exact ⟨rfl, Below.refl _ _⟩
  · have hl := fun w => later_any ho hd (m := 9223372036854775807) ⟨by have := ho.2; omega, by omega⟩ w
    rw [onto_due ho (by omega)] at hl
    clear ho
    generalize Cl.due t d = x at *
    go_enter Try.func10, Try.ntmps10
    go_wp2_with fail
    refine (hl _).mono ?_
    rintro e w' ⟨rfl, hb⟩
    clear hl
    go_wp2
    go_ret
    exact ⟨rfl, hb⟩
theorem late_any (h : CO w g t) {n : Int} (due : Int) (hn : -9223372036854775808 ≤ n ∧ n ≤ 9223372036854775807) : Calls Try.prog 12 #[.pointer (some ⟨g, 0, none⟩), .int .i64 n, .int .i64 due] w fun e w' => e = .returned (.bool (Cl.late t n due)) ∧ Below w.heap.size w w' := by
  have c0 := h.c0
  have ho := h.on
  have hl := fun w => later_any ho hn (m := 9223372036854775806) ⟨ho.2, by omega⟩ w
  rw [onto_after ho] at hl
  have hx := Cl.on_after (n := n) ho
  have e : Cl.late t n due = decide (due ≤ Cl.after t n) := by
    rw [Bool.eq_iff_iff, Cl.late_iff, decide_eq_true_iff]
    have := hx.2
    omega
  rw [e]
  clear ho h e hx
  generalize Cl.after t n = x at *
  go_enter Try.func12, Try.ntmps12
  go_wp2_with fail
  refine (hl _).mono ?_
  rintro e w' ⟨rfl, hb⟩
  clear hl
  go_wp2
  go_ret
  exact ⟨rfl, hb⟩
theorem tick_any (h : CO w g t) {n : Int} (hn : -9223372036854775808 ≤ n ∧ n ≤ 9223372036854775807) : Calls Try.prog 14 #[.pointer (some ⟨g, 0, none⟩), .int .i64 n] w fun e w' => e = .returned (.tuple #[]) ∧ CO w' g (Cl.after t n) ∧ OnlyAt g w w' := by
  have c0 := h.c0
  have ho := h.on
  have hl := fun w => later_any ho hn (m := 9223372036854775806) ⟨ho.2, by omega⟩ w
  rw [onto_after ho] at hl
  have HX := Lib.hid (Cl.on_after (n := n) ho)
  have HC := Lib.hid h
  clear ho h
  generalize Cl.after t n = x at *
  go_enter Try.func14, Try.ntmps14
  go_wp2_with fail
  refine (hl _).mono ?_
  rintro e w1 ⟨rfl, hb⟩
  have h1 := HC.out.next hb
  have d0 := h1.c0
  have f0 := h1.f0
  have HR := Lib.hid (h1.set HX.out)
  have HO := Lib.hid (OnlyAt.of_set (g := g) hb (.int .i64 x))
  clear hl h1 hb c0
  go_wp2
  go_end0
  exact ⟨rfl, HR.out, HO.out⟩
end
end Go.Proofs.Ytooijkndndoolaa
