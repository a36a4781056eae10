/- Who waits: New, Push, Len, Window, walked. -/
import Derived.Test.YtimieknphedniaaPipeCp
import Derived.Test.YtimieknphedniaaHeld
import Derived.Test.YtimieknphedniaaBits
import Derived.StillTailTactics
namespace Go.Proofs.Ytimieknphedniaa
open Go.RowKit

theorem new_any (w : World) : Calls Try.prog 8 #[] w fun e w' => e = .returned (.pointer (some ⟨w.heap.size, 0, none⟩)) ∧ Below w.heap.size w w' ∧ PO w' w.heap.size [] := by
  go_enter Try.func8, Try.ntmps8
  go_wp2
  go_ret
  exact ⟨rfl, (Below.refl _ _).alloc (Nat.le_refl _) _, ⟨heap_alloc_new w _, Nat.zero_le _⟩⟩

section
variable {w : World} {g : Nat} {l : List Wt}
theorem len_any (h : PO w g l) : Calls Try.prog 15 #[.pointer (some ⟨g, 0, none⟩)] w fun e w' => e = .returned (.int .i64 (l.length : Int)) ∧ w = w' := by
  have c0 := h.cnt
  clear h
  go_enter Try.func15, Try.ntmps15
  go_wp2
  go_ret
  exact ⟨rfl, rfl⟩
theorem full_any (h : PO w g l) (x : Wt) (hl : l.length = 8) : Calls Try.prog 9 #[.pointer (some ⟨g, 0, none⟩), x.val] w fun e w' => e = .returned (.bool false) ∧ Below w.heap.size w w' := by
  obtain ⟨xt, xc, xb, xd⟩ := x
  have c0 := (h.next ((Below.refl _ w).alloc (Nat.le_refl _) (.cells #[.string xt, .string xc, .bool xb, .int .i64 xd] 31))).cnt
  rw [hl] at c0
  clear h hl
  unfold Wt.val
  go_enter Try.func9, Try.ntmps9
  go_wp2
  go_ret
  exact ⟨rfl, (Below.refl _ _).alloc (Nat.le_refl _) _⟩
theorem push_any (h : PO w g l) (x : Wt) (hl : l.length < 8) : Calls Try.prog 9 #[.pointer (some ⟨g, 0, none⟩), x.val] w fun e w' => e = .returned (.bool true) ∧ PO w' g (l ++ [x]) ∧ Trn (· = g) w w' := by
  obtain ⟨xt, xc, xb, xd⟩ := x
  obtain ⟨w1, hw1⟩ : ∃ x, w.alloc (.cells #[.string xt, .string xc, .bool xb, .int .i64 xd] 31) = x := ⟨_, rfl⟩
  have HT := Lib.hid (show Trn (· = g) w w1 by rw [← hw1]; exact (Trn.refl (· = g) w).alloc _)
  have h1 : PO w1 g l := h.next (by rw [← hw1]; exact (Below.refl _ w).alloc (Nat.le_refl _) _)
  have HP := Lib.hid h1
  have hb : w1.heap[w.heap.size]? = some (.cells #[.string xt, .string xc, .bool xb, .int .i64 xd] 31 (0, 0)) := by rw [← hw1]; exact heap_alloc_new _ _
  have x0 : w1.cell? ⟨w.heap.size, 0, none⟩ = some (.string xt) := cell_of_row _ _ _ _ _ _ hb
  have x1 : w1.cell? ⟨w.heap.size, 1, none⟩ = some (.string xc) := cell_of_row _ _ _ _ _ _ hb
  have x2 : w1.cell? ⟨w.heap.size, 2, none⟩ = some (.bool xb) := cell_of_row _ _ _ _ _ _ hb
  have x3 : w1.cell? ⟨w.heap.size, 3, none⟩ = some (.int .i64 xd) := cell_of_row _ _ _ _ _ _ hb
  have c0 := h1.cnt
  have f0 := h1.froz
  obtain ⟨u0, k0⟩ := h1.has (j := l.length) (i := 0) hl (by decide)
  obtain ⟨u1, k1⟩ := h1.has (j := l.length) (i := 1) hl (by decide)
  obtain ⟨u2, k2⟩ := h1.has (j := l.length) (i := 2) hl (by decide)
  obtain ⟨u3, k3⟩ := h1.has (j := l.length) (i := 3) hl (by decide)
  have hs := h1.store ⟨xt, xc, xb, xd⟩ hl
  have HT2 := Lib.hid (show Trn (· = g) w (setN w1 g (l.length * 4) (Wt.mk xt xc xb xd).cells).drew from by have h1 := setN_trn (F := (· = g)) rfl (Wt.mk xt xc xb xd).cells (l.length * 4) HT.out; exact ⟨h1.os, h1.tape, h1.output, h1.size, h1.block⟩)
  have HSN := Lib.hid hs
  clear hs
  have HL := Lib.hid hl
  rw [Nat.add_zero] at k0
  clear h1 h hb
  generalize hn : l.length = n at *
  have HN := Lib.hid hn
  clear hn
  have hn8 : ((n : Int) == 8) = false := beq_eq_false_iff_ne.2 (by omega)
  have hn8' : ((n : Int) = 8) = False := eq_false (by omega)
  have hn9 : (n : Int) < 8 := by omega
  have HLT := Lib.hid hl
  clear hl
  unfold Wt.val
  go_enter Try.func9, Try.ntmps9
  go_wp2_with fail
  clear hw1
  go_region
  obtain ⟨w3, hw3⟩ : ∃ x, ((((w1.setCell ⟨g, n * 4, none⟩ (.string xt)).setCell ⟨g, n * 4 + 1, none⟩ (.string xc)).setCell ⟨g, n * 4 + 2, none⟩ (.bool xb)).setCell ⟨g, n * 4 + 3, none⟩ (.int .i64 xd)).drew = x := ⟨_, rfl⟩
  rw [hw3]
  have hr : NewRow w3 g l ⟨xt, xc, xb, xd⟩ := by rw [← hw3]; exact HSN.out
  have ht : Trn (· = g) w w3 := by rw [← hw3]; exact HT2.out
  clear hw3 k0 k1 k2 k3 c0 f0 HT2 HSN
  have hlt : l.length < 8 := by rw [HN.out]; exact HLT.out
  have q0 := hr.cnt hlt
  have q1 := hr.froz 32
  have q2 := Lib.hid (hr.push hlt)
  have q3 := Lib.hid (ht.setCell (g := g) (i := 32) rfl (.int .i64 ((n + 1 : Nat) : Int)))
  rw [HN.out] at q0 q2
  have i1 : IntKind.i64.wrap ((n : Int) + 1) = ((n + 1 : Nat) : Int) := by rw [wraps_i64 _ (by omega) (by omega)]; omega
  clear hlt hr ht
  go_wp2
  go_ret
  exact ⟨rfl, q2.out, q3.out⟩
end
end Go.Proofs.Ytimieknphedniaa
