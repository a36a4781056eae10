/- A reply comes: Reply, walked. -/
import Derived.Test.YtimieknphedniaaPipeR
namespace Go.Proofs.Ytimieknphedniaa
open Go.RowKit

/-- A reply that tells nothing but its code. -/
def repV (s : ByteArray) : Value := .agg #[.string s, .slice none 0 0, .slice none 0 0]

section
variable {w : World} {g : Nat} {l : List Wt} {x : Wt}
theorem nobody_any (h : PO w g []) (p : Int) (s : ByteArray) : Calls Try.prog 11 #[.pointer (some ⟨g, 0, none⟩), .int .i64 p, repV s] w fun e w' => e = .returned (.tuple #[Wt.zero.val, .bool false, .bool false]) ∧ Below w.heap.size w w' := by
  obtain ⟨w1, hw1⟩ : ∃ x, w.alloc (.cells #[.string s, .slice none 0 0, .slice none 0 0] 40) = x := ⟨_, rfl⟩
  have hb1 : Below w.heap.size w w1 := by rw [← hw1]; exact (Below.refl _ w).alloc (Nat.le_refl _) _
  have hs1 : w1.heap.size = w.heap.size + 1 := by rw [← hw1]; simp
  obtain ⟨w2, hw2⟩ : ∃ x, w1.alloc (.cells #[.string ⟨#[]⟩, .string ⟨#[]⟩, .bool false, .int .i64 0] 31) = x := ⟨_, rfl⟩
  have hb2 : Below w.heap.size w w2 := by rw [← hw2]; exact hb1.alloc (by omega) _
  have hz : WB w2 (w.heap.size + 1) Wt.zero := by rw [← hw2, ← hs1]; exact WB.new w1 Wt.zero
  have h2 := h.next hb2
  have hH := head_any h2 Wt.zero rfl false (by simp)
  have HB2 := Lib.hid hb2
  have HZ := Lib.hid hz
  clear h2 hz hb2 hb1 h
  unfold repV Wt.val
  unfold Wt.val at hH
  dsimp only [Wt.zero] at hH ⊢
  go_enter Try.func11, Try.ntmps11
  go_wp2_with fail
  refine hH.mono ?_
  rintro e w3 ⟨rfl, hb3⟩
  clear hw1 hw2 hH
  have hz3 := HZ.out.next hb3
  have hb3' := HB2.out.trans (hb3.mono HB2.out.size)
  have f3 := hz3.froz
  have z0 := hz3.c0
  have z1 := hz3.c1
  have z2 := hz3.c2
  have z3 := hz3.c3
  dsimp only [Wt.zero] at z0 z1 z2 z3
  obtain ⟨w4, hw4⟩ : ∃ x, (((w3.setCell ⟨w.heap.size + 1, 0, none⟩ (.string ⟨#[]⟩)).setCell ⟨w.heap.size + 1, 1, none⟩ (.string ⟨#[]⟩)).setCell ⟨w.heap.size + 1, 2, none⟩ (.bool false)).setCell ⟨w.heap.size + 1, 3, none⟩ (.int .i64 0) = x := ⟨_, rfl⟩
  have hz4 : WB w4 (w.heap.size + 1) Wt.zero := by rw [← hw4]; exact hz3.put Wt.zero
  have hb4 : Below w.heap.size w w4 := by rw [← hw4]; exact setN_below (by omega) Wt.zero.cells 0 hb3'
  have f4 := hz4.froz
  have y0 := hz4.c0
  have y1 := hz4.c1
  have y2 := hz4.c2
  have y3 := hz4.c3
  dsimp only [Wt.zero] at y0 y1 y2 y3
  obtain ⟨w5, hw5⟩ : ∃ x, (((w4.setCell ⟨w.heap.size + 1, 0, none⟩ (.string ⟨#[]⟩)).setCell ⟨w.heap.size + 1, 1, none⟩ (.string ⟨#[]⟩)).setCell ⟨w.heap.size + 1, 2, none⟩ (.bool false)).setCell ⟨w.heap.size + 1, 3, none⟩ (.int .i64 0) = x := ⟨_, rfl⟩
  have hz5 : WB w5 (w.heap.size + 1) Wt.zero := by rw [← hw5]; exact hz4.put Wt.zero
  have hb5 : Below w.heap.size w w5 := by rw [← hw5]; exact setN_below (by omega) Wt.zero.cells 0 hb4
  have HB5 := Lib.hid hb5
  have d0 := hz5.c0
  have d1 := hz5.c1
  have d2 := hz5.c2
  have d3 := hz5.c3
  dsimp only [Wt.zero] at d0 d1 d2 d3
  clear hb5 hb4 hb3 hb3' hz3 hz4 hz5
  go_wp2
  refine bodyPost_ret (v := .tuple #[.agg #[.string ⟨#[]⟩, .string ⟨#[]⟩, .bool false, .int .i64 0], .bool false, .bool false]) (by simp [results, Try.results11, go_sem, d0, d1, d2, d3]) rfl ⟨rfl, HB5.out⟩

theorem reply_stays (h : PO w g (x :: l)) (p : Int) (s : ByteArray) (hf : fin p s = false) : Calls Try.prog 11 #[.pointer (some ⟨g, 0, none⟩), .int .i64 p, repV s] w fun e w' => e = .returned (.tuple #[x.val, .bool false, .bool true]) ∧ PO w' g (x :: l) ∧ Trn (· = g) w w' := by
  have hgw := h.lt
  obtain ⟨xt, xc, xb, xd⟩ := x
  obtain ⟨w1, hw1⟩ : ∃ x, w.alloc (.cells #[.string s, .slice none 0 0, .slice none 0 0] 40) = x := ⟨_, rfl⟩
  have hb1 : Below w.heap.size w w1 := by rw [← hw1]; exact (Below.refl _ w).alloc (Nat.le_refl _) _
  have hs1 : w1.heap.size = w.heap.size + 1 := by rw [← hw1]; simp
  have hr1 : w1.heap[w.heap.size]? = some (.cells #[.string s, .slice none 0 0, .slice none 0 0] 40 (0, 0)) := by rw [← hw1]; exact heap_alloc_new _ _
  obtain ⟨w2, hw2⟩ : ∃ x, w1.alloc (.cells #[.string ⟨#[]⟩, .string ⟨#[]⟩, .bool false, .int .i64 0] 31) = x := ⟨_, rfl⟩
  have hb2 : Below w.heap.size w w2 := by rw [← hw2]; exact hb1.alloc (by omega) _
  have hs2 : w2.heap.size = w.heap.size + 2 := by rw [← hw2]; simp [hs1]
  have hz : WB w2 (w.heap.size + 1) Wt.zero := by rw [← hw2, ← hs1]; exact WB.new w1 Wt.zero
  have hr2 : w2.heap[w.heap.size]? = some (.cells #[.string s, .slice none 0 0, .slice none 0 0] 40 (0, 0)) := by rw [← hw2, heap_alloc_old _ _ (by omega)]; exact hr1
  have h2 := h.next hb2
  have hH := head_any h2 ⟨xt, xc, xb, xd⟩ rfl true (by simp)
  have HB2 := Lib.hid hb2
  have HZ := Lib.hid hz
  have HR := Lib.hid hr2
  have HP := Lib.hid h2
  have HG := Lib.hid hgw
  have HS2 := Lib.hid hs2
  clear h2 hz hb2 hb1 h hr2 hr1 hgw hs2
  unfold repV Wt.val
  unfold Wt.val at hH
  dsimp only at hH ⊢
  go_enter Try.func11, Try.ntmps11
  go_wp2_with fail
  refine hH.mono ?_
  rintro e w3 ⟨rfl, hb3⟩
  clear hw1 hw2 hH
  have hz3 := HZ.out.next hb3
  have hb3' := HB2.out.trans (hb3.mono HB2.out.size)
  have f3 := hz3.froz
  have z0 := hz3.c0
  have z1 := hz3.c1
  have z2 := hz3.c2
  have z3 := hz3.c3
  dsimp only [Wt.zero] at z0 z1 z2 z3
  obtain ⟨w4, hw4⟩ : ∃ x, (((w3.setCell ⟨w.heap.size + 1, 0, none⟩ (.string xt)).setCell ⟨w.heap.size + 1, 1, none⟩ (.string xc)).setCell ⟨w.heap.size + 1, 2, none⟩ (.bool xb)).setCell ⟨w.heap.size + 1, 3, none⟩ (.int .i64 xd) = x := ⟨_, rfl⟩
  have hz4 : WB w4 (w.heap.size + 1) ⟨xt, xc, xb, xd⟩ := by rw [← hw4]; exact hz3.put ⟨xt, xc, xb, xd⟩
  have hb4 : Below w.heap.size w w4 := by rw [← hw4]; exact setN_below (by omega) (Wt.mk xt xc xb xd).cells 0 hb3'
  have hr4 : w4.heap[w.heap.size]? = some (.cells #[.string s, .slice none 0 0, .slice none 0 0] 40 (0, 0)) := by
    rw [← hw4]
    refine (setN_other (q := w.heap.size + 1) (by omega) (Wt.mk xt xc xb xd).cells 0).trans ((hb3.block _ ?_).trans HR.out)
    rw [HS2.out]; omega
  have r0 : w4.cell? ⟨w.heap.size, 0, none⟩ = some (.string s) := cell_of_row _ _ _ _ _ _ hr4
  have hp4 : PO w4 g (⟨xt, xc, xb, xd⟩ :: l) := by
    refine (HP.out.next hb3).same ?_
    rw [← hw4]
    exact setN_other (q := w.heap.size + 1) (by have := HG.out; omega) (Wt.mk xt xc xb xd).cells 0
  have hF := final_any p s w4
  rw [hf] at hF
  clear hf
  have HZ4 := Lib.hid hz4
  have HB4 := Lib.hid hb4
  have HP4 := Lib.hid hp4
  clear hb4 hb3 hb3' hz3 hz4 hp4 hr4
  have f4 := HZ4.out.froz
  have y0 := HZ4.out.c0
  have y1 := HZ4.out.c1
  have y2 := HZ4.out.c2
  have y3 := HZ4.out.c3
  dsimp only at y0 y1 y2 y3
  obtain ⟨w5, hw5⟩ : ∃ x, (((w4.setCell ⟨w.heap.size + 1, 0, none⟩ (.string xt)).setCell ⟨w.heap.size + 1, 1, none⟩ (.string xc)).setCell ⟨w.heap.size + 1, 2, none⟩ (.bool xb)).setCell ⟨w.heap.size + 1, 3, none⟩ (.int .i64 xd) = x := ⟨_, rfl⟩
  have hz5 : WB w5 (w.heap.size + 1) ⟨xt, xc, xb, xd⟩ := by rw [← hw5]; exact HZ4.out.put ⟨xt, xc, xb, xd⟩
  have hb5 : Below w.heap.size w w5 := by rw [← hw5]; exact setN_below (by omega) (Wt.mk xt xc xb xd).cells 0 HB4.out
  have hp5 : PO w5 g (⟨xt, xc, xb, xd⟩ :: l) := HP4.out.same (by rw [← hw5]; exact setN_other (q := w.heap.size + 1) (by have := HG.out; omega) (Wt.mk xt xc xb xd).cells 0)
  have HP5 := Lib.hid hp5
  have HB5 := Lib.hid hb5
  have d0 := hz5.c0
  have d1 := hz5.c1
  have d2 := hz5.c2
  have d3 := hz5.c3
  dsimp only at d0 d1 d2 d3
  clear hb5 hp5 hz5
  go_wp2_with (refine hF.mono ?_; rintro e w' ⟨rfl, hw⟩; obtain rfl := hw.symm)
  refine bodyPost_ret (v := .tuple #[.agg #[.string xt, .string xc, .bool xb, .int .i64 xd], .bool false, .bool true]) (by simp [results, Try.results11, go_sem, d0, d1, d2, d3]) rfl ⟨rfl, HP5.out, Trn.of_below HB5.out⟩
theorem reply_goes (h : PO w g (x :: l)) (p : Int) (s : ByteArray) (hf : fin p s = true) : Calls Try.prog 11 #[.pointer (some ⟨g, 0, none⟩), .int .i64 p, repV s] w fun e w' => e = .returned (.tuple #[x.val, .bool true, .bool true]) ∧ PO w' g (l) ∧ Trn (· = g) w w' := by
  have hgw := h.lt
  obtain ⟨xt, xc, xb, xd⟩ := x
  obtain ⟨w1, hw1⟩ : ∃ x, w.alloc (.cells #[.string s, .slice none 0 0, .slice none 0 0] 40) = x := ⟨_, rfl⟩
  have hb1 : Below w.heap.size w w1 := by rw [← hw1]; exact (Below.refl _ w).alloc (Nat.le_refl _) _
  have hs1 : w1.heap.size = w.heap.size + 1 := by rw [← hw1]; simp
  have hr1 : w1.heap[w.heap.size]? = some (.cells #[.string s, .slice none 0 0, .slice none 0 0] 40 (0, 0)) := by rw [← hw1]; exact heap_alloc_new _ _
  obtain ⟨w2, hw2⟩ : ∃ x, w1.alloc (.cells #[.string ⟨#[]⟩, .string ⟨#[]⟩, .bool false, .int .i64 0] 31) = x := ⟨_, rfl⟩
  have hb2 : Below w.heap.size w w2 := by rw [← hw2]; exact hb1.alloc (by omega) _
  have hs2 : w2.heap.size = w.heap.size + 2 := by rw [← hw2]; simp [hs1]
  have hz : WB w2 (w.heap.size + 1) Wt.zero := by rw [← hw2, ← hs1]; exact WB.new w1 Wt.zero
  have hr2 : w2.heap[w.heap.size]? = some (.cells #[.string s, .slice none 0 0, .slice none 0 0] 40 (0, 0)) := by rw [← hw2, heap_alloc_old _ _ (by omega)]; exact hr1
  have h2 := h.next hb2
  have hH := head_any h2 ⟨xt, xc, xb, xd⟩ rfl true (by simp)
  have HB2 := Lib.hid hb2
  have HZ := Lib.hid hz
  have HR := Lib.hid hr2
  have HP := Lib.hid h2
  have HG := Lib.hid hgw
  have HS2 := Lib.hid hs2
  clear h2 hz hb2 hb1 h hr2 hr1 hgw hs2
  unfold repV Wt.val
  unfold Wt.val at hH
  dsimp only at hH ⊢
  go_enter Try.func11, Try.ntmps11
  go_wp2_with fail
  refine hH.mono ?_
  rintro e w3 ⟨rfl, hb3⟩
  clear hw1 hw2 hH
  have hz3 := HZ.out.next hb3
  have hb3' := HB2.out.trans (hb3.mono HB2.out.size)
  have f3 := hz3.froz
  have z0 := hz3.c0
  have z1 := hz3.c1
  have z2 := hz3.c2
  have z3 := hz3.c3
  dsimp only [Wt.zero] at z0 z1 z2 z3
  obtain ⟨w4, hw4⟩ : ∃ x, (((w3.setCell ⟨w.heap.size + 1, 0, none⟩ (.string xt)).setCell ⟨w.heap.size + 1, 1, none⟩ (.string xc)).setCell ⟨w.heap.size + 1, 2, none⟩ (.bool xb)).setCell ⟨w.heap.size + 1, 3, none⟩ (.int .i64 xd) = x := ⟨_, rfl⟩
  have hz4 : WB w4 (w.heap.size + 1) ⟨xt, xc, xb, xd⟩ := by rw [← hw4]; exact hz3.put ⟨xt, xc, xb, xd⟩
  have hb4 : Below w.heap.size w w4 := by rw [← hw4]; exact setN_below (by omega) (Wt.mk xt xc xb xd).cells 0 hb3'
  have hr4 : w4.heap[w.heap.size]? = some (.cells #[.string s, .slice none 0 0, .slice none 0 0] 40 (0, 0)) := by
    rw [← hw4]
    refine (setN_other (q := w.heap.size + 1) (by omega) (Wt.mk xt xc xb xd).cells 0).trans ((hb3.block _ ?_).trans HR.out)
    rw [HS2.out]; omega
  have r0 : w4.cell? ⟨w.heap.size, 0, none⟩ = some (.string s) := cell_of_row _ _ _ _ _ _ hr4
  have hp4 : PO w4 g (⟨xt, xc, xb, xd⟩ :: l) := by
    refine (HP.out.next hb3).same ?_
    rw [← hw4]
    exact setN_other (q := w.heap.size + 1) (by have := HG.out; omega) (Wt.mk xt xc xb xd).cells 0
  have hF := final_any p s w4
  rw [hf] at hF
  clear hf
  have HZ4 := Lib.hid hz4
  have HB4 := Lib.hid hb4
  have HP4 := Lib.hid hp4
  clear hb4 hb3 hb3' hz3 hz4 hp4 hr4
  have hL := leave_any HP4.out
  go_wp2_with (go_at_call 20; refine hF.mono ?_; rintro e w' ⟨rfl, hw⟩; obtain rfl := hw.symm; clear hF)
  refine hL.mono ?_
  rintro e w5 ⟨rfl, hp5, ht5⟩
  have hz5 : WB w5 (w.heap.size + 1) ⟨xt, xc, xb, xd⟩ := HZ4.out.apart ht5 (by have := HG.out; omega)
  have f5 := hz5.froz
  have e0 := hz5.c0
  have e1 := hz5.c1
  have e2 := hz5.c2
  have e3 := hz5.c3
  dsimp only at e0 e1 e2 e3
  obtain ⟨w6, hw6⟩ : ∃ x, (((w5.setCell ⟨w.heap.size + 1, 0, none⟩ (.string xt)).setCell ⟨w.heap.size + 1, 1, none⟩ (.string xc)).setCell ⟨w.heap.size + 1, 2, none⟩ (.bool xb)).setCell ⟨w.heap.size + 1, 3, none⟩ (.int .i64 xd) = x := ⟨_, rfl⟩
  have hz6 : WB w6 (w.heap.size + 1) ⟨xt, xc, xb, xd⟩ := by rw [← hw6]; exact hz5.put ⟨xt, xc, xb, xd⟩
  have hp6 : PO w6 g l := hp5.same (by rw [← hw6]; exact setN_other (q := w.heap.size + 1) (by have := HG.out; omega) (Wt.mk xt xc xb xd).cells 0)
  have ht6 : Trn (· = g) w w6 := by
    have h1 := (Trn.of_below (F := (· = g)) HB4.out).then ht5
    rw [← hw6]
    refine ⟨?_, ?_, ?_, ?_, fun k hk hkg => ?_⟩
    · exact h1.os
    · exact h1.tape
    · exact h1.output
    · simpa [World.setCell] using h1.size
    · exact (setN_other (q := w.heap.size + 1) (by omega) (Wt.mk xt xc xb xd).cells 0).trans (h1.block k hk hkg)
  have HP6 := Lib.hid hp6
  have HT6 := Lib.hid ht6
  have d0 := hz6.c0
  have d1 := hz6.c1
  have d2 := hz6.c2
  have d3 := hz6.c3
  dsimp only at d0 d1 d2 d3
  clear hp5 ht5 hz5 hz6 hp6 ht6 hL
  go_wp2
  refine bodyPost_ret (v := .tuple #[.agg #[.string xt, .string xc, .bool xb, .int .i64 xd], .bool true, .bool true]) (by simp [results, Try.results11, go_sem, d0, d1, d2, d3]) rfl ⟨rfl, HP6.out, HT6.out⟩
end
end Go.Proofs.Ytimieknphedniaa
