/- The reference's wire: Ask walked. (Laid by wip/tools/gen_wref3.py.) -/
import Derived.Test.YtneifmnlailipaaWRefSent
namespace Go.Proofs.Ytneifmnlailipaa
open Go.RowKit

/-- Six cells stored, one behind the other. -/
theorem put6 {w : World} {g o : Nat} {D : Array Value} {T : TypeId} (h : w.heap[g]? = some (.cells D T (0, 0))) (hs : o + 6 ≤ D.size) (v0 v1 v2 v3 v4 v5 : Value) :
    ∃ D', ((((((w.setCell ⟨g, o, none⟩ v0).setCell ⟨g, o + 1, none⟩ v1).setCell ⟨g, o + 2, none⟩ v2).setCell ⟨g, o + 3, none⟩ v3).setCell ⟨g, o + 4, none⟩ v4).setCell ⟨g, o + 5, none⟩ v5).heap[g]? = some (.cells D' T (0, 0)) ∧ D'.size = D.size ∧ D'[o]? = some v0 ∧ D'[o + 1]? = some v1 ∧ D'[o + 2]? = some v2 ∧ D'[o + 3]? = some v3 ∧ D'[o + 4]? = some v4 ∧ D'[o + 5]? = some v5 ∧ ∀ j, j < o ∨ o + 6 ≤ j → D'[j]? = D[j]? := by
  refine ⟨((((((D.setIfInBounds (o) v0).setIfInBounds (o + 1) v1).setIfInBounds (o + 2) v2).setIfInBounds (o + 3) v3).setIfInBounds (o + 4) v4).setIfInBounds (o + 5) v5), (setCell_row (setCell_row (setCell_row (setCell_row (setCell_row (setCell_row h)))))), by simp, ?_, ?_, ?_, ?_, ?_, ?_, fun j hj => ?_⟩
  all_goals simp only [Array.getElem?_setIfInBounds, Array.size_setIfInBounds]
  · rw [if_neg (by omega)]; rw [if_neg (by omega)]; rw [if_neg (by omega)]; rw [if_neg (by omega)]; rw [if_neg (by omega)]; rw [if_pos trivial, if_pos (by omega)]
  · rw [if_neg (by omega)]; rw [if_neg (by omega)]; rw [if_neg (by omega)]; rw [if_neg (by omega)]; rw [if_pos trivial, if_pos (by omega)]
  · rw [if_neg (by omega)]; rw [if_neg (by omega)]; rw [if_neg (by omega)]; rw [if_pos trivial, if_pos (by omega)]
  · rw [if_neg (by omega)]; rw [if_neg (by omega)]; rw [if_pos trivial, if_pos (by omega)]
  · rw [if_neg (by omega)]; rw [if_pos trivial, if_pos (by omega)]
  · rw [if_pos trivial, if_pos (by omega)]
  · rw [if_neg (by omega)]; rw [if_neg (by omega)]; rw [if_neg (by omega)]; rw [if_neg (by omega)]; rw [if_neg (by omega)]; rw [if_neg (by omega)]
theorem put6_tn (w : World) (g o : Nat) (v0 v1 v2 v3 v4 v5 : Value) : Tn (fun k => k = g) w ((((((w.setCell ⟨g, o, none⟩ v0).setCell ⟨g, o + 1, none⟩ v1).setCell ⟨g, o + 2, none⟩ v2).setCell ⟨g, o + 3, none⟩ v3).setCell ⟨g, o + 4, none⟩ v4).setCell ⟨g, o + 5, none⟩ v5) :=
  tn_and (tn_and (tn_and (tn_and (tn_and (tn_set _ _ _ _) (tn_set _ _ _ _)) (tn_set _ _ _ _)) (tn_set _ _ _ _)) (tn_set _ _ _ _)) (tn_set _ _ _ _)

section
variable {w w3 : World} {B g : Nat} {F : Nat → Prop} {W : Wi.Wm}
/-- A connection that is asked for stands in the place of the second one. -/
theorem RW.asked (h : RW w B g F W) (hb : Below w.heap.size w w3) {gq : Nat} {so sw : Value} (hq : RO w3 w.heap.size gq (.slice none 0 0) 4000 [] 0) (ho : Rd w3 so (W.b.sent.map bv)) (hw : Rd w3 sw (W.b.written.map bv)) (b1 : ∀ k, so.ownBlock = some k → gq < k ∧ k < w3.heap.size) (b2 : ∀ k, sw.ownBlock = some k → gq < k ∧ k < w3.heap.size) :
    Rs B g F w (W.upd 1 W.b.asked) ((((((w3.setCell ⟨g, 6, none⟩ (.int .i64 1)).setCell ⟨g, 6 + 1, none⟩ (.int .i64 0)).setCell ⟨g, 6 + 2, none⟩ (.bool false)).setCell ⟨g, 6 + 3, none⟩ (.pointer (some ⟨gq, 0, none⟩))).setCell ⟨g, 6 + 4, none⟩ so).setCell ⟨g, 6 + 5, none⟩ sw) := by
  have hgl := h.lt
  have hqg := hq.hg
  have hql := hq.lt
  obtain ⟨F1, ha⟩ := ar_one h
  have hrow : ∃ C, w.heap[g]? = some (.cells C 61 (0, 0)) ∧ C.size = 12 := by
    obtain ⟨C, _, _, h1, h2, _⟩ := h
    exact ⟨C, h1, h2⟩
  obtain ⟨C, hC, hn⟩ := hrow
  have hBg : B ≤ g := (h.fF g h.fg).1
  have hB : B ≤ w.heap.size := by omega
  have hC3 := (hb.block g hgl).trans hC
  obtain ⟨D, k1, k2, e0, e1, e2, e3, e4, e5, kf⟩ := put6 (o := 6) hC3 (by omega) (.int .i64 1) (.int .i64 0) (.bool false) (.pointer (some ⟨gq, 0, none⟩)) so sw
  have ht := put6_tn w3 g 6 (.int .i64 1) (.int .i64 0) (.bool false) (.pointer (some ⟨gq, 0, none⟩)) so sw
  have kp : ∀ k, k < w3.heap.size → k ≠ g → _ := fun k h1 h2 => ht.block k h1 h2
  refine ha.back _ (fun k => k = gq ∨ so.ownBlock = some k ∨ sw.ownBlock = some k) W.b.asked ⟨D, gq, .slice none 0 0, so, sw, ⟨(hq.lower hB).kept (kp gq hql (by omega)) (fun k e => by cases e), k1, e0, e1, e2, e3, e4, e5, ho.kept (fun k hk => kp k (b1 k hk).2 (by have := (b1 k hk).1; omega)), hw.kept (fun k hk => kp k (b2 k hk).2 (by have := (b2 k hk).1; omega)), fun e => by have := (b1 _ e).1; omega, fun e => by have := (b2 _ e).1; omega, hBg, .inl rfl, (fun k e => by cases e), fun k hk => .inr (.inl hk), fun k hk => .inr (.inr hk), fun k hk => ?_⟩⟩ ⟨?_, fun C' T' hC' => ?_, fun k hk => .inr ?_⟩
  · have hsz := ht.size
    rcases hk with rfl | hk | hk
    · exact ⟨by omega, by omega, by omega⟩
    · have := b1 k hk
      exact ⟨by omega, by omega, by omega⟩
    · have := b2 k hk
      exact ⟨by omega, by omega, by omega⟩
  · exact (Tn.of_below (F := fun k => k = g ∨ F1 k) hb).trans (F' := fun k => k = g) (fun k hk => .inl (.inl hk)) ht
  · rw [hC] at hC'
    simp only [Option.some.injEq, Obj.cells.injEq, and_true] at hC'
    obtain ⟨rfl, rfl⟩ := hC'
    exact ⟨D, k1, k2, kf⟩
  · rcases hk with rfl | hk | hk
    · omega
    · have := (b1 k hk).1; omega
    · have := (b2 k hk).1; omega

set_option maxHeartbeats 2000000 in
/-- The reference's 'Ask'. -/
theorem rask_any (h : RW w B g F W) (hN : W.b.sent.length ≤ 16777216) (hM : W.b.written.length ≤ 16777216) : Calls Try.prog 17 #[.pointer (some ⟨g, 0, none⟩)] w fun e w' => e = .returned (.bool W.ask.1) ∧ Rs B g F w W.ask.2 w' := by
  have H := Lib.hid h
  obtain ⟨F1, ha⟩ := ar_one h
  obtain ⟨C, gq, s, so, sw, hx⟩ := ha.ca
  obtain ⟨ao, ac, hof, _⟩ := hx.ro.form
  obtain ⟨co, cc, hwf, _⟩ := hx.rw.form
  subst hof hwf
  generalize (W.at 1).old.length = O at *
  generalize (W.at 1).wrote.length = Y at *
  have c0 : w.cell? ⟨g, 6, none⟩ = some (.int .i64 (W.b.st : Int)) := hx.c0
  have c1 : w.cell? ⟨g, 7, none⟩ = some (.int .i64 (W.b.got : Int)) := hx.c1
  have c2 : w.cell? ⟨g, 8, none⟩ = some (.bool W.b.dn) := hx.c2
  have c3 : w.cell? ⟨g, 9, none⟩ = some (.pointer (some ⟨gq, 0, none⟩)) := hx.c3
  have c4 : w.cell? ⟨g, 10, none⟩ = some (.slice ao O ac) := hx.c4
  have c5 : w.cell? ⟨g, 11, none⟩ = some (.slice co Y cc) := hx.c5
  by_cases hst : W.b.st = 1
  · rw [Wi.Wm.ask_no hst]
    rw [hst] at c0
    clear h ha hx hst hN hM
    go_enter Try.func17, Try.ntmps17
    go_wp2
    go_ret
    exact ⟨rfl, Rs.below H.out ((Below.refl _ _).alloc (Nat.le_refl _) _)⟩
  · rw [Wi.Wm.ask_eq hst]
    have hs1 : ((W.b.st : Int) == 1) = false := by simp; omega
    have hs2 : (W.b.st = 1) = False := eq_false hst
    have HN := Lib.hid hN
    have HM := Lib.hid hM
    generalize hq : W.b.st = st at *
    have HQ := Lib.hid hq
    clear h ha hx hst hN hM hq
    go_enter Try.func17, Try.ntmps17
    go_upto_region 4 with fail
    have hb0 : Below w.heap.size w (w.alloc (.cells #[.int .i64 (st : Int), .int .i64 (W.b.got : Int), .bool W.b.dn, .pointer (some ⟨gq, 0, none⟩), .slice ao O ac, .slice co Y cc] 58)) := (Below.refl _ _).alloc (Nat.le_refl _) _
    have hb1 := hb0.trans (((Below.refl (w.alloc (.cells #[.int .i64 (st : Int), .int .i64 (W.b.got : Int), .bool W.b.dn, .pointer (some ⟨gq, 0, none⟩), .slice ao O ac, .slice co Y cc] 58)).heap.size _).drew).mono hb0.size)
    have HB1 := Lib.hid hb1
    clear hb0 hb1 c0 c1 c2 c3 c4 c5
    obtain ⟨CG, FG0, FG1, hCG, hnG, _⟩ := H.out
    have HC := Lib.hid (And.intro hCG hnG)
    clear hCG hnG
    refine wp_region_held_drew (S := fun _ => True) (by kernel_rfl) trivial (fun hH => ?_)
    generalize (w.alloc (.cells #[.int .i64 (st : Int), .int .i64 (W.b.got : Int), .bool W.b.dn, .pointer (some ⟨gq, 0, none⟩), .slice ao O ac, .slice co Y cc] 58)).drew = w1 at *
    refine heldTake (i := 0) (v := ?_) rfl (by kernel_rfl) (by kernel_rfl) (fun _ _ _ h => h) (by rfl) trivial (fun w hSw => ?_) ?_; rotate_left; focus ((try dsimp only at hSw); go_simp; try with_reducible rfl)
    try simp only [Act.put, List.setIfInBounds_toArray, List.set_cons_zero, List.set_cons_succ]
    refine heldTake (i := 2) (v := ?_) rfl (by kernel_rfl) (by kernel_rfl) (fun _ _ _ h => h) (by rfl) trivial (fun w hSw => ?_) ?_; rotate_left; focus ((try dsimp only at hSw); go_simp; try with_reducible rfl)
    try simp only [Act.put, List.setIfInBounds_toArray, List.set_cons_zero, List.set_cons_succ]
    refine heldTake (i := 4) (v := ?_) rfl (by kernel_rfl) (by kernel_rfl) (fun _ _ _ h => h) (by rfl) trivial (fun w hSw => ?_) ?_; rotate_left; focus ((try dsimp only at hSw); go_simp; try with_reducible rfl)
    try simp only [Act.put, List.setIfInBounds_toArray, List.set_cons_zero, List.set_cons_succ]
    refine heldTake (i := 7) (v := ?_) rfl (by kernel_rfl) (by kernel_rfl) (fun _ _ _ h => h) (by rfl) trivial (fun w hSw => ?_) ?_; rotate_left; focus ((try dsimp only at hSw); go_simp; try with_reducible rfl)
    try simp only [Act.put, List.setIfInBounds_toArray, List.set_cons_zero, List.set_cons_succ]
    refine heldTake (i := 8) (v := ?_) rfl (by kernel_rfl) (by kernel_rfl) (fun _ _ _ h => h) (by rfl) trivial (fun w hSw => ?_) ?_; rotate_left; focus ((try dsimp only at hSw); go_simp; try with_reducible rfl)
    try simp only [Act.put, List.setIfInBounds_toArray, List.set_cons_zero, List.set_cons_succ]
    -- NEXT 1 Op.call { callee := Callee.value (Operand.func 33), args := #[Operand.const (Value.int IntKind.i64 4000)], arg
    refine heldNext (i := 1) rfl (by kernel_rfl) (by rfl) (fun K hK => ?_)
    go_simp
    go_at_call 33
    refine (rnew_any 4000 (by decide) w1).mono ?_
    rintro e w2 ⟨rfl, hb2, hq2⟩
    rw [show max (0 : Int) 4000 = 4000 by decide] at hq2
    have B2 := Lib.hid (HB1.out.trans (hb2.mono HB1.out.size))
    have Q2 := Lib.hid (hq2.lower HB1.out.size)
    obtain ⟨gn, hgn⟩ : ∃ gn, gn = w1.heap.size := ⟨_, rfl⟩
    rw [← hgn] at Q2
    have HGN := Lib.hid hgn
    have HGL := Lib.hid (Q2.out.lt)
    first | (refine hK.out _ _ trivial ?_) | (go_wp2_with fail; refine hK.out _ _ trivial ?_)
    clear hK K hb2 hq2 hgn
    try simp only [Act.put, List.setIfInBounds_toArray, List.set_cons_zero, List.set_cons_succ]
    -- NEXT 3 Op.call { callee := Callee.value (Operand.func 27), args := #[Operand.tmp 14, Operand.const (Value.int IntKind
    refine heldNext (i := 3) rfl (by kernel_rfl) (by rfl) (fun K hK => ?_)
    go_simp
    go_at_call 27
    refine (rsent_1 (H.out.next B2.out) HN.out).mono ?_
    rintro e w3 ⟨xo, xc, rfl, R3, L3, hb3⟩
    have B3 := Lib.hid (B2.out.trans (hb3.mono B2.out.size))
    have Q3 := Lib.hid (Q2.out.next hb3)
    have R3 := Lib.hid R3
    have L3 := Lib.hid (show ∀ k, _ → gn < k ∧ k < w3.heap.size from fun k hk => ⟨Nat.lt_of_lt_of_le HGL.out (L3 k hk).1, (L3 k hk).2⟩)
    have B23 := Lib.hid hb3
    first | (refine hK.out _ _ trivial ?_) | (go_wp2_with fail; refine hK.out _ _ trivial ?_)
    clear hK K hb3
    try simp only [Act.put, List.setIfInBounds_toArray, List.set_cons_zero, List.set_cons_succ]
    -- NEXT 5 Op.call { callee := Callee.value (Operand.func 29), args := #[Operand.tmp 16, Operand.const (Value.int IntKind
    refine heldNext (i := 5) rfl (by kernel_rfl) (by rfl) (fun K hK => ?_)
    go_simp
    go_at_call 29
    refine (rwritten_1 (H.out.next B3.out) HM.out).mono ?_
    rintro e w4 ⟨yo, yc, rfl, R4, L4, hb4⟩
    have B4 := Lib.hid (B3.out.trans (hb4.mono B3.out.size))
    have X := (H.out.asked B4.out (Q3.out.next hb4) (R3.out.below hb4) R4 (fun k hk => ⟨(L3.out k hk).1, Nat.lt_of_lt_of_le (L3.out k hk).2 hb4.size⟩) (fun k hk => ⟨Nat.lt_of_lt_of_le (Nat.lt_of_lt_of_le HGL.out B23.out.size) (L4 k hk).1, (L4 k hk).2⟩))
    simp only [Nat.reduceAdd] at X
    have X := Lib.hid X
    have hrow := (B4.out.block g H.out.lt).trans (HC.out.1)
    first | (refine hK.out _ _ trivial ?_) | (go_wp2_with fail; refine hK.out _ _ trivial ?_)
    clear hK K hb4 R4 L4
    try simp only [Act.put, List.setIfInBounds_toArray, List.set_cons_zero, List.set_cons_succ]
    refine heldTake (i := 6) (v := ?_) rfl (by kernel_rfl) (by kernel_rfl) (fun _ _ _ h => h) (by rfl) trivial (fun w hSw => ?_) ?_; rotate_left; focus ((try dsimp only at hSw); go_simp; try with_reducible rfl)
    try simp only [Act.put, List.setIfInBounds_toArray, List.set_cons_zero, List.set_cons_succ]
    refine heldTake (i := 9) (v := ?_) rfl (by kernel_rfl) (by kernel_rfl) (fun _ _ _ h => h) (by rfl) trivial (fun w hSw => ?_) ?_; rotate_left; focus ((try dsimp only at hSw); go_simp; try with_reducible rfl)
    try simp only [Act.put, List.setIfInBounds_toArray, List.set_cons_zero, List.set_cons_succ]
    -- NEXT 10 Op.store 58 (Operand.tmp 21) (Operand.tmp 18)
    refine heldNext (i := 10) rfl (by kernel_rfl) (by rfl) (fun K hK => ?_)
    have f0 : w4.frozen? ⟨g, 6, none⟩ = false := frozen_of_row _ _ _ _ _ hrow
    obtain ⟨u0, hu0⟩ : ∃ v, w4.cell? ⟨g, 6, none⟩ = some v := ⟨CG[6]'(by rw [HC.out.2]; decide), cell_in hrow (by simp)⟩
    have f1 : w4.frozen? ⟨g, 7, none⟩ = false := frozen_of_row _ _ _ _ _ hrow
    obtain ⟨u1, hu1⟩ : ∃ v, w4.cell? ⟨g, 7, none⟩ = some v := ⟨CG[7]'(by rw [HC.out.2]; decide), cell_in hrow (by simp)⟩
    have f2 : w4.frozen? ⟨g, 8, none⟩ = false := frozen_of_row _ _ _ _ _ hrow
    obtain ⟨u2, hu2⟩ : ∃ v, w4.cell? ⟨g, 8, none⟩ = some v := ⟨CG[8]'(by rw [HC.out.2]; decide), cell_in hrow (by simp)⟩
    have f3 : w4.frozen? ⟨g, 9, none⟩ = false := frozen_of_row _ _ _ _ _ hrow
    obtain ⟨u3, hu3⟩ : ∃ v, w4.cell? ⟨g, 9, none⟩ = some v := ⟨CG[9]'(by rw [HC.out.2]; decide), cell_in hrow (by simp)⟩
    have f4 : w4.frozen? ⟨g, 10, none⟩ = false := frozen_of_row _ _ _ _ _ hrow
    obtain ⟨u4, hu4⟩ : ∃ v, w4.cell? ⟨g, 10, none⟩ = some v := ⟨CG[10]'(by rw [HC.out.2]; decide), cell_in hrow (by simp)⟩
    have f5 : w4.frozen? ⟨g, 11, none⟩ = false := frozen_of_row _ _ _ _ _ hrow
    obtain ⟨u5, hu5⟩ : ∃ v, w4.cell? ⟨g, 11, none⟩ = some v := ⟨CG[11]'(by rw [HC.out.2]; decide), cell_in hrow (by simp)⟩
    go_simp
    refine hK.out _ _ trivial ?_
    clear hK K
    try simp only [Act.put, List.setIfInBounds_toArray, List.set_cons_zero, List.set_cons_succ]
    refine wpAnyH_done (by kernel_rfl) ?_ _
    clear hrow hH f0 hu0 f1 hu1 f2 hu2 f3 hu3 f4 hu4 f5 hu5
    go_wp2
    go_ret
    have XX := X.out
    rw [HGN.out] at XX
    exact ⟨rfl, XX⟩
end
end Go.Proofs.Ytneifmnlailipaa
