/- The reference's wire: Sent, Written walked. (Laid by wip/tools/gen_wref2.py.) -/
import Derived.Test.YtneifmnlailipaaWRefDo
namespace Go.Proofs.Ytneifmnlailipaa
open Go.RowKit
section
variable {w : World} {B g : Nat} {F : Nat → Prop} {W : Wi.Wm}

set_option maxHeartbeats 1000000 in
theorem rsent_0 (h : RW w B g F W) (hN : (W.at 0).sent.length ≤ 16777216) : Calls Try.prog 27 #[.pointer (some ⟨g, 0, none⟩), .int .i64 0] w fun e w' => ∃ bo cp, e = .returned (.slice bo (W.at 0).sent.length cp) ∧ Rd w' (.slice bo (W.at 0).sent.length cp) ((W.at 0).sent.map bv) ∧ (∀ k, (Value.slice bo (W.at 0).sent.length cp).ownBlock = some k → w.heap.size ≤ k ∧ k < w'.heap.size) ∧ Below w.heap.size w w' := by
  obtain ⟨N, hn⟩ : ∃ N, N = (W.at 0).sent.length := ⟨_, rfl⟩
  obtain ⟨F0, ha⟩ := ar_zero h
  obtain ⟨C, gq, s, so, sw, hx⟩ := ha.ca
  obtain ⟨RA, hRA⟩ : ∃ RA, RA = (W.at 0).old := ⟨_, rfl⟩
  obtain ⟨RB, hRB⟩ : ∃ RB, RB = ((W.at 0).xs.take (W.at 0).t) := ⟨_, rfl⟩
  have heq : (W.at 0).sent = RA ++ RB := by rw [hRA, hRB]; rfl
  obtain ⟨ao, ac, hform, _⟩ := hx.ro.form
  subst hform
  obtain ⟨O, hO⟩ : ∃ O, O = (W.at 0).old.length := ⟨_, rfl⟩
  rw [← hO] at hx
  have hx1 := hx.next ((Below.refl w.heap.size w).drew)
  obtain ⟨w1, hw1⟩ : ∃ w1, w1 = w.drew := ⟨_, rfl⟩
  have hb1 : Below w.heap.size w w1 := by rw [hw1]; exact (Below.refl _ _).drew
  have hsz : w.heap.size ≤ w1.heap.size := hb1.size
  rw [← hw1] at hx1
  have HS := Lib.hid (show ∀ wr, Below w1.heap.size w1 wr → wr.cell? ⟨g, 4, none⟩ = some (.slice ao O ac) ∧ wr.cell? ⟨g, 3, none⟩ = some (.pointer (some ⟨gq, 0, none⟩)) from fun wr hb => ⟨(hx1.next hb).c4, (hx1.next hb).c3⟩)
  have HRA := Lib.hid (show ∀ wr, Below w1.heap.size w1 wr → Rd wr (.slice ao O ac) (RA.map bv) from fun wr hb => by rw [hRA]; exact (hx1.next hb).ro)
  obtain ⟨Q, hQ⟩ : ∃ Q, Q = (W.at 0).t := ⟨_, rfl⟩
  have C1 : Hid (∀ wr, Below w1.heap.size w1 wr → Calls Try.prog 52 #[.pointer (some ⟨gq, 0, none⟩)] wr fun e w' => ∃ xo xc, e = .returned (.slice xo Q xc) ∧ Below wr.heap.size wr w' ∧ Rd w' (.slice xo Q xc) (RB.map bv)) := Lib.hid (fun wr hb => by
    refine (rtaken_any (hx1.next hb).q).mono ?_
    rintro e w' ⟨v, rfl, h1, ⟨xo, xc, rfl⟩, h2⟩
    rw [hQ, hRB]
    exact ⟨xo, xc, rfl, h1, h2⟩)
  have HO := Lib.hid (show RA.length = O by rw [hRA, hO])
  have HTL := Lib.hid (show (RA ++ RB).length = N by rw [← heq, hn])
  have HOB : Hid (O ≤ 16777216) := Lib.hid (by rw [hO, ← hRA]; have h1 := HTL.out; rw [List.length_append] at h1; omega)
  rw [← hn] at hN ⊢
  have HNB := Lib.hid hN
  have HN := Lib.hid hn
  have HEQ := Lib.hid heq
  have HB := Lib.hid hb1
  have HB0S := Lib.hid hsz
  have HW1 := Lib.hid hw1
  have s0 := HS.out w1 (Below.refl _ _)
  have KB : Below w1.heap.size w1 w1 := Below.refl _ _
  have HQQ := Lib.hid hQ
  clear h ha hx hx1 hRA hRB hO heq hn hN hb1 hw1 hsz hQ
  go_enter Try.func27, Try.ntmps27
  go_wp2_with fail
  refine (known_0 w).mono ?_
  rintro e w2 ⟨rfl, hw⟩
  obtain rfl := hw
  go_wp2
  rw [HW1.out] at s0
  refine wp_region_held_drew (S := fun w' => w'.cell? ⟨g, 4, none⟩ = some (.slice ao O ac) ∧ w'.cell? ⟨g, 3, none⟩ = some (.pointer (some ⟨gq, 0, none⟩))) (by kernel_rfl) s0 (fun hH => ?_)
  rw [← HW1.out] at s0 ⊢
  refine heldTake (i := 1) (v := ?_) rfl (by kernel_rfl) (by kernel_rfl) (fun _ _ _ h => h) (by rfl) (by assumption) (fun w hSw => ?_) ?_; rotate_left; focus ((try dsimp only at hSw); go_simp; try with_reducible rfl)
  try simp only [Act.put, List.setIfInBounds_toArray, List.set_cons_zero, List.set_cons_succ]
  refine heldTake (i := 2) (v := ?_) rfl (by kernel_rfl) (by kernel_rfl) (fun _ _ _ h => h) (by rfl) (by assumption) (fun w hSw => ?_) ?_; rotate_left; focus ((try dsimp only at hSw); go_simp; try with_reducible rfl)
  try simp only [Act.put, List.setIfInBounds_toArray, List.set_cons_zero, List.set_cons_succ]
  refine heldTake (i := 3) (v := ?_) rfl (by kernel_rfl) (by kernel_rfl) (fun _ _ _ h => h) (by rfl) (by assumption) (fun w hSw => ?_) ?_; rotate_left; focus ((try dsimp only at hSw); go_simp; try with_reducible rfl)
  try simp only [Act.put, List.setIfInBounds_toArray, List.set_cons_zero, List.set_cons_succ]
  refine heldTake (i := 4) (v := ?_) rfl (by kernel_rfl) (by kernel_rfl) (fun _ _ _ h => h) (by rfl) (by assumption) (fun w hSw => ?_) ?_; rotate_left; focus ((try dsimp only at hSw); go_simp; try with_reducible rfl)
  try simp only [Act.put, List.setIfInBounds_toArray, List.set_cons_zero, List.set_cons_succ]
  refine heldTake (i := 5) (v := ?_) rfl (by kernel_rfl) (by kernel_rfl) (fun _ _ _ h => h) (by rfl) (by assumption) (fun w hSw => ?_) ?_; rotate_left; focus ((try dsimp only at hSw); go_simp; try with_reducible rfl)
  try simp only [Act.put, List.setIfInBounds_toArray, List.set_cons_zero, List.set_cons_succ]
  refine heldTake (i := 6) (v := ?_) rfl (by kernel_rfl) (by kernel_rfl) (fun _ _ _ h => h) (by rfl) (by assumption) (fun w hSw => ?_) ?_; rotate_left; focus ((try dsimp only at hSw); go_simp; try with_reducible rfl)
  try simp only [Act.put, List.setIfInBounds_toArray, List.set_cons_zero, List.set_cons_succ]
  refine heldTake (i := 7) (v := ?_) rfl (by kernel_rfl) (by kernel_rfl) (fun _ _ _ h => h) (by rfl) (by assumption) (fun w hSw => ?_) ?_; rotate_left; focus ((try dsimp only at hSw); go_simp; try with_reducible rfl)
  try simp only [Act.put, List.setIfInBounds_toArray, List.set_cons_zero, List.set_cons_succ]
  refine heldTake (i := 9) (v := ?_) rfl (by kernel_rfl) (by kernel_rfl) (fun _ _ _ h => h) (by rfl) (by assumption) (fun w hSw => ?_) ?_; rotate_left; focus ((try dsimp only at hSw); go_simp; try with_reducible rfl)
  try simp only [Act.put, List.setIfInBounds_toArray, List.set_cons_zero, List.set_cons_succ]
  refine heldTake (i := 10) (v := ?_) rfl (by kernel_rfl) (by kernel_rfl) (fun _ _ _ h => h) (by rfl) (by assumption) (fun w hSw => ?_) ?_; rotate_left; focus ((try dsimp only at hSw); go_simp; try with_reducible rfl)
  try simp only [Act.put, List.setIfInBounds_toArray, List.set_cons_zero, List.set_cons_succ]
  refine heldTake (i := 11) (v := ?_) rfl (by kernel_rfl) (by kernel_rfl) (fun _ _ _ h => h) (by rfl) (by assumption) (fun w hSw => ?_) ?_; rotate_left; focus ((try dsimp only at hSw); go_simp; try with_reducible rfl)
  try simp only [Act.put, List.setIfInBounds_toArray, List.set_cons_zero, List.set_cons_succ]
  refine heldTake (i := 12) (v := ?_) rfl (by kernel_rfl) (by kernel_rfl) (fun _ _ _ h => h) (by rfl) (by assumption) (fun w hSw => ?_) ?_; rotate_left; focus ((try dsimp only at hSw); go_simp; try with_reducible rfl)
  try simp only [Act.put, List.setIfInBounds_toArray, List.set_cons_zero, List.set_cons_succ]
  refine heldTake (i := 13) (v := ?_) rfl (by kernel_rfl) (by kernel_rfl) (fun _ _ _ h => h) (by rfl) (by assumption) (fun w hSw => ?_) ?_; rotate_left; focus ((try dsimp only at hSw); go_simp; try with_reducible rfl)
  try simp only [Act.put, List.setIfInBounds_toArray, List.set_cons_zero, List.set_cons_succ]
  refine heldTake (i := 14) (v := ?_) rfl (by kernel_rfl) (by kernel_rfl) (fun _ _ _ h => h) (by rfl) (by assumption) (fun w hSw => ?_) ?_; rotate_left; focus ((try dsimp only at hSw); go_simp; try with_reducible rfl)
  try simp only [Act.put, List.setIfInBounds_toArray, List.set_cons_zero, List.set_cons_succ]
  refine heldTake (i := 15) (v := ?_) rfl (by kernel_rfl) (by kernel_rfl) (fun _ _ _ h => h) (by rfl) (by assumption) (fun w hSw => ?_) ?_; rotate_left; focus ((try dsimp only at hSw); go_simp; try with_reducible rfl)
  try simp only [Act.put, List.setIfInBounds_toArray, List.set_cons_zero, List.set_cons_succ]
  -- NEXT 0 Op.buildSlice 28 0 #[]
  refine heldNext (i := 0) rfl (by kernel_rfl) (by rfl) (fun K hK => ?_)
  have hn := made_below KB
  have KF := made_fb KB
  try have KT := KT.below hn
  have KB := KB.trans (hn.mono KB.size)
  go_simp
  have SX := HS.out _ KB
  refine hK.out _ _ SX ?_
  clear hK K hn
  try simp only [Act.put, List.setIfInBounds_toArray, List.set_cons_zero, List.set_cons_succ]
  -- NEXT 8 Op.call { callee := Callee.builtin Builtin.append, args := #[Operand.tmp 8, Operand.tmp 15], argTypes := #[28,
  refine heldNext (i := 8) rfl (by kernel_rfl) (by rfl) (fun K hK => ?_)
  refine wp_append_fresh (.tmp 8) (.tmp 15) (by rfl) (by rfl) KF _ (by rfl) RA (HRA.out _ KB) O HO.out HOB.out KB.size (fun bo1 cc1 w4 hn KG => ?_)
  try have KT := KT.below hn
  have KB := KB.trans (hn.mono KB.size)
  have SX := HS.out _ KB
  refine hK.out _ _ SX ?_
  clear hK K hn KF
  try simp only [Act.put, List.setIfInBounds_toArray, List.set_cons_zero, List.set_cons_succ]
  -- NEXT 16 Op.call { callee := Callee.value (Operand.func 52), args := #[Operand.tmp 23], argTypes := #[56] }
  refine heldNext (i := 16) rfl (by kernel_rfl) (by rfl) (fun K hK => ?_)
  go_simp
  go_at_call 52
  refine (C1.out _ KB).mono ?_
  rintro e w3 ⟨xo, xc, rfl, hn, KT⟩
  try have KF := KF.next hn
  try have KG := KG.next hn
  have KB := KB.trans (hn.mono KB.size)
  have SX := HS.out _ KB
  first | (refine hK.out _ _ SX ?_) | (go_wp2_with fail; refine hK.out _ _ SX ?_)
  clear hK K hn
  try simp only [Act.put, List.setIfInBounds_toArray, List.set_cons_zero, List.set_cons_succ]
  -- NEXT 17 Op.call { callee := Callee.builtin Builtin.append, args := #[Operand.tmp 16, Operand.tmp 24], argTypes := #[28
  refine heldNext (i := 17) rfl (by kernel_rfl) (by rfl) (fun K hK => ?_)
  refine wp_append_fb (.tmp 16) (.tmp 24) (by rfl) (by rfl) KG _ (by rfl) RB (KT) N HTL.out HNB.out KB.size (fun bo2 cc2 w5 hn R5 R6 => ?_)
  have KB := KB.trans hn
  have SX := HS.out _ KB
  refine hK.out _ _ SX ?_
  clear hK K hn
  try simp only [Act.put, List.setIfInBounds_toArray, List.set_cons_zero, List.set_cons_succ]
  refine heldTake (i := 18) (v := ?_) rfl (by kernel_rfl) (by kernel_rfl) (fun _ _ _ h => h) (by rfl) (by assumption) (fun w hSw => ?_) ?_; rotate_left; focus ((try dsimp only at hSw); go_simp; try with_reducible rfl)
  try simp only [Act.put, List.setIfInBounds_toArray, List.set_cons_zero, List.set_cons_succ]
  refine wpAnyH_done (by kernel_rfl) ?_ _
  have BE := Lib.hid (HB.out.trans (KB.mono HB.out.size))
  have R5 := Lib.hid R5
  have R6 := Lib.hid R6
  clear KB KG hH HS HRA HTL HNB HB
  try clear KT
  try clear C1
  go_wp2
  go_ret
  refine ⟨bo2, cc2, ?_, ?_, ?_, BE.out⟩
  · show Ending.returned (Value.slice bo2 N cc2) = _
    rw [HN.out]
  · rw [HEQ.out]
    exact R5.out
  · exact fun k hk => ⟨Nat.le_trans HB0S.out (R6.out k hk).1, (R6.out k hk).2⟩

set_option maxHeartbeats 1000000 in
theorem rsent_1 (h : RW w B g F W) (hN : (W.at 1).sent.length ≤ 16777216) : Calls Try.prog 27 #[.pointer (some ⟨g, 0, none⟩), .int .i64 1] w fun e w' => ∃ bo cp, e = .returned (.slice bo (W.at 1).sent.length cp) ∧ Rd w' (.slice bo (W.at 1).sent.length cp) ((W.at 1).sent.map bv) ∧ (∀ k, (Value.slice bo (W.at 1).sent.length cp).ownBlock = some k → w.heap.size ≤ k ∧ k < w'.heap.size) ∧ Below w.heap.size w w' := by
  obtain ⟨N, hn⟩ : ∃ N, N = (W.at 1).sent.length := ⟨_, rfl⟩
  obtain ⟨F0, ha⟩ := ar_one h
  obtain ⟨C, gq, s, so, sw, hx⟩ := ha.ca
  obtain ⟨RA, hRA⟩ : ∃ RA, RA = (W.at 1).old := ⟨_, rfl⟩
  obtain ⟨RB, hRB⟩ : ∃ RB, RB = ((W.at 1).xs.take (W.at 1).t) := ⟨_, rfl⟩
  have heq : (W.at 1).sent = RA ++ RB := by rw [hRA, hRB]; rfl
  obtain ⟨ao, ac, hform, _⟩ := hx.ro.form
  subst hform
  obtain ⟨O, hO⟩ : ∃ O, O = (W.at 1).old.length := ⟨_, rfl⟩
  rw [← hO] at hx
  have hx1 := hx.next ((Below.refl w.heap.size w).drew)
  obtain ⟨w1, hw1⟩ : ∃ w1, w1 = w.drew := ⟨_, rfl⟩
  have hb1 : Below w.heap.size w w1 := by rw [hw1]; exact (Below.refl _ _).drew
  have hsz : w.heap.size ≤ w1.heap.size := hb1.size
  rw [← hw1] at hx1
  have HS := Lib.hid (show ∀ wr, Below w1.heap.size w1 wr → wr.cell? ⟨g, 10, none⟩ = some (.slice ao O ac) ∧ wr.cell? ⟨g, 9, none⟩ = some (.pointer (some ⟨gq, 0, none⟩)) from fun wr hb => ⟨(hx1.next hb).c4, (hx1.next hb).c3⟩)
  have HRA := Lib.hid (show ∀ wr, Below w1.heap.size w1 wr → Rd wr (.slice ao O ac) (RA.map bv) from fun wr hb => by rw [hRA]; exact (hx1.next hb).ro)
  obtain ⟨Q, hQ⟩ : ∃ Q, Q = (W.at 1).t := ⟨_, rfl⟩
  have C1 : Hid (∀ wr, Below w1.heap.size w1 wr → Calls Try.prog 52 #[.pointer (some ⟨gq, 0, none⟩)] wr fun e w' => ∃ xo xc, e = .returned (.slice xo Q xc) ∧ Below wr.heap.size wr w' ∧ Rd w' (.slice xo Q xc) (RB.map bv)) := Lib.hid (fun wr hb => by
    refine (rtaken_any (hx1.next hb).q).mono ?_
    rintro e w' ⟨v, rfl, h1, ⟨xo, xc, rfl⟩, h2⟩
    rw [hQ, hRB]
    exact ⟨xo, xc, rfl, h1, h2⟩)
  have HO := Lib.hid (show RA.length = O by rw [hRA, hO])
  have HTL := Lib.hid (show (RA ++ RB).length = N by rw [← heq, hn])
  have HOB : Hid (O ≤ 16777216) := Lib.hid (by rw [hO, ← hRA]; have h1 := HTL.out; rw [List.length_append] at h1; omega)
  rw [← hn] at hN ⊢
  have HNB := Lib.hid hN
  have HN := Lib.hid hn
  have HEQ := Lib.hid heq
  have HB := Lib.hid hb1
  have HB0S := Lib.hid hsz
  have HW1 := Lib.hid hw1
  have s0 := HS.out w1 (Below.refl _ _)
  have KB : Below w1.heap.size w1 w1 := Below.refl _ _
  have HQQ := Lib.hid hQ
  clear h ha hx hx1 hRA hRB hO heq hn hN hb1 hw1 hsz hQ
  go_enter Try.func27, Try.ntmps27
  go_wp2_with fail
  refine (known_1 w).mono ?_
  rintro e w2 ⟨rfl, hw⟩
  obtain rfl := hw
  go_wp2
  rw [HW1.out] at s0
  refine wp_region_held_drew (S := fun w' => w'.cell? ⟨g, 10, none⟩ = some (.slice ao O ac) ∧ w'.cell? ⟨g, 9, none⟩ = some (.pointer (some ⟨gq, 0, none⟩))) (by kernel_rfl) s0 (fun hH => ?_)
  rw [← HW1.out] at s0 ⊢
  refine heldTake (i := 1) (v := ?_) rfl (by kernel_rfl) (by kernel_rfl) (fun _ _ _ h => h) (by rfl) (by assumption) (fun w hSw => ?_) ?_; rotate_left; focus ((try dsimp only at hSw); go_simp; try with_reducible rfl)
  try simp only [Act.put, List.setIfInBounds_toArray, List.set_cons_zero, List.set_cons_succ]
  refine heldTake (i := 2) (v := ?_) rfl (by kernel_rfl) (by kernel_rfl) (fun _ _ _ h => h) (by rfl) (by assumption) (fun w hSw => ?_) ?_; rotate_left; focus ((try dsimp only at hSw); go_simp; try with_reducible rfl)
  try simp only [Act.put, List.setIfInBounds_toArray, List.set_cons_zero, List.set_cons_succ]
  refine heldTake (i := 3) (v := ?_) rfl (by kernel_rfl) (by kernel_rfl) (fun _ _ _ h => h) (by rfl) (by assumption) (fun w hSw => ?_) ?_; rotate_left; focus ((try dsimp only at hSw); go_simp; try with_reducible rfl)
  try simp only [Act.put, List.setIfInBounds_toArray, List.set_cons_zero, List.set_cons_succ]
  refine heldTake (i := 4) (v := ?_) rfl (by kernel_rfl) (by kernel_rfl) (fun _ _ _ h => h) (by rfl) (by assumption) (fun w hSw => ?_) ?_; rotate_left; focus ((try dsimp only at hSw); go_simp; try with_reducible rfl)
  try simp only [Act.put, List.setIfInBounds_toArray, List.set_cons_zero, List.set_cons_succ]
  refine heldTake (i := 5) (v := ?_) rfl (by kernel_rfl) (by kernel_rfl) (fun _ _ _ h => h) (by rfl) (by assumption) (fun w hSw => ?_) ?_; rotate_left; focus ((try dsimp only at hSw); go_simp; try with_reducible rfl)
  try simp only [Act.put, List.setIfInBounds_toArray, List.set_cons_zero, List.set_cons_succ]
  refine heldTake (i := 6) (v := ?_) rfl (by kernel_rfl) (by kernel_rfl) (fun _ _ _ h => h) (by rfl) (by assumption) (fun w hSw => ?_) ?_; rotate_left; focus ((try dsimp only at hSw); go_simp; try with_reducible rfl)
  try simp only [Act.put, List.setIfInBounds_toArray, List.set_cons_zero, List.set_cons_succ]
  refine heldTake (i := 7) (v := ?_) rfl (by kernel_rfl) (by kernel_rfl) (fun _ _ _ h => h) (by rfl) (by assumption) (fun w hSw => ?_) ?_; rotate_left; focus ((try dsimp only at hSw); go_simp; try with_reducible rfl)
  try simp only [Act.put, List.setIfInBounds_toArray, List.set_cons_zero, List.set_cons_succ]
  refine heldTake (i := 9) (v := ?_) rfl (by kernel_rfl) (by kernel_rfl) (fun _ _ _ h => h) (by rfl) (by assumption) (fun w hSw => ?_) ?_; rotate_left; focus ((try dsimp only at hSw); go_simp; try with_reducible rfl)
  try simp only [Act.put, List.setIfInBounds_toArray, List.set_cons_zero, List.set_cons_succ]
  refine heldTake (i := 10) (v := ?_) rfl (by kernel_rfl) (by kernel_rfl) (fun _ _ _ h => h) (by rfl) (by assumption) (fun w hSw => ?_) ?_; rotate_left; focus ((try dsimp only at hSw); go_simp; try with_reducible rfl)
  try simp only [Act.put, List.setIfInBounds_toArray, List.set_cons_zero, List.set_cons_succ]
  refine heldTake (i := 11) (v := ?_) rfl (by kernel_rfl) (by kernel_rfl) (fun _ _ _ h => h) (by rfl) (by assumption) (fun w hSw => ?_) ?_; rotate_left; focus ((try dsimp only at hSw); go_simp; try with_reducible rfl)
  try simp only [Act.put, List.setIfInBounds_toArray, List.set_cons_zero, List.set_cons_succ]
  refine heldTake (i := 12) (v := ?_) rfl (by kernel_rfl) (by kernel_rfl) (fun _ _ _ h => h) (by rfl) (by assumption) (fun w hSw => ?_) ?_; rotate_left; focus ((try dsimp only at hSw); go_simp; try with_reducible rfl)
  try simp only [Act.put, List.setIfInBounds_toArray, List.set_cons_zero, List.set_cons_succ]
  refine heldTake (i := 13) (v := ?_) rfl (by kernel_rfl) (by kernel_rfl) (fun _ _ _ h => h) (by rfl) (by assumption) (fun w hSw => ?_) ?_; rotate_left; focus ((try dsimp only at hSw); go_simp; try with_reducible rfl)
  try simp only [Act.put, List.setIfInBounds_toArray, List.set_cons_zero, List.set_cons_succ]
  refine heldTake (i := 14) (v := ?_) rfl (by kernel_rfl) (by kernel_rfl) (fun _ _ _ h => h) (by rfl) (by assumption) (fun w hSw => ?_) ?_; rotate_left; focus ((try dsimp only at hSw); go_simp; try with_reducible rfl)
  try simp only [Act.put, List.setIfInBounds_toArray, List.set_cons_zero, List.set_cons_succ]
  refine heldTake (i := 15) (v := ?_) rfl (by kernel_rfl) (by kernel_rfl) (fun _ _ _ h => h) (by rfl) (by assumption) (fun w hSw => ?_) ?_; rotate_left; focus ((try dsimp only at hSw); go_simp; try with_reducible rfl)
  try simp only [Act.put, List.setIfInBounds_toArray, List.set_cons_zero, List.set_cons_succ]
  -- NEXT 0 Op.buildSlice 28 0 #[]
  refine heldNext (i := 0) rfl (by kernel_rfl) (by rfl) (fun K hK => ?_)
  have hn := made_below KB
  have KF := made_fb KB
  try have KT := KT.below hn
  have KB := KB.trans (hn.mono KB.size)
  go_simp
  have SX := HS.out _ KB
  refine hK.out _ _ SX ?_
  clear hK K hn
  try simp only [Act.put, List.setIfInBounds_toArray, List.set_cons_zero, List.set_cons_succ]
  -- NEXT 8 Op.call { callee := Callee.builtin Builtin.append, args := #[Operand.tmp 8, Operand.tmp 15], argTypes := #[28,
  refine heldNext (i := 8) rfl (by kernel_rfl) (by rfl) (fun K hK => ?_)
  refine wp_append_fresh (.tmp 8) (.tmp 15) (by rfl) (by rfl) KF _ (by rfl) RA (HRA.out _ KB) O HO.out HOB.out KB.size (fun bo1 cc1 w4 hn KG => ?_)
  try have KT := KT.below hn
  have KB := KB.trans (hn.mono KB.size)
  have SX := HS.out _ KB
  refine hK.out _ _ SX ?_
  clear hK K hn KF
  try simp only [Act.put, List.setIfInBounds_toArray, List.set_cons_zero, List.set_cons_succ]
  -- NEXT 16 Op.call { callee := Callee.value (Operand.func 52), args := #[Operand.tmp 23], argTypes := #[56] }
  refine heldNext (i := 16) rfl (by kernel_rfl) (by rfl) (fun K hK => ?_)
  go_simp
  go_at_call 52
  refine (C1.out _ KB).mono ?_
  rintro e w3 ⟨xo, xc, rfl, hn, KT⟩
  try have KF := KF.next hn
  try have KG := KG.next hn
  have KB := KB.trans (hn.mono KB.size)
  have SX := HS.out _ KB
  first | (refine hK.out _ _ SX ?_) | (go_wp2_with fail; refine hK.out _ _ SX ?_)
  clear hK K hn
  try simp only [Act.put, List.setIfInBounds_toArray, List.set_cons_zero, List.set_cons_succ]
  -- NEXT 17 Op.call { callee := Callee.builtin Builtin.append, args := #[Operand.tmp 16, Operand.tmp 24], argTypes := #[28
  refine heldNext (i := 17) rfl (by kernel_rfl) (by rfl) (fun K hK => ?_)
  refine wp_append_fb (.tmp 16) (.tmp 24) (by rfl) (by rfl) KG _ (by rfl) RB (KT) N HTL.out HNB.out KB.size (fun bo2 cc2 w5 hn R5 R6 => ?_)
  have KB := KB.trans hn
  have SX := HS.out _ KB
  refine hK.out _ _ SX ?_
  clear hK K hn
  try simp only [Act.put, List.setIfInBounds_toArray, List.set_cons_zero, List.set_cons_succ]
  refine heldTake (i := 18) (v := ?_) rfl (by kernel_rfl) (by kernel_rfl) (fun _ _ _ h => h) (by rfl) (by assumption) (fun w hSw => ?_) ?_; rotate_left; focus ((try dsimp only at hSw); go_simp; try with_reducible rfl)
  try simp only [Act.put, List.setIfInBounds_toArray, List.set_cons_zero, List.set_cons_succ]
  refine wpAnyH_done (by kernel_rfl) ?_ _
  have BE := Lib.hid (HB.out.trans (KB.mono HB.out.size))
  have R5 := Lib.hid R5
  have R6 := Lib.hid R6
  clear KB KG hH HS HRA HTL HNB HB
  try clear KT
  try clear C1
  go_wp2
  go_ret
  refine ⟨bo2, cc2, ?_, ?_, ?_, BE.out⟩
  · show Ending.returned (Value.slice bo2 N cc2) = _
    rw [HN.out]
  · rw [HEQ.out]
    exact R5.out
  · exact fun k hk => ⟨Nat.le_trans HB0S.out (R6.out k hk).1, (R6.out k hk).2⟩

theorem rsent_n (_h : RW w B g F W) {k : Int} (h0 : k ≠ 0) (h1 : k ≠ 1) : Calls Try.prog 27 #[.pointer (some ⟨g, 0, none⟩), .int .i64 k] w fun e w' => ∃ bo cp, e = .returned (.slice bo (W.at k).sent.length cp) ∧ Rd w' (.slice bo (W.at k).sent.length cp) ((W.at k).sent.map bv) ∧ (∀ k', (Value.slice bo (W.at k).sent.length cp).ownBlock = some k' → w.heap.size ≤ k' ∧ k' < w'.heap.size) ∧ Below w.heap.size w w' := by
  rw [at_far h0 h1]
  have KN := Lib.hid (known_n h0 h1 w)
  clear h0 h1 _h
  go_enter Try.func27, Try.ntmps27
  go_wp2_with fail
  refine KN.out.mono ?_
  rintro e w1 ⟨rfl, hw⟩
  obtain rfl := hw
  go_wp2
  go_ret
  exact ⟨none, 0, rfl, rd_none, (fun k e => by cases e), Below.refl _ _⟩
/-- The reference's 'Sent'. -/
theorem rsent_any (h : RW w B g F W) (k : Int) (hN : (W.at k).sent.length ≤ 16777216) : Calls Try.prog 27 #[.pointer (some ⟨g, 0, none⟩), .int .i64 k] w fun e w' => ∃ bo cp, e = .returned (.slice bo (W.at k).sent.length cp) ∧ Rd w' (.slice bo (W.at k).sent.length cp) ((W.at k).sent.map bv) ∧ (∀ k', (Value.slice bo (W.at k).sent.length cp).ownBlock = some k' → w.heap.size ≤ k' ∧ k' < w'.heap.size) ∧ Below w.heap.size w w' := by
  by_cases h0 : k = 0
  · subst h0; exact rsent_0 h hN
  by_cases h1 : k = 1
  · subst h1; exact rsent_1 h hN
  exact rsent_n h h0 h1

set_option maxHeartbeats 1000000 in
theorem rwritten_0 (h : RW w B g F W) (hN : (W.at 0).written.length ≤ 16777216) : Calls Try.prog 29 #[.pointer (some ⟨g, 0, none⟩), .int .i64 0] w fun e w' => ∃ bo cp, e = .returned (.slice bo (W.at 0).written.length cp) ∧ Rd w' (.slice bo (W.at 0).written.length cp) ((W.at 0).written.map bv) ∧ (∀ k, (Value.slice bo (W.at 0).written.length cp).ownBlock = some k → w.heap.size ≤ k ∧ k < w'.heap.size) ∧ Below w.heap.size w w' := by
  obtain ⟨N, hn⟩ : ∃ N, N = (W.at 0).written.length := ⟨_, rfl⟩
  obtain ⟨F0, ha⟩ := ar_zero h
  obtain ⟨C, gq, s, so, sw, hx⟩ := ha.ca
  obtain ⟨RA, hRA⟩ : ∃ RA, RA = (W.at 0).wrote := ⟨_, rfl⟩
  obtain ⟨RB, hRB⟩ : ∃ RB, RB = (W.at 0).xs := ⟨_, rfl⟩
  have heq : (W.at 0).written = RA ++ RB := by rw [hRA, hRB]; rfl
  obtain ⟨ao, ac, hform, _⟩ := hx.rw.form
  subst hform
  obtain ⟨O, hO⟩ : ∃ O, O = (W.at 0).wrote.length := ⟨_, rfl⟩
  rw [← hO] at hx
  have hx1 := hx.next ((Below.refl w.heap.size w).drew)
  obtain ⟨w1, hw1⟩ : ∃ w1, w1 = w.drew := ⟨_, rfl⟩
  have hb1 : Below w.heap.size w w1 := by rw [hw1]; exact (Below.refl _ _).drew
  have hsz : w.heap.size ≤ w1.heap.size := hb1.size
  rw [← hw1] at hx1
  obtain ⟨qo, qc, hsf, _⟩ := hx1.q.form
  subst hsf
  obtain ⟨Q, hQ⟩ : ∃ Q, Q = (W.at 0).xs.length := ⟨_, rfl⟩
  rw [← hQ] at hx1
  have HS := Lib.hid (show ∀ wr, Below w1.heap.size w1 wr → wr.cell? ⟨g, 5, none⟩ = some (.slice ao O ac) ∧ wr.cell? ⟨g, 3, none⟩ = some (.pointer (some ⟨gq, 0, none⟩)) ∧ wr.cell? ⟨gq, 2, none⟩ = some (.slice qo Q qc) from fun wr hb => ⟨(hx1.next hb).c5, (hx1.next hb).c3, (hx1.next hb).q.c2⟩)
  have HRA := Lib.hid (show ∀ wr, Below w1.heap.size w1 wr → Rd wr (.slice ao O ac) (RA.map bv) from fun wr hb => by rw [hRA]; exact (hx1.next hb).rw)
  have HRB := Lib.hid (show ∀ wr, Below w1.heap.size w1 wr → Rd wr (.slice qo Q qc) (RB.map bv) from fun wr hb => by rw [hRB]; exact (hx1.next hb).q.rd)
  have HO := Lib.hid (show RA.length = O by rw [hRA, hO])
  have HTL := Lib.hid (show (RA ++ RB).length = N by rw [← heq, hn])
  have HOB : Hid (O ≤ 16777216) := Lib.hid (by rw [hO, ← hRA]; have h1 := HTL.out; rw [List.length_append] at h1; omega)
  rw [← hn] at hN ⊢
  have HNB := Lib.hid hN
  have HN := Lib.hid hn
  have HEQ := Lib.hid heq
  have HB := Lib.hid hb1
  have HB0S := Lib.hid hsz
  have HW1 := Lib.hid hw1
  have s0 := HS.out w1 (Below.refl _ _)
  have KB : Below w1.heap.size w1 w1 := Below.refl _ _
  have HQQ := Lib.hid hQ
  clear h ha hx hx1 hRA hRB hO heq hn hN hb1 hw1 hsz hQ
  go_enter Try.func29, Try.ntmps29
  go_wp2_with fail
  refine (known_0 w).mono ?_
  rintro e w2 ⟨rfl, hw⟩
  obtain rfl := hw
  go_wp2
  rw [HW1.out] at s0
  refine wp_region_held_drew (S := fun w' => w'.cell? ⟨g, 5, none⟩ = some (.slice ao O ac) ∧ w'.cell? ⟨g, 3, none⟩ = some (.pointer (some ⟨gq, 0, none⟩)) ∧ w'.cell? ⟨gq, 2, none⟩ = some (.slice qo Q qc)) (by kernel_rfl) s0 (fun hH => ?_)
  rw [← HW1.out] at s0 ⊢
  refine heldTake (i := 1) (v := ?_) rfl (by kernel_rfl) (by kernel_rfl) (fun _ _ _ h => h) (by rfl) (by assumption) (fun w hSw => ?_) ?_; rotate_left; focus ((try dsimp only at hSw); go_simp; try with_reducible rfl)
  try simp only [Act.put, List.setIfInBounds_toArray, List.set_cons_zero, List.set_cons_succ]
  refine heldTake (i := 2) (v := ?_) rfl (by kernel_rfl) (by kernel_rfl) (fun _ _ _ h => h) (by rfl) (by assumption) (fun w hSw => ?_) ?_; rotate_left; focus ((try dsimp only at hSw); go_simp; try with_reducible rfl)
  try simp only [Act.put, List.setIfInBounds_toArray, List.set_cons_zero, List.set_cons_succ]
  refine heldTake (i := 3) (v := ?_) rfl (by kernel_rfl) (by kernel_rfl) (fun _ _ _ h => h) (by rfl) (by assumption) (fun w hSw => ?_) ?_; rotate_left; focus ((try dsimp only at hSw); go_simp; try with_reducible rfl)
  try simp only [Act.put, List.setIfInBounds_toArray, List.set_cons_zero, List.set_cons_succ]
  refine heldTake (i := 4) (v := ?_) rfl (by kernel_rfl) (by kernel_rfl) (fun _ _ _ h => h) (by rfl) (by assumption) (fun w hSw => ?_) ?_; rotate_left; focus ((try dsimp only at hSw); go_simp; try with_reducible rfl)
  try simp only [Act.put, List.setIfInBounds_toArray, List.set_cons_zero, List.set_cons_succ]
  refine heldTake (i := 5) (v := ?_) rfl (by kernel_rfl) (by kernel_rfl) (fun _ _ _ h => h) (by rfl) (by assumption) (fun w hSw => ?_) ?_; rotate_left; focus ((try dsimp only at hSw); go_simp; try with_reducible rfl)
  try simp only [Act.put, List.setIfInBounds_toArray, List.set_cons_zero, List.set_cons_succ]
  refine heldTake (i := 6) (v := ?_) rfl (by kernel_rfl) (by kernel_rfl) (fun _ _ _ h => h) (by rfl) (by assumption) (fun w hSw => ?_) ?_; rotate_left; focus ((try dsimp only at hSw); go_simp; try with_reducible rfl)
  try simp only [Act.put, List.setIfInBounds_toArray, List.set_cons_zero, List.set_cons_succ]
  refine heldTake (i := 7) (v := ?_) rfl (by kernel_rfl) (by kernel_rfl) (fun _ _ _ h => h) (by rfl) (by assumption) (fun w hSw => ?_) ?_; rotate_left; focus ((try dsimp only at hSw); go_simp; try with_reducible rfl)
  try simp only [Act.put, List.setIfInBounds_toArray, List.set_cons_zero, List.set_cons_succ]
  refine heldTake (i := 9) (v := ?_) rfl (by kernel_rfl) (by kernel_rfl) (fun _ _ _ h => h) (by rfl) (by assumption) (fun w hSw => ?_) ?_; rotate_left; focus ((try dsimp only at hSw); go_simp; try with_reducible rfl)
  try simp only [Act.put, List.setIfInBounds_toArray, List.set_cons_zero, List.set_cons_succ]
  refine heldTake (i := 10) (v := ?_) rfl (by kernel_rfl) (by kernel_rfl) (fun _ _ _ h => h) (by rfl) (by assumption) (fun w hSw => ?_) ?_; rotate_left; focus ((try dsimp only at hSw); go_simp; try with_reducible rfl)
  try simp only [Act.put, List.setIfInBounds_toArray, List.set_cons_zero, List.set_cons_succ]
  refine heldTake (i := 11) (v := ?_) rfl (by kernel_rfl) (by kernel_rfl) (fun _ _ _ h => h) (by rfl) (by assumption) (fun w hSw => ?_) ?_; rotate_left; focus ((try dsimp only at hSw); go_simp; try with_reducible rfl)
  try simp only [Act.put, List.setIfInBounds_toArray, List.set_cons_zero, List.set_cons_succ]
  refine heldTake (i := 12) (v := ?_) rfl (by kernel_rfl) (by kernel_rfl) (fun _ _ _ h => h) (by rfl) (by assumption) (fun w hSw => ?_) ?_; rotate_left; focus ((try dsimp only at hSw); go_simp; try with_reducible rfl)
  try simp only [Act.put, List.setIfInBounds_toArray, List.set_cons_zero, List.set_cons_succ]
  refine heldTake (i := 13) (v := ?_) rfl (by kernel_rfl) (by kernel_rfl) (fun _ _ _ h => h) (by rfl) (by assumption) (fun w hSw => ?_) ?_; rotate_left; focus ((try dsimp only at hSw); go_simp; try with_reducible rfl)
  try simp only [Act.put, List.setIfInBounds_toArray, List.set_cons_zero, List.set_cons_succ]
  refine heldTake (i := 14) (v := ?_) rfl (by kernel_rfl) (by kernel_rfl) (fun _ _ _ h => h) (by rfl) (by assumption) (fun w hSw => ?_) ?_; rotate_left; focus ((try dsimp only at hSw); go_simp; try with_reducible rfl)
  try simp only [Act.put, List.setIfInBounds_toArray, List.set_cons_zero, List.set_cons_succ]
  refine heldTake (i := 15) (v := ?_) rfl (by kernel_rfl) (by kernel_rfl) (fun _ _ _ h => h) (by rfl) (by assumption) (fun w hSw => ?_) ?_; rotate_left; focus ((try dsimp only at hSw); go_simp; try with_reducible rfl)
  try simp only [Act.put, List.setIfInBounds_toArray, List.set_cons_zero, List.set_cons_succ]
  refine heldTake (i := 16) (v := ?_) rfl (by kernel_rfl) (by kernel_rfl) (fun _ _ _ h => h) (by rfl) (by assumption) (fun w hSw => ?_) ?_; rotate_left; focus ((try dsimp only at hSw); go_simp; try with_reducible rfl)
  try simp only [Act.put, List.setIfInBounds_toArray, List.set_cons_zero, List.set_cons_succ]
  refine heldTake (i := 17) (v := ?_) rfl (by kernel_rfl) (by kernel_rfl) (fun _ _ _ h => h) (by rfl) (by assumption) (fun w hSw => ?_) ?_; rotate_left; focus ((try dsimp only at hSw); go_simp; try with_reducible rfl)
  try simp only [Act.put, List.setIfInBounds_toArray, List.set_cons_zero, List.set_cons_succ]
  refine heldTake (i := 18) (v := ?_) rfl (by kernel_rfl) (by kernel_rfl) (fun _ _ _ h => h) (by rfl) (by assumption) (fun w hSw => ?_) ?_; rotate_left; focus ((try dsimp only at hSw); go_simp; try with_reducible rfl)
  try simp only [Act.put, List.setIfInBounds_toArray, List.set_cons_zero, List.set_cons_succ]
  -- NEXT 0 Op.buildSlice 28 0 #[]
  refine heldNext (i := 0) rfl (by kernel_rfl) (by rfl) (fun K hK => ?_)
  have hn := made_below KB
  have KF := made_fb KB
  try have KT := KT.below hn
  have KB := KB.trans (hn.mono KB.size)
  go_simp
  have SX := HS.out _ KB
  refine hK.out _ _ SX ?_
  clear hK K hn
  try simp only [Act.put, List.setIfInBounds_toArray, List.set_cons_zero, List.set_cons_succ]
  -- NEXT 8 Op.call { callee := Callee.builtin Builtin.append, args := #[Operand.tmp 8, Operand.tmp 15], argTypes := #[28,
  refine heldNext (i := 8) rfl (by kernel_rfl) (by rfl) (fun K hK => ?_)
  refine wp_append_fresh (.tmp 8) (.tmp 15) (by rfl) (by rfl) KF _ (by rfl) RA (HRA.out _ KB) O HO.out HOB.out KB.size (fun bo1 cc1 w4 hn KG => ?_)
  try have KT := KT.below hn
  have KB := KB.trans (hn.mono KB.size)
  have SX := HS.out _ KB
  refine hK.out _ _ SX ?_
  clear hK K hn KF
  try simp only [Act.put, List.setIfInBounds_toArray, List.set_cons_zero, List.set_cons_succ]
  -- NEXT 19 Op.call { callee := Callee.builtin Builtin.append, args := #[Operand.tmp 16, Operand.tmp 26], argTypes := #[28
  refine heldNext (i := 19) rfl (by kernel_rfl) (by rfl) (fun K hK => ?_)
  refine wp_append_fb (.tmp 16) (.tmp 26) (by rfl) (by rfl) KG _ (by rfl) RB (HRB.out _ KB) N HTL.out HNB.out KB.size (fun bo2 cc2 w5 hn R5 R6 => ?_)
  have KB := KB.trans hn
  have SX := HS.out _ KB
  refine hK.out _ _ SX ?_
  clear hK K hn
  try simp only [Act.put, List.setIfInBounds_toArray, List.set_cons_zero, List.set_cons_succ]
  refine heldTake (i := 20) (v := ?_) rfl (by kernel_rfl) (by kernel_rfl) (fun _ _ _ h => h) (by rfl) (by assumption) (fun w hSw => ?_) ?_; rotate_left; focus ((try dsimp only at hSw); go_simp; try with_reducible rfl)
  try simp only [Act.put, List.setIfInBounds_toArray, List.set_cons_zero, List.set_cons_succ]
  refine wpAnyH_done (by kernel_rfl) ?_ _
  have BE := Lib.hid (HB.out.trans (KB.mono HB.out.size))
  have R5 := Lib.hid R5
  have R6 := Lib.hid R6
  clear KB KG hH HS HRA HTL HNB HB
  try clear KT
  try clear C1
  go_wp2
  go_ret
  refine ⟨bo2, cc2, ?_, ?_, ?_, BE.out⟩
  · show Ending.returned (Value.slice bo2 N cc2) = _
    rw [HN.out]
  · rw [HEQ.out]
    exact R5.out
  · exact fun k hk => ⟨Nat.le_trans HB0S.out (R6.out k hk).1, (R6.out k hk).2⟩

set_option maxHeartbeats 1000000 in
theorem rwritten_1 (h : RW w B g F W) (hN : (W.at 1).written.length ≤ 16777216) : Calls Try.prog 29 #[.pointer (some ⟨g, 0, none⟩), .int .i64 1] w fun e w' => ∃ bo cp, e = .returned (.slice bo (W.at 1).written.length cp) ∧ Rd w' (.slice bo (W.at 1).written.length cp) ((W.at 1).written.map bv) ∧ (∀ k, (Value.slice bo (W.at 1).written.length cp).ownBlock = some k → w.heap.size ≤ k ∧ k < w'.heap.size) ∧ Below w.heap.size w w' := by
  obtain ⟨N, hn⟩ : ∃ N, N = (W.at 1).written.length := ⟨_, rfl⟩
  obtain ⟨F0, ha⟩ := ar_one h
  obtain ⟨C, gq, s, so, sw, hx⟩ := ha.ca
  obtain ⟨RA, hRA⟩ : ∃ RA, RA = (W.at 1).wrote := ⟨_, rfl⟩
  obtain ⟨RB, hRB⟩ : ∃ RB, RB = (W.at 1).xs := ⟨_, rfl⟩
  have heq : (W.at 1).written = RA ++ RB := by rw [hRA, hRB]; rfl
  obtain ⟨ao, ac, hform, _⟩ := hx.rw.form
  subst hform
  obtain ⟨O, hO⟩ : ∃ O, O = (W.at 1).wrote.length := ⟨_, rfl⟩
  rw [← hO] at hx
  have hx1 := hx.next ((Below.refl w.heap.size w).drew)
  obtain ⟨w1, hw1⟩ : ∃ w1, w1 = w.drew := ⟨_, rfl⟩
  have hb1 : Below w.heap.size w w1 := by rw [hw1]; exact (Below.refl _ _).drew
  have hsz : w.heap.size ≤ w1.heap.size := hb1.size
  rw [← hw1] at hx1
  obtain ⟨qo, qc, hsf, _⟩ := hx1.q.form
  subst hsf
  obtain ⟨Q, hQ⟩ : ∃ Q, Q = (W.at 1).xs.length := ⟨_, rfl⟩
  rw [← hQ] at hx1
  have HS := Lib.hid (show ∀ wr, Below w1.heap.size w1 wr → wr.cell? ⟨g, 11, none⟩ = some (.slice ao O ac) ∧ wr.cell? ⟨g, 9, none⟩ = some (.pointer (some ⟨gq, 0, none⟩)) ∧ wr.cell? ⟨gq, 2, none⟩ = some (.slice qo Q qc) from fun wr hb => ⟨(hx1.next hb).c5, (hx1.next hb).c3, (hx1.next hb).q.c2⟩)
  have HRA := Lib.hid (show ∀ wr, Below w1.heap.size w1 wr → Rd wr (.slice ao O ac) (RA.map bv) from fun wr hb => by rw [hRA]; exact (hx1.next hb).rw)
  have HRB := Lib.hid (show ∀ wr, Below w1.heap.size w1 wr → Rd wr (.slice qo Q qc) (RB.map bv) from fun wr hb => by rw [hRB]; exact (hx1.next hb).q.rd)
  have HO := Lib.hid (show RA.length = O by rw [hRA, hO])
  have HTL := Lib.hid (show (RA ++ RB).length = N by rw [← heq, hn])
  have HOB : Hid (O ≤ 16777216) := Lib.hid (by rw [hO, ← hRA]; have h1 := HTL.out; rw [List.length_append] at h1; omega)
  rw [← hn] at hN ⊢
  have HNB := Lib.hid hN
  have HN := Lib.hid hn
  have HEQ := Lib.hid heq
  have HB := Lib.hid hb1
  have HB0S := Lib.hid hsz
  have HW1 := Lib.hid hw1
  have s0 := HS.out w1 (Below.refl _ _)
  have KB : Below w1.heap.size w1 w1 := Below.refl _ _
  have HQQ := Lib.hid hQ
  clear h ha hx hx1 hRA hRB hO heq hn hN hb1 hw1 hsz hQ
  go_enter Try.func29, Try.ntmps29
  go_wp2_with fail
  refine (known_1 w).mono ?_
  rintro e w2 ⟨rfl, hw⟩
  obtain rfl := hw
  go_wp2
  rw [HW1.out] at s0
  refine wp_region_held_drew (S := fun w' => w'.cell? ⟨g, 11, none⟩ = some (.slice ao O ac) ∧ w'.cell? ⟨g, 9, none⟩ = some (.pointer (some ⟨gq, 0, none⟩)) ∧ w'.cell? ⟨gq, 2, none⟩ = some (.slice qo Q qc)) (by kernel_rfl) s0 (fun hH => ?_)
  rw [← HW1.out] at s0 ⊢
  refine heldTake (i := 1) (v := ?_) rfl (by kernel_rfl) (by kernel_rfl) (fun _ _ _ h => h) (by rfl) (by assumption) (fun w hSw => ?_) ?_; rotate_left; focus ((try dsimp only at hSw); go_simp; try with_reducible rfl)
  try simp only [Act.put, List.setIfInBounds_toArray, List.set_cons_zero, List.set_cons_succ]
  refine heldTake (i := 2) (v := ?_) rfl (by kernel_rfl) (by kernel_rfl) (fun _ _ _ h => h) (by rfl) (by assumption) (fun w hSw => ?_) ?_; rotate_left; focus ((try dsimp only at hSw); go_simp; try with_reducible rfl)
  try simp only [Act.put, List.setIfInBounds_toArray, List.set_cons_zero, List.set_cons_succ]
  refine heldTake (i := 3) (v := ?_) rfl (by kernel_rfl) (by kernel_rfl) (fun _ _ _ h => h) (by rfl) (by assumption) (fun w hSw => ?_) ?_; rotate_left; focus ((try dsimp only at hSw); go_simp; try with_reducible rfl)
  try simp only [Act.put, List.setIfInBounds_toArray, List.set_cons_zero, List.set_cons_succ]
  refine heldTake (i := 4) (v := ?_) rfl (by kernel_rfl) (by kernel_rfl) (fun _ _ _ h => h) (by rfl) (by assumption) (fun w hSw => ?_) ?_; rotate_left; focus ((try dsimp only at hSw); go_simp; try with_reducible rfl)
  try simp only [Act.put, List.setIfInBounds_toArray, List.set_cons_zero, List.set_cons_succ]
  refine heldTake (i := 5) (v := ?_) rfl (by kernel_rfl) (by kernel_rfl) (fun _ _ _ h => h) (by rfl) (by assumption) (fun w hSw => ?_) ?_; rotate_left; focus ((try dsimp only at hSw); go_simp; try with_reducible rfl)
  try simp only [Act.put, List.setIfInBounds_toArray, List.set_cons_zero, List.set_cons_succ]
  refine heldTake (i := 6) (v := ?_) rfl (by kernel_rfl) (by kernel_rfl) (fun _ _ _ h => h) (by rfl) (by assumption) (fun w hSw => ?_) ?_; rotate_left; focus ((try dsimp only at hSw); go_simp; try with_reducible rfl)
  try simp only [Act.put, List.setIfInBounds_toArray, List.set_cons_zero, List.set_cons_succ]
  refine heldTake (i := 7) (v := ?_) rfl (by kernel_rfl) (by kernel_rfl) (fun _ _ _ h => h) (by rfl) (by assumption) (fun w hSw => ?_) ?_; rotate_left; focus ((try dsimp only at hSw); go_simp; try with_reducible rfl)
  try simp only [Act.put, List.setIfInBounds_toArray, List.set_cons_zero, List.set_cons_succ]
  refine heldTake (i := 9) (v := ?_) rfl (by kernel_rfl) (by kernel_rfl) (fun _ _ _ h => h) (by rfl) (by assumption) (fun w hSw => ?_) ?_; rotate_left; focus ((try dsimp only at hSw); go_simp; try with_reducible rfl)
  try simp only [Act.put, List.setIfInBounds_toArray, List.set_cons_zero, List.set_cons_succ]
  refine heldTake (i := 10) (v := ?_) rfl (by kernel_rfl) (by kernel_rfl) (fun _ _ _ h => h) (by rfl) (by assumption) (fun w hSw => ?_) ?_; rotate_left; focus ((try dsimp only at hSw); go_simp; try with_reducible rfl)
  try simp only [Act.put, List.setIfInBounds_toArray, List.set_cons_zero, List.set_cons_succ]
  refine heldTake (i := 11) (v := ?_) rfl (by kernel_rfl) (by kernel_rfl) (fun _ _ _ h => h) (by rfl) (by assumption) (fun w hSw => ?_) ?_; rotate_left; focus ((try dsimp only at hSw); go_simp; try with_reducible rfl)
  try simp only [Act.put, List.setIfInBounds_toArray, List.set_cons_zero, List.set_cons_succ]
  refine heldTake (i := 12) (v := ?_) rfl (by kernel_rfl) (by kernel_rfl) (fun _ _ _ h => h) (by rfl) (by assumption) (fun w hSw => ?_) ?_; rotate_left; focus ((try dsimp only at hSw); go_simp; try with_reducible rfl)
  try simp only [Act.put, List.setIfInBounds_toArray, List.set_cons_zero, List.set_cons_succ]
  refine heldTake (i := 13) (v := ?_) rfl (by kernel_rfl) (by kernel_rfl) (fun _ _ _ h => h) (by rfl) (by assumption) (fun w hSw => ?_) ?_; rotate_left; focus ((try dsimp only at hSw); go_simp; try with_reducible rfl)
  try simp only [Act.put, List.setIfInBounds_toArray, List.set_cons_zero, List.set_cons_succ]
  refine heldTake (i := 14) (v := ?_) rfl (by kernel_rfl) (by kernel_rfl) (fun _ _ _ h => h) (by rfl) (by assumption) (fun w hSw => ?_) ?_; rotate_left; focus ((try dsimp only at hSw); go_simp; try with_reducible rfl)
  try simp only [Act.put, List.setIfInBounds_toArray, List.set_cons_zero, List.set_cons_succ]
  refine heldTake (i := 15) (v := ?_) rfl (by kernel_rfl) (by kernel_rfl) (fun _ _ _ h => h) (by rfl) (by assumption) (fun w hSw => ?_) ?_; rotate_left; focus ((try dsimp only at hSw); go_simp; try with_reducible rfl)
  try simp only [Act.put, List.setIfInBounds_toArray, List.set_cons_zero, List.set_cons_succ]
  refine heldTake (i := 16) (v := ?_) rfl (by kernel_rfl) (by kernel_rfl) (fun _ _ _ h => h) (by rfl) (by assumption) (fun w hSw => ?_) ?_; rotate_left; focus ((try dsimp only at hSw); go_simp; try with_reducible rfl)
  try simp only [Act.put, List.setIfInBounds_toArray, List.set_cons_zero, List.set_cons_succ]
  refine heldTake (i := 17) (v := ?_) rfl (by kernel_rfl) (by kernel_rfl) (fun _ _ _ h => h) (by rfl) (by assumption) (fun w hSw => ?_) ?_; rotate_left; focus ((try dsimp only at hSw); go_simp; try with_reducible rfl)
  try simp only [Act.put, List.setIfInBounds_toArray, List.set_cons_zero, List.set_cons_succ]
  refine heldTake (i := 18) (v := ?_) rfl (by kernel_rfl) (by kernel_rfl) (fun _ _ _ h => h) (by rfl) (by assumption) (fun w hSw => ?_) ?_; rotate_left; focus ((try dsimp only at hSw); go_simp; try with_reducible rfl)
  try simp only [Act.put, List.setIfInBounds_toArray, List.set_cons_zero, List.set_cons_succ]
  -- NEXT 0 Op.buildSlice 28 0 #[]
  refine heldNext (i := 0) rfl (by kernel_rfl) (by rfl) (fun K hK => ?_)
  have hn := made_below KB
  have KF := made_fb KB
  try have KT := KT.below hn
  have KB := KB.trans (hn.mono KB.size)
  go_simp
  have SX := HS.out _ KB
  refine hK.out _ _ SX ?_
  clear hK K hn
  try simp only [Act.put, List.setIfInBounds_toArray, List.set_cons_zero, List.set_cons_succ]
  -- NEXT 8 Op.call { callee := Callee.builtin Builtin.append, args := #[Operand.tmp 8, Operand.tmp 15], argTypes := #[28,
  refine heldNext (i := 8) rfl (by kernel_rfl) (by rfl) (fun K hK => ?_)
  refine wp_append_fresh (.tmp 8) (.tmp 15) (by rfl) (by rfl) KF _ (by rfl) RA (HRA.out _ KB) O HO.out HOB.out KB.size (fun bo1 cc1 w4 hn KG => ?_)
  try have KT := KT.below hn
  have KB := KB.trans (hn.mono KB.size)
  have SX := HS.out _ KB
  refine hK.out _ _ SX ?_
  clear hK K hn KF
  try simp only [Act.put, List.setIfInBounds_toArray, List.set_cons_zero, List.set_cons_succ]
  -- NEXT 19 Op.call { callee := Callee.builtin Builtin.append, args := #[Operand.tmp 16, Operand.tmp 26], argTypes := #[28
  refine heldNext (i := 19) rfl (by kernel_rfl) (by rfl) (fun K hK => ?_)
  refine wp_append_fb (.tmp 16) (.tmp 26) (by rfl) (by rfl) KG _ (by rfl) RB (HRB.out _ KB) N HTL.out HNB.out KB.size (fun bo2 cc2 w5 hn R5 R6 => ?_)
  have KB := KB.trans hn
  have SX := HS.out _ KB
  refine hK.out _ _ SX ?_
  clear hK K hn
  try simp only [Act.put, List.setIfInBounds_toArray, List.set_cons_zero, List.set_cons_succ]
  refine heldTake (i := 20) (v := ?_) rfl (by kernel_rfl) (by kernel_rfl) (fun _ _ _ h => h) (by rfl) (by assumption) (fun w hSw => ?_) ?_; rotate_left; focus ((try dsimp only at hSw); go_simp; try with_reducible rfl)
  try simp only [Act.put, List.setIfInBounds_toArray, List.set_cons_zero, List.set_cons_succ]
  refine wpAnyH_done (by kernel_rfl) ?_ _
  have BE := Lib.hid (HB.out.trans (KB.mono HB.out.size))
  have R5 := Lib.hid R5
  have R6 := Lib.hid R6
  clear KB KG hH HS HRA HTL HNB HB
  try clear KT
  try clear C1
  go_wp2
  go_ret
  refine ⟨bo2, cc2, ?_, ?_, ?_, BE.out⟩
  · show Ending.returned (Value.slice bo2 N cc2) = _
    rw [HN.out]
  · rw [HEQ.out]
    exact R5.out
  · exact fun k hk => ⟨Nat.le_trans HB0S.out (R6.out k hk).1, (R6.out k hk).2⟩

theorem rwritten_n (_h : RW w B g F W) {k : Int} (h0 : k ≠ 0) (h1 : k ≠ 1) : Calls Try.prog 29 #[.pointer (some ⟨g, 0, none⟩), .int .i64 k] w fun e w' => ∃ bo cp, e = .returned (.slice bo (W.at k).written.length cp) ∧ Rd w' (.slice bo (W.at k).written.length cp) ((W.at k).written.map bv) ∧ (∀ k', (Value.slice bo (W.at k).written.length cp).ownBlock = some k' → w.heap.size ≤ k' ∧ k' < w'.heap.size) ∧ Below w.heap.size w w' := by
  rw [at_far h0 h1]
  have KN := Lib.hid (known_n h0 h1 w)
  clear h0 h1 _h
  go_enter Try.func29, Try.ntmps29
  go_wp2_with fail
  refine KN.out.mono ?_
  rintro e w1 ⟨rfl, hw⟩
  obtain rfl := hw
  go_wp2
  go_ret
  exact ⟨none, 0, rfl, rd_none, (fun k e => by cases e), Below.refl _ _⟩
/-- The reference's 'Written'. -/
theorem rwritten_any (h : RW w B g F W) (k : Int) (hN : (W.at k).written.length ≤ 16777216) : Calls Try.prog 29 #[.pointer (some ⟨g, 0, none⟩), .int .i64 k] w fun e w' => ∃ bo cp, e = .returned (.slice bo (W.at k).written.length cp) ∧ Rd w' (.slice bo (W.at k).written.length cp) ((W.at k).written.map bv) ∧ (∀ k', (Value.slice bo (W.at k).written.length cp).ownBlock = some k' → w.heap.size ≤ k' ∧ k' < w'.heap.size) ∧ Below w.heap.size w w' := by
  by_cases h0 : k = 0
  · subst h0; exact rwritten_0 h hN
  by_cases h1 : k = 1
  · subst h1; exact rwritten_1 h hN
  exact rwritten_n h h0 h1
end
end Go.Proofs.Ytneifmnlailipaa
