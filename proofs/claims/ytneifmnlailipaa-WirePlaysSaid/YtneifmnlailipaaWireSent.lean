/- The wire: Sent, Written walked. (Laid by wip/tools/gen_sent.py.) -/
import Derived.Test.YtneifmnlailipaaWireHap
namespace Go.Proofs.Ytneifmnlailipaa
open Go.RowKit
section
variable {w : World} {B g : Nat} {F : Nat → Prop} {W : Wi.Wm}

set_option maxHeartbeats 1000000 in
/-- 'Sent'. -/
theorem sent_any (h : WO w B g F W) (k : Int) (hN : (W.at k).sent.length ≤ 16777216) : Calls Try.prog 26 #[.pointer (some ⟨g, 0, none⟩), .int .i64 k] w fun e w' => ∃ bo cp, e = .returned (.slice bo (W.at k).sent.length cp) ∧ Rd w' (.slice bo (W.at k).sent.length cp) ((W.at k).sent.map bv) ∧ Below w.heap.size w w' := by
  have H := Lib.hid h
  obtain ⟨N, hn⟩ : ∃ N, N = (W.at k).sent.length := ⟨_, rfl⟩
  rw [← hn] at hN ⊢
  have HN := Lib.hid hn
  have HNB := Lib.hid hN
  clear h hN hn
  go_enter Try.func26, Try.ntmps26
  go_wp2_with fail
  refine (at_any H.out k).mono ?_
  rintro e w1 ⟨g', o, F', T', rfl, ha⟩
  obtain ⟨C, s, so, sw, most, hx⟩ := ha.ca
  obtain ⟨ao, ac, hform⟩ := hx.ro.form
  subst hform
  obtain ⟨RA, hRA⟩ : ∃ RA, RA = (W.at k).norm.old := ⟨_, rfl⟩
  obtain ⟨RB, hRB⟩ : ∃ RB, RB = ((W.at k).norm.xs.take (W.at k).norm.t) := ⟨_, rfl⟩
  have heq : (W.at k).sent = RA ++ RB := by
    rw [hRA, hRB, ← Wi.Cn.norm_sent]
    rfl
  have hC := fun wr (hb : Below w1.heap.size w1 wr) => taken_any (hx.next hb).q
  obtain ⟨O, hO⟩ : ∃ O, O = (W.at k).norm.old.length := ⟨_, rfl⟩
  rw [← hO] at hx
  obtain ⟨Q, hQ⟩ : ∃ Q, Q = RB.length := ⟨_, rfl⟩
  have C1 : Hid (∀ wr, Below w1.heap.size w1 wr → Calls Try.prog 51 #[.pointer (some ⟨g', o + 3, none⟩)] wr fun e w' => ∃ xo xc, e = .returned (.slice xo Q xc) ∧ Below w1.heap.size w1 w' ∧ Rd w' (.slice xo Q xc) (RB.map bv)) := Lib.hid (fun wr hb => by
    refine (hC wr hb).mono ?_
    rintro e w' ⟨v, rfl, h1, h2⟩
    obtain ⟨xo, xc, rfl⟩ := h2.form
    rw [hQ, hRB]
    exact ⟨xo, xc, rfl, hb.trans (h1.mono hb.size), h2.rd⟩)
  have HTOT := Lib.hid (show (RA ++ RB).length ≤ 16777216 by rw [← heq, ← HN.out]; exact HNB.out)
  have HTL := Lib.hid (show (RA ++ RB).length = N by rw [← heq, ← HN.out])
  have HEQ := Lib.hid heq
  have HRA := Lib.hid (show ∀ wr, CX wr B g' o F' C T' s (.slice ao O ac) sw most (W.at k).norm → Rd wr (.slice ao O ac) (RA.map bv) from fun wr h => by rw [hRA]; exact h.ro.rd)
  have HX := Lib.hid hx
  have HB := Lib.hid ha.below
  have HB0 := Lib.hid ((Below.refl w1.heap.size w1).drew)
  have c6 := hx.c6
  clear ha hx hRA hRB hO hQ heq hC
  go_wp2
  refine wp_region_held_drew (S := fun _ => True) (by kernel_rfl) trivial (fun hH => ?_)
  refine heldTake (i := 0) (v := ?_) rfl (by kernel_rfl) (by kernel_rfl) (fun _ _ _ h => h) (by rfl) trivial (fun w hSw => ?_) ?_; rotate_left; focus ((try dsimp only at hSw); go_simp; try with_reducible rfl)
  try simp only [Act.put, List.setIfInBounds_toArray, List.set_cons_zero, List.set_cons_succ]
  refine heldTake (i := 1) (v := ?_) rfl (by kernel_rfl) (by kernel_rfl) (fun _ _ _ h => h) (by rfl) trivial (fun w hSw => ?_) ?_; rotate_left; focus ((try dsimp only at hSw); go_simp; try with_reducible rfl)
  try simp only [Act.put, List.setIfInBounds_toArray, List.set_cons_zero, List.set_cons_succ]
  refine heldTake (i := 2) (v := ?_) rfl (by kernel_rfl) (by kernel_rfl) (fun _ _ _ h => h) (by rfl) trivial (fun w hSw => ?_) ?_; rotate_left; focus ((try dsimp only at hSw); go_simp; try with_reducible rfl)
  try simp only [Act.put, List.setIfInBounds_toArray, List.set_cons_zero, List.set_cons_succ]
  refine heldTake (i := 4) (v := ?_) rfl (by kernel_rfl) (by kernel_rfl) (fun _ _ _ h => h) (by rfl) trivial (fun w hSw => ?_) ?_; rotate_left; focus ((try dsimp only at hSw); go_simp; try with_reducible rfl)
  try simp only [Act.put, List.setIfInBounds_toArray, List.set_cons_zero, List.set_cons_succ]
  refine heldTake (i := 5) (v := ?_) rfl (by kernel_rfl) (by kernel_rfl) (fun _ _ _ h => h) (by rfl) trivial (fun w hSw => ?_) ?_; rotate_left; focus ((try dsimp only at hSw); go_simp; try with_reducible rfl)
  try simp only [Act.put, List.setIfInBounds_toArray, List.set_cons_zero, List.set_cons_succ]
  refine heldTake (i := 6) (v := ?_) rfl (by kernel_rfl) (by kernel_rfl) (fun _ _ _ h => h) (by rfl) trivial (fun w hSw => ?_) ?_; rotate_left; focus ((try dsimp only at hSw); go_simp; try with_reducible rfl)
  try simp only [Act.put, List.setIfInBounds_toArray, List.set_cons_zero, List.set_cons_succ]
  -- TWO 3 Op.load 28 (Operand.tmp 11) | 7 Op.call { callee := Callee.value (Operand.func 51), args := #[Operand.tmp 15], a
  refine heldTwo (i := 3) (j := 7) rfl rfl (by kernel_rfl) (by rfl) (by rfl) (fun K hK => ?_) (fun K hK => ?_)
  · go_simp; refine hK.out _ _ trivial ?_; clear hK K
    try simp only [Act.put, List.setIfInBounds_toArray, List.set_cons_zero, List.set_cons_succ]
    -- NEXT 7 Op.call { callee := Callee.value (Operand.func 51), args := #[Operand.tmp 15], argTypes := #[48] }
    refine heldNext (i := 7) rfl (by kernel_rfl) (by rfl) (fun K hK => ?_)
    go_simp; go_at_call 51; refine (C1.out _ HB0.out).mono ?_; rintro e w3 ⟨xo, xc, rfl, hb, hr⟩; have hx3 := HX.out.next hb; have d6 := hx3.c6; have R3 := Lib.hid hr; have B3 := Lib.hid hb; first | (refine hK.out _ _ trivial ?_) | (go_wp2_with fail; refine hK.out _ _ trivial ?_); clear hK K hr hb
    try simp only [Act.put, List.setIfInBounds_toArray, List.set_cons_zero, List.set_cons_succ]
    -- NEXT 8 Op.buildSlice 44 2 #[(0, Operand.tmp 12), (1, Operand.tmp 16)]
    refine heldNext (i := 8) rfl (by kernel_rfl) (by rfl) (fun K hK => ?_)
    have ha := (Below.refl w3.heap.size w3).alloc (Nat.le_refl _) (.cells #[.slice ao O ac, .slice xo Q xc] 28)
    have hrow := heap_alloc_new w3 (.cells #[.slice ao O ac, .slice xo Q xc] 28)
    go_simp
    refine hK.out _ _ trivial ?_
    clear hK K
    try simp only [Act.put, List.setIfInBounds_toArray, List.set_cons_zero, List.set_cons_succ]
    -- NEXT 9 Op.call { callee := Callee.value (Operand.func 50), args := #[Operand.tmp 17], argTypes := #[44] }
    refine heldNext (i := 9) rfl (by kernel_rfl) (by rfl) (fun K hK => ?_)
    have hcat : cat [(.slice ao O ac, RA), (.slice xo Q xc, RB)] = RA ++ RB := by simp [cat]
    have hct := concat_any w3.heap.size 2 [(.slice ao O ac, RA), (.slice xo Q xc, RB)] (w3.alloc (.cells #[.slice ao O ac, .slice xo Q xc] 28)) rfl (by decide) (fun j p hj => by
      match j, hj with
      | 0, hj => simp only [List.getElem?_cons_zero, Option.some.injEq] at hj; subst hj; exact cell_of_row _ _ _ _ _ _ hrow
      | 1, hj => simp only [List.getElem?_cons_succ, List.getElem?_cons_zero, Option.some.injEq] at hj; subst hj; exact cell_of_row _ _ _ _ _ _ hrow
      | j + 2, hj => simp at hj) (fun p hp => by
      simp only [List.mem_cons, List.not_mem_nil, or_false] at hp
      rcases hp with rfl | rfl
      · exact (HRA.out _ hx3).below ha
      · exact R3.out.below ha) (by rw [hcat]; exact HTOT.out)
    rw [hcat, HTL.out] at hct
    go_simp
    go_at_call 50
    refine hct.mono ?_
    rintro e w4 ⟨bo, cp, rfl, hb4, ho4, _⟩
    have R4 := Lib.hid (Rd.of_own ho4)
    have B4 := Lib.hid (B3.out.trans ((ha.trans (hb4.mono ha.size)).mono B3.out.size))
    first | (refine hK.out _ _ trivial ?_) | (go_wp2_with fail; refine hK.out _ _ trivial ?_)
    clear hK K hct ho4 hb4 hcat ha hrow
    try simp only [Act.put, List.setIfInBounds_toArray, List.set_cons_zero, List.set_cons_succ]
    refine heldTake (i := 10) (v := ?_) rfl (by kernel_rfl) (by kernel_rfl) (fun _ _ _ h => h) (by rfl) trivial (fun w hSw => ?_) ?_; rotate_left; focus ((try dsimp only at hSw); go_simp; try with_reducible rfl)
    try simp only [Act.put, List.setIfInBounds_toArray, List.set_cons_zero, List.set_cons_succ]
    refine wpAnyH_done (by kernel_rfl) ?_ _
    have BE := Lib.hid (HB.out.trans (B4.out.mono HB.out.size))
    clear R3 B3 B4 hx3 d6 hH HX HRA HTOT C1 HB0 HB c6
    simp only [Exit.then]
    go_wp2
    go_ret
    refine ⟨bo, cp, ?_, ?_, BE.out⟩
    · show Ending.returned (Value.slice bo N cp) = _
      rw [HN.out]
    · rw [HEQ.out]
      exact R4.out
  · go_simp; go_at_call 51; refine (C1.out _ HB0.out).mono ?_; rintro e w3 ⟨xo, xc, rfl, hb, hr⟩; have hx3 := HX.out.next hb; have d6 := hx3.c6; have R3 := Lib.hid hr; have B3 := Lib.hid hb; first | (refine hK.out _ _ trivial ?_) | (go_wp2_with fail; refine hK.out _ _ trivial ?_); clear hK K hr hb
    try simp only [Act.put, List.setIfInBounds_toArray, List.set_cons_zero, List.set_cons_succ]
    -- NEXT 3 Op.load 28 (Operand.tmp 11)
    refine heldNext (i := 3) rfl (by kernel_rfl) (by rfl) (fun K hK => ?_)
    go_simp; refine hK.out _ _ trivial ?_; clear hK K
    try simp only [Act.put, List.setIfInBounds_toArray, List.set_cons_zero, List.set_cons_succ]
    -- NEXT 8 Op.buildSlice 44 2 #[(0, Operand.tmp 12), (1, Operand.tmp 16)]
    refine heldNext (i := 8) rfl (by kernel_rfl) (by rfl) (fun K hK => ?_)
    have ha := (Below.refl w3.heap.size w3).alloc (Nat.le_refl _) (.cells #[.slice ao O ac, .slice xo Q xc] 28)
    have hrow := heap_alloc_new w3 (.cells #[.slice ao O ac, .slice xo Q xc] 28)
    go_simp
    refine hK.out _ _ trivial ?_
    clear hK K
    try simp only [Act.put, List.setIfInBounds_toArray, List.set_cons_zero, List.set_cons_succ]
    -- NEXT 9 Op.call { callee := Callee.value (Operand.func 50), args := #[Operand.tmp 17], argTypes := #[44] }
    refine heldNext (i := 9) rfl (by kernel_rfl) (by rfl) (fun K hK => ?_)
    have hcat : cat [(.slice ao O ac, RA), (.slice xo Q xc, RB)] = RA ++ RB := by simp [cat]
    have hct := concat_any w3.heap.size 2 [(.slice ao O ac, RA), (.slice xo Q xc, RB)] (w3.alloc (.cells #[.slice ao O ac, .slice xo Q xc] 28)) rfl (by decide) (fun j p hj => by
      match j, hj with
      | 0, hj => simp only [List.getElem?_cons_zero, Option.some.injEq] at hj; subst hj; exact cell_of_row _ _ _ _ _ _ hrow
      | 1, hj => simp only [List.getElem?_cons_succ, List.getElem?_cons_zero, Option.some.injEq] at hj; subst hj; exact cell_of_row _ _ _ _ _ _ hrow
      | j + 2, hj => simp at hj) (fun p hp => by
      simp only [List.mem_cons, List.not_mem_nil, or_false] at hp
      rcases hp with rfl | rfl
      · exact (HRA.out _ hx3).below ha
      · exact R3.out.below ha) (by rw [hcat]; exact HTOT.out)
    rw [hcat, HTL.out] at hct
    go_simp
    go_at_call 50
    refine hct.mono ?_
    rintro e w4 ⟨bo, cp, rfl, hb4, ho4, _⟩
    have R4 := Lib.hid (Rd.of_own ho4)
    have B4 := Lib.hid (B3.out.trans ((ha.trans (hb4.mono ha.size)).mono B3.out.size))
    first | (refine hK.out _ _ trivial ?_) | (go_wp2_with fail; refine hK.out _ _ trivial ?_)
    clear hK K hct ho4 hb4 hcat ha hrow
    try simp only [Act.put, List.setIfInBounds_toArray, List.set_cons_zero, List.set_cons_succ]
    refine heldTake (i := 10) (v := ?_) rfl (by kernel_rfl) (by kernel_rfl) (fun _ _ _ h => h) (by rfl) trivial (fun w hSw => ?_) ?_; rotate_left; focus ((try dsimp only at hSw); go_simp; try with_reducible rfl)
    try simp only [Act.put, List.setIfInBounds_toArray, List.set_cons_zero, List.set_cons_succ]
    refine wpAnyH_done (by kernel_rfl) ?_ _
    have BE := Lib.hid (HB.out.trans (B4.out.mono HB.out.size))
    clear R3 B3 B4 hx3 d6 hH HX HRA HTOT C1 HB0 HB c6
    simp only [Exit.then]
    go_wp2
    go_ret
    refine ⟨bo, cp, ?_, ?_, BE.out⟩
    · show Ending.returned (Value.slice bo N cp) = _
      rw [HN.out]
    · rw [HEQ.out]
      exact R4.out

set_option maxHeartbeats 1000000 in
/-- 'Written'. -/
theorem written_any (h : WO w B g F W) (k : Int) (hN : (W.at k).written.length ≤ 16777216) : Calls Try.prog 28 #[.pointer (some ⟨g, 0, none⟩), .int .i64 k] w fun e w' => ∃ bo cp, e = .returned (.slice bo (W.at k).written.length cp) ∧ Rd w' (.slice bo (W.at k).written.length cp) ((W.at k).written.map bv) ∧ Below w.heap.size w w' := by
  have H := Lib.hid h
  obtain ⟨N, hn⟩ : ∃ N, N = (W.at k).written.length := ⟨_, rfl⟩
  rw [← hn] at hN ⊢
  have HN := Lib.hid hn
  have HNB := Lib.hid hN
  clear h hN hn
  go_enter Try.func28, Try.ntmps28
  go_wp2_with fail
  refine (at_any H.out k).mono ?_
  rintro e w1 ⟨g', o, F', T', rfl, ha⟩
  obtain ⟨C, s, so, sw, most, hx⟩ := ha.ca
  obtain ⟨ao, ac, hform⟩ := hx.rw.form
  subst hform
  obtain ⟨RA, hRA⟩ : ∃ RA, RA = (W.at k).norm.wrote := ⟨_, rfl⟩
  obtain ⟨RB, hRB⟩ : ∃ RB, RB = (W.at k).norm.xs := ⟨_, rfl⟩
  have heq : (W.at k).written = RA ++ RB := by
    rw [hRA, hRB, ← Wi.Cn.norm_written]
    rfl
  have hC := fun wr (hb : Below w1.heap.size w1 wr) => all_any (hx.next hb).q
  obtain ⟨O, hO⟩ : ∃ O, O = (W.at k).norm.wrote.length := ⟨_, rfl⟩
  rw [← hO] at hx
  obtain ⟨Q, hQ⟩ : ∃ Q, Q = RB.length := ⟨_, rfl⟩
  have C1 : Hid (∀ wr, Below w1.heap.size w1 wr → Calls Try.prog 53 #[.pointer (some ⟨g', o + 3, none⟩)] wr fun e w' => ∃ xo xc, e = .returned (.slice xo Q xc) ∧ Below w1.heap.size w1 w' ∧ Rd w' (.slice xo Q xc) (RB.map bv)) := Lib.hid (fun wr hb => by
    refine (hC wr hb).mono ?_
    rintro e w' ⟨v, rfl, h1, h2⟩
    obtain ⟨xo, xc, rfl⟩ := h2.form
    rw [hQ, hRB]
    exact ⟨xo, xc, rfl, hb.trans (h1.mono hb.size), h2.rd⟩)
  have HTOT := Lib.hid (show (RA ++ RB).length ≤ 16777216 by rw [← heq, ← HN.out]; exact HNB.out)
  have HTL := Lib.hid (show (RA ++ RB).length = N by rw [← heq, ← HN.out])
  have HEQ := Lib.hid heq
  have HRA := Lib.hid (show ∀ wr, CX wr B g' o F' C T' s so (.slice ao O ac) most (W.at k).norm → Rd wr (.slice ao O ac) (RA.map bv) from fun wr h => by rw [hRA]; exact h.rw.rd)
  have HX := Lib.hid hx
  have HB := Lib.hid ha.below
  have HB0 := Lib.hid ((Below.refl w1.heap.size w1).drew)
  have c6 := hx.c7
  clear ha hx hRA hRB hO hQ heq hC
  go_wp2
  refine wp_region_held_drew (S := fun _ => True) (by kernel_rfl) trivial (fun hH => ?_)
  refine heldTake (i := 0) (v := ?_) rfl (by kernel_rfl) (by kernel_rfl) (fun _ _ _ h => h) (by rfl) trivial (fun w hSw => ?_) ?_; rotate_left; focus ((try dsimp only at hSw); go_simp; try with_reducible rfl)
  try simp only [Act.put, List.setIfInBounds_toArray, List.set_cons_zero, List.set_cons_succ]
  refine heldTake (i := 1) (v := ?_) rfl (by kernel_rfl) (by kernel_rfl) (fun _ _ _ h => h) (by rfl) trivial (fun w hSw => ?_) ?_; rotate_left; focus ((try dsimp only at hSw); go_simp; try with_reducible rfl)
  try simp only [Act.put, List.setIfInBounds_toArray, List.set_cons_zero, List.set_cons_succ]
  refine heldTake (i := 2) (v := ?_) rfl (by kernel_rfl) (by kernel_rfl) (fun _ _ _ h => h) (by rfl) trivial (fun w hSw => ?_) ?_; rotate_left; focus ((try dsimp only at hSw); go_simp; try with_reducible rfl)
  try simp only [Act.put, List.setIfInBounds_toArray, List.set_cons_zero, List.set_cons_succ]
  refine heldTake (i := 4) (v := ?_) rfl (by kernel_rfl) (by kernel_rfl) (fun _ _ _ h => h) (by rfl) trivial (fun w hSw => ?_) ?_; rotate_left; focus ((try dsimp only at hSw); go_simp; try with_reducible rfl)
  try simp only [Act.put, List.setIfInBounds_toArray, List.set_cons_zero, List.set_cons_succ]
  refine heldTake (i := 5) (v := ?_) rfl (by kernel_rfl) (by kernel_rfl) (fun _ _ _ h => h) (by rfl) trivial (fun w hSw => ?_) ?_; rotate_left; focus ((try dsimp only at hSw); go_simp; try with_reducible rfl)
  try simp only [Act.put, List.setIfInBounds_toArray, List.set_cons_zero, List.set_cons_succ]
  refine heldTake (i := 6) (v := ?_) rfl (by kernel_rfl) (by kernel_rfl) (fun _ _ _ h => h) (by rfl) trivial (fun w hSw => ?_) ?_; rotate_left; focus ((try dsimp only at hSw); go_simp; try with_reducible rfl)
  try simp only [Act.put, List.setIfInBounds_toArray, List.set_cons_zero, List.set_cons_succ]
  -- TWO 3 Op.load 28 (Operand.tmp 11) | 7 Op.call { callee := Callee.value (Operand.func 53), args := #[Operand.tmp 15], a
  refine heldTwo (i := 3) (j := 7) rfl rfl (by kernel_rfl) (by rfl) (by rfl) (fun K hK => ?_) (fun K hK => ?_)
  · go_simp; refine hK.out _ _ trivial ?_; clear hK K
    try simp only [Act.put, List.setIfInBounds_toArray, List.set_cons_zero, List.set_cons_succ]
    -- NEXT 7 Op.call { callee := Callee.value (Operand.func 53), args := #[Operand.tmp 15], argTypes := #[48] }
    refine heldNext (i := 7) rfl (by kernel_rfl) (by rfl) (fun K hK => ?_)
    go_simp; go_at_call 53; refine (C1.out _ HB0.out).mono ?_; rintro e w3 ⟨xo, xc, rfl, hb, hr⟩; have hx3 := HX.out.next hb; have d6 := hx3.c7; have R3 := Lib.hid hr; have B3 := Lib.hid hb; first | (refine hK.out _ _ trivial ?_) | (go_wp2_with fail; refine hK.out _ _ trivial ?_); clear hK K hr hb
    try simp only [Act.put, List.setIfInBounds_toArray, List.set_cons_zero, List.set_cons_succ]
    -- NEXT 8 Op.buildSlice 44 2 #[(0, Operand.tmp 12), (1, Operand.tmp 16)]
    refine heldNext (i := 8) rfl (by kernel_rfl) (by rfl) (fun K hK => ?_)
    have ha := (Below.refl w3.heap.size w3).alloc (Nat.le_refl _) (.cells #[.slice ao O ac, .slice xo Q xc] 28)
    have hrow := heap_alloc_new w3 (.cells #[.slice ao O ac, .slice xo Q xc] 28)
    go_simp
    refine hK.out _ _ trivial ?_
    clear hK K
    try simp only [Act.put, List.setIfInBounds_toArray, List.set_cons_zero, List.set_cons_succ]
    -- NEXT 9 Op.call { callee := Callee.value (Operand.func 50), args := #[Operand.tmp 17], argTypes := #[44] }
    refine heldNext (i := 9) rfl (by kernel_rfl) (by rfl) (fun K hK => ?_)
    have hcat : cat [(.slice ao O ac, RA), (.slice xo Q xc, RB)] = RA ++ RB := by simp [cat]
    have hct := concat_any w3.heap.size 2 [(.slice ao O ac, RA), (.slice xo Q xc, RB)] (w3.alloc (.cells #[.slice ao O ac, .slice xo Q xc] 28)) rfl (by decide) (fun j p hj => by
      match j, hj with
      | 0, hj => simp only [List.getElem?_cons_zero, Option.some.injEq] at hj; subst hj; exact cell_of_row _ _ _ _ _ _ hrow
      | 1, hj => simp only [List.getElem?_cons_succ, List.getElem?_cons_zero, Option.some.injEq] at hj; subst hj; exact cell_of_row _ _ _ _ _ _ hrow
      | j + 2, hj => simp at hj) (fun p hp => by
      simp only [List.mem_cons, List.not_mem_nil, or_false] at hp
      rcases hp with rfl | rfl
      · exact (HRA.out _ hx3).below ha
      · exact R3.out.below ha) (by rw [hcat]; exact HTOT.out)
    rw [hcat, HTL.out] at hct
    go_simp
    go_at_call 50
    refine hct.mono ?_
    rintro e w4 ⟨bo, cp, rfl, hb4, ho4, _⟩
    have R4 := Lib.hid (Rd.of_own ho4)
    have B4 := Lib.hid (B3.out.trans ((ha.trans (hb4.mono ha.size)).mono B3.out.size))
    first | (refine hK.out _ _ trivial ?_) | (go_wp2_with fail; refine hK.out _ _ trivial ?_)
    clear hK K hct ho4 hb4 hcat ha hrow
    try simp only [Act.put, List.setIfInBounds_toArray, List.set_cons_zero, List.set_cons_succ]
    refine heldTake (i := 10) (v := ?_) rfl (by kernel_rfl) (by kernel_rfl) (fun _ _ _ h => h) (by rfl) trivial (fun w hSw => ?_) ?_; rotate_left; focus ((try dsimp only at hSw); go_simp; try with_reducible rfl)
    try simp only [Act.put, List.setIfInBounds_toArray, List.set_cons_zero, List.set_cons_succ]
    refine wpAnyH_done (by kernel_rfl) ?_ _
    have BE := Lib.hid (HB.out.trans (B4.out.mono HB.out.size))
    clear R3 B3 B4 hx3 d6 hH HX HRA HTOT C1 HB0 HB c6
    simp only [Exit.then]
    go_wp2
    go_ret
    refine ⟨bo, cp, ?_, ?_, BE.out⟩
    · show Ending.returned (Value.slice bo N cp) = _
      rw [HN.out]
    · rw [HEQ.out]
      exact R4.out
  · go_simp; go_at_call 53; refine (C1.out _ HB0.out).mono ?_; rintro e w3 ⟨xo, xc, rfl, hb, hr⟩; have hx3 := HX.out.next hb; have d6 := hx3.c7; have R3 := Lib.hid hr; have B3 := Lib.hid hb; first | (refine hK.out _ _ trivial ?_) | (go_wp2_with fail; refine hK.out _ _ trivial ?_); clear hK K hr hb
    try simp only [Act.put, List.setIfInBounds_toArray, List.set_cons_zero, List.set_cons_succ]
    -- NEXT 3 Op.load 28 (Operand.tmp 11)
    refine heldNext (i := 3) rfl (by kernel_rfl) (by rfl) (fun K hK => ?_)
    go_simp; refine hK.out _ _ trivial ?_; clear hK K
    try simp only [Act.put, List.setIfInBounds_toArray, List.set_cons_zero, List.set_cons_succ]
    -- NEXT 8 Op.buildSlice 44 2 #[(0, Operand.tmp 12), (1, Operand.tmp 16)]
    refine heldNext (i := 8) rfl (by kernel_rfl) (by rfl) (fun K hK => ?_)
    have ha := (Below.refl w3.heap.size w3).alloc (Nat.le_refl _) (.cells #[.slice ao O ac, .slice xo Q xc] 28)
    have hrow := heap_alloc_new w3 (.cells #[.slice ao O ac, .slice xo Q xc] 28)
    go_simp
    refine hK.out _ _ trivial ?_
    clear hK K
    try simp only [Act.put, List.setIfInBounds_toArray, List.set_cons_zero, List.set_cons_succ]
    -- NEXT 9 Op.call { callee := Callee.value (Operand.func 50), args := #[Operand.tmp 17], argTypes := #[44] }
    refine heldNext (i := 9) rfl (by kernel_rfl) (by rfl) (fun K hK => ?_)
    have hcat : cat [(.slice ao O ac, RA), (.slice xo Q xc, RB)] = RA ++ RB := by simp [cat]
    have hct := concat_any w3.heap.size 2 [(.slice ao O ac, RA), (.slice xo Q xc, RB)] (w3.alloc (.cells #[.slice ao O ac, .slice xo Q xc] 28)) rfl (by decide) (fun j p hj => by
      match j, hj with
      | 0, hj => simp only [List.getElem?_cons_zero, Option.some.injEq] at hj; subst hj; exact cell_of_row _ _ _ _ _ _ hrow
      | 1, hj => simp only [List.getElem?_cons_succ, List.getElem?_cons_zero, Option.some.injEq] at hj; subst hj; exact cell_of_row _ _ _ _ _ _ hrow
      | j + 2, hj => simp at hj) (fun p hp => by
      simp only [List.mem_cons, List.not_mem_nil, or_false] at hp
      rcases hp with rfl | rfl
      · exact (HRA.out _ hx3).below ha
      · exact R3.out.below ha) (by rw [hcat]; exact HTOT.out)
    rw [hcat, HTL.out] at hct
    go_simp
    go_at_call 50
    refine hct.mono ?_
    rintro e w4 ⟨bo, cp, rfl, hb4, ho4, _⟩
    have R4 := Lib.hid (Rd.of_own ho4)
    have B4 := Lib.hid (B3.out.trans ((ha.trans (hb4.mono ha.size)).mono B3.out.size))
    first | (refine hK.out _ _ trivial ?_) | (go_wp2_with fail; refine hK.out _ _ trivial ?_)
    clear hK K hct ho4 hb4 hcat ha hrow
    try simp only [Act.put, List.setIfInBounds_toArray, List.set_cons_zero, List.set_cons_succ]
    refine heldTake (i := 10) (v := ?_) rfl (by kernel_rfl) (by kernel_rfl) (fun _ _ _ h => h) (by rfl) trivial (fun w hSw => ?_) ?_; rotate_left; focus ((try dsimp only at hSw); go_simp; try with_reducible rfl)
    try simp only [Act.put, List.setIfInBounds_toArray, List.set_cons_zero, List.set_cons_succ]
    refine wpAnyH_done (by kernel_rfl) ?_ _
    have BE := Lib.hid (HB.out.trans (B4.out.mono HB.out.size))
    clear R3 B3 B4 hx3 d6 hH HX HRA HTOT C1 HB0 HB c6
    simp only [Exit.then]
    go_wp2
    go_ret
    refine ⟨bo, cp, ?_, ?_, BE.out⟩
    · show Ending.returned (Value.slice bo N cp) = _
      rw [HN.out]
    · rw [HEQ.out]
      exact R4.out
end
end Go.Proofs.Ytneifmnlailipaa
