/- 'giveUp' and 'reset' of a connection, walked. (Laid by wip/tools/gen_give.py.) -/
import Derived.Test.YtneifmnlailipaaConnGive
import Derived.Deep.CutRange
namespace Go.Proofs.Ytneifmnlailipaa
open Go.RowKit
section
variable {w : World} {B g o : Nat} {F : Nat → Prop} {C : Array Value} {T : TypeId} {s so sw : Value} {most : Int} {c : Wi.Cn}

/-- A new queue stands in the place of the old one. -/
theorem CX.anew (h : CX w B g o F C T s so sw most c) : CX (((w.setCell ⟨g, o + 3, none⟩ (.int .i64 4000)).setCell ⟨g, o + 3 + 1, none⟩ (.slice none 0 0)).setCell ⟨g, o + 3 + 2, none⟩ (.int .i64 0)) B g o F (((C.setIfInBounds (o + 3) (.int .i64 4000)).setIfInBounds (o + 3 + 1) (.slice none 0 0)).setIfInBounds (o + 3 + 2) (.int .i64 0)) T (.slice none 0 0) so sw 4000 { c with xs := [], t := 0 } ∧
    Cg g o F w F (((w.setCell ⟨g, o + 3, none⟩ (.int .i64 4000)).setCell ⟨g, o + 3 + 1, none⟩ (.slice none 0 0)).setCell ⟨g, o + 3 + 2, none⟩ (.int .i64 0)) := by
  have far : ∀ j, j ≠ 3 → j ≠ 4 → j ≠ 5 → (((C.setIfInBounds (o + 3) (.int .i64 4000)).setIfInBounds (o + 3 + 1) (.slice none 0 0)).setIfInBounds (o + 3 + 2) (.int .i64 0))[o + j]? = C[o + j]? := fun j h1 h2 h3 => by
    rw [set_ne (by omega), set_ne (by omega), set_ne (by omega)]
  have kp : ∀ {v : Value} {xs : List UInt8}, Own w B v xs → v.ownBlock ≠ some g → Own (((w.setCell ⟨g, o + 3, none⟩ (.int .i64 4000)).setCell ⟨g, o + 3 + 1, none⟩ (.slice none 0 0)).setCell ⟨g, o + 3 + 2, none⟩ (.int .i64 0)) B v xs := fun {v xs} h1 h2 => ⟨own_set (own_set (own_set h1.r h2) h2) h2, h1.e⟩
  refine ⟨⟨⟨setCell_row (setCell_row (setCell_row h.q.c)), ?_, ?_, ?_, World.ownsRow_nil _ _ _ _, h.q.hg, (fun e => by cases e), fun _ => rfl, Nat.le_refl _, by simp, by simp, by decide⟩, (far 0 (by omega) (by omega) (by omega)).trans h.e0, (far 1 (by omega) (by omega) (by omega)).trans h.e1, (far 2 (by omega) (by omega) (by omega)).trans h.e2, (far 6 (by omega) (by omega) (by omega)).trans h.e6, (far 7 (by omega) (by omega) (by omega)).trans h.e7, kp h.ro h.no, kp h.rw h.nw, h.no, h.nw, Dj.nil _, Dj.nil _, h.d3, (fun k hk => by cases hk), h.fo, h.fw, fun k hk => ?_, fun _ => rfl⟩, ((Cg.set (i := 3) (by omega)).trans (Cg.set (i := 4) (by omega))).trans (Cg.set (i := 5) (by omega))⟩
  · rw [set_ne (by omega), set_ne (by omega)]
    exact set_eq h.q.e0
  · rw [set_ne (by omega)]
    exact set_eq ((set_ne (by omega)).trans h.q.e1)
  · exact set_eq ((set_ne (by omega)).trans ((set_ne (by omega)).trans h.q.e2))
  · have := h.fF k hk
    exact ⟨this.1, by simp [World.setCell]; exact this.2.1, this.2.2⟩

set_option maxHeartbeats 2000000 in
/-- 'giveUp'. -/
theorem give_any (h : CX w B g o F C T s so sw most c) (hN : c.sent.length ≤ 16777216) (hM : c.written.length ≤ 16777216) : Calls Try.prog 39 #[.pointer (some ⟨g, o, none⟩)] w fun e w' => e = .returned (.tuple #[]) ∧ ∃ F' C' so' sw', CX w' B g o F' C' T (.slice none 0 0) so' sw' 4000 c.give ∧ Cg g o F w F' w' := by
  have htt : c.old.length + (c.xs.take c.t).length = c.sent.length := by
    unfold Wi.Cn.sent
    rw [List.length_append]
  have hww : c.wrote.length + c.xs.length = c.written.length := by
    unfold Wi.Cn.written
    rw [List.length_append]
  have HM := Lib.hid hM
  have HWW := Lib.hid hww
  have HN := Lib.hid hN
  have HTT := Lib.hid htt
  have C1 := Lib.hid (give_one h)
  have HB0 := Lib.hid ((Below.refl w.heap.size w).drew)
  have H := Lib.hid h
  have c6 := h.c6
  clear h hM hww hN htt
  go_enter Try.func39, Try.ntmps39
  go_upto_region 0 with fail
  go_cut [] from 2 to 14 (fun wx => ∃ F2 C2 so2, CX wx B g o F2 C2 T s so2 sw most { c with old := c.sent } ∧ Cg g o F w F2 wx)
  case first =>
    refine wp_region_held_drew (S := fun _ => True) (by kernel_rfl) trivial (fun hH => ?_)
    refine heldTake (i := 0) (v := ?_) rfl (by kernel_rfl) (by kernel_rfl) (fun _ _ _ h => h) (by rfl) trivial (fun w hSw => ?_) ?_; rotate_left; focus ((try dsimp only at hSw); go_simp; try with_reducible rfl)
    try simp only [Act.put, List.setIfInBounds_toArray, List.set_cons_zero, List.set_cons_succ]
    refine heldTake (i := 1) (v := ?_) rfl (by kernel_rfl) (by kernel_rfl) (fun _ _ _ h => h) (by rfl) trivial (fun w hSw => ?_) ?_; rotate_left; focus ((try dsimp only at hSw); go_simp; try with_reducible rfl)
    try simp only [Act.put, List.setIfInBounds_toArray, List.set_cons_zero, List.set_cons_succ]
    refine heldTake (i := 2) (v := ?_) rfl (by kernel_rfl) (by kernel_rfl) (fun _ _ _ h => h) (by rfl) trivial (fun w hSw => ?_) ?_; rotate_left; focus ((try dsimp only at hSw); go_simp; try with_reducible rfl)
    try simp only [Act.put, List.setIfInBounds_toArray, List.set_cons_zero, List.set_cons_succ]
    refine heldTake (i := 3) (v := ?_) rfl (by kernel_rfl) (by kernel_rfl) (fun _ _ _ h => h) (by rfl) trivial (fun w hSw => ?_) ?_; rotate_left; focus ((try dsimp only at hSw); go_simp; try with_reducible rfl)
    try simp only [Act.put, List.setIfInBounds_toArray, List.set_cons_zero, List.set_cons_succ]
    refine heldTake (i := 5) (v := ?_) rfl (by kernel_rfl) (by kernel_rfl) (fun _ _ _ h => h) (by rfl) trivial (fun w hSw => ?_) ?_; rotate_left; focus ((try dsimp only at hSw); go_simp; try with_reducible rfl)
    try simp only [Act.put, List.setIfInBounds_toArray, List.set_cons_zero, List.set_cons_succ]
    refine heldTake (i := 6) (v := ?_) rfl (by kernel_rfl) (by kernel_rfl) (fun _ _ _ h => h) (by rfl) trivial (fun w hSw => ?_) ?_; rotate_left; focus ((try dsimp only at hSw); go_simp; try with_reducible rfl)
    try simp only [Act.put, List.setIfInBounds_toArray, List.set_cons_zero, List.set_cons_succ]
    refine heldTake (i := 7) (v := ?_) rfl (by kernel_rfl) (by kernel_rfl) (fun _ _ _ h => h) (by rfl) trivial (fun w hSw => ?_) ?_; rotate_left; focus ((try dsimp only at hSw); go_simp; try with_reducible rfl)
    try simp only [Act.put, List.setIfInBounds_toArray, List.set_cons_zero, List.set_cons_succ]
    -- TWO 4 Op.load 28 (Operand.tmp 5) | 8 Op.call { callee := Callee.value (Operand.func 51), args := #[Operand.tmp 9], ar
    refine heldTwo (i := 4) (j := 8) rfl rfl (by kernel_rfl) (by rfl) (by rfl) (fun K hK => ?_) (fun K hK => ?_)
    · go_simp; refine hK.out _ _ trivial ?_; clear hK K
      try simp only [Act.put, List.setIfInBounds_toArray, List.set_cons_zero, List.set_cons_succ]
      -- NEXT 8 Op.call { callee := Callee.value (Operand.func 51), args := #[Operand.tmp 9], argTypes := #[48] }
      refine heldNext (i := 8) rfl (by kernel_rfl) (by rfl) (fun K hK => ?_)
      go_simp; go_at_call 51; refine (C1.out _ (by first | exact HB0.out)).mono ?_; rintro e w3 ⟨v, rfl, hx, hb, hr⟩; have d6 := hx.c6; have f6 := hx.f (o + 6); first | (refine hK.out _ _ trivial ?_) | (go_wp2_with fail; refine hK.out _ _ trivial ?_); clear hK K
      try simp only [Act.put, List.setIfInBounds_toArray, List.set_cons_zero, List.set_cons_succ]
      -- NEXT 9 Op.call { callee := Callee.builtin Builtin.append, args := #[Operand.tmp 6, Operand.tmp 10], argTypes := #[28,
      refine heldNext (i := 9) rfl (by kernel_rfl) (by rfl) (fun K hK => ?_)
      refine wp_append_where (.tmp 6) (.tmp 10) (by rfl) (by rfl) hx.ro.r _ (by rfl) (c.xs.take c.t) hr c.sent.length HTT.out HN.out (Nat.le_trans hx.q.hg (Nat.le_of_lt hx.lt)) (fun bo cc w4 ho hT hy hw => ?_)
      have P := hx.sentPut rfl (by rw [Wi.Cn.sent, List.map_append]; exact ho) hT hy hw
      have hgg := (hT.block g hx.lt (fun e => hx.no e.symm)).trans hx.q.c
      have d7 : w4.cell? ⟨g, o + 6, none⟩ = some _ := cell_in hgg hx.e6
      have f7 : w4.frozen? ⟨g, o + 6, none⟩ = false := frozen_of_row _ _ _ _ _ hgg
      refine hK.out _ _ trivial ?_
      clear hK K
      try simp only [Act.put, List.setIfInBounds_toArray, List.set_cons_zero, List.set_cons_succ]
      refine heldTake (i := 10) (v := ?_) rfl (by kernel_rfl) (by kernel_rfl) (fun _ _ _ h => h) (by rfl) trivial (fun w hSw => ?_) ?_; rotate_left; focus ((try dsimp only at hSw); go_simp; try with_reducible rfl)
      try simp only [Act.put, List.setIfInBounds_toArray, List.set_cons_zero, List.set_cons_succ]
      refine heldTake (i := 11) (v := ?_) rfl (by kernel_rfl) (by kernel_rfl) (fun _ _ _ h => h) (by rfl) trivial (fun w hSw => ?_) ?_; rotate_left; focus ((try dsimp only at hSw); go_simp; try with_reducible rfl)
      try simp only [Act.put, List.setIfInBounds_toArray, List.set_cons_zero, List.set_cons_succ]
      -- NEXT 12 Op.store 28 (Operand.tmp 13) (Operand.tmp 11)
      refine heldNext (i := 12) rfl (by kernel_rfl) (by rfl) (fun K hK => ?_)
      go_simp; refine hK.out _ _ trivial ?_; clear hK K
      try simp only [Act.put, List.setIfInBounds_toArray, List.set_cons_zero, List.set_cons_succ]
      refine wpAnyH_done (by kernel_rfl) ?_ _
      simp only [Exit.then]
      go_step
      go_meet
      exact ⟨_, _, _, P.1, (Cg.of_below (hb) (H.out.lt)).trans P.2⟩
    · go_simp; go_at_call 51; refine (C1.out _ (by first | exact HB0.out)).mono ?_; rintro e w3 ⟨v, rfl, hx, hb, hr⟩; have d6 := hx.c6; have f6 := hx.f (o + 6); first | (refine hK.out _ _ trivial ?_) | (go_wp2_with fail; refine hK.out _ _ trivial ?_); clear hK K
      try simp only [Act.put, List.setIfInBounds_toArray, List.set_cons_zero, List.set_cons_succ]
      -- NEXT 4 Op.load 28 (Operand.tmp 5)
      refine heldNext (i := 4) rfl (by kernel_rfl) (by rfl) (fun K hK => ?_)
      go_simp; refine hK.out _ _ trivial ?_; clear hK K
      try simp only [Act.put, List.setIfInBounds_toArray, List.set_cons_zero, List.set_cons_succ]
      -- NEXT 9 Op.call { callee := Callee.builtin Builtin.append, args := #[Operand.tmp 6, Operand.tmp 10], argTypes := #[28,
      refine heldNext (i := 9) rfl (by kernel_rfl) (by rfl) (fun K hK => ?_)
      refine wp_append_where (.tmp 6) (.tmp 10) (by rfl) (by rfl) hx.ro.r _ (by rfl) (c.xs.take c.t) hr c.sent.length HTT.out HN.out (Nat.le_trans hx.q.hg (Nat.le_of_lt hx.lt)) (fun bo cc w4 ho hT hy hw => ?_)
      have P := hx.sentPut rfl (by rw [Wi.Cn.sent, List.map_append]; exact ho) hT hy hw
      have hgg := (hT.block g hx.lt (fun e => hx.no e.symm)).trans hx.q.c
      have d7 : w4.cell? ⟨g, o + 6, none⟩ = some _ := cell_in hgg hx.e6
      have f7 : w4.frozen? ⟨g, o + 6, none⟩ = false := frozen_of_row _ _ _ _ _ hgg
      refine hK.out _ _ trivial ?_
      clear hK K
      try simp only [Act.put, List.setIfInBounds_toArray, List.set_cons_zero, List.set_cons_succ]
      refine heldTake (i := 10) (v := ?_) rfl (by kernel_rfl) (by kernel_rfl) (fun _ _ _ h => h) (by rfl) trivial (fun w hSw => ?_) ?_; rotate_left; focus ((try dsimp only at hSw); go_simp; try with_reducible rfl)
      try simp only [Act.put, List.setIfInBounds_toArray, List.set_cons_zero, List.set_cons_succ]
      refine heldTake (i := 11) (v := ?_) rfl (by kernel_rfl) (by kernel_rfl) (fun _ _ _ h => h) (by rfl) trivial (fun w hSw => ?_) ?_; rotate_left; focus ((try dsimp only at hSw); go_simp; try with_reducible rfl)
      try simp only [Act.put, List.setIfInBounds_toArray, List.set_cons_zero, List.set_cons_succ]
      -- NEXT 12 Op.store 28 (Operand.tmp 13) (Operand.tmp 11)
      refine heldNext (i := 12) rfl (by kernel_rfl) (by rfl) (fun K hK => ?_)
      go_simp; refine hK.out _ _ trivial ?_; clear hK K
      try simp only [Act.put, List.setIfInBounds_toArray, List.set_cons_zero, List.set_cons_succ]
      refine wpAnyH_done (by kernel_rfl) ?_ _
      simp only [Exit.then]
      go_step
      go_meet
      exact ⟨_, _, _, P.1, (Cg.of_below (hb) (H.out.lt)).trans P.2⟩

  case rest =>
    obtain ⟨F2, C2, so2, H2, G2⟩ := hcut
    have H2 := Lib.hid H2
    have G2 := Lib.hid G2
    have C2' := Lib.hid (give_two H2.out)
    have HB1 := Lib.hid ((Below.refl wc.heap.size wc).drew)
    have c7 := H2.out.c7
    clear c6 C1 HB0
    go_step
    go_upto_region 1 with fail
    go_cut [] from 14 to 26 (fun wx => ∃ F3 C3 sw2, CX wx B g o F3 C3 T s so2 sw2 most { c with old := c.sent, wrote := c.written } ∧ Cg g o F w F3 wx)
    case first =>
      refine wp_region_held_drew (S := fun _ => True) (by kernel_rfl) trivial (fun hH => ?_)
      refine heldTake (i := 0) (v := ?_) rfl (by kernel_rfl) (by kernel_rfl) (fun _ _ _ h => h) (by rfl) trivial (fun w hSw => ?_) ?_; rotate_left; focus ((try dsimp only at hSw); go_simp; try with_reducible rfl)
      try simp only [Act.put, List.setIfInBounds_toArray, List.set_cons_zero, List.set_cons_succ]
      refine heldTake (i := 1) (v := ?_) rfl (by kernel_rfl) (by kernel_rfl) (fun _ _ _ h => h) (by rfl) trivial (fun w hSw => ?_) ?_; rotate_left; focus ((try dsimp only at hSw); go_simp; try with_reducible rfl)
      try simp only [Act.put, List.setIfInBounds_toArray, List.set_cons_zero, List.set_cons_succ]
      refine heldTake (i := 2) (v := ?_) rfl (by kernel_rfl) (by kernel_rfl) (fun _ _ _ h => h) (by rfl) trivial (fun w hSw => ?_) ?_; rotate_left; focus ((try dsimp only at hSw); go_simp; try with_reducible rfl)
      try simp only [Act.put, List.setIfInBounds_toArray, List.set_cons_zero, List.set_cons_succ]
      refine heldTake (i := 3) (v := ?_) rfl (by kernel_rfl) (by kernel_rfl) (fun _ _ _ h => h) (by rfl) trivial (fun w hSw => ?_) ?_; rotate_left; focus ((try dsimp only at hSw); go_simp; try with_reducible rfl)
      try simp only [Act.put, List.setIfInBounds_toArray, List.set_cons_zero, List.set_cons_succ]
      refine heldTake (i := 5) (v := ?_) rfl (by kernel_rfl) (by kernel_rfl) (fun _ _ _ h => h) (by rfl) trivial (fun w hSw => ?_) ?_; rotate_left; focus ((try dsimp only at hSw); go_simp; try with_reducible rfl)
      try simp only [Act.put, List.setIfInBounds_toArray, List.set_cons_zero, List.set_cons_succ]
      refine heldTake (i := 6) (v := ?_) rfl (by kernel_rfl) (by kernel_rfl) (fun _ _ _ h => h) (by rfl) trivial (fun w hSw => ?_) ?_; rotate_left; focus ((try dsimp only at hSw); go_simp; try with_reducible rfl)
      try simp only [Act.put, List.setIfInBounds_toArray, List.set_cons_zero, List.set_cons_succ]
      refine heldTake (i := 7) (v := ?_) rfl (by kernel_rfl) (by kernel_rfl) (fun _ _ _ h => h) (by rfl) trivial (fun w hSw => ?_) ?_; rotate_left; focus ((try dsimp only at hSw); go_simp; try with_reducible rfl)
      try simp only [Act.put, List.setIfInBounds_toArray, List.set_cons_zero, List.set_cons_succ]
      -- TWO 4 Op.load 28 (Operand.tmp 17) | 8 Op.call { callee := Callee.value (Operand.func 53), args := #[Operand.tmp 21], a
      refine heldTwo (i := 4) (j := 8) rfl rfl (by kernel_rfl) (by rfl) (by rfl) (fun K hK => ?_) (fun K hK => ?_)
      · go_simp; refine hK.out _ _ trivial ?_; clear hK K
        try simp only [Act.put, List.setIfInBounds_toArray, List.set_cons_zero, List.set_cons_succ]
        -- NEXT 8 Op.call { callee := Callee.value (Operand.func 53), args := #[Operand.tmp 21], argTypes := #[48] }
        refine heldNext (i := 8) rfl (by kernel_rfl) (by rfl) (fun K hK => ?_)
        go_simp; go_at_call 53; refine (C2'.out _ (by first | exact HB1.out)).mono ?_; rintro e w3 ⟨v, rfl, hx, hb, hr⟩; have d6 := hx.c7; have f6 := hx.f (o + 7); first | (refine hK.out _ _ trivial ?_) | (go_wp2_with fail; refine hK.out _ _ trivial ?_); clear hK K
        try simp only [Act.put, List.setIfInBounds_toArray, List.set_cons_zero, List.set_cons_succ]
        -- NEXT 9 Op.call { callee := Callee.builtin Builtin.append, args := #[Operand.tmp 18, Operand.tmp 22], argTypes := #[28
        refine heldNext (i := 9) rfl (by kernel_rfl) (by rfl) (fun K hK => ?_)
        refine wp_append_where (.tmp 18) (.tmp 22) (by rfl) (by rfl) hx.rw.r _ (by rfl) c.xs hr c.written.length HWW.out HM.out (Nat.le_trans hx.q.hg (Nat.le_of_lt hx.lt)) (fun bo cc w4 ho hT hy hw => ?_)
        have P := hx.wrotePut rfl (by rw [show Wi.Cn.written { c with old := c.sent } = c.wrote ++ c.xs from rfl, List.map_append]; exact ho) hT hy hw
        have hgg := (hT.block g hx.lt (fun e => hx.nw e.symm)).trans hx.q.c
        have d7 : w4.cell? ⟨g, o + 7, none⟩ = some _ := cell_in hgg hx.e7
        have f7 : w4.frozen? ⟨g, o + 7, none⟩ = false := frozen_of_row _ _ _ _ _ hgg
        refine hK.out _ _ trivial ?_
        clear hK K
        try simp only [Act.put, List.setIfInBounds_toArray, List.set_cons_zero, List.set_cons_succ]
        refine heldTake (i := 10) (v := ?_) rfl (by kernel_rfl) (by kernel_rfl) (fun _ _ _ h => h) (by rfl) trivial (fun w hSw => ?_) ?_; rotate_left; focus ((try dsimp only at hSw); go_simp; try with_reducible rfl)
        try simp only [Act.put, List.setIfInBounds_toArray, List.set_cons_zero, List.set_cons_succ]
        refine heldTake (i := 11) (v := ?_) rfl (by kernel_rfl) (by kernel_rfl) (fun _ _ _ h => h) (by rfl) trivial (fun w hSw => ?_) ?_; rotate_left; focus ((try dsimp only at hSw); go_simp; try with_reducible rfl)
        try simp only [Act.put, List.setIfInBounds_toArray, List.set_cons_zero, List.set_cons_succ]
        -- NEXT 12 Op.store 28 (Operand.tmp 25) (Operand.tmp 23)
        refine heldNext (i := 12) rfl (by kernel_rfl) (by rfl) (fun K hK => ?_)
        go_simp; refine hK.out _ _ trivial ?_; clear hK K
        try simp only [Act.put, List.setIfInBounds_toArray, List.set_cons_zero, List.set_cons_succ]
        refine wpAnyH_done (by kernel_rfl) ?_ _
        simp only [Exit.then]
        go_step
        go_meet
        exact ⟨_, _, _, P.1, G2.out.trans ((Cg.of_below hb H2.out.lt).trans P.2)⟩
      · go_simp; go_at_call 53; refine (C2'.out _ (by first | exact HB1.out)).mono ?_; rintro e w3 ⟨v, rfl, hx, hb, hr⟩; have d6 := hx.c7; have f6 := hx.f (o + 7); first | (refine hK.out _ _ trivial ?_) | (go_wp2_with fail; refine hK.out _ _ trivial ?_); clear hK K
        try simp only [Act.put, List.setIfInBounds_toArray, List.set_cons_zero, List.set_cons_succ]
        -- NEXT 4 Op.load 28 (Operand.tmp 17)
        refine heldNext (i := 4) rfl (by kernel_rfl) (by rfl) (fun K hK => ?_)
        go_simp; refine hK.out _ _ trivial ?_; clear hK K
        try simp only [Act.put, List.setIfInBounds_toArray, List.set_cons_zero, List.set_cons_succ]
        -- NEXT 9 Op.call { callee := Callee.builtin Builtin.append, args := #[Operand.tmp 18, Operand.tmp 22], argTypes := #[28
        refine heldNext (i := 9) rfl (by kernel_rfl) (by rfl) (fun K hK => ?_)
        refine wp_append_where (.tmp 18) (.tmp 22) (by rfl) (by rfl) hx.rw.r _ (by rfl) c.xs hr c.written.length HWW.out HM.out (Nat.le_trans hx.q.hg (Nat.le_of_lt hx.lt)) (fun bo cc w4 ho hT hy hw => ?_)
        have P := hx.wrotePut rfl (by rw [show Wi.Cn.written { c with old := c.sent } = c.wrote ++ c.xs from rfl, List.map_append]; exact ho) hT hy hw
        have hgg := (hT.block g hx.lt (fun e => hx.nw e.symm)).trans hx.q.c
        have d7 : w4.cell? ⟨g, o + 7, none⟩ = some _ := cell_in hgg hx.e7
        have f7 : w4.frozen? ⟨g, o + 7, none⟩ = false := frozen_of_row _ _ _ _ _ hgg
        refine hK.out _ _ trivial ?_
        clear hK K
        try simp only [Act.put, List.setIfInBounds_toArray, List.set_cons_zero, List.set_cons_succ]
        refine heldTake (i := 10) (v := ?_) rfl (by kernel_rfl) (by kernel_rfl) (fun _ _ _ h => h) (by rfl) trivial (fun w hSw => ?_) ?_; rotate_left; focus ((try dsimp only at hSw); go_simp; try with_reducible rfl)
        try simp only [Act.put, List.setIfInBounds_toArray, List.set_cons_zero, List.set_cons_succ]
        refine heldTake (i := 11) (v := ?_) rfl (by kernel_rfl) (by kernel_rfl) (fun _ _ _ h => h) (by rfl) trivial (fun w hSw => ?_) ?_; rotate_left; focus ((try dsimp only at hSw); go_simp; try with_reducible rfl)
        try simp only [Act.put, List.setIfInBounds_toArray, List.set_cons_zero, List.set_cons_succ]
        -- NEXT 12 Op.store 28 (Operand.tmp 25) (Operand.tmp 23)
        refine heldNext (i := 12) rfl (by kernel_rfl) (by rfl) (fun K hK => ?_)
        go_simp; refine hK.out _ _ trivial ?_; clear hK K
        try simp only [Act.put, List.setIfInBounds_toArray, List.set_cons_zero, List.set_cons_succ]
        refine wpAnyH_done (by kernel_rfl) ?_ _
        simp only [Exit.then]
        go_step
        go_meet
        exact ⟨_, _, _, P.1, G2.out.trans ((Cg.of_below hb H2.out.lt).trans P.2)⟩

    case rest =>
      obtain ⟨F3, C3, sw2, H3, G3⟩ := hcut
      have H3 := Lib.hid H3
      have G3 := Lib.hid G3
      clear c7 C2' HB1 H2 G2
      go_step
      go_wp2_with fail
      refine (new_any wc).mono ?_
      rintro e w5 ⟨rfl, hw5⟩
      have hb5 : Below wc.heap.size wc w5 := by rw [hw5]; exact (Below.refl _ _).alloc (Nat.le_refl _) _
      have hr5 := heap_alloc_new wc (.cells #[.int .i64 4000, .slice none 0 0, .int .i64 0] 48)
      rw [← hw5] at hr5
      have n0 : w5.cell? ⟨wc.heap.size, 0, none⟩ = some (.int .i64 4000) := cell_of_row _ _ _ _ _ _ hr5
      have n1 : w5.cell? ⟨wc.heap.size, 1, none⟩ = some (.slice none 0 0) := cell_of_row _ _ _ _ _ _ hr5
      have n2 : w5.cell? ⟨wc.heap.size, 2, none⟩ = some (.int .i64 0) := cell_of_row _ _ _ _ _ _ hr5
      have H5 := H3.out.next hb5
      have f3 := H5.f (o + 3)
      have f4 := H5.f (o + 3 + 1)
      have f5 := H5.f (o + 3 + 2)
      have k3 := H5.q.c0
      have k4 := H5.q.c1
      have k5 := H5.q.c2
      have X := Lib.hid (H5.anew)
      have H5 := Lib.hid H5
      have G5 := Lib.hid (G3.out.trans (.of_below hb5 H3.out.lt))
      clear hw5 hb5 hr5
      go_wp2
      go_end0
      exact ⟨rfl, F3, _, _, _, X.out.1, G5.out.trans X.out.2⟩

/-- 'reset'. -/
theorem reset_any (h : CX w B g o F C T s so sw most c) (hN : c.sent.length ≤ 16777216) (hM : c.written.length ≤ 16777216) : Calls Try.prog 44 #[.pointer (some ⟨g, o, none⟩)] w fun e w' => e = .returned (.int .i64 (c.rst.1 : Int)) ∧ Cw B g o F T w c.rst.2 w' := by
  have C1 := Lib.hid (writable_any h)
  unfold Wi.Cn.rst
  by_cases hl : c.live = true
  · rw [if_neg (by rw [hl]; decide)]
    rw [hl] at C1
    have C2 := Lib.hid (give_any h hN hM)
    clear h hN hM hl
    go_enter Try.func44, Try.ntmps44
    go_wp2_with fail
    refine C1.out.mono ?_
    rintro e w1 ⟨rfl, hw⟩
    obtain rfl := hw
    go_wp2_with fail
    refine C2.out.mono ?_
    rintro e w2 ⟨rfl, F2, C2', so2, sw2, H2, G2⟩
    have f0 := H2.f o
    have c0 := H2.c0
    have X := Lib.hid (H2.cell (i := 0) (v := .int .i64 4) (by omega) { c.give with st := 4 } rfl rfl rfl rfl rfl rfl rfl (fun _ => rfl))
    have G := Lib.hid (G2.trans (Cg.set (i := 0) (v := .int .i64 4) (by omega)))
    clear C1 C2 H2 G2
    go_wp2
    go_ret
    exact ⟨rfl, F2, ⟨_, _, _, _, _, X.out⟩, G.out⟩
  · have hl' : c.live = false := by simpa using hl
    rw [if_pos hl']
    rw [hl'] at C1
    have H := Lib.hid h
    clear h hN hM hl hl'
    go_enter Try.func44, Try.ntmps44
    go_wp2_with fail
    refine C1.out.mono ?_
    rintro e w1 ⟨rfl, hw⟩
    obtain rfl := hw
    go_wp2
    go_ret
    exact ⟨rfl, F, ⟨_, _, _, _, _, H.out⟩, .of_below (Below.refl _ _) H.out.lt⟩
end
end Go.Proofs.Ytneifmnlailipaa
