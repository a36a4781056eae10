/- The reference's pipe: Push, walked. Laid by wip/tools/gen_ypush.py. -/
import Derived.Test.YtimieknphedniaaYStage
import Derived.Test.YtimieknphedniaaHeld3
import Derived.Test.YtimieknphedniaaPipeR
namespace Go.Proofs.Ytimieknphedniaa
open Go.RowKit
section
variable {w : World} {B g : Nat} {s : Value} {l : List Wt}
theorem yfull_any (h : YO w B g s l) (x : Wt) (hl : l.length = 8) : Calls Try.prog 10 #[.pointer (some ⟨g, 0, none⟩), x.val] w fun e w' => e = .returned (.bool false) ∧ Below w.heap.size w w' := by
  obtain ⟨xt, xc, xb, xd⟩ := x
  obtain ⟨ao, cap, hs, _, _⟩ := h.form
  have c0 := (h.next ((Below.refl _ w).alloc (Nat.le_refl _) (.cells #[.string xt, .string xc, .bool xb, .int .i64 xd] 31))).c0
  rw [hs, hl] at c0
  clear h hl hs
  unfold Wt.val
  go_enter Try.func10, Try.ntmps10
  go_wp2
  go_ret
  exact ⟨rfl, (Below.refl _ _).alloc (Nat.le_refl _) _⟩

set_option maxHeartbeats 4000000 in
theorem ypush_any (h : YO w B g s l) (hB : B ≤ w.heap.size) (x : Wt) (hl : l.length < 8) : Calls Try.prog 10 #[.pointer (some ⟨g, 0, none⟩), x.val] w fun e w' => ∃ s', e = .returned (.bool true) ∧ YO w' B g s' (l ++ [x]) ∧ Trn (· = g) w w' ∧ ∀ k, s'.ownBlock = some k → w.heap.size ≤ k := by
  obtain ⟨xt, xc, xb, xd⟩ := x
  have hgw := h.lt
  have HG := Lib.hid hgw
  have HY := Lib.hid h
  obtain ⟨w0, hw0⟩ : ∃ x, w.alloc (.cells #[.string xt, .string xc, .bool xb, .int .i64 xd] 31) = x := ⟨_, rfl⟩
  have hb0 : Below w.heap.size w w0 := by rw [← hw0]; exact (Below.refl _ w).alloc (Nat.le_refl _) _
  have hs0 : w0.heap.size = w.heap.size + 1 := by rw [← hw0]; simp
  have hx0 : WB w0 w.heap.size ⟨xt, xc, xb, xd⟩ := by rw [← hw0]; exact WB.new w ⟨xt, xc, xb, xd⟩
  have hy0 := h.next hb0
  obtain ⟨ao, cap, hs, hcap, _⟩ := hy0.form
  subst hs
  have c0 := hy0.c0
  generalize hn : l.length = n at *
  have HN := Lib.hid hn
  clear hn
  have hn8 : ((n : Int) < 8) = True := eq_true (by omega)
  have hn8' : ((8 : Int) ≤ (n : Int)) = False := eq_false (by omega)
  have hn8'' : (8 ≤ n) = False := eq_false (by omega)
  have HB0 := Lib.hid hb0
  have HX0 := Lib.hid hx0
  have HY0 := Lib.hid hy0
  have HS0 := Lib.hid hs0
  have HLT := Lib.hid hl
  clear h hb0 hx0 hy0 hs0 hgw hcap
  unfold Wt.val
  go_enter Try.func10, Try.ntmps10
  go_wp2_with fail
  clear hw0 c0
  have hd : Below w0.heap.size w0 w0.drew := (Below.refl _ w0).drew
  have hx1 := HX0.out.next hd
  have HY1 := Lib.hid (HY0.out.next hd)
  have HB1 := Lib.hid (HB0.out.trans (hd.mono HB0.out.size))
  have HS1 := Lib.hid (show w0.drew.heap.size = w.heap.size + 1 from HS0.out)
  have hS1 : ∀ wc, Below w0.drew.heap.size w0.drew wc → wc.cell? ⟨w.heap.size, 0, none⟩ = some (.string xt) ∧ wc.cell? ⟨w.heap.size, 1, none⟩ = some (.string xc) ∧ wc.cell? ⟨w.heap.size, 2, none⟩ = some (.bool xb) ∧ wc.cell? ⟨w.heap.size, 3, none⟩ = some (.int .i64 xd) := fun wc hb => by
    have h1 := hx1.next hb
    exact ⟨h1.c0, h1.c1, h1.c2, h1.c3⟩
  have hs0 := hS1 _ (Below.refl _ _)
  refine wp_region_held_drew (S := fun wc => wc.cell? ⟨w.heap.size, 0, none⟩ = some (.string xt) ∧ wc.cell? ⟨w.heap.size, 1, none⟩ = some (.string xc) ∧ wc.cell? ⟨w.heap.size, 2, none⟩ = some (.bool xb) ∧ wc.cell? ⟨w.heap.size, 3, none⟩ = some (.int .i64 xd)) (by kernel_rfl) hs0 (fun hH => ?_)
  generalize w0.drew = w1 at *
  have HC := Lib.hid (fun wc (hb : Below w1.heap.size w1 wc) => (HY1.out.next hb).c0)
  have HF := Lib.hid (fun wc (hb : Below w1.heap.size w1 wc) => (HY1.out.next hb).f0 0)
  have HOW := Lib.hid (fun wc (hb : Below w1.heap.size w1 wc) => (HY1.out.next hb).o.rw)
  have HS := Lib.hid hS1
  have HSS := Lib.hid (fun wc (hb : Below w1.heap.size w1 wc) (u : Value) => by
    have h1 := HS.out wc hb
    have hne : ∀ i j, (⟨g, i, none⟩ : Addr) ≠ ⟨w.heap.size, j, none⟩ := fun i j e => by injection e with e; have := HG.out; omega
    exact (show (wc.setCell ⟨g, 0, none⟩ u).cell? ⟨w.heap.size, 0, none⟩ = some (.string xt) ∧ (wc.setCell ⟨g, 0, none⟩ u).cell? ⟨w.heap.size, 1, none⟩ = some (.string xc) ∧ (wc.setCell ⟨g, 0, none⟩ u).cell? ⟨w.heap.size, 2, none⟩ = some (.bool xb) ∧ (wc.setCell ⟨g, 0, none⟩ u).cell? ⟨w.heap.size, 3, none⟩ = some (.int .i64 xd) from
      ⟨(World.cell?_setCell_other _ _ _ _ (hne 0 0)).trans h1.1, (World.cell?_setCell_other _ _ _ _ (hne 0 1)).trans h1.2.1, (World.cell?_setCell_other _ _ _ _ (hne 0 2)).trans h1.2.2.1, (World.cell?_setCell_other _ _ _ _ (hne 0 3)).trans h1.2.2.2⟩))
  have HQ := Lib.hid (YQ.start w1 ⟨xt, xc, xb, xd⟩)
  clear hS1 hd hx1
  refine heldTake (i := 0) (v := ?_) rfl (by kernel_rfl) (by kernel_rfl) (fun _ _ _ h => h) (by rfl) (by assumption) (fun w hSw => ?_) ?_; rotate_left; focus ((try dsimp only at hSw); go_simp; try with_reducible rfl)
  try simp only [Act.put, List.setIfInBounds_toArray, List.set_cons_zero, List.set_cons_succ]
  refine heldTake (i := 2) (v := ?_) rfl (by kernel_rfl) (by kernel_rfl) (fun _ _ _ h => h) (by rfl) (by assumption) (fun w hSw => ?_) ?_; rotate_left; focus ((try dsimp only at hSw); go_simp; try with_reducible rfl)
  try simp only [Act.put, List.setIfInBounds_toArray, List.set_cons_zero, List.set_cons_succ]
  refine heldTake (i := 3) (v := ?_) rfl (by kernel_rfl) (by kernel_rfl) (fun _ _ _ h => h) (by rfl) (by assumption) (fun w hSw => ?_) ?_; rotate_left; focus ((try dsimp only at hSw); go_simp; try with_reducible rfl)
  try simp only [Act.put, List.setIfInBounds_toArray, List.set_cons_zero, List.set_cons_succ]
  refine heldTake (i := 4) (v := ?_) rfl (by kernel_rfl) (by kernel_rfl) (fun _ _ _ h => h) (by rfl) (by assumption) (fun w hSw => ?_) ?_; rotate_left; focus ((try dsimp only at hSw); go_simp; try with_reducible rfl)
  try simp only [Act.put, List.setIfInBounds_toArray, List.set_cons_zero, List.set_cons_succ]
  refine heldTake (i := 7) (v := ?_) rfl (by kernel_rfl) (by kernel_rfl) (fun _ _ _ h => h) (by rfl) (by assumption) (fun w hSw => ?_) ?_; rotate_left; focus ((try dsimp only at hSw); go_simp; try with_reducible rfl)
  try simp only [Act.put, List.setIfInBounds_toArray, List.set_cons_zero, List.set_cons_succ]
  -- THREE 1 Op.buildSlice 27 0 #[] | 5 Op.load 27 (Operand.tmp 15) | 8 Op.buildSlice 27 1 #[(0, Operand.tmp 18)]
  refine heldThree (i := 1) (j := 5) (l := 8) rfl rfl rfl (by kernel_rfl) (by rfl) (by rfl) (by rfl) (fun K hK => ?_) (fun K hK => ?_) (fun K hK => ?_)
  · go_simp
    replace HQ := Lib.hid HQ.out.made
    try rw [World.size_alloc] at HQ
    try dsimp only at HQ
    have hsq := HS.out _ HQ.out.b
    refine hK.out _ _ hsq ?_; clear hK K
    try simp only [Act.put, List.setIfInBounds_toArray, List.set_cons_zero, List.set_cons_succ]
    -- TWO 5 Op.load 27 (Operand.tmp 15) | 8 Op.buildSlice 27 1 #[(0, Operand.tmp 18)]
    refine heldTwo (i := 5) (j := 8) rfl rfl (by kernel_rfl) (by rfl) (by rfl) (fun K hK => ?_) (fun K hK => ?_)
    · have hc := HC.out _ HQ.out.b
      go_simp
      have hsq := HS.out _ HQ.out.b
      refine hK.out _ _ hsq ?_; clear hK K hc
      try simp only [Act.put, List.setIfInBounds_toArray, List.set_cons_zero, List.set_cons_succ]
      -- TWO 6 Op.call { callee := Callee.builtin Builtin.append, args := #[Operand.tmp 12, Ope | 8 Op.buildSlice 27 1 #[(0, Operand.tmp 18)]
      refine heldTwo (i := 6) (j := 8) rfl rfl (by kernel_rfl) (by rfl) (by rfl) (fun K hK => ?_) (fun K hK => ?_)
      · refine wp_append_row l (.tmp 12) (.tmp 16) (by rfl) (by rfl) HQ.out.om _ (by rfl) (HOW.out _ HQ.out.b) n (by rw [List.length_nil, Nat.zero_add]; exact HN.out) (by omega) HQ.out.b.size (fun ao2 cap2 w2 ho hT hv => ?_)
        replace HQ := Lib.hid (HQ.out.app ho hT hv)
        clear ho hT hv
        have hsq := HS.out _ HQ.out.b
        refine hK.out _ _ hsq ?_; clear hK K
        try simp only [Act.put, List.setIfInBounds_toArray, List.set_cons_zero, List.set_cons_succ]
        -- NEXT 8 Op.buildSlice 27 1 #[(0, Operand.tmp 18)]
        refine heldNext (i := 8) rfl (by kernel_rfl) (by rfl) (fun K hK => ?_)
        go_simp
        replace HQ := Lib.hid HQ.out.box
        try rw [World.size_alloc] at HQ
        try dsimp only at HQ
        have hsq := HS.out _ HQ.out.b
        refine hK.out _ _ hsq ?_; clear hK K
        try simp only [Act.put, List.setIfInBounds_toArray, List.set_cons_zero, List.set_cons_succ]
        -- NEXT 9 Op.call { callee := Callee.builtin Builtin.append, args := #[Operand.tmp 17, Operand.tmp 19], argTypes := #[27
        refine heldNext (i := 9) rfl (by kernel_rfl) (by rfl) (fun K hK => ?_)
        refine wp_append_row [⟨xt, xc, xb, xd⟩] (.tmp 17) (.tmp 19) (by rfl) (by rfl) HQ.out.o _ (by rfl) HQ.out.rwx (n + 1) (by first | (rw [List.nil_append, HN.out]; rfl) | (rw [HN.out]; rfl)) (by omega) HQ.out.b.size (fun a3 cap3 wz ho hT hv => ?_)
        have HBZ := Lib.hid (HQ.out.grown hT)
        have HO := Lib.hid ho
        clear ho hT hv HQ
        have hsq := HS.out _ HBZ.out
        refine hK.out _ _ hsq ?_; clear hK K
        try simp only [Act.put, List.setIfInBounds_toArray, List.set_cons_zero, List.set_cons_succ]
        refine heldTake (i := 10) (v := ?_) rfl (by kernel_rfl) (by kernel_rfl) (fun _ _ _ h => h) (by rfl) (by assumption) (fun w hSw => ?_) ?_; rotate_left; focus ((try dsimp only at hSw); go_simp; try with_reducible rfl)
        try simp only [Act.put, List.setIfInBounds_toArray, List.set_cons_zero, List.set_cons_succ]
        refine heldTake (i := 11) (v := ?_) rfl (by kernel_rfl) (by kernel_rfl) (fun _ _ _ h => h) (by rfl) (by assumption) (fun w hSw => ?_) ?_; rotate_left; focus ((try dsimp only at hSw); go_simp; try with_reducible rfl)
        try simp only [Act.put, List.setIfInBounds_toArray, List.set_cons_zero, List.set_cons_succ]
        -- NEXT 12 Op.store 27 (Operand.tmp 22) (Operand.tmp 20)
        refine heldNext (i := 12) rfl (by kernel_rfl) (by rfl) (fun K hK => ?_)
        have hc := HC.out _ HBZ.out
        have hf := HF.out _ HBZ.out
        have hss := HSS.out _ HBZ.out (.slice a3 (n + 1) cap3)
        go_simp
        refine hK.out _ _ hss ?_; clear hK K hc hf
        try simp only [Act.put, List.setIfInBounds_toArray, List.set_cons_zero, List.set_cons_succ]
        refine wpAnyH_done (by kernel_rfl) ?_ _
        have hbz := HB1.out.trans (HBZ.out.mono HB1.out.size)
        have hyz := HY.out.put hbz (HO.out.lower HB1.out.size) hB
        have HYZ := Lib.hid hyz
        have HTZ := Lib.hid (show Trn (· = g) w (wz.setCell ⟨g, 0, none⟩ (.slice a3 (n + 1) cap3)) from (Trn.of_below (F := (· = g)) hbz).setCell rfl _)
        have HOK := Lib.hid (fun k (hk : (Value.slice a3 (n + 1) cap3).ownBlock = some k) => Nat.le_trans HB1.out.size (HO.out.lt k hk).1)
        clear hbz hyz
        go_wp2
        go_ret
        exact ⟨_, rfl, HYZ.out, HTZ.out, HOK.out⟩
      · go_simp
        replace HQ := Lib.hid HQ.out.box
        try rw [World.size_alloc] at HQ
        try dsimp only at HQ
        have hsq := HS.out _ HQ.out.b
        refine hK.out _ _ hsq ?_; clear hK K
        try simp only [Act.put, List.setIfInBounds_toArray, List.set_cons_zero, List.set_cons_succ]
        -- NEXT 6 Op.call { callee := Callee.builtin Builtin.append, args := #[Operand.tmp 12, Operand.tmp 16], argTypes := #[27
        refine heldNext (i := 6) rfl (by kernel_rfl) (by rfl) (fun K hK => ?_)
        refine wp_append_row l (.tmp 12) (.tmp 16) (by rfl) (by rfl) HQ.out.om _ (by rfl) (HOW.out _ HQ.out.b) n (by rw [List.length_nil, Nat.zero_add]; exact HN.out) (by omega) HQ.out.b.size (fun ao2 cap2 w2 ho hT hv => ?_)
        replace HQ := Lib.hid (HQ.out.app ho hT hv)
        clear ho hT hv
        have hsq := HS.out _ HQ.out.b
        refine hK.out _ _ hsq ?_; clear hK K
        try simp only [Act.put, List.setIfInBounds_toArray, List.set_cons_zero, List.set_cons_succ]
        -- NEXT 9 Op.call { callee := Callee.builtin Builtin.append, args := #[Operand.tmp 17, Operand.tmp 19], argTypes := #[27
        refine heldNext (i := 9) rfl (by kernel_rfl) (by rfl) (fun K hK => ?_)
        refine wp_append_row [⟨xt, xc, xb, xd⟩] (.tmp 17) (.tmp 19) (by rfl) (by rfl) HQ.out.o _ (by rfl) HQ.out.rwx (n + 1) (by first | (rw [List.nil_append, HN.out]; rfl) | (rw [HN.out]; rfl)) (by omega) HQ.out.b.size (fun a3 cap3 wz ho hT hv => ?_)
        have HBZ := Lib.hid (HQ.out.grown hT)
        have HO := Lib.hid ho
        clear ho hT hv HQ
        have hsq := HS.out _ HBZ.out
        refine hK.out _ _ hsq ?_; clear hK K
        try simp only [Act.put, List.setIfInBounds_toArray, List.set_cons_zero, List.set_cons_succ]
        refine heldTake (i := 10) (v := ?_) rfl (by kernel_rfl) (by kernel_rfl) (fun _ _ _ h => h) (by rfl) (by assumption) (fun w hSw => ?_) ?_; rotate_left; focus ((try dsimp only at hSw); go_simp; try with_reducible rfl)
        try simp only [Act.put, List.setIfInBounds_toArray, List.set_cons_zero, List.set_cons_succ]
        refine heldTake (i := 11) (v := ?_) rfl (by kernel_rfl) (by kernel_rfl) (fun _ _ _ h => h) (by rfl) (by assumption) (fun w hSw => ?_) ?_; rotate_left; focus ((try dsimp only at hSw); go_simp; try with_reducible rfl)
        try simp only [Act.put, List.setIfInBounds_toArray, List.set_cons_zero, List.set_cons_succ]
        -- NEXT 12 Op.store 27 (Operand.tmp 22) (Operand.tmp 20)
        refine heldNext (i := 12) rfl (by kernel_rfl) (by rfl) (fun K hK => ?_)
        have hc := HC.out _ HBZ.out
        have hf := HF.out _ HBZ.out
        have hss := HSS.out _ HBZ.out (.slice a3 (n + 1) cap3)
        go_simp
        refine hK.out _ _ hss ?_; clear hK K hc hf
        try simp only [Act.put, List.setIfInBounds_toArray, List.set_cons_zero, List.set_cons_succ]
        refine wpAnyH_done (by kernel_rfl) ?_ _
        have hbz := HB1.out.trans (HBZ.out.mono HB1.out.size)
        have hyz := HY.out.put hbz (HO.out.lower HB1.out.size) hB
        have HYZ := Lib.hid hyz
        have HTZ := Lib.hid (show Trn (· = g) w (wz.setCell ⟨g, 0, none⟩ (.slice a3 (n + 1) cap3)) from (Trn.of_below (F := (· = g)) hbz).setCell rfl _)
        have HOK := Lib.hid (fun k (hk : (Value.slice a3 (n + 1) cap3).ownBlock = some k) => Nat.le_trans HB1.out.size (HO.out.lt k hk).1)
        clear hbz hyz
        go_wp2
        go_ret
        exact ⟨_, rfl, HYZ.out, HTZ.out, HOK.out⟩
    · go_simp
      replace HQ := Lib.hid HQ.out.box
      try rw [World.size_alloc] at HQ
      try dsimp only at HQ
      have hsq := HS.out _ HQ.out.b
      refine hK.out _ _ hsq ?_; clear hK K
      try simp only [Act.put, List.setIfInBounds_toArray, List.set_cons_zero, List.set_cons_succ]
      -- NEXT 5 Op.load 27 (Operand.tmp 15)
      refine heldNext (i := 5) rfl (by kernel_rfl) (by rfl) (fun K hK => ?_)
      have hc := HC.out _ HQ.out.b
      go_simp
      have hsq := HS.out _ HQ.out.b
      refine hK.out _ _ hsq ?_; clear hK K hc
      try simp only [Act.put, List.setIfInBounds_toArray, List.set_cons_zero, List.set_cons_succ]
      -- NEXT 6 Op.call { callee := Callee.builtin Builtin.append, args := #[Operand.tmp 12, Operand.tmp 16], argTypes := #[27
      refine heldNext (i := 6) rfl (by kernel_rfl) (by rfl) (fun K hK => ?_)
      refine wp_append_row l (.tmp 12) (.tmp 16) (by rfl) (by rfl) HQ.out.om _ (by rfl) (HOW.out _ HQ.out.b) n (by rw [List.length_nil, Nat.zero_add]; exact HN.out) (by omega) HQ.out.b.size (fun ao2 cap2 w2 ho hT hv => ?_)
      replace HQ := Lib.hid (HQ.out.app ho hT hv)
      clear ho hT hv
      have hsq := HS.out _ HQ.out.b
      refine hK.out _ _ hsq ?_; clear hK K
      try simp only [Act.put, List.setIfInBounds_toArray, List.set_cons_zero, List.set_cons_succ]
      -- NEXT 9 Op.call { callee := Callee.builtin Builtin.append, args := #[Operand.tmp 17, Operand.tmp 19], argTypes := #[27
      refine heldNext (i := 9) rfl (by kernel_rfl) (by rfl) (fun K hK => ?_)
      refine wp_append_row [⟨xt, xc, xb, xd⟩] (.tmp 17) (.tmp 19) (by rfl) (by rfl) HQ.out.o _ (by rfl) HQ.out.rwx (n + 1) (by first | (rw [List.nil_append, HN.out]; rfl) | (rw [HN.out]; rfl)) (by omega) HQ.out.b.size (fun a3 cap3 wz ho hT hv => ?_)
      have HBZ := Lib.hid (HQ.out.grown hT)
      have HO := Lib.hid ho
      clear ho hT hv HQ
      have hsq := HS.out _ HBZ.out
      refine hK.out _ _ hsq ?_; clear hK K
      try simp only [Act.put, List.setIfInBounds_toArray, List.set_cons_zero, List.set_cons_succ]
      refine heldTake (i := 10) (v := ?_) rfl (by kernel_rfl) (by kernel_rfl) (fun _ _ _ h => h) (by rfl) (by assumption) (fun w hSw => ?_) ?_; rotate_left; focus ((try dsimp only at hSw); go_simp; try with_reducible rfl)
      try simp only [Act.put, List.setIfInBounds_toArray, List.set_cons_zero, List.set_cons_succ]
      refine heldTake (i := 11) (v := ?_) rfl (by kernel_rfl) (by kernel_rfl) (fun _ _ _ h => h) (by rfl) (by assumption) (fun w hSw => ?_) ?_; rotate_left; focus ((try dsimp only at hSw); go_simp; try with_reducible rfl)
      try simp only [Act.put, List.setIfInBounds_toArray, List.set_cons_zero, List.set_cons_succ]
      -- NEXT 12 Op.store 27 (Operand.tmp 22) (Operand.tmp 20)
      refine heldNext (i := 12) rfl (by kernel_rfl) (by rfl) (fun K hK => ?_)
      have hc := HC.out _ HBZ.out
      have hf := HF.out _ HBZ.out
      have hss := HSS.out _ HBZ.out (.slice a3 (n + 1) cap3)
      go_simp
      refine hK.out _ _ hss ?_; clear hK K hc hf
      try simp only [Act.put, List.setIfInBounds_toArray, List.set_cons_zero, List.set_cons_succ]
      refine wpAnyH_done (by kernel_rfl) ?_ _
      have hbz := HB1.out.trans (HBZ.out.mono HB1.out.size)
      have hyz := HY.out.put hbz (HO.out.lower HB1.out.size) hB
      have HYZ := Lib.hid hyz
      have HTZ := Lib.hid (show Trn (· = g) w (wz.setCell ⟨g, 0, none⟩ (.slice a3 (n + 1) cap3)) from (Trn.of_below (F := (· = g)) hbz).setCell rfl _)
      have HOK := Lib.hid (fun k (hk : (Value.slice a3 (n + 1) cap3).ownBlock = some k) => Nat.le_trans HB1.out.size (HO.out.lt k hk).1)
      clear hbz hyz
      go_wp2
      go_ret
      exact ⟨_, rfl, HYZ.out, HTZ.out, HOK.out⟩
  · have hc := HC.out _ HQ.out.b
    go_simp
    have hsq := HS.out _ HQ.out.b
    refine hK.out _ _ hsq ?_; clear hK K hc
    try simp only [Act.put, List.setIfInBounds_toArray, List.set_cons_zero, List.set_cons_succ]
    -- TWO 1 Op.buildSlice 27 0 #[] | 8 Op.buildSlice 27 1 #[(0, Operand.tmp 18)]
    refine heldTwo (i := 1) (j := 8) rfl rfl (by kernel_rfl) (by rfl) (by rfl) (fun K hK => ?_) (fun K hK => ?_)
    · go_simp
      replace HQ := Lib.hid HQ.out.made
      try rw [World.size_alloc] at HQ
      try dsimp only at HQ
      have hsq := HS.out _ HQ.out.b
      refine hK.out _ _ hsq ?_; clear hK K
      try simp only [Act.put, List.setIfInBounds_toArray, List.set_cons_zero, List.set_cons_succ]
      -- TWO 6 Op.call { callee := Callee.builtin Builtin.append, args := #[Operand.tmp 12, Ope | 8 Op.buildSlice 27 1 #[(0, Operand.tmp 18)]
      refine heldTwo (i := 6) (j := 8) rfl rfl (by kernel_rfl) (by rfl) (by rfl) (fun K hK => ?_) (fun K hK => ?_)
      · refine wp_append_row l (.tmp 12) (.tmp 16) (by rfl) (by rfl) HQ.out.om _ (by rfl) (HOW.out _ HQ.out.b) n (by rw [List.length_nil, Nat.zero_add]; exact HN.out) (by omega) HQ.out.b.size (fun ao2 cap2 w2 ho hT hv => ?_)
        replace HQ := Lib.hid (HQ.out.app ho hT hv)
        clear ho hT hv
        have hsq := HS.out _ HQ.out.b
        refine hK.out _ _ hsq ?_; clear hK K
        try simp only [Act.put, List.setIfInBounds_toArray, List.set_cons_zero, List.set_cons_succ]
        -- NEXT 8 Op.buildSlice 27 1 #[(0, Operand.tmp 18)]
        refine heldNext (i := 8) rfl (by kernel_rfl) (by rfl) (fun K hK => ?_)
        go_simp
        replace HQ := Lib.hid HQ.out.box
        try rw [World.size_alloc] at HQ
        try dsimp only at HQ
        have hsq := HS.out _ HQ.out.b
        refine hK.out _ _ hsq ?_; clear hK K
        try simp only [Act.put, List.setIfInBounds_toArray, List.set_cons_zero, List.set_cons_succ]
        -- NEXT 9 Op.call { callee := Callee.builtin Builtin.append, args := #[Operand.tmp 17, Operand.tmp 19], argTypes := #[27
        refine heldNext (i := 9) rfl (by kernel_rfl) (by rfl) (fun K hK => ?_)
        refine wp_append_row [⟨xt, xc, xb, xd⟩] (.tmp 17) (.tmp 19) (by rfl) (by rfl) HQ.out.o _ (by rfl) HQ.out.rwx (n + 1) (by first | (rw [List.nil_append, HN.out]; rfl) | (rw [HN.out]; rfl)) (by omega) HQ.out.b.size (fun a3 cap3 wz ho hT hv => ?_)
        have HBZ := Lib.hid (HQ.out.grown hT)
        have HO := Lib.hid ho
        clear ho hT hv HQ
        have hsq := HS.out _ HBZ.out
        refine hK.out _ _ hsq ?_; clear hK K
        try simp only [Act.put, List.setIfInBounds_toArray, List.set_cons_zero, List.set_cons_succ]
        refine heldTake (i := 10) (v := ?_) rfl (by kernel_rfl) (by kernel_rfl) (fun _ _ _ h => h) (by rfl) (by assumption) (fun w hSw => ?_) ?_; rotate_left; focus ((try dsimp only at hSw); go_simp; try with_reducible rfl)
        try simp only [Act.put, List.setIfInBounds_toArray, List.set_cons_zero, List.set_cons_succ]
        refine heldTake (i := 11) (v := ?_) rfl (by kernel_rfl) (by kernel_rfl) (fun _ _ _ h => h) (by rfl) (by assumption) (fun w hSw => ?_) ?_; rotate_left; focus ((try dsimp only at hSw); go_simp; try with_reducible rfl)
        try simp only [Act.put, List.setIfInBounds_toArray, List.set_cons_zero, List.set_cons_succ]
        -- NEXT 12 Op.store 27 (Operand.tmp 22) (Operand.tmp 20)
        refine heldNext (i := 12) rfl (by kernel_rfl) (by rfl) (fun K hK => ?_)
        have hc := HC.out _ HBZ.out
        have hf := HF.out _ HBZ.out
        have hss := HSS.out _ HBZ.out (.slice a3 (n + 1) cap3)
        go_simp
        refine hK.out _ _ hss ?_; clear hK K hc hf
        try simp only [Act.put, List.setIfInBounds_toArray, List.set_cons_zero, List.set_cons_succ]
        refine wpAnyH_done (by kernel_rfl) ?_ _
        have hbz := HB1.out.trans (HBZ.out.mono HB1.out.size)
        have hyz := HY.out.put hbz (HO.out.lower HB1.out.size) hB
        have HYZ := Lib.hid hyz
        have HTZ := Lib.hid (show Trn (· = g) w (wz.setCell ⟨g, 0, none⟩ (.slice a3 (n + 1) cap3)) from (Trn.of_below (F := (· = g)) hbz).setCell rfl _)
        have HOK := Lib.hid (fun k (hk : (Value.slice a3 (n + 1) cap3).ownBlock = some k) => Nat.le_trans HB1.out.size (HO.out.lt k hk).1)
        clear hbz hyz
        go_wp2
        go_ret
        exact ⟨_, rfl, HYZ.out, HTZ.out, HOK.out⟩
      · go_simp
        replace HQ := Lib.hid HQ.out.box
        try rw [World.size_alloc] at HQ
        try dsimp only at HQ
        have hsq := HS.out _ HQ.out.b
        refine hK.out _ _ hsq ?_; clear hK K
        try simp only [Act.put, List.setIfInBounds_toArray, List.set_cons_zero, List.set_cons_succ]
        -- NEXT 6 Op.call { callee := Callee.builtin Builtin.append, args := #[Operand.tmp 12, Operand.tmp 16], argTypes := #[27
        refine heldNext (i := 6) rfl (by kernel_rfl) (by rfl) (fun K hK => ?_)
        refine wp_append_row l (.tmp 12) (.tmp 16) (by rfl) (by rfl) HQ.out.om _ (by rfl) (HOW.out _ HQ.out.b) n (by rw [List.length_nil, Nat.zero_add]; exact HN.out) (by omega) HQ.out.b.size (fun ao2 cap2 w2 ho hT hv => ?_)
        replace HQ := Lib.hid (HQ.out.app ho hT hv)
        clear ho hT hv
        have hsq := HS.out _ HQ.out.b
        refine hK.out _ _ hsq ?_; clear hK K
        try simp only [Act.put, List.setIfInBounds_toArray, List.set_cons_zero, List.set_cons_succ]
        -- NEXT 9 Op.call { callee := Callee.builtin Builtin.append, args := #[Operand.tmp 17, Operand.tmp 19], argTypes := #[27
        refine heldNext (i := 9) rfl (by kernel_rfl) (by rfl) (fun K hK => ?_)
        refine wp_append_row [⟨xt, xc, xb, xd⟩] (.tmp 17) (.tmp 19) (by rfl) (by rfl) HQ.out.o _ (by rfl) HQ.out.rwx (n + 1) (by first | (rw [List.nil_append, HN.out]; rfl) | (rw [HN.out]; rfl)) (by omega) HQ.out.b.size (fun a3 cap3 wz ho hT hv => ?_)
        have HBZ := Lib.hid (HQ.out.grown hT)
        have HO := Lib.hid ho
        clear ho hT hv HQ
        have hsq := HS.out _ HBZ.out
        refine hK.out _ _ hsq ?_; clear hK K
        try simp only [Act.put, List.setIfInBounds_toArray, List.set_cons_zero, List.set_cons_succ]
        refine heldTake (i := 10) (v := ?_) rfl (by kernel_rfl) (by kernel_rfl) (fun _ _ _ h => h) (by rfl) (by assumption) (fun w hSw => ?_) ?_; rotate_left; focus ((try dsimp only at hSw); go_simp; try with_reducible rfl)
        try simp only [Act.put, List.setIfInBounds_toArray, List.set_cons_zero, List.set_cons_succ]
        refine heldTake (i := 11) (v := ?_) rfl (by kernel_rfl) (by kernel_rfl) (fun _ _ _ h => h) (by rfl) (by assumption) (fun w hSw => ?_) ?_; rotate_left; focus ((try dsimp only at hSw); go_simp; try with_reducible rfl)
        try simp only [Act.put, List.setIfInBounds_toArray, List.set_cons_zero, List.set_cons_succ]
        -- NEXT 12 Op.store 27 (Operand.tmp 22) (Operand.tmp 20)
        refine heldNext (i := 12) rfl (by kernel_rfl) (by rfl) (fun K hK => ?_)
        have hc := HC.out _ HBZ.out
        have hf := HF.out _ HBZ.out
        have hss := HSS.out _ HBZ.out (.slice a3 (n + 1) cap3)
        go_simp
        refine hK.out _ _ hss ?_; clear hK K hc hf
        try simp only [Act.put, List.setIfInBounds_toArray, List.set_cons_zero, List.set_cons_succ]
        refine wpAnyH_done (by kernel_rfl) ?_ _
        have hbz := HB1.out.trans (HBZ.out.mono HB1.out.size)
        have hyz := HY.out.put hbz (HO.out.lower HB1.out.size) hB
        have HYZ := Lib.hid hyz
        have HTZ := Lib.hid (show Trn (· = g) w (wz.setCell ⟨g, 0, none⟩ (.slice a3 (n + 1) cap3)) from (Trn.of_below (F := (· = g)) hbz).setCell rfl _)
        have HOK := Lib.hid (fun k (hk : (Value.slice a3 (n + 1) cap3).ownBlock = some k) => Nat.le_trans HB1.out.size (HO.out.lt k hk).1)
        clear hbz hyz
        go_wp2
        go_ret
        exact ⟨_, rfl, HYZ.out, HTZ.out, HOK.out⟩
    · go_simp
      replace HQ := Lib.hid HQ.out.box
      try rw [World.size_alloc] at HQ
      try dsimp only at HQ
      have hsq := HS.out _ HQ.out.b
      refine hK.out _ _ hsq ?_; clear hK K
      try simp only [Act.put, List.setIfInBounds_toArray, List.set_cons_zero, List.set_cons_succ]
      -- NEXT 1 Op.buildSlice 27 0 #[]
      refine heldNext (i := 1) rfl (by kernel_rfl) (by rfl) (fun K hK => ?_)
      go_simp
      replace HQ := Lib.hid HQ.out.made
      try rw [World.size_alloc] at HQ
      try dsimp only at HQ
      have hsq := HS.out _ HQ.out.b
      refine hK.out _ _ hsq ?_; clear hK K
      try simp only [Act.put, List.setIfInBounds_toArray, List.set_cons_zero, List.set_cons_succ]
      -- NEXT 6 Op.call { callee := Callee.builtin Builtin.append, args := #[Operand.tmp 12, Operand.tmp 16], argTypes := #[27
      refine heldNext (i := 6) rfl (by kernel_rfl) (by rfl) (fun K hK => ?_)
      refine wp_append_row l (.tmp 12) (.tmp 16) (by rfl) (by rfl) HQ.out.om _ (by rfl) (HOW.out _ HQ.out.b) n (by rw [List.length_nil, Nat.zero_add]; exact HN.out) (by omega) HQ.out.b.size (fun ao2 cap2 w2 ho hT hv => ?_)
      replace HQ := Lib.hid (HQ.out.app ho hT hv)
      clear ho hT hv
      have hsq := HS.out _ HQ.out.b
      refine hK.out _ _ hsq ?_; clear hK K
      try simp only [Act.put, List.setIfInBounds_toArray, List.set_cons_zero, List.set_cons_succ]
      -- NEXT 9 Op.call { callee := Callee.builtin Builtin.append, args := #[Operand.tmp 17, Operand.tmp 19], argTypes := #[27
      refine heldNext (i := 9) rfl (by kernel_rfl) (by rfl) (fun K hK => ?_)
      refine wp_append_row [⟨xt, xc, xb, xd⟩] (.tmp 17) (.tmp 19) (by rfl) (by rfl) HQ.out.o _ (by rfl) HQ.out.rwx (n + 1) (by first | (rw [List.nil_append, HN.out]; rfl) | (rw [HN.out]; rfl)) (by omega) HQ.out.b.size (fun a3 cap3 wz ho hT hv => ?_)
      have HBZ := Lib.hid (HQ.out.grown hT)
      have HO := Lib.hid ho
      clear ho hT hv HQ
      have hsq := HS.out _ HBZ.out
      refine hK.out _ _ hsq ?_; clear hK K
      try simp only [Act.put, List.setIfInBounds_toArray, List.set_cons_zero, List.set_cons_succ]
      refine heldTake (i := 10) (v := ?_) rfl (by kernel_rfl) (by kernel_rfl) (fun _ _ _ h => h) (by rfl) (by assumption) (fun w hSw => ?_) ?_; rotate_left; focus ((try dsimp only at hSw); go_simp; try with_reducible rfl)
      try simp only [Act.put, List.setIfInBounds_toArray, List.set_cons_zero, List.set_cons_succ]
      refine heldTake (i := 11) (v := ?_) rfl (by kernel_rfl) (by kernel_rfl) (fun _ _ _ h => h) (by rfl) (by assumption) (fun w hSw => ?_) ?_; rotate_left; focus ((try dsimp only at hSw); go_simp; try with_reducible rfl)
      try simp only [Act.put, List.setIfInBounds_toArray, List.set_cons_zero, List.set_cons_succ]
      -- NEXT 12 Op.store 27 (Operand.tmp 22) (Operand.tmp 20)
      refine heldNext (i := 12) rfl (by kernel_rfl) (by rfl) (fun K hK => ?_)
      have hc := HC.out _ HBZ.out
      have hf := HF.out _ HBZ.out
      have hss := HSS.out _ HBZ.out (.slice a3 (n + 1) cap3)
      go_simp
      refine hK.out _ _ hss ?_; clear hK K hc hf
      try simp only [Act.put, List.setIfInBounds_toArray, List.set_cons_zero, List.set_cons_succ]
      refine wpAnyH_done (by kernel_rfl) ?_ _
      have hbz := HB1.out.trans (HBZ.out.mono HB1.out.size)
      have hyz := HY.out.put hbz (HO.out.lower HB1.out.size) hB
      have HYZ := Lib.hid hyz
      have HTZ := Lib.hid (show Trn (· = g) w (wz.setCell ⟨g, 0, none⟩ (.slice a3 (n + 1) cap3)) from (Trn.of_below (F := (· = g)) hbz).setCell rfl _)
      have HOK := Lib.hid (fun k (hk : (Value.slice a3 (n + 1) cap3).ownBlock = some k) => Nat.le_trans HB1.out.size (HO.out.lt k hk).1)
      clear hbz hyz
      go_wp2
      go_ret
      exact ⟨_, rfl, HYZ.out, HTZ.out, HOK.out⟩
  · go_simp
    replace HQ := Lib.hid HQ.out.box
    try rw [World.size_alloc] at HQ
    try dsimp only at HQ
    have hsq := HS.out _ HQ.out.b
    refine hK.out _ _ hsq ?_; clear hK K
    try simp only [Act.put, List.setIfInBounds_toArray, List.set_cons_zero, List.set_cons_succ]
    -- TWO 1 Op.buildSlice 27 0 #[] | 5 Op.load 27 (Operand.tmp 15)
    refine heldTwo (i := 1) (j := 5) rfl rfl (by kernel_rfl) (by rfl) (by rfl) (fun K hK => ?_) (fun K hK => ?_)
    · go_simp
      replace HQ := Lib.hid HQ.out.made
      try rw [World.size_alloc] at HQ
      try dsimp only at HQ
      have hsq := HS.out _ HQ.out.b
      refine hK.out _ _ hsq ?_; clear hK K
      try simp only [Act.put, List.setIfInBounds_toArray, List.set_cons_zero, List.set_cons_succ]
      -- NEXT 5 Op.load 27 (Operand.tmp 15)
      refine heldNext (i := 5) rfl (by kernel_rfl) (by rfl) (fun K hK => ?_)
      have hc := HC.out _ HQ.out.b
      go_simp
      have hsq := HS.out _ HQ.out.b
      refine hK.out _ _ hsq ?_; clear hK K hc
      try simp only [Act.put, List.setIfInBounds_toArray, List.set_cons_zero, List.set_cons_succ]
      -- NEXT 6 Op.call { callee := Callee.builtin Builtin.append, args := #[Operand.tmp 12, Operand.tmp 16], argTypes := #[27
      refine heldNext (i := 6) rfl (by kernel_rfl) (by rfl) (fun K hK => ?_)
      refine wp_append_row l (.tmp 12) (.tmp 16) (by rfl) (by rfl) HQ.out.om _ (by rfl) (HOW.out _ HQ.out.b) n (by rw [List.length_nil, Nat.zero_add]; exact HN.out) (by omega) HQ.out.b.size (fun ao2 cap2 w2 ho hT hv => ?_)
      replace HQ := Lib.hid (HQ.out.app ho hT hv)
      clear ho hT hv
      have hsq := HS.out _ HQ.out.b
      refine hK.out _ _ hsq ?_; clear hK K
      try simp only [Act.put, List.setIfInBounds_toArray, List.set_cons_zero, List.set_cons_succ]
      -- NEXT 9 Op.call { callee := Callee.builtin Builtin.append, args := #[Operand.tmp 17, Operand.tmp 19], argTypes := #[27
      refine heldNext (i := 9) rfl (by kernel_rfl) (by rfl) (fun K hK => ?_)
      refine wp_append_row [⟨xt, xc, xb, xd⟩] (.tmp 17) (.tmp 19) (by rfl) (by rfl) HQ.out.o _ (by rfl) HQ.out.rwx (n + 1) (by first | (rw [List.nil_append, HN.out]; rfl) | (rw [HN.out]; rfl)) (by omega) HQ.out.b.size (fun a3 cap3 wz ho hT hv => ?_)
      have HBZ := Lib.hid (HQ.out.grown hT)
      have HO := Lib.hid ho
      clear ho hT hv HQ
      have hsq := HS.out _ HBZ.out
      refine hK.out _ _ hsq ?_; clear hK K
      try simp only [Act.put, List.setIfInBounds_toArray, List.set_cons_zero, List.set_cons_succ]
      refine heldTake (i := 10) (v := ?_) rfl (by kernel_rfl) (by kernel_rfl) (fun _ _ _ h => h) (by rfl) (by assumption) (fun w hSw => ?_) ?_; rotate_left; focus ((try dsimp only at hSw); go_simp; try with_reducible rfl)
      try simp only [Act.put, List.setIfInBounds_toArray, List.set_cons_zero, List.set_cons_succ]
      refine heldTake (i := 11) (v := ?_) rfl (by kernel_rfl) (by kernel_rfl) (fun _ _ _ h => h) (by rfl) (by assumption) (fun w hSw => ?_) ?_; rotate_left; focus ((try dsimp only at hSw); go_simp; try with_reducible rfl)
      try simp only [Act.put, List.setIfInBounds_toArray, List.set_cons_zero, List.set_cons_succ]
      -- NEXT 12 Op.store 27 (Operand.tmp 22) (Operand.tmp 20)
      refine heldNext (i := 12) rfl (by kernel_rfl) (by rfl) (fun K hK => ?_)
      have hc := HC.out _ HBZ.out
      have hf := HF.out _ HBZ.out
      have hss := HSS.out _ HBZ.out (.slice a3 (n + 1) cap3)
      go_simp
      refine hK.out _ _ hss ?_; clear hK K hc hf
      try simp only [Act.put, List.setIfInBounds_toArray, List.set_cons_zero, List.set_cons_succ]
      refine wpAnyH_done (by kernel_rfl) ?_ _
      have hbz := HB1.out.trans (HBZ.out.mono HB1.out.size)
      have hyz := HY.out.put hbz (HO.out.lower HB1.out.size) hB
      have HYZ := Lib.hid hyz
      have HTZ := Lib.hid (show Trn (· = g) w (wz.setCell ⟨g, 0, none⟩ (.slice a3 (n + 1) cap3)) from (Trn.of_below (F := (· = g)) hbz).setCell rfl _)
      have HOK := Lib.hid (fun k (hk : (Value.slice a3 (n + 1) cap3).ownBlock = some k) => Nat.le_trans HB1.out.size (HO.out.lt k hk).1)
      clear hbz hyz
      go_wp2
      go_ret
      exact ⟨_, rfl, HYZ.out, HTZ.out, HOK.out⟩
    · have hc := HC.out _ HQ.out.b
      go_simp
      have hsq := HS.out _ HQ.out.b
      refine hK.out _ _ hsq ?_; clear hK K hc
      try simp only [Act.put, List.setIfInBounds_toArray, List.set_cons_zero, List.set_cons_succ]
      -- NEXT 1 Op.buildSlice 27 0 #[]
      refine heldNext (i := 1) rfl (by kernel_rfl) (by rfl) (fun K hK => ?_)
      go_simp
      replace HQ := Lib.hid HQ.out.made
      try rw [World.size_alloc] at HQ
      try dsimp only at HQ
      have hsq := HS.out _ HQ.out.b
      refine hK.out _ _ hsq ?_; clear hK K
      try simp only [Act.put, List.setIfInBounds_toArray, List.set_cons_zero, List.set_cons_succ]
      -- NEXT 6 Op.call { callee := Callee.builtin Builtin.append, args := #[Operand.tmp 12, Operand.tmp 16], argTypes := #[27
      refine heldNext (i := 6) rfl (by kernel_rfl) (by rfl) (fun K hK => ?_)
      refine wp_append_row l (.tmp 12) (.tmp 16) (by rfl) (by rfl) HQ.out.om _ (by rfl) (HOW.out _ HQ.out.b) n (by rw [List.length_nil, Nat.zero_add]; exact HN.out) (by omega) HQ.out.b.size (fun ao2 cap2 w2 ho hT hv => ?_)
      replace HQ := Lib.hid (HQ.out.app ho hT hv)
      clear ho hT hv
      have hsq := HS.out _ HQ.out.b
      refine hK.out _ _ hsq ?_; clear hK K
      try simp only [Act.put, List.setIfInBounds_toArray, List.set_cons_zero, List.set_cons_succ]
      -- NEXT 9 Op.call { callee := Callee.builtin Builtin.append, args := #[Operand.tmp 17, Operand.tmp 19], argTypes := #[27
      refine heldNext (i := 9) rfl (by kernel_rfl) (by rfl) (fun K hK => ?_)
      refine wp_append_row [⟨xt, xc, xb, xd⟩] (.tmp 17) (.tmp 19) (by rfl) (by rfl) HQ.out.o _ (by rfl) HQ.out.rwx (n + 1) (by first | (rw [List.nil_append, HN.out]; rfl) | (rw [HN.out]; rfl)) (by omega) HQ.out.b.size (fun a3 cap3 wz ho hT hv => ?_)
      have HBZ := Lib.hid (HQ.out.grown hT)
      have HO := Lib.hid ho
      clear ho hT hv HQ
      have hsq := HS.out _ HBZ.out
      refine hK.out _ _ hsq ?_; clear hK K
      try simp only [Act.put, List.setIfInBounds_toArray, List.set_cons_zero, List.set_cons_succ]
      refine heldTake (i := 10) (v := ?_) rfl (by kernel_rfl) (by kernel_rfl) (fun _ _ _ h => h) (by rfl) (by assumption) (fun w hSw => ?_) ?_; rotate_left; focus ((try dsimp only at hSw); go_simp; try with_reducible rfl)
      try simp only [Act.put, List.setIfInBounds_toArray, List.set_cons_zero, List.set_cons_succ]
      refine heldTake (i := 11) (v := ?_) rfl (by kernel_rfl) (by kernel_rfl) (fun _ _ _ h => h) (by rfl) (by assumption) (fun w hSw => ?_) ?_; rotate_left; focus ((try dsimp only at hSw); go_simp; try with_reducible rfl)
      try simp only [Act.put, List.setIfInBounds_toArray, List.set_cons_zero, List.set_cons_succ]
      -- NEXT 12 Op.store 27 (Operand.tmp 22) (Operand.tmp 20)
      refine heldNext (i := 12) rfl (by kernel_rfl) (by rfl) (fun K hK => ?_)
      have hc := HC.out _ HBZ.out
      have hf := HF.out _ HBZ.out
      have hss := HSS.out _ HBZ.out (.slice a3 (n + 1) cap3)
      go_simp
      refine hK.out _ _ hss ?_; clear hK K hc hf
      try simp only [Act.put, List.setIfInBounds_toArray, List.set_cons_zero, List.set_cons_succ]
      refine wpAnyH_done (by kernel_rfl) ?_ _
      have hbz := HB1.out.trans (HBZ.out.mono HB1.out.size)
      have hyz := HY.out.put hbz (HO.out.lower HB1.out.size) hB
      have HYZ := Lib.hid hyz
      have HTZ := Lib.hid (show Trn (· = g) w (wz.setCell ⟨g, 0, none⟩ (.slice a3 (n + 1) cap3)) from (Trn.of_below (F := (· = g)) hbz).setCell rfl _)
      have HOK := Lib.hid (fun k (hk : (Value.slice a3 (n + 1) cap3).ownBlock = some k) => Nat.le_trans HB1.out.size (HO.out.lt k hk).1)
      clear hbz hyz
      go_wp2
      go_ret
      exact ⟨_, rfl, HYZ.out, HTZ.out, HOK.out⟩

end
end Go.Proofs.Ytimieknphedniaa
