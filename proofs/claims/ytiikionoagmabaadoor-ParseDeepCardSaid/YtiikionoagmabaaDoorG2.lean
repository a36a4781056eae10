/- The texts ParsePut, ParsePa, TextP, Blank, Strs, Words, ParseKind, NumP, ParseHp, Digit, Number, one behind the other. -/
import Derived.Test.YtiikionoagmabaaDoorG1
import Derived.Deep.CutRange
import Derived.Test.YtiikionoagmabaaDoorG0
import Derived.Laws.IdiomStrings
import Derived.WalkKit
import Derived.WalkSpells
import Derived.WalkSmall
import Derived.WalkLawsBesides
import Derived.Outline
import Derived.Lib.Hide
import Derived.Laws.AppendOwnNone
import Derived.BigQuiet
import Derived.Deep.QuietTactic
import Derived.Deep.Draws
/- parse's put walked (layer 15). -/
namespace Go.Proofs.YtiikionoagmabaaDoor
open Go.RowKit

theorem int_info : (Tryd.prog.info? 3).map (fun i => (i.zero, i.size, i.bytes)) = some (some (.int .i64 0), 1, 8) := by kernel_rfl
theorem stmt_info : (Tryd.prog.info? 37).map (fun i => (i.zero, i.size, i.bytes)) = some (some (.agg #[.int .i64 0, .string ⟨#[]⟩, .string ⟨#[]⟩, .string ⟨#[]⟩, .int .i64 0, .int .i64 0, .slice none 0 0, .slice none 0 0]), 8, 120) := by kernel_rfl
/-- 'append(row, n)'. -/
theorem append_n {o : Oper} {a : Act} {K : Act → World → Prop} {Q : Exit → Act → World → Prop} {w : World} {B b : Nat} {v : Value} {xs : List Nat} (n : Nat)
    (s x : Operand) (ho : o.op = .call { callee := .builtin .append, args := #[s, x], argTypes := #[25, 25] })
    (hs : a.eval s = v) (h : IR w B 3 v xs) (hx : a.eval x = .slice (some ⟨b, 0, none⟩) 1 1) (hb : w.heap[b]? = some (.cells #[.int .i64 (n : Int)] 3 (0, 0)))
    (hn : xs.length ≤ 1048576) (hB : B ≤ w.heap.size)
    (h' : ∀ g cap w', IR w' B 3 (.slice (some ⟨g, 0, none⟩) (xs.length + 1) cap) (xs ++ [n]) → w.grownBy w' v.ownBlock → (v.ownBlock = some g ∨ g = w.heap.size) → K (a.put o.dst (.slice (some ⟨g, 0, none⟩) (xs.length + 1) cap)) w') : o.wp Tryd.prog a w K Q := by
  obtain ⟨i0, hi, hz0, hz1, hz2⟩ := info_parts int_info
  exact wp_append_nv n Tryd.underlying25 hi hz0 hz1 hz2 s x ho hs h hx hb hn hB h'
/-- 'append(row, s)'. -/
theorem append_s {o : Oper} {a : Act} {K : Act → World → Prop} {Q : Exit → Act → World → Prop} {w : World} {B b : Nat} {v : Value} {cs : List SA} (t : SA)
    (s x : Operand) (ho : o.op = .call { callee := .builtin .append, args := #[s, x], argTypes := #[24, 24] })
    (hs : a.eval s = v) (h : w.ownsRow B 37 8 v cs.length (stRow cs)) (hx : a.eval x = .slice (some ⟨b, 0, none⟩) 1 1) (hb : w.heap[b]? = some (.cells (stCells t).toArray 37 (0, 0)))
    (hl : t.l.oneCell' = true) (hm : t.m.oneCell' = true) (hn : cs.length ≤ 1048576) (hB : B ≤ w.heap.size)
    (h' : ∀ g cap w', w'.ownsRow B 37 8 (.slice (some ⟨g, 0, none⟩) (cs.length + 1) cap) (cs.length + 1) (stRow (cs ++ [t])) → w.grownBy w' v.ownBlock → (v.ownBlock = some g ∨ g = w.heap.size) → K (a.put o.dst (.slice (some ⟨g, 0, none⟩) (cs.length + 1) cap)) w') : o.wp Tryd.prog a w K Q := by
  obtain ⟨i0, hi, hz0, hz1, hz2⟩ := info_parts stmt_info
  refine wp_append_lies w s x _ ho B _ i0 _ 8 120 Tryd.underlying24 hi hz0 hz1 hz2 (by decide) (by decide) v cs.length (stRow cs) hs h ⟨b, 0, none⟩ 1 1 (stCells t) hx rfl (World.news_of_block hb) ?_ (by decide) (by unfold maxLen; omega) (by omega) hB _ rfl (fun g cap w' h2 h3 h4 _ => h' g cap w' ?_ h3 h4)
  · intro u hu
    simp [stCells] at hu
    rcases hu with rfl | rfl | rfl | rfl | rfl | rfl | rfl | rfl
    · rfl
    · rfl
    · rfl
    · rfl
    · rfl
    · rfl
    · exact hl
    · exact hm
  · rw [show stRow (cs ++ [t]) = stRow cs ++ stCells t by simp [stRow]]
    exact h2
theorem below_drew {B : Nat} {a w : World} (h : Below B a w) : Below B a w.drew := ⟨h.os, h.tape, h.output, h.size, h.block⟩
theorem IR.len {w : World} {B : Nat} {e : TypeId} {v : Value} {xs : List Nat} (h : IR w B e v xs) : ∃ ao cap, v = .slice ao xs.length cap := h.form
theorem own_form9 {w : World} {B n size : Nat} {e : TypeId} {v : Value} {xs : List Value} (h : w.ownsRow B e size v n xs) : ∃ ao cap, v = .slice ao n cap := by
  rcases h.2 with ⟨rfl, hn⟩ | ⟨g, cap, cur, rfl, _⟩
  · exact ⟨none, 0, by rw [hn]⟩
  · exact ⟨_, cap, rfl⟩

set_option maxRecDepth 20000 in
set_option maxHeartbeats 4000000 in
theorem put_top {B g b q md a f : Nat} {lv ov sv' tv : Value} {ts : List Lx.Tok} {cs : List SA} {top : List Nat} (x : HA) (w : World) (h : PX w B g b q lv ov sv' tv md a f ts [] [x] cs top) (hc : cs.length ≤ 1048576) (htop : top.length ≤ 1048576) :
    Calls Tryd.prog 42 #[.pointer (some ⟨g, 0, none⟩), .agg (stCells x.sa).toArray] w fun e w' => e = .returned (.tuple #[]) ∧ (∃ sv2 tv2 , PX w' B g b q lv ov sv2 tv2 md a f ts [] [] (cs ++ [x.sa]) (top ++ [cs.length])) ∧ Below B w w' := by
  obtain ⟨i1, i2⟩ := h.hl x (by simp)
  obtain ⟨st, xl, xm, els⟩ := x
  obtain ⟨la, ll, lc, hl1⟩ := i1.form3
  obtain ⟨ma, ml, mc, hm1⟩ := i2.form3
  dsimp only at hl1 hm1
  subst hl1 hm1
  obtain ⟨k, s, t, u, n, p, pl, pm⟩ := st
  clear i1 i2
  obtain ⟨oo, oc, rfl⟩ := own_form9 h.op
  obtain ⟨ro, rc, rfl⟩ := IR.len h.tp
  rw [List.length_nil] at h

  obtain ⟨so, sc, rfl⟩ := own_form9 h.os
  obtain ⟨C, hC⟩ : ∃ C, cs.length = C := ⟨_, rfl⟩
  rw [hC] at hc h ⊢
  have HC := Lib.hid hC
  obtain ⟨T, hT⟩ : ∃ T, w.alloc (.cells #[.int .i64 (k : Int), .string ⟨s.toArray⟩, .string ⟨t.toArray⟩, .string ⟨u.toArray⟩, .int .i64 (n : Int), .int .i64 (p : Int), .slice la ll lc, .slice ma ml mc] 37) = T := ⟨_, rfl⟩
  have hbx : T.heap[w.heap.size]? = some (.cells #[.int .i64 (k : Int), .string ⟨s.toArray⟩, .string ⟨t.toArray⟩, .string ⟨u.toArray⟩, .int .i64 (n : Int), .int .i64 (p : Int), .slice la ll lc, .slice ma ml mc] 37 (0, 0)) := by rw [← hT]; exact heap_alloc_new _ _
  have hbT : Below w.heap.size w T := by rw [← hT]; exact (Below.refl _ _).alloc (Nat.le_refl _) _
  have hlt := h.lt
  have hPX := h.below hbT
  have hBw := h.bsz
  have bx := fun i v (hv : (#[.int .i64 (k : Int), .string ⟨s.toArray⟩, .string ⟨t.toArray⟩, .string ⟨u.toArray⟩, .int .i64 (n : Int), .int .i64 (p : Int), .slice la ll lc, .slice ma ml mc] : Array Value)[i]? = some v) => (cell_of_row T w.heap.size i _ _ _ hbx).trans hv
  have g1 := hPX.rb.c1
  have g3 := hPX.rb.c3

  have HBX := Lib.hid hbx
  have HBT := Lib.hid hbT
  have HLT := Lib.hid hlt
  have HPX := Lib.hid hPX
  clear hbx hbT hlt hPX bx h
  show Calls Tryd.prog 42 #[.pointer (some ⟨g, 0, none⟩), .agg #[.int .i64 (k : Int), .string ⟨s.toArray⟩, .string ⟨t.toArray⟩, .string ⟨u.toArray⟩, .int .i64 (n : Int), .int .i64 (p : Int), .slice la ll lc, .slice ma ml mc]] w _
  go_enter Tryd.func42, Tryd.ntmps42
  go_upto_region 8 with fail
  go_cut [4] from 37 to 50 (fun s4 wx => (∃ tv2 , PX wx B g b q lv (.slice oo 0 oc) (.slice so C sc) tv2 md a f ts [] [⟨⟨k, s, t, u, n, p, pl, pm⟩, .slice la ll lc, .slice ma ml mc, els⟩] cs (top ++ [C])) ∧ Below B w wx ∧ wx.heap[w.heap.size]? = some (.cells #[.int .i64 (k : Int), .string ⟨s.toArray⟩, .string ⟨t.toArray⟩, .string ⟨u.toArray⟩, .int .i64 (n : Int), .int .i64 (p : Int), .slice la ll lc, .slice ma ml mc] 37 (0, 0)))
  case first =>
    have hbD : Below w.heap.size w T.drew := below_drew HBT.out
    have hD := HPX.out.below (below_drew (Below.refl T.heap.size T))
    have hbxD : T.drew.heap[w.heap.size]? = _ := HBX.out
    have hs0 : T.drew.cell? ⟨g, 3, none⟩ = some (.slice so C sc) := hD.rb.c3
    refine wp_region_held_drew (S := fun w' => w'.cell? ⟨g, 3, none⟩ = some (.slice so C sc)) (by kernel_rfl) hs0 (fun hH => ?_)
    generalize T.drew = wd at *
    obtain ⟨wa, hwa⟩ : ∃ wa, wd.alloc (.cells #[.int .i64 (C : Int)] 3) = wa := ⟨_, rfl⟩
    have hba : Below wd.heap.size wd wa := by rw [← hwa]; exact (Below.refl _ _).alloc (Nat.le_refl _) _
    have hna : wa.heap[wd.heap.size]? = some (.cells #[.int .i64 (C : Int)] 3 (0, 0)) := by rw [← hwa]; exact heap_alloc_new _ _
    have hA := hD.below hba
    have hbxA : wa.heap[w.heap.size]? = _ := (hba.block _ (Array.getElem?_eq_some_iff.1 hbxD).1).trans hbxD
    have hbA : Below w.heap.size w wa := hbD.trans (hba.mono hbD.size)
    have hsA : wa.cell? ⟨g, 3, none⟩ = some (.slice so C sc) := hA.rb.c3
    have e4 := hD.rb.c4
    have e4a := hA.rb.c4
    have HA := Lib.hid hA
    have HSA := Lib.hid hsA
    have HBA := Lib.hid hbA
    have HBXA := Lib.hid hbxA
    have HNA := Lib.hid hna
    have HBD := Lib.hid hbD
    clear hA hsA hbA hbxA hna hba hbD hD hbxD hs0
    refine heldTake (i := 0) (v := ?_) rfl (by kernel_rfl) (by kernel_rfl) (fun _ _ _ h => h) (by rfl) (by assumption) (fun w hSw => ?_) ?_; rotate_left; focus ((try dsimp only at hSw); go_simp; try with_reducible rfl)
    try simp only [Act.put, List.setIfInBounds_toArray, List.set_cons_zero, List.set_cons_succ]
    refine heldTake (i := 1) (v := ?_) rfl (by kernel_rfl) (by kernel_rfl) (fun _ _ _ h => h) (by rfl) (by assumption) (fun w hSw => ?_) ?_; rotate_left; focus ((try dsimp only at hSw); go_simp; try with_reducible rfl)
    try simp only [Act.put, List.setIfInBounds_toArray, List.set_cons_zero, List.set_cons_succ]
    refine heldTake (i := 2) (v := ?_) rfl (by kernel_rfl) (by kernel_rfl) (fun _ _ _ h => h) (by rfl) (by assumption) (fun w hSw => ?_) ?_; rotate_left; focus ((try dsimp only at hSw); go_simp; try with_reducible rfl)
    try simp only [Act.put, List.setIfInBounds_toArray, List.set_cons_zero, List.set_cons_succ]
    refine heldTake (i := 4) (v := ?_) rfl (by kernel_rfl) (by kernel_rfl) (fun _ _ _ h => h) (by rfl) (by assumption) (fun w hSw => ?_) ?_; rotate_left; focus ((try dsimp only at hSw); go_simp; try with_reducible rfl)
    try simp only [Act.put, List.setIfInBounds_toArray, List.set_cons_zero, List.set_cons_succ]
    refine heldTake (i := 5) (v := ?_) rfl (by kernel_rfl) (by kernel_rfl) (fun _ _ _ h => h) (by rfl) (by assumption) (fun w hSw => ?_) ?_; rotate_left; focus ((try dsimp only at hSw); go_simp; try with_reducible rfl)
    try simp only [Act.put, List.setIfInBounds_toArray, List.set_cons_zero, List.set_cons_succ]
    refine heldTake (i := 6) (v := ?_) rfl (by kernel_rfl) (by kernel_rfl) (fun _ _ _ h => h) (by rfl) (by assumption) (fun w hSw => ?_) ?_; rotate_left; focus ((try dsimp only at hSw); go_simp; try with_reducible rfl)
    try simp only [Act.put, List.setIfInBounds_toArray, List.set_cons_zero, List.set_cons_succ]
    refine heldTake (i := 7) (v := ?_) rfl (by kernel_rfl) (by kernel_rfl) (fun _ _ _ h => h) (by rfl) (by assumption) (fun w hSw => ?_) ?_; rotate_left; focus ((try dsimp only at hSw); go_simp; try with_reducible rfl)
    try simp only [Act.put, List.setIfInBounds_toArray, List.set_cons_zero, List.set_cons_succ]
    refine heldTake (i := 8) (v := ?_) rfl (by kernel_rfl) (by kernel_rfl) (fun _ _ _ h => h) (by rfl) (by assumption) (fun w hSw => ?_) ?_; rotate_left; focus ((try dsimp only at hSw); go_simp; try with_reducible rfl)
    try simp only [Act.put, List.setIfInBounds_toArray, List.set_cons_zero, List.set_cons_succ]
    refine heldTake (i := 9) (v := ?_) rfl (by kernel_rfl) (by kernel_rfl) (fun _ _ _ h => h) (by rfl) (by assumption) (fun w hSw => ?_) ?_; rotate_left; focus ((try dsimp only at hSw); go_simp; try with_reducible rfl)
    try simp only [Act.put, List.setIfInBounds_toArray, List.set_cons_zero, List.set_cons_succ]
    -- TWO 3 Op.load 25 (Operand.tmp 39) | 10 Op.buildSlice 25 1 #[(0, Operand.tmp 46)]
    refine heldTwo (i := 3) (j := 10) rfl rfl (by kernel_rfl) (by rfl) (by rfl) (fun K hK => ?_) (fun K hK => ?_)
    · go_simp; refine hK.out _ _ (by assumption) ?_; clear hK K
      try simp only [Act.put, List.setIfInBounds_toArray, List.set_cons_zero, List.set_cons_succ]
      -- NEXT 10 Op.buildSlice 25 1 #[(0, Operand.tmp 46)]
      refine heldNext (i := 10) rfl (by kernel_rfl) (by rfl) (fun K hK => ?_)
      go_simp; refine hK.out _ _ HSA.out ?_; clear hK K
      try simp only [Act.put, List.setIfInBounds_toArray, List.set_cons_zero, List.set_cons_succ]
      -- NEXT 11 Op.call { callee := Callee.builtin Builtin.append, args := #[Operand.tmp 40, Operand.tmp 47], argTypes := #[25
      refine heldNext (i := 11) rfl (by kernel_rfl) (by rfl) (fun K hK => ?_)
      refine append_n C (.tmp 40) (.tmp 47) (by rfl) (by rfl) (HA.out.tp) (by rfl) HNA.out (by assumption) HA.out.bsz (fun g2 c2 w2 ho hg hgg => ?_)
      obtain ⟨q1, q2⟩ := HA.out.growTop hg ho rfl hgg
      have hr2 := HA.out.rb_grown (i := .t) hg rfl (by simp)
      have e4 := hr2.c4
      have ef := hr2.fr 4
      have e3 := hr2.c3
      refine hK.out _ _ e3 ?_; clear hK K
      try simp only [Act.put, List.setIfInBounds_toArray, List.set_cons_zero, List.set_cons_succ]
      refine heldTake (i := 12) (v := ?_) rfl (by kernel_rfl) (by kernel_rfl) (fun _ _ _ h => h) (by rfl) (by assumption) (fun w hSw => ?_) ?_; rotate_left; focus ((try dsimp only at hSw); go_simp; try with_reducible rfl)
      try simp only [Act.put, List.setIfInBounds_toArray, List.set_cons_zero, List.set_cons_succ]
      -- NEXT 13 Op.store 25 (Operand.tmp 49) (Operand.tmp 48)
      refine heldNext (i := 13) rfl (by kernel_rfl) (by rfl) (fun K hK => ?_)
      go_simp; refine hK.out _ _ q1.rb.c3 ?_; clear hK K
      try simp only [Act.put, List.setIfInBounds_toArray, List.set_cons_zero, List.set_cons_succ]
      refine wpAnyH_done (by kernel_rfl) ?_ _
      simp only [Exit.then]
      go_step
      go_meet
      exact ⟨⟨_, q1⟩, (HBA.out.mono hBw).trans q2, (Below.heap_setCell _ _ _ _ (fun e => by have := (HLT.out .g g rfl).2; simp at e; omega)).trans ((hg.block _ (Array.getElem?_eq_some_iff.1 HBXA.out).1 (fun e => by have := (HLT.out .t _ e.symm).2; omega)).trans HBXA.out)⟩
    · go_simp; refine hK.out _ _ HSA.out ?_; clear hK K
      try simp only [Act.put, List.setIfInBounds_toArray, List.set_cons_zero, List.set_cons_succ]
      -- NEXT 3 Op.load 25 (Operand.tmp 39)
      refine heldNext (i := 3) rfl (by kernel_rfl) (by rfl) (fun K hK => ?_)
      go_simp; refine hK.out _ _ (by assumption) ?_; clear hK K
      try simp only [Act.put, List.setIfInBounds_toArray, List.set_cons_zero, List.set_cons_succ]
      -- NEXT 11 Op.call { callee := Callee.builtin Builtin.append, args := #[Operand.tmp 40, Operand.tmp 47], argTypes := #[25
      refine heldNext (i := 11) rfl (by kernel_rfl) (by rfl) (fun K hK => ?_)
      refine append_n C (.tmp 40) (.tmp 47) (by rfl) (by rfl) (HA.out.tp) (by rfl) HNA.out (by assumption) HA.out.bsz (fun g2 c2 w2 ho hg hgg => ?_)
      obtain ⟨q1, q2⟩ := HA.out.growTop hg ho rfl hgg
      have hr2 := HA.out.rb_grown (i := .t) hg rfl (by simp)
      have e4 := hr2.c4
      have ef := hr2.fr 4
      have e3 := hr2.c3
      refine hK.out _ _ e3 ?_; clear hK K
      try simp only [Act.put, List.setIfInBounds_toArray, List.set_cons_zero, List.set_cons_succ]
      refine heldTake (i := 12) (v := ?_) rfl (by kernel_rfl) (by kernel_rfl) (fun _ _ _ h => h) (by rfl) (by assumption) (fun w hSw => ?_) ?_; rotate_left; focus ((try dsimp only at hSw); go_simp; try with_reducible rfl)
      try simp only [Act.put, List.setIfInBounds_toArray, List.set_cons_zero, List.set_cons_succ]
      -- NEXT 13 Op.store 25 (Operand.tmp 49) (Operand.tmp 48)
      refine heldNext (i := 13) rfl (by kernel_rfl) (by rfl) (fun K hK => ?_)
      go_simp; refine hK.out _ _ q1.rb.c3 ?_; clear hK K
      try simp only [Act.put, List.setIfInBounds_toArray, List.set_cons_zero, List.set_cons_succ]
      refine wpAnyH_done (by kernel_rfl) ?_ _
      simp only [Exit.then]
      go_step
      go_meet
      exact ⟨⟨_, q1⟩, (HBA.out.mono hBw).trans q2, (Below.heap_setCell _ _ _ _ (fun e => by have := (HLT.out .g g rfl).2; simp at e; omega)).trans ((hg.block _ (Array.getElem?_eq_some_iff.1 HBXA.out).1 (fun e => by have := (HLT.out .t _ e.symm).2; omega)).trans HBXA.out)⟩

  case rest =>
    obtain ⟨⟨tv2, hP⟩, hB, hbx⟩ := hcut
    clear HPX HBT hT
    go_step
    have hD := hP.below (below_drew (Below.refl wc.heap.size wc))
    have hbD : Below B w wc.drew := below_drew hB
    have hbxD : wc.drew.heap[w.heap.size]? = _ := hbx
    have hs0 : wc.drew.cell? ⟨w.heap.size, 0, none⟩ = some (.int .i64 (k : Int)) ∧ wc.drew.cell? ⟨w.heap.size, 1, none⟩ = some (.string ⟨s.toArray⟩) ∧ wc.drew.cell? ⟨w.heap.size, 2, none⟩ = some (.string ⟨t.toArray⟩) ∧ wc.drew.cell? ⟨w.heap.size, 3, none⟩ = some (.string ⟨u.toArray⟩) ∧ wc.drew.cell? ⟨w.heap.size, 4, none⟩ = some (.int .i64 (n : Int)) ∧ wc.drew.cell? ⟨w.heap.size, 5, none⟩ = some (.int .i64 (p : Int)) ∧ wc.drew.cell? ⟨w.heap.size, 6, none⟩ = some (.slice la ll lc) ∧ wc.drew.cell? ⟨w.heap.size, 7, none⟩ = some (.slice ma ml mc) := ⟨(cell_of_row _ _ 0 _ _ _ hbxD).trans rfl, (cell_of_row _ _ 1 _ _ _ hbxD).trans rfl, (cell_of_row _ _ 2 _ _ _ hbxD).trans rfl, (cell_of_row _ _ 3 _ _ _ hbxD).trans rfl, (cell_of_row _ _ 4 _ _ _ hbxD).trans rfl, (cell_of_row _ _ 5 _ _ _ hbxD).trans rfl, (cell_of_row _ _ 6 _ _ _ hbxD).trans rfl, (cell_of_row _ _ 7 _ _ _ hbxD).trans rfl⟩
    refine wp_region_held_drew (S := fun w' => w'.cell? ⟨w.heap.size, 0, none⟩ = some (.int .i64 (k : Int)) ∧ w'.cell? ⟨w.heap.size, 1, none⟩ = some (.string ⟨s.toArray⟩) ∧ w'.cell? ⟨w.heap.size, 2, none⟩ = some (.string ⟨t.toArray⟩) ∧ w'.cell? ⟨w.heap.size, 3, none⟩ = some (.string ⟨u.toArray⟩) ∧ w'.cell? ⟨w.heap.size, 4, none⟩ = some (.int .i64 (n : Int)) ∧ w'.cell? ⟨w.heap.size, 5, none⟩ = some (.int .i64 (p : Int)) ∧ w'.cell? ⟨w.heap.size, 6, none⟩ = some (.slice la ll lc) ∧ w'.cell? ⟨w.heap.size, 7, none⟩ = some (.slice ma ml mc)) (by kernel_rfl) hs0 (fun hH => ?_)
    generalize wc.drew = wd at *
    obtain ⟨wa, hwa⟩ : ∃ wa, wd.alloc (.cells #[.int .i64 (k : Int), .string ⟨s.toArray⟩, .string ⟨t.toArray⟩, .string ⟨u.toArray⟩, .int .i64 (n : Int), .int .i64 (p : Int), .slice la ll lc, .slice ma ml mc] 37) = wa := ⟨_, rfl⟩
    have hba : Below wd.heap.size wd wa := by rw [← hwa]; exact (Below.refl _ _).alloc (Nat.le_refl _) _
    have hna : wa.heap[wd.heap.size]? = some (.cells #[.int .i64 (k : Int), .string ⟨s.toArray⟩, .string ⟨t.toArray⟩, .string ⟨u.toArray⟩, .int .i64 (n : Int), .int .i64 (p : Int), .slice la ll lc, .slice ma ml mc] 37 (0, 0)) := by rw [← hwa]; exact heap_alloc_new _ _
    have hA := hD.below hba
    have hbxA : wa.heap[w.heap.size]? = _ := (hba.block _ (Array.getElem?_eq_some_iff.1 hbxD).1).trans hbxD
    have hbA : Below B w wa := hbD.trans (hba.mono hD.bsz)
    have hsA : wa.cell? ⟨w.heap.size, 0, none⟩ = some (.int .i64 (k : Int)) ∧ wa.cell? ⟨w.heap.size, 1, none⟩ = some (.string ⟨s.toArray⟩) ∧ wa.cell? ⟨w.heap.size, 2, none⟩ = some (.string ⟨t.toArray⟩) ∧ wa.cell? ⟨w.heap.size, 3, none⟩ = some (.string ⟨u.toArray⟩) ∧ wa.cell? ⟨w.heap.size, 4, none⟩ = some (.int .i64 (n : Int)) ∧ wa.cell? ⟨w.heap.size, 5, none⟩ = some (.int .i64 (p : Int)) ∧ wa.cell? ⟨w.heap.size, 6, none⟩ = some (.slice la ll lc) ∧ wa.cell? ⟨w.heap.size, 7, none⟩ = some (.slice ma ml mc) := ⟨(cell_of_row _ _ 0 _ _ _ hbxA).trans rfl, (cell_of_row _ _ 1 _ _ _ hbxA).trans rfl, (cell_of_row _ _ 2 _ _ _ hbxA).trans rfl, (cell_of_row _ _ 3 _ _ _ hbxA).trans rfl, (cell_of_row _ _ 4 _ _ _ hbxA).trans rfl, (cell_of_row _ _ 5 _ _ _ hbxA).trans rfl, (cell_of_row _ _ 6 _ _ _ hbxA).trans rfl, (cell_of_row _ _ 7 _ _ _ hbxA).trans rfl⟩
    have e3 := hD.rb.c3
    have e3a := hA.rb.c3
    have HA := Lib.hid hA
    have HSA := Lib.hid hsA
    have HBA := Lib.hid hbA
    have HBXA := Lib.hid hbxA
    have HNA := Lib.hid hna
    have hBl := fun k (hk : (Value.slice so C sc).ownBlock = some k) => (HLT.out .s k hk).2
    have HBL := Lib.hid hBl
    clear hBl hA hsA hbA hbxA hna hba hbD hD hbxD hs0 hbx hB hP
    refine heldTake (i := 0) (v := ?_) rfl (by kernel_rfl) (by kernel_rfl) (fun _ _ _ h => h) (by rfl) (by assumption) (fun w hSw => ?_) ?_; rotate_left; focus ((try dsimp only at hSw); go_simp; try with_reducible rfl)
    try simp only [Act.put, List.setIfInBounds_toArray, List.set_cons_zero, List.set_cons_succ]
    refine heldTake (i := 1) (v := ?_) rfl (by kernel_rfl) (by kernel_rfl) (fun _ _ _ h => h) (by rfl) (by assumption) (fun w hSw => ?_) ?_; rotate_left; focus ((try dsimp only at hSw); go_simp; try with_reducible rfl)
    try simp only [Act.put, List.setIfInBounds_toArray, List.set_cons_zero, List.set_cons_succ]
    refine heldTake (i := 2) (v := ?_) rfl (by kernel_rfl) (by kernel_rfl) (fun _ _ _ h => h) (by rfl) (by assumption) (fun w hSw => ?_) ?_; rotate_left; focus ((try dsimp only at hSw); go_simp; try with_reducible rfl)
    try simp only [Act.put, List.setIfInBounds_toArray, List.set_cons_zero, List.set_cons_succ]
    refine heldTake (i := 3) (v := ?_) rfl (by kernel_rfl) (by kernel_rfl) (fun _ _ _ h => h) (by rfl) (by assumption) (fun w hSw => ?_) ?_; rotate_left; focus ((try dsimp only at hSw); go_simp; try with_reducible rfl)
    try simp only [Act.put, List.setIfInBounds_toArray, List.set_cons_zero, List.set_cons_succ]
    refine heldTake (i := 4) (v := ?_) rfl (by kernel_rfl) (by kernel_rfl) (fun _ _ _ h => h) (by rfl) (by assumption) (fun w hSw => ?_) ?_; rotate_left; focus ((try dsimp only at hSw); go_simp; try with_reducible rfl)
    try simp only [Act.put, List.setIfInBounds_toArray, List.set_cons_zero, List.set_cons_succ]
    refine heldTake (i := 6) (v := ?_) rfl (by kernel_rfl) (by kernel_rfl) (fun _ _ _ h => h) (by rfl) (by assumption) (fun w hSw => ?_) ?_; rotate_left; focus ((try dsimp only at hSw); go_simp; try with_reducible rfl)
    try simp only [Act.put, List.setIfInBounds_toArray, List.set_cons_zero, List.set_cons_succ]
    -- TWO 5 Op.load 24 (Operand.tmp 54) | 7 Op.buildSlice 24 1 #[(0, Operand.tmp 56)]
    refine heldTwo (i := 5) (j := 7) rfl rfl (by kernel_rfl) (by rfl) (by rfl) (fun K hK => ?_) (fun K hK => ?_)
    · go_simp; refine hK.out _ _ (by assumption) ?_; clear hK K
      try simp only [Act.put, List.setIfInBounds_toArray, List.set_cons_zero, List.set_cons_succ]
      -- NEXT 7 Op.buildSlice 24 1 #[(0, Operand.tmp 56)]
      refine heldNext (i := 7) rfl (by kernel_rfl) (by rfl) (fun K hK => ?_)
      go_simp; refine hK.out _ _ HSA.out ?_; clear hK K
      try simp only [Act.put, List.setIfInBounds_toArray, List.set_cons_zero, List.set_cons_succ]
      -- NEXT 8 Op.call { callee := Callee.builtin Builtin.append, args := #[Operand.tmp 55, Operand.tmp 57], argTypes := #[24
      refine heldNext (i := 8) rfl (by kernel_rfl) (by rfl) (fun K hK => ?_)
      refine append_s ⟨⟨k, s, t, u, n, p, pl, pm⟩, .slice la ll lc, .slice ma ml mc⟩ (.tmp 55) (.tmp 57) (by rfl) (by rfl) (by first | exact HA.out.os | (have := HA.out.os; rw [HC.out] at this; rw [HC.out]; exact this)) (by rfl) HNA.out rfl rfl (by rw [HC.out]; exact hc) HA.out.bsz (fun g2 c2 w2 ho hg hgg => ?_)
      obtain ⟨q1, q2⟩ := HA.out.growSt hg ho rfl hgg
      have hr2 := HA.out.rb_grown (i := .s) hg rfl (by simp)
      have f3 := hr2.c3
      have ff := hr2.fr 3
      have hx2 : w2.heap[w.heap.size]? = _ := (hg.block _ (Array.getElem?_eq_some_iff.1 HBXA.out).1 (fun e => by have := HBL.out _ e.symm; omega)).trans HBXA.out
      have hs2 : w2.cell? ⟨w.heap.size, 0, none⟩ = some (.int .i64 (k : Int)) ∧ w2.cell? ⟨w.heap.size, 1, none⟩ = some (.string ⟨s.toArray⟩) ∧ w2.cell? ⟨w.heap.size, 2, none⟩ = some (.string ⟨t.toArray⟩) ∧ w2.cell? ⟨w.heap.size, 3, none⟩ = some (.string ⟨u.toArray⟩) ∧ w2.cell? ⟨w.heap.size, 4, none⟩ = some (.int .i64 (n : Int)) ∧ w2.cell? ⟨w.heap.size, 5, none⟩ = some (.int .i64 (p : Int)) ∧ w2.cell? ⟨w.heap.size, 6, none⟩ = some (.slice la ll lc) ∧ w2.cell? ⟨w.heap.size, 7, none⟩ = some (.slice ma ml mc) := ⟨(cell_of_row _ _ 0 _ _ _ hx2).trans rfl, (cell_of_row _ _ 1 _ _ _ hx2).trans rfl, (cell_of_row _ _ 2 _ _ _ hx2).trans rfl, (cell_of_row _ _ 3 _ _ _ hx2).trans rfl, (cell_of_row _ _ 4 _ _ _ hx2).trans rfl, (cell_of_row _ _ 5 _ _ _ hx2).trans rfl, (cell_of_row _ _ 6 _ _ _ hx2).trans rfl, (cell_of_row _ _ 7 _ _ _ hx2).trans rfl⟩
      rw [HC.out] at q1 q2
      obtain ⟨w3, hw3⟩ : ∃ w3, w2.setCell ⟨g, 3, none⟩ (.slice (some ⟨g2, 0, none⟩) (C + 1) c2) = w3 := ⟨_, rfl⟩
      rw [hw3] at q1 q2
      have hx3 : w3.heap[w.heap.size]? = _ := hw3 ▸ (Below.heap_setCell _ _ _ _ (fun e => by have := (HLT.out .g g rfl).2; simp at e; omega)).trans hx2
      have hs3 : w3.cell? ⟨w.heap.size, 0, none⟩ = some (.int .i64 (k : Int)) ∧ w3.cell? ⟨w.heap.size, 1, none⟩ = some (.string ⟨s.toArray⟩) ∧ w3.cell? ⟨w.heap.size, 2, none⟩ = some (.string ⟨t.toArray⟩) ∧ w3.cell? ⟨w.heap.size, 3, none⟩ = some (.string ⟨u.toArray⟩) ∧ w3.cell? ⟨w.heap.size, 4, none⟩ = some (.int .i64 (n : Int)) ∧ w3.cell? ⟨w.heap.size, 5, none⟩ = some (.int .i64 (p : Int)) ∧ w3.cell? ⟨w.heap.size, 6, none⟩ = some (.slice la ll lc) ∧ w3.cell? ⟨w.heap.size, 7, none⟩ = some (.slice ma ml mc) := ⟨(cell_of_row _ _ 0 _ _ _ hx3).trans rfl, (cell_of_row _ _ 1 _ _ _ hx3).trans rfl, (cell_of_row _ _ 2 _ _ _ hx3).trans rfl, (cell_of_row _ _ 3 _ _ _ hx3).trans rfl, (cell_of_row _ _ 4 _ _ _ hx3).trans rfl, (cell_of_row _ _ 5 _ _ _ hx3).trans rfl, (cell_of_row _ _ 6 _ _ _ hx3).trans rfl, (cell_of_row _ _ 7 _ _ _ hx3).trans rfl⟩
      clear hx2 hx3
      refine hK.out _ _ hs2 ?_; clear hK K
      try simp only [Act.put, List.setIfInBounds_toArray, List.set_cons_zero, List.set_cons_succ]
      refine heldTake (i := 9) (v := ?_) rfl (by kernel_rfl) (by kernel_rfl) (fun _ _ _ h => h) (by rfl) (by assumption) (fun w hSw => ?_) ?_; rotate_left; focus ((try dsimp only at hSw); go_simp; try with_reducible rfl)
      try simp only [Act.put, List.setIfInBounds_toArray, List.set_cons_zero, List.set_cons_succ]
      refine heldTake (i := 10) (v := ?_) rfl (by kernel_rfl) (by kernel_rfl) (fun _ _ _ h => h) (by rfl) (by assumption) (fun w hSw => ?_) ?_; rotate_left; focus ((try dsimp only at hSw); go_simp; try with_reducible rfl)
      try simp only [Act.put, List.setIfInBounds_toArray, List.set_cons_zero, List.set_cons_succ]
      refine heldTake (i := 11) (v := ?_) rfl (by kernel_rfl) (by kernel_rfl) (fun _ _ _ h => h) (by rfl) (by assumption) (fun w hSw => ?_) ?_; rotate_left; focus ((try dsimp only at hSw); go_simp; try with_reducible rfl)
      try simp only [Act.put, List.setIfInBounds_toArray, List.set_cons_zero, List.set_cons_succ]
      -- NEXT 12 Op.store 24 (Operand.tmp 61) (Operand.tmp 58)
      refine heldNext (i := 12) rfl (by kernel_rfl) (by rfl) (fun K hK => ?_)
      go_simp; refine hK.out _ _ hs3 ?_; clear hK K
      try simp only [Act.put, List.setIfInBounds_toArray, List.set_cons_zero, List.set_cons_succ]
      refine wpAnyH_done (by kernel_rfl) ?_ _
      go_wp2
      go_end0
      exact ⟨rfl, ⟨_, _, q1⟩, HBA.out.trans q2⟩
    · go_simp; refine hK.out _ _ HSA.out ?_; clear hK K
      try simp only [Act.put, List.setIfInBounds_toArray, List.set_cons_zero, List.set_cons_succ]
      -- NEXT 5 Op.load 24 (Operand.tmp 54)
      refine heldNext (i := 5) rfl (by kernel_rfl) (by rfl) (fun K hK => ?_)
      go_simp; refine hK.out _ _ (by assumption) ?_; clear hK K
      try simp only [Act.put, List.setIfInBounds_toArray, List.set_cons_zero, List.set_cons_succ]
      -- NEXT 8 Op.call { callee := Callee.builtin Builtin.append, args := #[Operand.tmp 55, Operand.tmp 57], argTypes := #[24
      refine heldNext (i := 8) rfl (by kernel_rfl) (by rfl) (fun K hK => ?_)
      refine append_s ⟨⟨k, s, t, u, n, p, pl, pm⟩, .slice la ll lc, .slice ma ml mc⟩ (.tmp 55) (.tmp 57) (by rfl) (by rfl) (by first | exact HA.out.os | (have := HA.out.os; rw [HC.out] at this; rw [HC.out]; exact this)) (by rfl) HNA.out rfl rfl (by rw [HC.out]; exact hc) HA.out.bsz (fun g2 c2 w2 ho hg hgg => ?_)
      obtain ⟨q1, q2⟩ := HA.out.growSt hg ho rfl hgg
      have hr2 := HA.out.rb_grown (i := .s) hg rfl (by simp)
      have f3 := hr2.c3
      have ff := hr2.fr 3
      have hx2 : w2.heap[w.heap.size]? = _ := (hg.block _ (Array.getElem?_eq_some_iff.1 HBXA.out).1 (fun e => by have := HBL.out _ e.symm; omega)).trans HBXA.out
      have hs2 : w2.cell? ⟨w.heap.size, 0, none⟩ = some (.int .i64 (k : Int)) ∧ w2.cell? ⟨w.heap.size, 1, none⟩ = some (.string ⟨s.toArray⟩) ∧ w2.cell? ⟨w.heap.size, 2, none⟩ = some (.string ⟨t.toArray⟩) ∧ w2.cell? ⟨w.heap.size, 3, none⟩ = some (.string ⟨u.toArray⟩) ∧ w2.cell? ⟨w.heap.size, 4, none⟩ = some (.int .i64 (n : Int)) ∧ w2.cell? ⟨w.heap.size, 5, none⟩ = some (.int .i64 (p : Int)) ∧ w2.cell? ⟨w.heap.size, 6, none⟩ = some (.slice la ll lc) ∧ w2.cell? ⟨w.heap.size, 7, none⟩ = some (.slice ma ml mc) := ⟨(cell_of_row _ _ 0 _ _ _ hx2).trans rfl, (cell_of_row _ _ 1 _ _ _ hx2).trans rfl, (cell_of_row _ _ 2 _ _ _ hx2).trans rfl, (cell_of_row _ _ 3 _ _ _ hx2).trans rfl, (cell_of_row _ _ 4 _ _ _ hx2).trans rfl, (cell_of_row _ _ 5 _ _ _ hx2).trans rfl, (cell_of_row _ _ 6 _ _ _ hx2).trans rfl, (cell_of_row _ _ 7 _ _ _ hx2).trans rfl⟩
      rw [HC.out] at q1 q2
      obtain ⟨w3, hw3⟩ : ∃ w3, w2.setCell ⟨g, 3, none⟩ (.slice (some ⟨g2, 0, none⟩) (C + 1) c2) = w3 := ⟨_, rfl⟩
      rw [hw3] at q1 q2
      have hx3 : w3.heap[w.heap.size]? = _ := hw3 ▸ (Below.heap_setCell _ _ _ _ (fun e => by have := (HLT.out .g g rfl).2; simp at e; omega)).trans hx2
      have hs3 : w3.cell? ⟨w.heap.size, 0, none⟩ = some (.int .i64 (k : Int)) ∧ w3.cell? ⟨w.heap.size, 1, none⟩ = some (.string ⟨s.toArray⟩) ∧ w3.cell? ⟨w.heap.size, 2, none⟩ = some (.string ⟨t.toArray⟩) ∧ w3.cell? ⟨w.heap.size, 3, none⟩ = some (.string ⟨u.toArray⟩) ∧ w3.cell? ⟨w.heap.size, 4, none⟩ = some (.int .i64 (n : Int)) ∧ w3.cell? ⟨w.heap.size, 5, none⟩ = some (.int .i64 (p : Int)) ∧ w3.cell? ⟨w.heap.size, 6, none⟩ = some (.slice la ll lc) ∧ w3.cell? ⟨w.heap.size, 7, none⟩ = some (.slice ma ml mc) := ⟨(cell_of_row _ _ 0 _ _ _ hx3).trans rfl, (cell_of_row _ _ 1 _ _ _ hx3).trans rfl, (cell_of_row _ _ 2 _ _ _ hx3).trans rfl, (cell_of_row _ _ 3 _ _ _ hx3).trans rfl, (cell_of_row _ _ 4 _ _ _ hx3).trans rfl, (cell_of_row _ _ 5 _ _ _ hx3).trans rfl, (cell_of_row _ _ 6 _ _ _ hx3).trans rfl, (cell_of_row _ _ 7 _ _ _ hx3).trans rfl⟩
      clear hx2 hx3
      refine hK.out _ _ hs2 ?_; clear hK K
      try simp only [Act.put, List.setIfInBounds_toArray, List.set_cons_zero, List.set_cons_succ]
      refine heldTake (i := 9) (v := ?_) rfl (by kernel_rfl) (by kernel_rfl) (fun _ _ _ h => h) (by rfl) (by assumption) (fun w hSw => ?_) ?_; rotate_left; focus ((try dsimp only at hSw); go_simp; try with_reducible rfl)
      try simp only [Act.put, List.setIfInBounds_toArray, List.set_cons_zero, List.set_cons_succ]
      refine heldTake (i := 10) (v := ?_) rfl (by kernel_rfl) (by kernel_rfl) (fun _ _ _ h => h) (by rfl) (by assumption) (fun w hSw => ?_) ?_; rotate_left; focus ((try dsimp only at hSw); go_simp; try with_reducible rfl)
      try simp only [Act.put, List.setIfInBounds_toArray, List.set_cons_zero, List.set_cons_succ]
      refine heldTake (i := 11) (v := ?_) rfl (by kernel_rfl) (by kernel_rfl) (fun _ _ _ h => h) (by rfl) (by assumption) (fun w hSw => ?_) ?_; rotate_left; focus ((try dsimp only at hSw); go_simp; try with_reducible rfl)
      try simp only [Act.put, List.setIfInBounds_toArray, List.set_cons_zero, List.set_cons_succ]
      -- NEXT 12 Op.store 24 (Operand.tmp 61) (Operand.tmp 58)
      refine heldNext (i := 12) rfl (by kernel_rfl) (by rfl) (fun K hK => ?_)
      go_simp; refine hK.out _ _ hs3 ?_; clear hK K
      try simp only [Act.put, List.setIfInBounds_toArray, List.set_cons_zero, List.set_cons_succ]
      refine wpAnyH_done (by kernel_rfl) ?_ _
      go_wp2
      go_end0
      exact ⟨rfl, ⟨_, _, q1⟩, HBA.out.trans q2⟩


set_option maxRecDepth 20000 in
set_option maxHeartbeats 4000000 in
theorem put_l {B g b q md a f : Nat} {lv ov sv' tv : Value} {ts : List Lx.Tok} {hs : List HA} {cs : List SA} {top : List Nat} (y : HA) (x : HA) (w : World) (h : PX w B g b q lv ov sv' tv md a f ts (hs ++ [y]) [x] cs top) (hy : y.els = false) (hn : hs.length ≤ 1048576) (hc : cs.length ≤ 1048576) (htop : y.st.l.length ≤ 1048576) :
    Calls Tryd.prog 42 #[.pointer (some ⟨g, 0, none⟩), .agg (stCells x.sa).toArray] w fun e w' => e = .returned (.tuple #[]) ∧ (∃ sv2 v2 , PX w' B g b q lv ov sv2 tv md a f ts (hs ++ [⟨{ y.st with l := y.st.l ++ [cs.length] }, v2, y.m, y.els⟩]) [] (cs ++ [x.sa]) top) ∧ Below B w w' := by
  obtain ⟨i1, i2⟩ := h.hl x (by simp)
  obtain ⟨st, xl, xm, els⟩ := x
  obtain ⟨la, ll, lc, hl1⟩ := i1.form3
  obtain ⟨ma, ml, mc, hm1⟩ := i2.form3
  dsimp only at hl1 hm1
  subst hl1 hm1
  obtain ⟨k, s, t, u, n, p, pl, pm⟩ := st
  clear i1 i2
  obtain ⟨j1, j2⟩ := h.hl y (by simp)
  obtain ⟨yst, y1, y2, yels⟩ := y
  dsimp only at hy htop j1 j2 ⊢
  subst hy
  obtain ⟨ro, rc, rfl⟩ := IR.len j1
  obtain ⟨yo, yl, yc, rfl⟩ := j2.form3
  clear j1 j2
  obtain ⟨og, oc, rfl, hoc, _⟩ := h.form

  obtain ⟨so, sc, rfl⟩ := own_form9 h.os
  obtain ⟨C, hC⟩ : ∃ C, cs.length = C := ⟨_, rfl⟩
  rw [hC] at hc h ⊢
  have HC := Lib.hid hC
  obtain ⟨T, hT⟩ : ∃ T, w.alloc (.cells #[.int .i64 (k : Int), .string ⟨s.toArray⟩, .string ⟨t.toArray⟩, .string ⟨u.toArray⟩, .int .i64 (n : Int), .int .i64 (p : Int), .slice la ll lc, .slice ma ml mc] 37) = T := ⟨_, rfl⟩
  have hbx : T.heap[w.heap.size]? = some (.cells #[.int .i64 (k : Int), .string ⟨s.toArray⟩, .string ⟨t.toArray⟩, .string ⟨u.toArray⟩, .int .i64 (n : Int), .int .i64 (p : Int), .slice la ll lc, .slice ma ml mc] 37 (0, 0)) := by rw [← hT]; exact heap_alloc_new _ _
  have hbT : Below w.heap.size w T := by rw [← hT]; exact (Below.refl _ _).alloc (Nat.le_refl _) _
  have hlt := h.lt
  have hPX := h.below hbT
  have hBw := h.bsz
  have bx := fun i v (hv : (#[.int .i64 (k : Int), .string ⟨s.toArray⟩, .string ⟨t.toArray⟩, .string ⟨u.toArray⟩, .int .i64 (n : Int), .int .i64 (p : Int), .slice la ll lc, .slice ma ml mc] : Array Value)[i]? = some v) => (cell_of_row T w.heap.size i _ _ _ hbx).trans hv
  have g1 := hPX.rb.c1
  have g3 := hPX.rb.c3
  have g8 := (hPX.last 8 _ rfl).1
  have n1 : ((hs.length + 1 : Nat) : Int) - 1 = (hs.length : Int) := by omega
  have n2 : (hs.length : Int) + 1 - 1 = (hs.length : Int) := by omega
  have n3 : (hs.length : Int) < (hs.length : Int) + 1 := by omega
  have n4 : (0 : Int) < (hs.length : Int) + 1 := by omega

  have HBX := Lib.hid hbx
  have HBT := Lib.hid hbT
  have HLT := Lib.hid hlt
  have HPX := Lib.hid hPX
  clear hbx hbT hlt hPX bx h
  show Calls Tryd.prog 42 #[.pointer (some ⟨g, 0, none⟩), .agg #[.int .i64 (k : Int), .string ⟨s.toArray⟩, .string ⟨t.toArray⟩, .string ⟨u.toArray⟩, .int .i64 (n : Int), .int .i64 (p : Int), .slice la ll lc, .slice ma ml mc]] w _
  go_enter Tryd.func42, Tryd.ntmps42
  go_upto_region 8 with fail
  go_cut [4] from 37 to 50 (fun s4 wx => (∃ v2 , PX wx B g b q lv (.slice (some ⟨og, 0, none⟩) (hs.length + 1) oc) (.slice so C sc) tv md a f ts (hs ++ [⟨{ yst with l := yst.l ++ [C] }, v2, .slice yo yl yc, false⟩]) [⟨⟨k, s, t, u, n, p, pl, pm⟩, .slice la ll lc, .slice ma ml mc, els⟩] cs top) ∧ Below B w wx ∧ wx.heap[w.heap.size]? = some (.cells #[.int .i64 (k : Int), .string ⟨s.toArray⟩, .string ⟨t.toArray⟩, .string ⟨u.toArray⟩, .int .i64 (n : Int), .int .i64 (p : Int), .slice la ll lc, .slice ma ml mc] 37 (0, 0)))
  case first =>
    have hbD : Below w.heap.size w T.drew := below_drew HBT.out
    have hD := HPX.out.below (below_drew (Below.refl T.heap.size T))
    have hbxD : T.drew.heap[w.heap.size]? = _ := HBX.out
    have hs0 : T.drew.cell? ⟨g, 3, none⟩ = some (.slice so C sc) := hD.rb.c3
    refine wp_region_held_drew (S := fun w' => w'.cell? ⟨g, 3, none⟩ = some (.slice so C sc)) (by kernel_rfl) hs0 (fun hH => ?_)
    generalize T.drew = wd at *
    obtain ⟨wa, hwa⟩ : ∃ wa, wd.alloc (.cells #[.int .i64 (C : Int)] 3) = wa := ⟨_, rfl⟩
    have hba : Below wd.heap.size wd wa := by rw [← hwa]; exact (Below.refl _ _).alloc (Nat.le_refl _) _
    have hna : wa.heap[wd.heap.size]? = some (.cells #[.int .i64 (C : Int)] 3 (0, 0)) := by rw [← hwa]; exact heap_alloc_new _ _
    have hA := hD.below hba
    have hbxA : wa.heap[w.heap.size]? = _ := (hba.block _ (Array.getElem?_eq_some_iff.1 hbxD).1).trans hbxD
    have hbA : Below w.heap.size w wa := hbD.trans (hba.mono hbD.size)
    have hsA : wa.cell? ⟨g, 3, none⟩ = some (.slice so C sc) := hA.rb.c3
    have e4 := (hD.last 6 _ rfl).1
    have e4a := (hA.last 6 _ rfl).1
    have HA := Lib.hid hA
    have HSA := Lib.hid hsA
    have HBA := Lib.hid hbA
    have HBXA := Lib.hid hbxA
    have HNA := Lib.hid hna
    have HBD := Lib.hid hbD
    clear hA hsA hbA hbxA hna hba hbD hD hbxD hs0
    refine heldTake (i := 0) (v := ?_) rfl (by kernel_rfl) (by kernel_rfl) (fun _ _ _ h => h) (by rfl) (by assumption) (fun w hSw => ?_) ?_; rotate_left; focus ((try dsimp only at hSw); go_simp; try with_reducible rfl)
    try simp only [Act.put, List.setIfInBounds_toArray, List.set_cons_zero, List.set_cons_succ]
    refine heldTake (i := 1) (v := ?_) rfl (by kernel_rfl) (by kernel_rfl) (fun _ _ _ h => h) (by rfl) (by assumption) (fun w hSw => ?_) ?_; rotate_left; focus ((try dsimp only at hSw); go_simp; try with_reducible rfl)
    try simp only [Act.put, List.setIfInBounds_toArray, List.set_cons_zero, List.set_cons_succ]
    refine heldTake (i := 2) (v := ?_) rfl (by kernel_rfl) (by kernel_rfl) (fun _ _ _ h => h) (by rfl) (by assumption) (fun w hSw => ?_) ?_; rotate_left; focus ((try dsimp only at hSw); go_simp; try with_reducible rfl)
    try simp only [Act.put, List.setIfInBounds_toArray, List.set_cons_zero, List.set_cons_succ]
    refine heldTake (i := 4) (v := ?_) rfl (by kernel_rfl) (by kernel_rfl) (fun _ _ _ h => h) (by rfl) (by assumption) (fun w hSw => ?_) ?_; rotate_left; focus ((try dsimp only at hSw); go_simp; try with_reducible rfl)
    try simp only [Act.put, List.setIfInBounds_toArray, List.set_cons_zero, List.set_cons_succ]
    refine heldTake (i := 5) (v := ?_) rfl (by kernel_rfl) (by kernel_rfl) (fun _ _ _ h => h) (by rfl) (by assumption) (fun w hSw => ?_) ?_; rotate_left; focus ((try dsimp only at hSw); go_simp; try with_reducible rfl)
    try simp only [Act.put, List.setIfInBounds_toArray, List.set_cons_zero, List.set_cons_succ]
    refine heldTake (i := 6) (v := ?_) rfl (by kernel_rfl) (by kernel_rfl) (fun _ _ _ h => h) (by rfl) (by assumption) (fun w hSw => ?_) ?_; rotate_left; focus ((try dsimp only at hSw); go_simp; try with_reducible rfl)
    try simp only [Act.put, List.setIfInBounds_toArray, List.set_cons_zero, List.set_cons_succ]
    refine heldTake (i := 7) (v := ?_) rfl (by kernel_rfl) (by kernel_rfl) (fun _ _ _ h => h) (by rfl) (by assumption) (fun w hSw => ?_) ?_; rotate_left; focus ((try dsimp only at hSw); go_simp; try with_reducible rfl)
    try simp only [Act.put, List.setIfInBounds_toArray, List.set_cons_zero, List.set_cons_succ]
    refine heldTake (i := 8) (v := ?_) rfl (by kernel_rfl) (by kernel_rfl) (fun _ _ _ h => h) (by rfl) (by assumption) (fun w hSw => ?_) ?_; rotate_left; focus ((try dsimp only at hSw); go_simp; try with_reducible rfl)
    try simp only [Act.put, List.setIfInBounds_toArray, List.set_cons_zero, List.set_cons_succ]
    refine heldTake (i := 9) (v := ?_) rfl (by kernel_rfl) (by kernel_rfl) (fun _ _ _ h => h) (by rfl) (by assumption) (fun w hSw => ?_) ?_; rotate_left; focus ((try dsimp only at hSw); go_simp; try with_reducible rfl)
    try simp only [Act.put, List.setIfInBounds_toArray, List.set_cons_zero, List.set_cons_succ]
    -- TWO 3 Op.load 25 (Operand.tmp 39) | 10 Op.buildSlice 25 1 #[(0, Operand.tmp 46)]
    refine heldTwo (i := 3) (j := 10) rfl rfl (by kernel_rfl) (by rfl) (by rfl) (fun K hK => ?_) (fun K hK => ?_)
    · go_simp; refine hK.out _ _ (by assumption) ?_; clear hK K
      try simp only [Act.put, List.setIfInBounds_toArray, List.set_cons_zero, List.set_cons_succ]
      -- NEXT 10 Op.buildSlice 25 1 #[(0, Operand.tmp 46)]
      refine heldNext (i := 10) rfl (by kernel_rfl) (by rfl) (fun K hK => ?_)
      go_simp; refine hK.out _ _ HSA.out ?_; clear hK K
      try simp only [Act.put, List.setIfInBounds_toArray, List.set_cons_zero, List.set_cons_succ]
      -- NEXT 11 Op.call { callee := Callee.builtin Builtin.append, args := #[Operand.tmp 40, Operand.tmp 47], argTypes := #[25
      refine heldNext (i := 11) rfl (by kernel_rfl) (by rfl) (fun K hK => ?_)
      refine append_n C (.tmp 40) (.tmp 47) (by rfl) (by rfl) ((HA.out.hl _ (List.mem_append.2 (.inl (List.mem_append.2 (.inr (List.mem_singleton.2 rfl)))))).1) (by rfl) HNA.out (by assumption) HA.out.bsz (fun g2 c2 w2 ho hg hgg => ?_)
      obtain ⟨q1, q2⟩ := HA.out.growL hg ho rfl hgg
      have hr2 := HA.out.rb_grown (i := .l hs.length) hg (by simp [bAt]) (by simp)
      obtain ⟨e4, ef⟩ := HA.out.last_grown (i := .l hs.length) hg (by simp [bAt]) (by simp) 6 _ rfl
      have e3 := hr2.c3
      refine hK.out _ _ e3 ?_; clear hK K
      try simp only [Act.put, List.setIfInBounds_toArray, List.set_cons_zero, List.set_cons_succ]
      refine heldTake (i := 12) (v := ?_) rfl (by kernel_rfl) (by kernel_rfl) (fun _ _ _ h => h) (by rfl) (by assumption) (fun w hSw => ?_) ?_; rotate_left; focus ((try dsimp only at hSw); go_simp; try with_reducible rfl)
      try simp only [Act.put, List.setIfInBounds_toArray, List.set_cons_zero, List.set_cons_succ]
      -- NEXT 13 Op.store 25 (Operand.tmp 49) (Operand.tmp 48)
      refine heldNext (i := 13) rfl (by kernel_rfl) (by rfl) (fun K hK => ?_)
      go_simp; refine hK.out _ _ q1.rb.c3 ?_; clear hK K
      try simp only [Act.put, List.setIfInBounds_toArray, List.set_cons_zero, List.set_cons_succ]
      refine wpAnyH_done (by kernel_rfl) ?_ _
      simp only [Exit.then]
      go_step
      go_meet
      exact ⟨⟨_, q1⟩, (HBA.out.mono hBw).trans q2, (Below.heap_setCell _ _ _ _ (fun e => by have := (HLT.out .o og rfl).2; simp at e; omega)).trans ((hg.block _ (Array.getElem?_eq_some_iff.1 HBXA.out).1 (fun e => by have := (HLT.out (.l hs.length) w.heap.size (by simp [bAt]; exact e.symm)).2; omega)).trans HBXA.out)⟩
    · go_simp; refine hK.out _ _ HSA.out ?_; clear hK K
      try simp only [Act.put, List.setIfInBounds_toArray, List.set_cons_zero, List.set_cons_succ]
      -- NEXT 3 Op.load 25 (Operand.tmp 39)
      refine heldNext (i := 3) rfl (by kernel_rfl) (by rfl) (fun K hK => ?_)
      go_simp; refine hK.out _ _ (by assumption) ?_; clear hK K
      try simp only [Act.put, List.setIfInBounds_toArray, List.set_cons_zero, List.set_cons_succ]
      -- NEXT 11 Op.call { callee := Callee.builtin Builtin.append, args := #[Operand.tmp 40, Operand.tmp 47], argTypes := #[25
      refine heldNext (i := 11) rfl (by kernel_rfl) (by rfl) (fun K hK => ?_)
      refine append_n C (.tmp 40) (.tmp 47) (by rfl) (by rfl) ((HA.out.hl _ (List.mem_append.2 (.inl (List.mem_append.2 (.inr (List.mem_singleton.2 rfl)))))).1) (by rfl) HNA.out (by assumption) HA.out.bsz (fun g2 c2 w2 ho hg hgg => ?_)
      obtain ⟨q1, q2⟩ := HA.out.growL hg ho rfl hgg
      have hr2 := HA.out.rb_grown (i := .l hs.length) hg (by simp [bAt]) (by simp)
      obtain ⟨e4, ef⟩ := HA.out.last_grown (i := .l hs.length) hg (by simp [bAt]) (by simp) 6 _ rfl
      have e3 := hr2.c3
      refine hK.out _ _ e3 ?_; clear hK K
      try simp only [Act.put, List.setIfInBounds_toArray, List.set_cons_zero, List.set_cons_succ]
      refine heldTake (i := 12) (v := ?_) rfl (by kernel_rfl) (by kernel_rfl) (fun _ _ _ h => h) (by rfl) (by assumption) (fun w hSw => ?_) ?_; rotate_left; focus ((try dsimp only at hSw); go_simp; try with_reducible rfl)
      try simp only [Act.put, List.setIfInBounds_toArray, List.set_cons_zero, List.set_cons_succ]
      -- NEXT 13 Op.store 25 (Operand.tmp 49) (Operand.tmp 48)
      refine heldNext (i := 13) rfl (by kernel_rfl) (by rfl) (fun K hK => ?_)
      go_simp; refine hK.out _ _ q1.rb.c3 ?_; clear hK K
      try simp only [Act.put, List.setIfInBounds_toArray, List.set_cons_zero, List.set_cons_succ]
      refine wpAnyH_done (by kernel_rfl) ?_ _
      simp only [Exit.then]
      go_step
      go_meet
      exact ⟨⟨_, q1⟩, (HBA.out.mono hBw).trans q2, (Below.heap_setCell _ _ _ _ (fun e => by have := (HLT.out .o og rfl).2; simp at e; omega)).trans ((hg.block _ (Array.getElem?_eq_some_iff.1 HBXA.out).1 (fun e => by have := (HLT.out (.l hs.length) w.heap.size (by simp [bAt]; exact e.symm)).2; omega)).trans HBXA.out)⟩

  case rest =>
    obtain ⟨⟨v2, hP⟩, hB, hbx⟩ := hcut
    clear HPX HBT hT
    go_step
    have hD := hP.below (below_drew (Below.refl wc.heap.size wc))
    have hbD : Below B w wc.drew := below_drew hB
    have hbxD : wc.drew.heap[w.heap.size]? = _ := hbx
    have hs0 : wc.drew.cell? ⟨w.heap.size, 0, none⟩ = some (.int .i64 (k : Int)) ∧ wc.drew.cell? ⟨w.heap.size, 1, none⟩ = some (.string ⟨s.toArray⟩) ∧ wc.drew.cell? ⟨w.heap.size, 2, none⟩ = some (.string ⟨t.toArray⟩) ∧ wc.drew.cell? ⟨w.heap.size, 3, none⟩ = some (.string ⟨u.toArray⟩) ∧ wc.drew.cell? ⟨w.heap.size, 4, none⟩ = some (.int .i64 (n : Int)) ∧ wc.drew.cell? ⟨w.heap.size, 5, none⟩ = some (.int .i64 (p : Int)) ∧ wc.drew.cell? ⟨w.heap.size, 6, none⟩ = some (.slice la ll lc) ∧ wc.drew.cell? ⟨w.heap.size, 7, none⟩ = some (.slice ma ml mc) := ⟨(cell_of_row _ _ 0 _ _ _ hbxD).trans rfl, (cell_of_row _ _ 1 _ _ _ hbxD).trans rfl, (cell_of_row _ _ 2 _ _ _ hbxD).trans rfl, (cell_of_row _ _ 3 _ _ _ hbxD).trans rfl, (cell_of_row _ _ 4 _ _ _ hbxD).trans rfl, (cell_of_row _ _ 5 _ _ _ hbxD).trans rfl, (cell_of_row _ _ 6 _ _ _ hbxD).trans rfl, (cell_of_row _ _ 7 _ _ _ hbxD).trans rfl⟩
    refine wp_region_held_drew (S := fun w' => w'.cell? ⟨w.heap.size, 0, none⟩ = some (.int .i64 (k : Int)) ∧ w'.cell? ⟨w.heap.size, 1, none⟩ = some (.string ⟨s.toArray⟩) ∧ w'.cell? ⟨w.heap.size, 2, none⟩ = some (.string ⟨t.toArray⟩) ∧ w'.cell? ⟨w.heap.size, 3, none⟩ = some (.string ⟨u.toArray⟩) ∧ w'.cell? ⟨w.heap.size, 4, none⟩ = some (.int .i64 (n : Int)) ∧ w'.cell? ⟨w.heap.size, 5, none⟩ = some (.int .i64 (p : Int)) ∧ w'.cell? ⟨w.heap.size, 6, none⟩ = some (.slice la ll lc) ∧ w'.cell? ⟨w.heap.size, 7, none⟩ = some (.slice ma ml mc)) (by kernel_rfl) hs0 (fun hH => ?_)
    generalize wc.drew = wd at *
    obtain ⟨wa, hwa⟩ : ∃ wa, wd.alloc (.cells #[.int .i64 (k : Int), .string ⟨s.toArray⟩, .string ⟨t.toArray⟩, .string ⟨u.toArray⟩, .int .i64 (n : Int), .int .i64 (p : Int), .slice la ll lc, .slice ma ml mc] 37) = wa := ⟨_, rfl⟩
    have hba : Below wd.heap.size wd wa := by rw [← hwa]; exact (Below.refl _ _).alloc (Nat.le_refl _) _
    have hna : wa.heap[wd.heap.size]? = some (.cells #[.int .i64 (k : Int), .string ⟨s.toArray⟩, .string ⟨t.toArray⟩, .string ⟨u.toArray⟩, .int .i64 (n : Int), .int .i64 (p : Int), .slice la ll lc, .slice ma ml mc] 37 (0, 0)) := by rw [← hwa]; exact heap_alloc_new _ _
    have hA := hD.below hba
    have hbxA : wa.heap[w.heap.size]? = _ := (hba.block _ (Array.getElem?_eq_some_iff.1 hbxD).1).trans hbxD
    have hbA : Below B w wa := hbD.trans (hba.mono hD.bsz)
    have hsA : wa.cell? ⟨w.heap.size, 0, none⟩ = some (.int .i64 (k : Int)) ∧ wa.cell? ⟨w.heap.size, 1, none⟩ = some (.string ⟨s.toArray⟩) ∧ wa.cell? ⟨w.heap.size, 2, none⟩ = some (.string ⟨t.toArray⟩) ∧ wa.cell? ⟨w.heap.size, 3, none⟩ = some (.string ⟨u.toArray⟩) ∧ wa.cell? ⟨w.heap.size, 4, none⟩ = some (.int .i64 (n : Int)) ∧ wa.cell? ⟨w.heap.size, 5, none⟩ = some (.int .i64 (p : Int)) ∧ wa.cell? ⟨w.heap.size, 6, none⟩ = some (.slice la ll lc) ∧ wa.cell? ⟨w.heap.size, 7, none⟩ = some (.slice ma ml mc) := ⟨(cell_of_row _ _ 0 _ _ _ hbxA).trans rfl, (cell_of_row _ _ 1 _ _ _ hbxA).trans rfl, (cell_of_row _ _ 2 _ _ _ hbxA).trans rfl, (cell_of_row _ _ 3 _ _ _ hbxA).trans rfl, (cell_of_row _ _ 4 _ _ _ hbxA).trans rfl, (cell_of_row _ _ 5 _ _ _ hbxA).trans rfl, (cell_of_row _ _ 6 _ _ _ hbxA).trans rfl, (cell_of_row _ _ 7 _ _ _ hbxA).trans rfl⟩
    have e3 := hD.rb.c3
    have e3a := hA.rb.c3
    have HA := Lib.hid hA
    have HSA := Lib.hid hsA
    have HBA := Lib.hid hbA
    have HBXA := Lib.hid hbxA
    have HNA := Lib.hid hna
    have hBl := fun k (hk : (Value.slice so C sc).ownBlock = some k) => (HLT.out .s k hk).2
    have HBL := Lib.hid hBl
    clear hBl hA hsA hbA hbxA hna hba hbD hD hbxD hs0 hbx hB hP
    refine heldTake (i := 0) (v := ?_) rfl (by kernel_rfl) (by kernel_rfl) (fun _ _ _ h => h) (by rfl) (by assumption) (fun w hSw => ?_) ?_; rotate_left; focus ((try dsimp only at hSw); go_simp; try with_reducible rfl)
    try simp only [Act.put, List.setIfInBounds_toArray, List.set_cons_zero, List.set_cons_succ]
    refine heldTake (i := 1) (v := ?_) rfl (by kernel_rfl) (by kernel_rfl) (fun _ _ _ h => h) (by rfl) (by assumption) (fun w hSw => ?_) ?_; rotate_left; focus ((try dsimp only at hSw); go_simp; try with_reducible rfl)
    try simp only [Act.put, List.setIfInBounds_toArray, List.set_cons_zero, List.set_cons_succ]
    refine heldTake (i := 2) (v := ?_) rfl (by kernel_rfl) (by kernel_rfl) (fun _ _ _ h => h) (by rfl) (by assumption) (fun w hSw => ?_) ?_; rotate_left; focus ((try dsimp only at hSw); go_simp; try with_reducible rfl)
    try simp only [Act.put, List.setIfInBounds_toArray, List.set_cons_zero, List.set_cons_succ]
    refine heldTake (i := 3) (v := ?_) rfl (by kernel_rfl) (by kernel_rfl) (fun _ _ _ h => h) (by rfl) (by assumption) (fun w hSw => ?_) ?_; rotate_left; focus ((try dsimp only at hSw); go_simp; try with_reducible rfl)
    try simp only [Act.put, List.setIfInBounds_toArray, List.set_cons_zero, List.set_cons_succ]
    refine heldTake (i := 4) (v := ?_) rfl (by kernel_rfl) (by kernel_rfl) (fun _ _ _ h => h) (by rfl) (by assumption) (fun w hSw => ?_) ?_; rotate_left; focus ((try dsimp only at hSw); go_simp; try with_reducible rfl)
    try simp only [Act.put, List.setIfInBounds_toArray, List.set_cons_zero, List.set_cons_succ]
    refine heldTake (i := 6) (v := ?_) rfl (by kernel_rfl) (by kernel_rfl) (fun _ _ _ h => h) (by rfl) (by assumption) (fun w hSw => ?_) ?_; rotate_left; focus ((try dsimp only at hSw); go_simp; try with_reducible rfl)
    try simp only [Act.put, List.setIfInBounds_toArray, List.set_cons_zero, List.set_cons_succ]
    -- TWO 5 Op.load 24 (Operand.tmp 54) | 7 Op.buildSlice 24 1 #[(0, Operand.tmp 56)]
    refine heldTwo (i := 5) (j := 7) rfl rfl (by kernel_rfl) (by rfl) (by rfl) (fun K hK => ?_) (fun K hK => ?_)
    · go_simp; refine hK.out _ _ (by assumption) ?_; clear hK K
      try simp only [Act.put, List.setIfInBounds_toArray, List.set_cons_zero, List.set_cons_succ]
      -- NEXT 7 Op.buildSlice 24 1 #[(0, Operand.tmp 56)]
      refine heldNext (i := 7) rfl (by kernel_rfl) (by rfl) (fun K hK => ?_)
      go_simp; refine hK.out _ _ HSA.out ?_; clear hK K
      try simp only [Act.put, List.setIfInBounds_toArray, List.set_cons_zero, List.set_cons_succ]
      -- NEXT 8 Op.call { callee := Callee.builtin Builtin.append, args := #[Operand.tmp 55, Operand.tmp 57], argTypes := #[24
      refine heldNext (i := 8) rfl (by kernel_rfl) (by rfl) (fun K hK => ?_)
      refine append_s ⟨⟨k, s, t, u, n, p, pl, pm⟩, .slice la ll lc, .slice ma ml mc⟩ (.tmp 55) (.tmp 57) (by rfl) (by rfl) (by first | exact HA.out.os | (have := HA.out.os; rw [HC.out] at this; rw [HC.out]; exact this)) (by rfl) HNA.out rfl rfl (by rw [HC.out]; exact hc) HA.out.bsz (fun g2 c2 w2 ho hg hgg => ?_)
      obtain ⟨q1, q2⟩ := HA.out.growSt hg ho rfl hgg
      have hr2 := HA.out.rb_grown (i := .s) hg rfl (by simp)
      have f3 := hr2.c3
      have ff := hr2.fr 3
      have hx2 : w2.heap[w.heap.size]? = _ := (hg.block _ (Array.getElem?_eq_some_iff.1 HBXA.out).1 (fun e => by have := HBL.out _ e.symm; omega)).trans HBXA.out
      have hs2 : w2.cell? ⟨w.heap.size, 0, none⟩ = some (.int .i64 (k : Int)) ∧ w2.cell? ⟨w.heap.size, 1, none⟩ = some (.string ⟨s.toArray⟩) ∧ w2.cell? ⟨w.heap.size, 2, none⟩ = some (.string ⟨t.toArray⟩) ∧ w2.cell? ⟨w.heap.size, 3, none⟩ = some (.string ⟨u.toArray⟩) ∧ w2.cell? ⟨w.heap.size, 4, none⟩ = some (.int .i64 (n : Int)) ∧ w2.cell? ⟨w.heap.size, 5, none⟩ = some (.int .i64 (p : Int)) ∧ w2.cell? ⟨w.heap.size, 6, none⟩ = some (.slice la ll lc) ∧ w2.cell? ⟨w.heap.size, 7, none⟩ = some (.slice ma ml mc) := ⟨(cell_of_row _ _ 0 _ _ _ hx2).trans rfl, (cell_of_row _ _ 1 _ _ _ hx2).trans rfl, (cell_of_row _ _ 2 _ _ _ hx2).trans rfl, (cell_of_row _ _ 3 _ _ _ hx2).trans rfl, (cell_of_row _ _ 4 _ _ _ hx2).trans rfl, (cell_of_row _ _ 5 _ _ _ hx2).trans rfl, (cell_of_row _ _ 6 _ _ _ hx2).trans rfl, (cell_of_row _ _ 7 _ _ _ hx2).trans rfl⟩
      rw [HC.out] at q1 q2
      obtain ⟨w3, hw3⟩ : ∃ w3, w2.setCell ⟨g, 3, none⟩ (.slice (some ⟨g2, 0, none⟩) (C + 1) c2) = w3 := ⟨_, rfl⟩
      rw [hw3] at q1 q2
      have hx3 : w3.heap[w.heap.size]? = _ := hw3 ▸ (Below.heap_setCell _ _ _ _ (fun e => by have := (HLT.out .g g rfl).2; simp at e; omega)).trans hx2
      have hs3 : w3.cell? ⟨w.heap.size, 0, none⟩ = some (.int .i64 (k : Int)) ∧ w3.cell? ⟨w.heap.size, 1, none⟩ = some (.string ⟨s.toArray⟩) ∧ w3.cell? ⟨w.heap.size, 2, none⟩ = some (.string ⟨t.toArray⟩) ∧ w3.cell? ⟨w.heap.size, 3, none⟩ = some (.string ⟨u.toArray⟩) ∧ w3.cell? ⟨w.heap.size, 4, none⟩ = some (.int .i64 (n : Int)) ∧ w3.cell? ⟨w.heap.size, 5, none⟩ = some (.int .i64 (p : Int)) ∧ w3.cell? ⟨w.heap.size, 6, none⟩ = some (.slice la ll lc) ∧ w3.cell? ⟨w.heap.size, 7, none⟩ = some (.slice ma ml mc) := ⟨(cell_of_row _ _ 0 _ _ _ hx3).trans rfl, (cell_of_row _ _ 1 _ _ _ hx3).trans rfl, (cell_of_row _ _ 2 _ _ _ hx3).trans rfl, (cell_of_row _ _ 3 _ _ _ hx3).trans rfl, (cell_of_row _ _ 4 _ _ _ hx3).trans rfl, (cell_of_row _ _ 5 _ _ _ hx3).trans rfl, (cell_of_row _ _ 6 _ _ _ hx3).trans rfl, (cell_of_row _ _ 7 _ _ _ hx3).trans rfl⟩
      clear hx2 hx3
      refine hK.out _ _ hs2 ?_; clear hK K
      try simp only [Act.put, List.setIfInBounds_toArray, List.set_cons_zero, List.set_cons_succ]
      refine heldTake (i := 9) (v := ?_) rfl (by kernel_rfl) (by kernel_rfl) (fun _ _ _ h => h) (by rfl) (by assumption) (fun w hSw => ?_) ?_; rotate_left; focus ((try dsimp only at hSw); go_simp; try with_reducible rfl)
      try simp only [Act.put, List.setIfInBounds_toArray, List.set_cons_zero, List.set_cons_succ]
      refine heldTake (i := 10) (v := ?_) rfl (by kernel_rfl) (by kernel_rfl) (fun _ _ _ h => h) (by rfl) (by assumption) (fun w hSw => ?_) ?_; rotate_left; focus ((try dsimp only at hSw); go_simp; try with_reducible rfl)
      try simp only [Act.put, List.setIfInBounds_toArray, List.set_cons_zero, List.set_cons_succ]
      refine heldTake (i := 11) (v := ?_) rfl (by kernel_rfl) (by kernel_rfl) (fun _ _ _ h => h) (by rfl) (by assumption) (fun w hSw => ?_) ?_; rotate_left; focus ((try dsimp only at hSw); go_simp; try with_reducible rfl)
      try simp only [Act.put, List.setIfInBounds_toArray, List.set_cons_zero, List.set_cons_succ]
      -- NEXT 12 Op.store 24 (Operand.tmp 61) (Operand.tmp 58)
      refine heldNext (i := 12) rfl (by kernel_rfl) (by rfl) (fun K hK => ?_)
      go_simp; refine hK.out _ _ hs3 ?_; clear hK K
      try simp only [Act.put, List.setIfInBounds_toArray, List.set_cons_zero, List.set_cons_succ]
      refine wpAnyH_done (by kernel_rfl) ?_ _
      go_wp2
      go_end0
      exact ⟨rfl, ⟨_, _, q1⟩, HBA.out.trans q2⟩
    · go_simp; refine hK.out _ _ HSA.out ?_; clear hK K
      try simp only [Act.put, List.setIfInBounds_toArray, List.set_cons_zero, List.set_cons_succ]
      -- NEXT 5 Op.load 24 (Operand.tmp 54)
      refine heldNext (i := 5) rfl (by kernel_rfl) (by rfl) (fun K hK => ?_)
      go_simp; refine hK.out _ _ (by assumption) ?_; clear hK K
      try simp only [Act.put, List.setIfInBounds_toArray, List.set_cons_zero, List.set_cons_succ]
      -- NEXT 8 Op.call { callee := Callee.builtin Builtin.append, args := #[Operand.tmp 55, Operand.tmp 57], argTypes := #[24
      refine heldNext (i := 8) rfl (by kernel_rfl) (by rfl) (fun K hK => ?_)
      refine append_s ⟨⟨k, s, t, u, n, p, pl, pm⟩, .slice la ll lc, .slice ma ml mc⟩ (.tmp 55) (.tmp 57) (by rfl) (by rfl) (by first | exact HA.out.os | (have := HA.out.os; rw [HC.out] at this; rw [HC.out]; exact this)) (by rfl) HNA.out rfl rfl (by rw [HC.out]; exact hc) HA.out.bsz (fun g2 c2 w2 ho hg hgg => ?_)
      obtain ⟨q1, q2⟩ := HA.out.growSt hg ho rfl hgg
      have hr2 := HA.out.rb_grown (i := .s) hg rfl (by simp)
      have f3 := hr2.c3
      have ff := hr2.fr 3
      have hx2 : w2.heap[w.heap.size]? = _ := (hg.block _ (Array.getElem?_eq_some_iff.1 HBXA.out).1 (fun e => by have := HBL.out _ e.symm; omega)).trans HBXA.out
      have hs2 : w2.cell? ⟨w.heap.size, 0, none⟩ = some (.int .i64 (k : Int)) ∧ w2.cell? ⟨w.heap.size, 1, none⟩ = some (.string ⟨s.toArray⟩) ∧ w2.cell? ⟨w.heap.size, 2, none⟩ = some (.string ⟨t.toArray⟩) ∧ w2.cell? ⟨w.heap.size, 3, none⟩ = some (.string ⟨u.toArray⟩) ∧ w2.cell? ⟨w.heap.size, 4, none⟩ = some (.int .i64 (n : Int)) ∧ w2.cell? ⟨w.heap.size, 5, none⟩ = some (.int .i64 (p : Int)) ∧ w2.cell? ⟨w.heap.size, 6, none⟩ = some (.slice la ll lc) ∧ w2.cell? ⟨w.heap.size, 7, none⟩ = some (.slice ma ml mc) := ⟨(cell_of_row _ _ 0 _ _ _ hx2).trans rfl, (cell_of_row _ _ 1 _ _ _ hx2).trans rfl, (cell_of_row _ _ 2 _ _ _ hx2).trans rfl, (cell_of_row _ _ 3 _ _ _ hx2).trans rfl, (cell_of_row _ _ 4 _ _ _ hx2).trans rfl, (cell_of_row _ _ 5 _ _ _ hx2).trans rfl, (cell_of_row _ _ 6 _ _ _ hx2).trans rfl, (cell_of_row _ _ 7 _ _ _ hx2).trans rfl⟩
      rw [HC.out] at q1 q2
      obtain ⟨w3, hw3⟩ : ∃ w3, w2.setCell ⟨g, 3, none⟩ (.slice (some ⟨g2, 0, none⟩) (C + 1) c2) = w3 := ⟨_, rfl⟩
      rw [hw3] at q1 q2
      have hx3 : w3.heap[w.heap.size]? = _ := hw3 ▸ (Below.heap_setCell _ _ _ _ (fun e => by have := (HLT.out .g g rfl).2; simp at e; omega)).trans hx2
      have hs3 : w3.cell? ⟨w.heap.size, 0, none⟩ = some (.int .i64 (k : Int)) ∧ w3.cell? ⟨w.heap.size, 1, none⟩ = some (.string ⟨s.toArray⟩) ∧ w3.cell? ⟨w.heap.size, 2, none⟩ = some (.string ⟨t.toArray⟩) ∧ w3.cell? ⟨w.heap.size, 3, none⟩ = some (.string ⟨u.toArray⟩) ∧ w3.cell? ⟨w.heap.size, 4, none⟩ = some (.int .i64 (n : Int)) ∧ w3.cell? ⟨w.heap.size, 5, none⟩ = some (.int .i64 (p : Int)) ∧ w3.cell? ⟨w.heap.size, 6, none⟩ = some (.slice la ll lc) ∧ w3.cell? ⟨w.heap.size, 7, none⟩ = some (.slice ma ml mc) := ⟨(cell_of_row _ _ 0 _ _ _ hx3).trans rfl, (cell_of_row _ _ 1 _ _ _ hx3).trans rfl, (cell_of_row _ _ 2 _ _ _ hx3).trans rfl, (cell_of_row _ _ 3 _ _ _ hx3).trans rfl, (cell_of_row _ _ 4 _ _ _ hx3).trans rfl, (cell_of_row _ _ 5 _ _ _ hx3).trans rfl, (cell_of_row _ _ 6 _ _ _ hx3).trans rfl, (cell_of_row _ _ 7 _ _ _ hx3).trans rfl⟩
      clear hx2 hx3
      refine hK.out _ _ hs2 ?_; clear hK K
      try simp only [Act.put, List.setIfInBounds_toArray, List.set_cons_zero, List.set_cons_succ]
      refine heldTake (i := 9) (v := ?_) rfl (by kernel_rfl) (by kernel_rfl) (fun _ _ _ h => h) (by rfl) (by assumption) (fun w hSw => ?_) ?_; rotate_left; focus ((try dsimp only at hSw); go_simp; try with_reducible rfl)
      try simp only [Act.put, List.setIfInBounds_toArray, List.set_cons_zero, List.set_cons_succ]
      refine heldTake (i := 10) (v := ?_) rfl (by kernel_rfl) (by kernel_rfl) (fun _ _ _ h => h) (by rfl) (by assumption) (fun w hSw => ?_) ?_; rotate_left; focus ((try dsimp only at hSw); go_simp; try with_reducible rfl)
      try simp only [Act.put, List.setIfInBounds_toArray, List.set_cons_zero, List.set_cons_succ]
      refine heldTake (i := 11) (v := ?_) rfl (by kernel_rfl) (by kernel_rfl) (fun _ _ _ h => h) (by rfl) (by assumption) (fun w hSw => ?_) ?_; rotate_left; focus ((try dsimp only at hSw); go_simp; try with_reducible rfl)
      try simp only [Act.put, List.setIfInBounds_toArray, List.set_cons_zero, List.set_cons_succ]
      -- NEXT 12 Op.store 24 (Operand.tmp 61) (Operand.tmp 58)
      refine heldNext (i := 12) rfl (by kernel_rfl) (by rfl) (fun K hK => ?_)
      go_simp; refine hK.out _ _ hs3 ?_; clear hK K
      try simp only [Act.put, List.setIfInBounds_toArray, List.set_cons_zero, List.set_cons_succ]
      refine wpAnyH_done (by kernel_rfl) ?_ _
      go_wp2
      go_end0
      exact ⟨rfl, ⟨_, _, q1⟩, HBA.out.trans q2⟩


set_option maxRecDepth 20000 in
set_option maxHeartbeats 4000000 in
theorem put_m {B g b q md a f : Nat} {lv ov sv' tv : Value} {ts : List Lx.Tok} {hs : List HA} {cs : List SA} {top : List Nat} (y : HA) (x : HA) (w : World) (h : PX w B g b q lv ov sv' tv md a f ts (hs ++ [y]) [x] cs top) (hy : y.els = true) (hn : hs.length ≤ 1048576) (hc : cs.length ≤ 1048576) (htop : y.st.m.length ≤ 1048576) :
    Calls Tryd.prog 42 #[.pointer (some ⟨g, 0, none⟩), .agg (stCells x.sa).toArray] w fun e w' => e = .returned (.tuple #[]) ∧ (∃ sv2 v2 , PX w' B g b q lv ov sv2 tv md a f ts (hs ++ [⟨{ y.st with m := y.st.m ++ [cs.length] }, y.l, v2, y.els⟩]) [] (cs ++ [x.sa]) top) ∧ Below B w w' := by
  obtain ⟨i1, i2⟩ := h.hl x (by simp)
  obtain ⟨st, xl, xm, els⟩ := x
  obtain ⟨la, ll, lc, hl1⟩ := i1.form3
  obtain ⟨ma, ml, mc, hm1⟩ := i2.form3
  dsimp only at hl1 hm1
  subst hl1 hm1
  obtain ⟨k, s, t, u, n, p, pl, pm⟩ := st
  clear i1 i2
  obtain ⟨j1, j2⟩ := h.hl y (by simp)
  obtain ⟨yst, y1, y2, yels⟩ := y
  dsimp only at hy htop j1 j2 ⊢
  subst hy
  obtain ⟨ro, rc, rfl⟩ := IR.len j2
  obtain ⟨yo, yl, yc, rfl⟩ := j1.form3
  clear j1 j2
  obtain ⟨og, oc, rfl, hoc, _⟩ := h.form

  obtain ⟨so, sc, rfl⟩ := own_form9 h.os
  obtain ⟨C, hC⟩ : ∃ C, cs.length = C := ⟨_, rfl⟩
  rw [hC] at hc h ⊢
  have HC := Lib.hid hC
  obtain ⟨T, hT⟩ : ∃ T, w.alloc (.cells #[.int .i64 (k : Int), .string ⟨s.toArray⟩, .string ⟨t.toArray⟩, .string ⟨u.toArray⟩, .int .i64 (n : Int), .int .i64 (p : Int), .slice la ll lc, .slice ma ml mc] 37) = T := ⟨_, rfl⟩
  have hbx : T.heap[w.heap.size]? = some (.cells #[.int .i64 (k : Int), .string ⟨s.toArray⟩, .string ⟨t.toArray⟩, .string ⟨u.toArray⟩, .int .i64 (n : Int), .int .i64 (p : Int), .slice la ll lc, .slice ma ml mc] 37 (0, 0)) := by rw [← hT]; exact heap_alloc_new _ _
  have hbT : Below w.heap.size w T := by rw [← hT]; exact (Below.refl _ _).alloc (Nat.le_refl _) _
  have hlt := h.lt
  have hPX := h.below hbT
  have hBw := h.bsz
  have bx := fun i v (hv : (#[.int .i64 (k : Int), .string ⟨s.toArray⟩, .string ⟨t.toArray⟩, .string ⟨u.toArray⟩, .int .i64 (n : Int), .int .i64 (p : Int), .slice la ll lc, .slice ma ml mc] : Array Value)[i]? = some v) => (cell_of_row T w.heap.size i _ _ _ hbx).trans hv
  have g1 := hPX.rb.c1
  have g3 := hPX.rb.c3
  have g8 := (hPX.last 8 _ rfl).1
  have n1 : ((hs.length + 1 : Nat) : Int) - 1 = (hs.length : Int) := by omega
  have n2 : (hs.length : Int) + 1 - 1 = (hs.length : Int) := by omega
  have n3 : (hs.length : Int) < (hs.length : Int) + 1 := by omega
  have n4 : (0 : Int) < (hs.length : Int) + 1 := by omega

  have HBX := Lib.hid hbx
  have HBT := Lib.hid hbT
  have HLT := Lib.hid hlt
  have HPX := Lib.hid hPX
  clear hbx hbT hlt hPX bx h
  show Calls Tryd.prog 42 #[.pointer (some ⟨g, 0, none⟩), .agg #[.int .i64 (k : Int), .string ⟨s.toArray⟩, .string ⟨t.toArray⟩, .string ⟨u.toArray⟩, .int .i64 (n : Int), .int .i64 (p : Int), .slice la ll lc, .slice ma ml mc]] w _
  go_enter Tryd.func42, Tryd.ntmps42
  go_upto_region 8 with fail
  go_cut [4] from 37 to 50 (fun s4 wx => (∃ v2 , PX wx B g b q lv (.slice (some ⟨og, 0, none⟩) (hs.length + 1) oc) (.slice so C sc) tv md a f ts (hs ++ [⟨{ yst with m := yst.m ++ [C] }, .slice yo yl yc, v2, true⟩]) [⟨⟨k, s, t, u, n, p, pl, pm⟩, .slice la ll lc, .slice ma ml mc, els⟩] cs top) ∧ Below B w wx ∧ wx.heap[w.heap.size]? = some (.cells #[.int .i64 (k : Int), .string ⟨s.toArray⟩, .string ⟨t.toArray⟩, .string ⟨u.toArray⟩, .int .i64 (n : Int), .int .i64 (p : Int), .slice la ll lc, .slice ma ml mc] 37 (0, 0)))
  case first =>
    have hbD : Below w.heap.size w T.drew := below_drew HBT.out
    have hD := HPX.out.below (below_drew (Below.refl T.heap.size T))
    have hbxD : T.drew.heap[w.heap.size]? = _ := HBX.out
    have hs0 : T.drew.cell? ⟨g, 3, none⟩ = some (.slice so C sc) := hD.rb.c3
    refine wp_region_held_drew (S := fun w' => w'.cell? ⟨g, 3, none⟩ = some (.slice so C sc)) (by kernel_rfl) hs0 (fun hH => ?_)
    generalize T.drew = wd at *
    obtain ⟨wa, hwa⟩ : ∃ wa, wd.alloc (.cells #[.int .i64 (C : Int)] 3) = wa := ⟨_, rfl⟩
    have hba : Below wd.heap.size wd wa := by rw [← hwa]; exact (Below.refl _ _).alloc (Nat.le_refl _) _
    have hna : wa.heap[wd.heap.size]? = some (.cells #[.int .i64 (C : Int)] 3 (0, 0)) := by rw [← hwa]; exact heap_alloc_new _ _
    have hA := hD.below hba
    have hbxA : wa.heap[w.heap.size]? = _ := (hba.block _ (Array.getElem?_eq_some_iff.1 hbxD).1).trans hbxD
    have hbA : Below w.heap.size w wa := hbD.trans (hba.mono hbD.size)
    have hsA : wa.cell? ⟨g, 3, none⟩ = some (.slice so C sc) := hA.rb.c3
    have e4 := (hD.last 7 _ rfl).1
    have e4a := (hA.last 7 _ rfl).1
    have HA := Lib.hid hA
    have HSA := Lib.hid hsA
    have HBA := Lib.hid hbA
    have HBXA := Lib.hid hbxA
    have HNA := Lib.hid hna
    have HBD := Lib.hid hbD
    clear hA hsA hbA hbxA hna hba hbD hD hbxD hs0
    refine heldTake (i := 0) (v := ?_) rfl (by kernel_rfl) (by kernel_rfl) (fun _ _ _ h => h) (by rfl) (by assumption) (fun w hSw => ?_) ?_; rotate_left; focus ((try dsimp only at hSw); go_simp; try with_reducible rfl)
    try simp only [Act.put, List.setIfInBounds_toArray, List.set_cons_zero, List.set_cons_succ]
    refine heldTake (i := 1) (v := ?_) rfl (by kernel_rfl) (by kernel_rfl) (fun _ _ _ h => h) (by rfl) (by assumption) (fun w hSw => ?_) ?_; rotate_left; focus ((try dsimp only at hSw); go_simp; try with_reducible rfl)
    try simp only [Act.put, List.setIfInBounds_toArray, List.set_cons_zero, List.set_cons_succ]
    refine heldTake (i := 2) (v := ?_) rfl (by kernel_rfl) (by kernel_rfl) (fun _ _ _ h => h) (by rfl) (by assumption) (fun w hSw => ?_) ?_; rotate_left; focus ((try dsimp only at hSw); go_simp; try with_reducible rfl)
    try simp only [Act.put, List.setIfInBounds_toArray, List.set_cons_zero, List.set_cons_succ]
    refine heldTake (i := 4) (v := ?_) rfl (by kernel_rfl) (by kernel_rfl) (fun _ _ _ h => h) (by rfl) (by assumption) (fun w hSw => ?_) ?_; rotate_left; focus ((try dsimp only at hSw); go_simp; try with_reducible rfl)
    try simp only [Act.put, List.setIfInBounds_toArray, List.set_cons_zero, List.set_cons_succ]
    refine heldTake (i := 5) (v := ?_) rfl (by kernel_rfl) (by kernel_rfl) (fun _ _ _ h => h) (by rfl) (by assumption) (fun w hSw => ?_) ?_; rotate_left; focus ((try dsimp only at hSw); go_simp; try with_reducible rfl)
    try simp only [Act.put, List.setIfInBounds_toArray, List.set_cons_zero, List.set_cons_succ]
    refine heldTake (i := 6) (v := ?_) rfl (by kernel_rfl) (by kernel_rfl) (fun _ _ _ h => h) (by rfl) (by assumption) (fun w hSw => ?_) ?_; rotate_left; focus ((try dsimp only at hSw); go_simp; try with_reducible rfl)
    try simp only [Act.put, List.setIfInBounds_toArray, List.set_cons_zero, List.set_cons_succ]
    refine heldTake (i := 7) (v := ?_) rfl (by kernel_rfl) (by kernel_rfl) (fun _ _ _ h => h) (by rfl) (by assumption) (fun w hSw => ?_) ?_; rotate_left; focus ((try dsimp only at hSw); go_simp; try with_reducible rfl)
    try simp only [Act.put, List.setIfInBounds_toArray, List.set_cons_zero, List.set_cons_succ]
    refine heldTake (i := 8) (v := ?_) rfl (by kernel_rfl) (by kernel_rfl) (fun _ _ _ h => h) (by rfl) (by assumption) (fun w hSw => ?_) ?_; rotate_left; focus ((try dsimp only at hSw); go_simp; try with_reducible rfl)
    try simp only [Act.put, List.setIfInBounds_toArray, List.set_cons_zero, List.set_cons_succ]
    refine heldTake (i := 9) (v := ?_) rfl (by kernel_rfl) (by kernel_rfl) (fun _ _ _ h => h) (by rfl) (by assumption) (fun w hSw => ?_) ?_; rotate_left; focus ((try dsimp only at hSw); go_simp; try with_reducible rfl)
    try simp only [Act.put, List.setIfInBounds_toArray, List.set_cons_zero, List.set_cons_succ]
    -- TWO 3 Op.load 25 (Operand.tmp 39) | 10 Op.buildSlice 25 1 #[(0, Operand.tmp 46)]
    refine heldTwo (i := 3) (j := 10) rfl rfl (by kernel_rfl) (by rfl) (by rfl) (fun K hK => ?_) (fun K hK => ?_)
    · go_simp; refine hK.out _ _ (by assumption) ?_; clear hK K
      try simp only [Act.put, List.setIfInBounds_toArray, List.set_cons_zero, List.set_cons_succ]
      -- NEXT 10 Op.buildSlice 25 1 #[(0, Operand.tmp 46)]
      refine heldNext (i := 10) rfl (by kernel_rfl) (by rfl) (fun K hK => ?_)
      go_simp; refine hK.out _ _ HSA.out ?_; clear hK K
      try simp only [Act.put, List.setIfInBounds_toArray, List.set_cons_zero, List.set_cons_succ]
      -- NEXT 11 Op.call { callee := Callee.builtin Builtin.append, args := #[Operand.tmp 40, Operand.tmp 47], argTypes := #[25
      refine heldNext (i := 11) rfl (by kernel_rfl) (by rfl) (fun K hK => ?_)
      refine append_n C (.tmp 40) (.tmp 47) (by rfl) (by rfl) ((HA.out.hl _ (List.mem_append.2 (.inl (List.mem_append.2 (.inr (List.mem_singleton.2 rfl)))))).2) (by rfl) HNA.out (by assumption) HA.out.bsz (fun g2 c2 w2 ho hg hgg => ?_)
      obtain ⟨q1, q2⟩ := HA.out.growM hg ho rfl hgg
      have hr2 := HA.out.rb_grown (i := .m hs.length) hg (by simp [bAt]) (by simp)
      obtain ⟨e4, ef⟩ := HA.out.last_grown (i := .m hs.length) hg (by simp [bAt]) (by simp) 7 _ rfl
      have e3 := hr2.c3
      refine hK.out _ _ e3 ?_; clear hK K
      try simp only [Act.put, List.setIfInBounds_toArray, List.set_cons_zero, List.set_cons_succ]
      refine heldTake (i := 12) (v := ?_) rfl (by kernel_rfl) (by kernel_rfl) (fun _ _ _ h => h) (by rfl) (by assumption) (fun w hSw => ?_) ?_; rotate_left; focus ((try dsimp only at hSw); go_simp; try with_reducible rfl)
      try simp only [Act.put, List.setIfInBounds_toArray, List.set_cons_zero, List.set_cons_succ]
      -- NEXT 13 Op.store 25 (Operand.tmp 49) (Operand.tmp 48)
      refine heldNext (i := 13) rfl (by kernel_rfl) (by rfl) (fun K hK => ?_)
      go_simp; refine hK.out _ _ q1.rb.c3 ?_; clear hK K
      try simp only [Act.put, List.setIfInBounds_toArray, List.set_cons_zero, List.set_cons_succ]
      refine wpAnyH_done (by kernel_rfl) ?_ _
      simp only [Exit.then]
      go_step
      go_meet
      exact ⟨⟨_, q1⟩, (HBA.out.mono hBw).trans q2, (Below.heap_setCell _ _ _ _ (fun e => by have := (HLT.out .o og rfl).2; simp at e; omega)).trans ((hg.block _ (Array.getElem?_eq_some_iff.1 HBXA.out).1 (fun e => by have := (HLT.out (.m hs.length) w.heap.size (by simp [bAt]; exact e.symm)).2; omega)).trans HBXA.out)⟩
    · go_simp; refine hK.out _ _ HSA.out ?_; clear hK K
      try simp only [Act.put, List.setIfInBounds_toArray, List.set_cons_zero, List.set_cons_succ]
      -- NEXT 3 Op.load 25 (Operand.tmp 39)
      refine heldNext (i := 3) rfl (by kernel_rfl) (by rfl) (fun K hK => ?_)
      go_simp; refine hK.out _ _ (by assumption) ?_; clear hK K
      try simp only [Act.put, List.setIfInBounds_toArray, List.set_cons_zero, List.set_cons_succ]
      -- NEXT 11 Op.call { callee := Callee.builtin Builtin.append, args := #[Operand.tmp 40, Operand.tmp 47], argTypes := #[25
      refine heldNext (i := 11) rfl (by kernel_rfl) (by rfl) (fun K hK => ?_)
      refine append_n C (.tmp 40) (.tmp 47) (by rfl) (by rfl) ((HA.out.hl _ (List.mem_append.2 (.inl (List.mem_append.2 (.inr (List.mem_singleton.2 rfl)))))).2) (by rfl) HNA.out (by assumption) HA.out.bsz (fun g2 c2 w2 ho hg hgg => ?_)
      obtain ⟨q1, q2⟩ := HA.out.growM hg ho rfl hgg
      have hr2 := HA.out.rb_grown (i := .m hs.length) hg (by simp [bAt]) (by simp)
      obtain ⟨e4, ef⟩ := HA.out.last_grown (i := .m hs.length) hg (by simp [bAt]) (by simp) 7 _ rfl
      have e3 := hr2.c3
      refine hK.out _ _ e3 ?_; clear hK K
      try simp only [Act.put, List.setIfInBounds_toArray, List.set_cons_zero, List.set_cons_succ]
      refine heldTake (i := 12) (v := ?_) rfl (by kernel_rfl) (by kernel_rfl) (fun _ _ _ h => h) (by rfl) (by assumption) (fun w hSw => ?_) ?_; rotate_left; focus ((try dsimp only at hSw); go_simp; try with_reducible rfl)
      try simp only [Act.put, List.setIfInBounds_toArray, List.set_cons_zero, List.set_cons_succ]
      -- NEXT 13 Op.store 25 (Operand.tmp 49) (Operand.tmp 48)
      refine heldNext (i := 13) rfl (by kernel_rfl) (by rfl) (fun K hK => ?_)
      go_simp; refine hK.out _ _ q1.rb.c3 ?_; clear hK K
      try simp only [Act.put, List.setIfInBounds_toArray, List.set_cons_zero, List.set_cons_succ]
      refine wpAnyH_done (by kernel_rfl) ?_ _
      simp only [Exit.then]
      go_step
      go_meet
      exact ⟨⟨_, q1⟩, (HBA.out.mono hBw).trans q2, (Below.heap_setCell _ _ _ _ (fun e => by have := (HLT.out .o og rfl).2; simp at e; omega)).trans ((hg.block _ (Array.getElem?_eq_some_iff.1 HBXA.out).1 (fun e => by have := (HLT.out (.m hs.length) w.heap.size (by simp [bAt]; exact e.symm)).2; omega)).trans HBXA.out)⟩

  case rest =>
    obtain ⟨⟨v2, hP⟩, hB, hbx⟩ := hcut
    clear HPX HBT hT
    go_step
    have hD := hP.below (below_drew (Below.refl wc.heap.size wc))
    have hbD : Below B w wc.drew := below_drew hB
    have hbxD : wc.drew.heap[w.heap.size]? = _ := hbx
    have hs0 : wc.drew.cell? ⟨w.heap.size, 0, none⟩ = some (.int .i64 (k : Int)) ∧ wc.drew.cell? ⟨w.heap.size, 1, none⟩ = some (.string ⟨s.toArray⟩) ∧ wc.drew.cell? ⟨w.heap.size, 2, none⟩ = some (.string ⟨t.toArray⟩) ∧ wc.drew.cell? ⟨w.heap.size, 3, none⟩ = some (.string ⟨u.toArray⟩) ∧ wc.drew.cell? ⟨w.heap.size, 4, none⟩ = some (.int .i64 (n : Int)) ∧ wc.drew.cell? ⟨w.heap.size, 5, none⟩ = some (.int .i64 (p : Int)) ∧ wc.drew.cell? ⟨w.heap.size, 6, none⟩ = some (.slice la ll lc) ∧ wc.drew.cell? ⟨w.heap.size, 7, none⟩ = some (.slice ma ml mc) := ⟨(cell_of_row _ _ 0 _ _ _ hbxD).trans rfl, (cell_of_row _ _ 1 _ _ _ hbxD).trans rfl, (cell_of_row _ _ 2 _ _ _ hbxD).trans rfl, (cell_of_row _ _ 3 _ _ _ hbxD).trans rfl, (cell_of_row _ _ 4 _ _ _ hbxD).trans rfl, (cell_of_row _ _ 5 _ _ _ hbxD).trans rfl, (cell_of_row _ _ 6 _ _ _ hbxD).trans rfl, (cell_of_row _ _ 7 _ _ _ hbxD).trans rfl⟩
    refine wp_region_held_drew (S := fun w' => w'.cell? ⟨w.heap.size, 0, none⟩ = some (.int .i64 (k : Int)) ∧ w'.cell? ⟨w.heap.size, 1, none⟩ = some (.string ⟨s.toArray⟩) ∧ w'.cell? ⟨w.heap.size, 2, none⟩ = some (.string ⟨t.toArray⟩) ∧ w'.cell? ⟨w.heap.size, 3, none⟩ = some (.string ⟨u.toArray⟩) ∧ w'.cell? ⟨w.heap.size, 4, none⟩ = some (.int .i64 (n : Int)) ∧ w'.cell? ⟨w.heap.size, 5, none⟩ = some (.int .i64 (p : Int)) ∧ w'.cell? ⟨w.heap.size, 6, none⟩ = some (.slice la ll lc) ∧ w'.cell? ⟨w.heap.size, 7, none⟩ = some (.slice ma ml mc)) (by kernel_rfl) hs0 (fun hH => ?_)
    generalize wc.drew = wd at *
    obtain ⟨wa, hwa⟩ : ∃ wa, wd.alloc (.cells #[.int .i64 (k : Int), .string ⟨s.toArray⟩, .string ⟨t.toArray⟩, .string ⟨u.toArray⟩, .int .i64 (n : Int), .int .i64 (p : Int), .slice la ll lc, .slice ma ml mc] 37) = wa := ⟨_, rfl⟩
    have hba : Below wd.heap.size wd wa := by rw [← hwa]; exact (Below.refl _ _).alloc (Nat.le_refl _) _
    have hna : wa.heap[wd.heap.size]? = some (.cells #[.int .i64 (k : Int), .string ⟨s.toArray⟩, .string ⟨t.toArray⟩, .string ⟨u.toArray⟩, .int .i64 (n : Int), .int .i64 (p : Int), .slice la ll lc, .slice ma ml mc] 37 (0, 0)) := by rw [← hwa]; exact heap_alloc_new _ _
    have hA := hD.below hba
    have hbxA : wa.heap[w.heap.size]? = _ := (hba.block _ (Array.getElem?_eq_some_iff.1 hbxD).1).trans hbxD
    have hbA : Below B w wa := hbD.trans (hba.mono hD.bsz)
    have hsA : wa.cell? ⟨w.heap.size, 0, none⟩ = some (.int .i64 (k : Int)) ∧ wa.cell? ⟨w.heap.size, 1, none⟩ = some (.string ⟨s.toArray⟩) ∧ wa.cell? ⟨w.heap.size, 2, none⟩ = some (.string ⟨t.toArray⟩) ∧ wa.cell? ⟨w.heap.size, 3, none⟩ = some (.string ⟨u.toArray⟩) ∧ wa.cell? ⟨w.heap.size, 4, none⟩ = some (.int .i64 (n : Int)) ∧ wa.cell? ⟨w.heap.size, 5, none⟩ = some (.int .i64 (p : Int)) ∧ wa.cell? ⟨w.heap.size, 6, none⟩ = some (.slice la ll lc) ∧ wa.cell? ⟨w.heap.size, 7, none⟩ = some (.slice ma ml mc) := ⟨(cell_of_row _ _ 0 _ _ _ hbxA).trans rfl, (cell_of_row _ _ 1 _ _ _ hbxA).trans rfl, (cell_of_row _ _ 2 _ _ _ hbxA).trans rfl, (cell_of_row _ _ 3 _ _ _ hbxA).trans rfl, (cell_of_row _ _ 4 _ _ _ hbxA).trans rfl, (cell_of_row _ _ 5 _ _ _ hbxA).trans rfl, (cell_of_row _ _ 6 _ _ _ hbxA).trans rfl, (cell_of_row _ _ 7 _ _ _ hbxA).trans rfl⟩
    have e3 := hD.rb.c3
    have e3a := hA.rb.c3
    have HA := Lib.hid hA
    have HSA := Lib.hid hsA
    have HBA := Lib.hid hbA
    have HBXA := Lib.hid hbxA
    have HNA := Lib.hid hna
    have hBl := fun k (hk : (Value.slice so C sc).ownBlock = some k) => (HLT.out .s k hk).2
    have HBL := Lib.hid hBl
    clear hBl hA hsA hbA hbxA hna hba hbD hD hbxD hs0 hbx hB hP
    refine heldTake (i := 0) (v := ?_) rfl (by kernel_rfl) (by kernel_rfl) (fun _ _ _ h => h) (by rfl) (by assumption) (fun w hSw => ?_) ?_; rotate_left; focus ((try dsimp only at hSw); go_simp; try with_reducible rfl)
    try simp only [Act.put, List.setIfInBounds_toArray, List.set_cons_zero, List.set_cons_succ]
    refine heldTake (i := 1) (v := ?_) rfl (by kernel_rfl) (by kernel_rfl) (fun _ _ _ h => h) (by rfl) (by assumption) (fun w hSw => ?_) ?_; rotate_left; focus ((try dsimp only at hSw); go_simp; try with_reducible rfl)
    try simp only [Act.put, List.setIfInBounds_toArray, List.set_cons_zero, List.set_cons_succ]
    refine heldTake (i := 2) (v := ?_) rfl (by kernel_rfl) (by kernel_rfl) (fun _ _ _ h => h) (by rfl) (by assumption) (fun w hSw => ?_) ?_; rotate_left; focus ((try dsimp only at hSw); go_simp; try with_reducible rfl)
    try simp only [Act.put, List.setIfInBounds_toArray, List.set_cons_zero, List.set_cons_succ]
    refine heldTake (i := 3) (v := ?_) rfl (by kernel_rfl) (by kernel_rfl) (fun _ _ _ h => h) (by rfl) (by assumption) (fun w hSw => ?_) ?_; rotate_left; focus ((try dsimp only at hSw); go_simp; try with_reducible rfl)
    try simp only [Act.put, List.setIfInBounds_toArray, List.set_cons_zero, List.set_cons_succ]
    refine heldTake (i := 4) (v := ?_) rfl (by kernel_rfl) (by kernel_rfl) (fun _ _ _ h => h) (by rfl) (by assumption) (fun w hSw => ?_) ?_; rotate_left; focus ((try dsimp only at hSw); go_simp; try with_reducible rfl)
    try simp only [Act.put, List.setIfInBounds_toArray, List.set_cons_zero, List.set_cons_succ]
    refine heldTake (i := 6) (v := ?_) rfl (by kernel_rfl) (by kernel_rfl) (fun _ _ _ h => h) (by rfl) (by assumption) (fun w hSw => ?_) ?_; rotate_left; focus ((try dsimp only at hSw); go_simp; try with_reducible rfl)
    try simp only [Act.put, List.setIfInBounds_toArray, List.set_cons_zero, List.set_cons_succ]
    -- TWO 5 Op.load 24 (Operand.tmp 54) | 7 Op.buildSlice 24 1 #[(0, Operand.tmp 56)]
    refine heldTwo (i := 5) (j := 7) rfl rfl (by kernel_rfl) (by rfl) (by rfl) (fun K hK => ?_) (fun K hK => ?_)
    · go_simp; refine hK.out _ _ (by assumption) ?_; clear hK K
      try simp only [Act.put, List.setIfInBounds_toArray, List.set_cons_zero, List.set_cons_succ]
      -- NEXT 7 Op.buildSlice 24 1 #[(0, Operand.tmp 56)]
      refine heldNext (i := 7) rfl (by kernel_rfl) (by rfl) (fun K hK => ?_)
      go_simp; refine hK.out _ _ HSA.out ?_; clear hK K
      try simp only [Act.put, List.setIfInBounds_toArray, List.set_cons_zero, List.set_cons_succ]
      -- NEXT 8 Op.call { callee := Callee.builtin Builtin.append, args := #[Operand.tmp 55, Operand.tmp 57], argTypes := #[24
      refine heldNext (i := 8) rfl (by kernel_rfl) (by rfl) (fun K hK => ?_)
      refine append_s ⟨⟨k, s, t, u, n, p, pl, pm⟩, .slice la ll lc, .slice ma ml mc⟩ (.tmp 55) (.tmp 57) (by rfl) (by rfl) (by first | exact HA.out.os | (have := HA.out.os; rw [HC.out] at this; rw [HC.out]; exact this)) (by rfl) HNA.out rfl rfl (by rw [HC.out]; exact hc) HA.out.bsz (fun g2 c2 w2 ho hg hgg => ?_)
      obtain ⟨q1, q2⟩ := HA.out.growSt hg ho rfl hgg
      have hr2 := HA.out.rb_grown (i := .s) hg rfl (by simp)
      have f3 := hr2.c3
      have ff := hr2.fr 3
      have hx2 : w2.heap[w.heap.size]? = _ := (hg.block _ (Array.getElem?_eq_some_iff.1 HBXA.out).1 (fun e => by have := HBL.out _ e.symm; omega)).trans HBXA.out
      have hs2 : w2.cell? ⟨w.heap.size, 0, none⟩ = some (.int .i64 (k : Int)) ∧ w2.cell? ⟨w.heap.size, 1, none⟩ = some (.string ⟨s.toArray⟩) ∧ w2.cell? ⟨w.heap.size, 2, none⟩ = some (.string ⟨t.toArray⟩) ∧ w2.cell? ⟨w.heap.size, 3, none⟩ = some (.string ⟨u.toArray⟩) ∧ w2.cell? ⟨w.heap.size, 4, none⟩ = some (.int .i64 (n : Int)) ∧ w2.cell? ⟨w.heap.size, 5, none⟩ = some (.int .i64 (p : Int)) ∧ w2.cell? ⟨w.heap.size, 6, none⟩ = some (.slice la ll lc) ∧ w2.cell? ⟨w.heap.size, 7, none⟩ = some (.slice ma ml mc) := ⟨(cell_of_row _ _ 0 _ _ _ hx2).trans rfl, (cell_of_row _ _ 1 _ _ _ hx2).trans rfl, (cell_of_row _ _ 2 _ _ _ hx2).trans rfl, (cell_of_row _ _ 3 _ _ _ hx2).trans rfl, (cell_of_row _ _ 4 _ _ _ hx2).trans rfl, (cell_of_row _ _ 5 _ _ _ hx2).trans rfl, (cell_of_row _ _ 6 _ _ _ hx2).trans rfl, (cell_of_row _ _ 7 _ _ _ hx2).trans rfl⟩
      rw [HC.out] at q1 q2
      obtain ⟨w3, hw3⟩ : ∃ w3, w2.setCell ⟨g, 3, none⟩ (.slice (some ⟨g2, 0, none⟩) (C + 1) c2) = w3 := ⟨_, rfl⟩
      rw [hw3] at q1 q2
      have hx3 : w3.heap[w.heap.size]? = _ := hw3 ▸ (Below.heap_setCell _ _ _ _ (fun e => by have := (HLT.out .g g rfl).2; simp at e; omega)).trans hx2
      have hs3 : w3.cell? ⟨w.heap.size, 0, none⟩ = some (.int .i64 (k : Int)) ∧ w3.cell? ⟨w.heap.size, 1, none⟩ = some (.string ⟨s.toArray⟩) ∧ w3.cell? ⟨w.heap.size, 2, none⟩ = some (.string ⟨t.toArray⟩) ∧ w3.cell? ⟨w.heap.size, 3, none⟩ = some (.string ⟨u.toArray⟩) ∧ w3.cell? ⟨w.heap.size, 4, none⟩ = some (.int .i64 (n : Int)) ∧ w3.cell? ⟨w.heap.size, 5, none⟩ = some (.int .i64 (p : Int)) ∧ w3.cell? ⟨w.heap.size, 6, none⟩ = some (.slice la ll lc) ∧ w3.cell? ⟨w.heap.size, 7, none⟩ = some (.slice ma ml mc) := ⟨(cell_of_row _ _ 0 _ _ _ hx3).trans rfl, (cell_of_row _ _ 1 _ _ _ hx3).trans rfl, (cell_of_row _ _ 2 _ _ _ hx3).trans rfl, (cell_of_row _ _ 3 _ _ _ hx3).trans rfl, (cell_of_row _ _ 4 _ _ _ hx3).trans rfl, (cell_of_row _ _ 5 _ _ _ hx3).trans rfl, (cell_of_row _ _ 6 _ _ _ hx3).trans rfl, (cell_of_row _ _ 7 _ _ _ hx3).trans rfl⟩
      clear hx2 hx3
      refine hK.out _ _ hs2 ?_; clear hK K
      try simp only [Act.put, List.setIfInBounds_toArray, List.set_cons_zero, List.set_cons_succ]
      refine heldTake (i := 9) (v := ?_) rfl (by kernel_rfl) (by kernel_rfl) (fun _ _ _ h => h) (by rfl) (by assumption) (fun w hSw => ?_) ?_; rotate_left; focus ((try dsimp only at hSw); go_simp; try with_reducible rfl)
      try simp only [Act.put, List.setIfInBounds_toArray, List.set_cons_zero, List.set_cons_succ]
      refine heldTake (i := 10) (v := ?_) rfl (by kernel_rfl) (by kernel_rfl) (fun _ _ _ h => h) (by rfl) (by assumption) (fun w hSw => ?_) ?_; rotate_left; focus ((try dsimp only at hSw); go_simp; try with_reducible rfl)
      try simp only [Act.put, List.setIfInBounds_toArray, List.set_cons_zero, List.set_cons_succ]
      refine heldTake (i := 11) (v := ?_) rfl (by kernel_rfl) (by kernel_rfl) (fun _ _ _ h => h) (by rfl) (by assumption) (fun w hSw => ?_) ?_; rotate_left; focus ((try dsimp only at hSw); go_simp; try with_reducible rfl)
      try simp only [Act.put, List.setIfInBounds_toArray, List.set_cons_zero, List.set_cons_succ]
      -- NEXT 12 Op.store 24 (Operand.tmp 61) (Operand.tmp 58)
      refine heldNext (i := 12) rfl (by kernel_rfl) (by rfl) (fun K hK => ?_)
      go_simp; refine hK.out _ _ hs3 ?_; clear hK K
      try simp only [Act.put, List.setIfInBounds_toArray, List.set_cons_zero, List.set_cons_succ]
      refine wpAnyH_done (by kernel_rfl) ?_ _
      go_wp2
      go_end0
      exact ⟨rfl, ⟨_, _, q1⟩, HBA.out.trans q2⟩
    · go_simp; refine hK.out _ _ HSA.out ?_; clear hK K
      try simp only [Act.put, List.setIfInBounds_toArray, List.set_cons_zero, List.set_cons_succ]
      -- NEXT 5 Op.load 24 (Operand.tmp 54)
      refine heldNext (i := 5) rfl (by kernel_rfl) (by rfl) (fun K hK => ?_)
      go_simp; refine hK.out _ _ (by assumption) ?_; clear hK K
      try simp only [Act.put, List.setIfInBounds_toArray, List.set_cons_zero, List.set_cons_succ]
      -- NEXT 8 Op.call { callee := Callee.builtin Builtin.append, args := #[Operand.tmp 55, Operand.tmp 57], argTypes := #[24
      refine heldNext (i := 8) rfl (by kernel_rfl) (by rfl) (fun K hK => ?_)
      refine append_s ⟨⟨k, s, t, u, n, p, pl, pm⟩, .slice la ll lc, .slice ma ml mc⟩ (.tmp 55) (.tmp 57) (by rfl) (by rfl) (by first | exact HA.out.os | (have := HA.out.os; rw [HC.out] at this; rw [HC.out]; exact this)) (by rfl) HNA.out rfl rfl (by rw [HC.out]; exact hc) HA.out.bsz (fun g2 c2 w2 ho hg hgg => ?_)
      obtain ⟨q1, q2⟩ := HA.out.growSt hg ho rfl hgg
      have hr2 := HA.out.rb_grown (i := .s) hg rfl (by simp)
      have f3 := hr2.c3
      have ff := hr2.fr 3
      have hx2 : w2.heap[w.heap.size]? = _ := (hg.block _ (Array.getElem?_eq_some_iff.1 HBXA.out).1 (fun e => by have := HBL.out _ e.symm; omega)).trans HBXA.out
      have hs2 : w2.cell? ⟨w.heap.size, 0, none⟩ = some (.int .i64 (k : Int)) ∧ w2.cell? ⟨w.heap.size, 1, none⟩ = some (.string ⟨s.toArray⟩) ∧ w2.cell? ⟨w.heap.size, 2, none⟩ = some (.string ⟨t.toArray⟩) ∧ w2.cell? ⟨w.heap.size, 3, none⟩ = some (.string ⟨u.toArray⟩) ∧ w2.cell? ⟨w.heap.size, 4, none⟩ = some (.int .i64 (n : Int)) ∧ w2.cell? ⟨w.heap.size, 5, none⟩ = some (.int .i64 (p : Int)) ∧ w2.cell? ⟨w.heap.size, 6, none⟩ = some (.slice la ll lc) ∧ w2.cell? ⟨w.heap.size, 7, none⟩ = some (.slice ma ml mc) := ⟨(cell_of_row _ _ 0 _ _ _ hx2).trans rfl, (cell_of_row _ _ 1 _ _ _ hx2).trans rfl, (cell_of_row _ _ 2 _ _ _ hx2).trans rfl, (cell_of_row _ _ 3 _ _ _ hx2).trans rfl, (cell_of_row _ _ 4 _ _ _ hx2).trans rfl, (cell_of_row _ _ 5 _ _ _ hx2).trans rfl, (cell_of_row _ _ 6 _ _ _ hx2).trans rfl, (cell_of_row _ _ 7 _ _ _ hx2).trans rfl⟩
      rw [HC.out] at q1 q2
      obtain ⟨w3, hw3⟩ : ∃ w3, w2.setCell ⟨g, 3, none⟩ (.slice (some ⟨g2, 0, none⟩) (C + 1) c2) = w3 := ⟨_, rfl⟩
      rw [hw3] at q1 q2
      have hx3 : w3.heap[w.heap.size]? = _ := hw3 ▸ (Below.heap_setCell _ _ _ _ (fun e => by have := (HLT.out .g g rfl).2; simp at e; omega)).trans hx2
      have hs3 : w3.cell? ⟨w.heap.size, 0, none⟩ = some (.int .i64 (k : Int)) ∧ w3.cell? ⟨w.heap.size, 1, none⟩ = some (.string ⟨s.toArray⟩) ∧ w3.cell? ⟨w.heap.size, 2, none⟩ = some (.string ⟨t.toArray⟩) ∧ w3.cell? ⟨w.heap.size, 3, none⟩ = some (.string ⟨u.toArray⟩) ∧ w3.cell? ⟨w.heap.size, 4, none⟩ = some (.int .i64 (n : Int)) ∧ w3.cell? ⟨w.heap.size, 5, none⟩ = some (.int .i64 (p : Int)) ∧ w3.cell? ⟨w.heap.size, 6, none⟩ = some (.slice la ll lc) ∧ w3.cell? ⟨w.heap.size, 7, none⟩ = some (.slice ma ml mc) := ⟨(cell_of_row _ _ 0 _ _ _ hx3).trans rfl, (cell_of_row _ _ 1 _ _ _ hx3).trans rfl, (cell_of_row _ _ 2 _ _ _ hx3).trans rfl, (cell_of_row _ _ 3 _ _ _ hx3).trans rfl, (cell_of_row _ _ 4 _ _ _ hx3).trans rfl, (cell_of_row _ _ 5 _ _ _ hx3).trans rfl, (cell_of_row _ _ 6 _ _ _ hx3).trans rfl, (cell_of_row _ _ 7 _ _ _ hx3).trans rfl⟩
      clear hx2 hx3
      refine hK.out _ _ hs2 ?_; clear hK K
      try simp only [Act.put, List.setIfInBounds_toArray, List.set_cons_zero, List.set_cons_succ]
      refine heldTake (i := 9) (v := ?_) rfl (by kernel_rfl) (by kernel_rfl) (fun _ _ _ h => h) (by rfl) (by assumption) (fun w hSw => ?_) ?_; rotate_left; focus ((try dsimp only at hSw); go_simp; try with_reducible rfl)
      try simp only [Act.put, List.setIfInBounds_toArray, List.set_cons_zero, List.set_cons_succ]
      refine heldTake (i := 10) (v := ?_) rfl (by kernel_rfl) (by kernel_rfl) (fun _ _ _ h => h) (by rfl) (by assumption) (fun w hSw => ?_) ?_; rotate_left; focus ((try dsimp only at hSw); go_simp; try with_reducible rfl)
      try simp only [Act.put, List.setIfInBounds_toArray, List.set_cons_zero, List.set_cons_succ]
      refine heldTake (i := 11) (v := ?_) rfl (by kernel_rfl) (by kernel_rfl) (fun _ _ _ h => h) (by rfl) (by assumption) (fun w hSw => ?_) ?_; rotate_left; focus ((try dsimp only at hSw); go_simp; try with_reducible rfl)
      try simp only [Act.put, List.setIfInBounds_toArray, List.set_cons_zero, List.set_cons_succ]
      -- NEXT 12 Op.store 24 (Operand.tmp 61) (Operand.tmp 58)
      refine heldNext (i := 12) rfl (by kernel_rfl) (by rfl) (fun K hK => ?_)
      go_simp; refine hK.out _ _ hs3 ?_; clear hK K
      try simp only [Act.put, List.setIfInBounds_toArray, List.set_cons_zero, List.set_cons_succ]
      refine wpAnyH_done (by kernel_rfl) ?_ _
      go_wp2
      go_end0
      exact ⟨rfl, ⟨_, _, q1⟩, HBA.out.trans q2⟩

end Go.Proofs.YtiikionoagmabaaDoor

/- parse's put, whatever it is put into (layer 15). -/
namespace Go.Proofs.YtiikionoagmabaaDoor
open Go.RowKit

/-- The open halves, the innermost first. -/
def stk (hs : List HA) : List Ps.Hf := (hs.map HA.hf).reverse
theorem stk_snoc (hs : List HA) (x : HA) : stk (hs ++ [x]) = x.hf :: stk hs := by simp [stk]
theorem stk_len (hs : List HA) : (stk hs).length = hs.length := by simp [stk]
theorem stk_nil : stk [] = [] := rfl
/-- None of the rows is longer than there are statements. -/
structure Lens (hs ps : List HA) (cs : List SA) (top : List Nat) : Prop where
  h : ∀ x ∈ hs ++ ps, x.st.l.length ≤ cs.length ∧ x.st.m.length ≤ cs.length
  t : top.length ≤ cs.length

theorem put_any {B g b q md a f : Nat} {lv ov sv' tv : Value} {ts : List Lx.Tok} {hs : List HA} {cs : List SA} {top : List Nat} (x : HA) (w : World) (h : PX w B g b q lv ov sv' tv md a f ts hs [x] cs top) (hn : hs.length ≤ 1048576) (hc : cs.length ≤ 1048576) (hl : Lens hs [x] cs top) :
    Calls Tryd.prog 42 #[.pointer (some ⟨g, 0, none⟩), .agg (stCells x.sa).toArray] w fun e w' => e = .returned (.tuple #[]) ∧ (∃ sv2 tv2 hs' top', PX w' B g b q lv ov sv2 tv2 md a f ts hs' [] (cs ++ [x.sa]) top' ∧ stk hs' = Ps.bump cs.length (stk hs) ∧ top' = Ps.bumpT cs.length (stk hs) top ∧ hs'.length = hs.length ∧ Lens hs' [] (cs ++ [x.sa]) top') ∧ Below B w w' := by
  have ht := hl.t
  rcases List.eq_nil_or_concat hs with rfl | ⟨hs0, y, rfl⟩
  · refine (put_top x w h hc (by omega)).mono ?_
    rintro e w' ⟨rfl, ⟨sv2, tv2, hp⟩, hb⟩
    refine ⟨rfl, ⟨sv2, tv2, [], _, hp, rfl, rfl, rfl, ⟨fun z hz => by simp at hz, ?_⟩⟩, hb⟩
    rw [List.length_append, List.length_append]
    simp only [List.length_singleton]
    omega
  · rw [List.concat_eq_append] at *
    have hn0 : hs0.length ≤ 1048576 := by rw [List.length_append] at hn; omega
    obtain ⟨y1, y2⟩ := hl.h y (by simp)
    have hold : ∀ z ∈ hs0, z.st.l.length ≤ cs.length + 1 ∧ z.st.m.length ≤ cs.length + 1 := fun z hz => by
      have := hl.h z (by simp [hz])
      omega
    cases hy : y.els with
    | false =>
      refine (put_l y x w h hy hn0 hc (by omega)).mono ?_
      rintro e w' ⟨rfl, ⟨sv2, v2, hp⟩, hb⟩
      refine ⟨rfl, ⟨sv2, tv, _, top, hp, ?_, ?_, by simp, ⟨fun z hz => ?_, by rw [List.length_append]; simp; omega⟩⟩, hb⟩
      · rw [stk_snoc, stk_snoc, Ps.bump]
        congr 1
        unfold Ps.addL HA.hf
        simp [hy]
      · rw [stk_snoc, Ps.bumpT, if_neg (by simp)]
      · rw [List.length_append, List.length_singleton]
        rw [List.append_nil] at hz
        rcases List.mem_append.1 hz with hz | hz
        · exact hold z hz
        · rw [List.mem_singleton.1 hz]
          simp only [List.length_append, List.length_singleton]
          omega
    | true =>
      refine (put_m y x w h hy hn0 hc (by omega)).mono ?_
      rintro e w' ⟨rfl, ⟨sv2, v2, hp⟩, hb⟩
      refine ⟨rfl, ⟨sv2, tv, _, top, hp, ?_, ?_, by simp, ⟨fun z hz => ?_, by rw [List.length_append]; simp; omega⟩⟩, hb⟩
      · rw [stk_snoc, stk_snoc, Ps.bump]
        congr 1
        unfold Ps.addL HA.hf
        simp [hy]
      · rw [stk_snoc, Ps.bumpT, if_neg (by simp)]
      · rw [List.length_append, List.length_singleton]
        rw [List.append_nil] at hz
        rcases List.mem_append.1 hz with hz | hz
        · exact hold z hz
        · rw [List.mem_singleton.1 hz]
          simp only [List.length_append, List.length_singleton]
          omega
end Go.Proofs.YtiikionoagmabaaDoor

/- Words and capitals, in plain words (layer 1). -/
namespace Go.Proofs.YtiikionoagmabaaDoor
open Go.RowKit

namespace Tx
def upB (b : UInt8) : UInt8 := if 97 ≤ b.toNat ∧ b.toNat ≤ 122 then b - 32 else b
def up (l : List UInt8) : List UInt8 := l.map upB
theorem upB_low {b : UInt8} (h1 : 97 ≤ b.toNat) (h2 : b.toNat ≤ 122) : (upB b).toNat = b.toNat - 32 := by
  have h : (32 : UInt8) ≤ b := by rw [UInt8.le_iff_toNat_le]; show 32 ≤ b.toNat; omega
  rw [upB, if_pos ⟨h1, h2⟩, UInt8.toNat_sub_of_le _ _ h]
  rfl
theorem upB_other {b : UInt8} (h : ¬ (97 ≤ b.toNat ∧ b.toNat ≤ 122)) : upB b = b := if_neg h
theorem get_data (s : ByteArray) (j : Nat) (h : j < s.data.size) : s.data.toList.getD j 0 = s.data[j] := by
  rw [List.getD_eq_getElem?_getD, List.getElem?_eq_getElem (by simpa using h)]
  rfl
/-- Words with a blank between. -/
def joinW : List (List UInt8) → List UInt8
  | [] => []
  | [x] => x
  | x :: y :: r => x ++ 32 :: joinW (y :: r)
theorem words_ne : ∀ (l cur : List UInt8), ∀ x ∈ wordsGo cur l, x ≠ []
  | [], cur, x, h => by
    rw [wordsGo] at h
    split at h
    · cases h
    · simp at h; subst h; assumption
  | c :: r, cur, x, h => by
    rw [wordsGo] at h
    split at h
    · split at h
      · exact words_ne r [] x h
      · simp at h
        rcases h with rfl | h
        · assumption
        · exact words_ne r [] x h
    · exact words_ne r _ x h
theorem words_bare : ∀ (l cur : List UInt8), (∀ b ∈ cur, blk b = false) → ∀ x ∈ wordsGo cur l, ∀ b ∈ x, blk b = false
  | [], cur, hc, x, h => by
    rw [wordsGo] at h
    split at h
    · cases h
    · simp at h; subst h; exact hc
  | c :: r, cur, hc, x, h => by
    rw [wordsGo] at h
    split at h
    · split at h
      · exact words_bare r [] (by simp) x h
      · simp at h
        rcases h with rfl | h
        · exact hc
        · exact words_bare r [] (by simp) x h
    · rename_i hb
      refine words_bare r _ (fun b hb2 => ?_) x h
      simp at hb2
      rcases hb2 with h1 | rfl
      · exact hc b h1
      · simpa using hb
theorem words_flat : ∀ (l cur : List UInt8), (∀ b ∈ cur, blk b = false) → (wordsGo cur l).flatten = cur ++ l.filter (fun b => !blk b)
  | [], cur, _ => by
    rw [wordsGo]
    split
    · simp [*]
    · simp
  | c :: r, cur, hc => by
    rw [wordsGo]
    split
    · rename_i hb
      split
      · rw [words_flat r [] (by simp)]; simp [*]
      · rw [List.flatten_cons, words_flat r [] (by simp)]; simp [*]
    · rename_i hb
      rw [words_flat r (cur ++ [c]) (fun b hb2 => by
        simp at hb2
        rcases hb2 with h1 | rfl
        · exact hc b h1
        · simpa using hb)]
      simp at hb
      simp [hb]
theorem words_join : ∀ (ws : List (List UInt8)), (∀ x ∈ ws, x ≠ []) → (∀ x ∈ ws, ∀ b ∈ x, blk b = false) → words (joinW ws) = ws
  | [], _, _ => rfl
  | [x], h1, h2 => by
    show wordsGo [] x = _
    have := wordsGo_run x [] [] (h2 x (by simp))
    rw [List.append_nil] at this
    rw [this, wordsGo, if_neg (by simpa using h1 x (by simp))]
    rfl
  | x :: y :: r, h1, h2 => by
    show wordsGo [] (x ++ 32 :: joinW (y :: r)) = _
    rw [wordsGo_run x [] _ (h2 x (by simp)), wordsGo_blank 32 _ _ (by decide), List.nil_append, if_neg (h1 x (by simp))]
    have := words_join (y :: r) (fun z hz => h1 z (by simp [hz])) (fun z hz => h2 z (by simp [hz]))
    rw [words] at this
    rw [this]
    rfl
theorem words_again (l : List UInt8) : words (joinW (words l)) = words l := words_join _ (words_ne l []) (words_bare l [] (by simp))
/-- What stands in the line behind k words. -/
def lineTo (ws : List (List UInt8)) (k : Nat) : List UInt8 := joinW (ws.take k)
theorem joinW_snoc : ∀ (ws : List (List UInt8)) (x : List UInt8), joinW (ws ++ [x]) = if ws = [] then x else joinW ws ++ 32 :: x
  | [], x => rfl
  | [y], x => rfl
  | y :: z :: r, x => by
    show y ++ 32 :: joinW (z :: (r ++ [x])) = _
    have := joinW_snoc (z :: r) x
    rw [if_neg (by simp)] at this
    rw [show z :: (r ++ [x]) = (z :: r) ++ [x] from rfl, this, if_neg (by simp)]
    simp [joinW]
theorem lineTo_succ (ws : List (List UInt8)) (k : Nat) (h : k < ws.length) : lineTo ws (k + 1) = if k = 0 then ws.getD k [] else lineTo ws k ++ 32 :: ws.getD k [] := by
  have e : ws.getD k [] = ws[k] := by rw [List.getD_eq_getElem?_getD, List.getElem?_eq_getElem h]; rfl
  rw [lineTo, List.take_succ_eq_append_getElem h, joinW_snoc, e]
  by_cases hk : k = 0
  · subst hk; simp
  · rw [if_neg (fun e2 => by have := congrArg List.length e2; rw [List.length_take, List.length_nil] at this; omega), if_neg hk]
    rfl
theorem flat_succ (ws : List (List UInt8)) (k : Nat) (h : k < ws.length) : (ws.take (k + 1)).flatten = (ws.take k).flatten ++ ws.getD k [] := by
  have e : ws.getD k [] = ws[k] := by rw [List.getD_eq_getElem?_getD, List.getElem?_eq_getElem h]; rfl
  rw [List.take_succ_eq_append_getElem h, List.flatten_append, e]
  simp
theorem joinW_len : ∀ (ws : List (List UInt8)), (joinW ws).length ≤ ws.flatten.length + ws.length
  | [] => Nat.le_refl _
  | [x] => by simp [joinW]
  | x :: y :: r => by
    have := joinW_len (y :: r)
    simp [joinW] at this ⊢
    omega
theorem flat_take (ws : List (List UInt8)) (k : Nat) : (ws.take k).flatten.length ≤ ws.flatten.length := by
  have : ws.flatten = (ws.take k).flatten ++ (ws.drop k).flatten := by rw [← List.flatten_append, List.take_append_drop]
  rw [this]; simp
theorem words_len (l : List UInt8) : (words l).flatten.length ≤ l.length ∧ (words l).length ≤ l.length := by
  have h := words_flat l [] (by simp)
  have hf : (words l).flatten.length ≤ l.length := by
    rw [words, h]; simpa using List.length_filter_le _ _
  refine ⟨hf, Nat.le_trans ?_ hf⟩
  have hne := words_ne l []
  rw [words]
  generalize wordsGo [] l = ws at hne
  clear h hf
  induction ws with
  | nil => simp
  | cons x r ih =>
    have h1 := ih (fun z hz => hne z (by simp [hz]))
    have h2 : x.length ≠ 0 := fun e => hne x (by simp) (List.length_eq_zero_iff.1 e)
    simp at h1 ⊢
    omega
theorem upB_upB (b : UInt8) : upB (upB b) = upB b := by
  by_cases h : 97 ≤ b.toNat ∧ b.toNat ≤ 122
  · have := upB_low h.1 h.2
    exact upB_other (by omega)
  · rw [upB_other h, upB_other h]
theorem up_up (l : List UInt8) : up (up l) = up l := by simp [up, upB_upB]
theorem up_app (a b : List UInt8) : up (a ++ b) = up a ++ up b := by simp [up]
theorem up_len (l : List UInt8) : (up l).length = l.length := by simp [up]
theorem blk_up (b : UInt8) : blk (upB b) = blk b := by
  by_cases h : 97 ≤ b.toNat ∧ b.toNat ≤ 122
  · have := upB_low h.1 h.2
    unfold blk
    have e1 : ((upB b).toNat == 32) = false := beq_eq_false_iff_ne.2 (by omega)
    have e2 : ((upB b).toNat == 9) = false := beq_eq_false_iff_ne.2 (by omega)
    have e3 : (b.toNat == 32) = false := beq_eq_false_iff_ne.2 (by omega)
    have e4 : (b.toNat == 9) = false := beq_eq_false_iff_ne.2 (by omega)
    rw [e1, e2, e3, e4]
  · rw [upB_other h]
theorem wordsGo_up : ∀ (l cur : List UInt8), wordsGo (up cur) (up l) = (wordsGo cur l).map up
  | [], cur => by
    show wordsGo (up cur) [] = _
    rw [wordsGo, wordsGo]
    by_cases h : cur = []
    · subst h; rfl
    · rw [if_neg h, if_neg (by simpa [up] using h)]; rfl
  | c :: r, cur => by
    show wordsGo (up cur) (upB c :: up r) = _
    rw [wordsGo, wordsGo, blk_up]
    have e := wordsGo_up r (cur ++ [c])
    rw [up_app] at e
    have e0 := wordsGo_up r []
    have e1 : (up cur = []) ↔ (cur = []) := by simp [up]
    by_cases hb : blk c
    · rw [if_pos hb, if_pos hb]
      by_cases h : cur = []
      · rw [if_pos h, if_pos (e1.2 h)]; exact e0
      · rw [if_neg h, if_neg (fun h2 => h (e1.1 h2)), List.map_cons, ← e0]; rfl
    · rw [if_neg hb, if_neg hb]; exact e
theorem words_up (l : List UInt8) : words (up l) = (words l).map up := wordsGo_up l []
theorem blk_gap (tab : Bool) : blk (if tab then 9 else 32) = true := by cases tab <;> rfl
theorem wordsGo_joins (c : UInt8) (hc : blk c = true) : ∀ (l cur r : List UInt8), wordsGo cur (l ++ c :: r) = wordsGo cur l ++ wordsGo [] r
  | [], cur, r => by
    rw [List.nil_append, wordsGo_blank c cur r hc, wordsGo]
  | b :: l, cur, r => by
    show wordsGo cur (b :: (l ++ c :: r)) = _
    rw [wordsGo]
    conv => rhs; rw [wordsGo]
    split
    · split
      · exact wordsGo_joins c hc l [] r
      · rw [wordsGo_joins c hc l [] r]; rfl
    · exact wordsGo_joins c hc l _ r
theorem words_joins (c : UInt8) (hc : blk c = true) (l r : List UInt8) : words (l ++ c :: r) = words l ++ words r := wordsGo_joins c hc l [] r
end Tx

/-- The byte at place j, when all ahead of pos are in capitals. -/
def mix (l : List UInt8) (pos j : Nat) : UInt8 := if j < pos then Tx.upB (l.getD j 0) else l.getD j 0
theorem bytesRow_size (s : ByteArray) (cap : Nat) : (bytesRow s cap).size = s.size + (cap - s.size) := by
  rw [bytesRow, Array.size_append, Array.size_map, Array.size_replicate]
  rfl
theorem heap_setCell_row {w : World} {b i : Nat} {C : Array Value} {t : TypeId} {fr : Nat × Nat} {u : Value} (h : w.heap[b]? = some (.cells C t fr)) : (w.setCell ⟨b, i, none⟩ u).heap[b]? = some (.cells (C.setIfInBounds i u) t fr) := by
  simp [World.setCell, Array.getElem?_modify, h]
end Go.Proofs.YtiikionoagmabaaDoor

/- isBlank walked. -/
namespace Go.Proofs.YtiikionoagmabaaDoor
open Go.RowKit

def blankB (r : Int) : Bool := r == 32 || r == 9
theorem blank_any (r : Int) (w : World) :
    Calls Tryd.prog 67 #[.int .i32 r] w fun e w' => e = .returned (.bool (blankB r)) ∧ w = w' := by
  go_enter Tryd.func67, Tryd.ntmps67
  go_wp2
  all_goals (go_ret; refine ⟨?_, rfl⟩; simp_all [blankB])
theorem low_blk {s : ByteArray} {pos r n : Nat} {seg : List UInt8} (h : Tx.Rune s pos r n seg) (hb : blankB r = true) : ∃ b, seg = [b] ∧ n = 1 ∧ Tx.blk b = true := by
  have hr : r < 128 := by simp [blankB] at hb; omega
  obtain ⟨b, rfl, rfl⟩ := h.low hr
  refine ⟨b, rfl, by have := h.len; simpa using this.symm, ?_⟩
  simp [blankB] at hb
  simp [Tx.blk]
  omega
theorem high_blk {s : ByteArray} {pos r n : Nat} {seg : List UInt8} (h : Tx.Rune s pos r n seg) (hb : blankB r = false) : ∀ b ∈ seg, Tx.blk b = false := by
  intro b hb2
  by_cases hr : r < 128
  · obtain ⟨c, rfl, rfl⟩ := h.low hr
    simp at hb2
    subst hb2
    simp [blankB] at hb
    simp [Tx.blk]
    omega
  · have := h.high (by omega) b hb2
    simp [Tx.blk]
    omega
end Go.Proofs.YtiikionoagmabaaDoor

/- Rows of texts: appended, compared (rejoinderref01.Same). Of no layer. -/
namespace Go.Proofs.YtiikionoagmabaaDoor
open Go.RowKit

theorem info_str : (Tryd.prog.info? 9).map (fun i => (i.zero, i.size, i.bytes)) = some (some (.string ByteArray.empty), 1, 16) := by kernel_rfl
/-- 'append(xs, x)' on a row of texts that the call owns: x lies in a new block of its own. -/
theorem append_str {ops : Array Oper} {rest : List Oper} {o : Oper} {a : Act} {Q : Exit → Act → World → Prop} {w : World} {B n : Nat} {v b : Value} {xs : List Value}
    (hgd : o.guard = none) (s x : Operand) (ho : o.op = .call { callee := .builtin .append, args := #[s, x], argTypes := #[39, 39] })
    (hs : a.eval s = v) (hown : w.ownsRow B 9 1 v n xs) (hx : a.eval x = .slice (some ⟨w.heap.size, 0, none⟩) 1 1) (_ht : o.type = 39)
    (h1 : b.oneCell' = true) (hn : n ≤ 2097152) (hB : B ≤ w.heap.size)
    (h : ∀ v' w', w'.ownsRow B 9 1 v' (n + 1) (xs ++ [b]) → w.grownBy w' v.ownBlock → wpList Tryd.prog ops Q rest (a.put o.dst v') w') : wpList Tryd.prog ops Q (o :: rest) a (w.alloc (.cells #[b] 9)) := by
  obtain ⟨i0, hi, hz0, hz1, hz2⟩ := info_parts info_str
  refine wpList_append_own _ hgd s x 39 ho B 9 i0 (.string ByteArray.empty) 1 16 Tryd.underlying39 hi hz0 hz1 hz2 rfl (by decide) v n xs hs (hown.alloc _) ⟨w.heap.size, 0, none⟩ 1 1 [b] hx rfl ?_ ?_ ?_ ?_ (by simp; omega) (fun v' w' h2 h3 _ => h v' w' h2 ?_)
  · exact cell_one_new _ _ _
  · intro u hu
    simp at hu
    subst hu
    exact h1
  · unfold maxLen; omega
  · omega
  · exact ⟨h3.os, h3.tape, h3.output, Nat.le_trans (by simp) h3.size, fun k hk hr => (h3.block k (by simp; omega) hr).trans (Below.heap_alloc w _ k hk)⟩

/-- 'append(xs, ys...)' on a row of texts that the call owns, ys whatever slice. -/
theorem append_strs {ops : Array Oper} {rest : List Oper} {o : Oper} {a : Act} {Q : Exit → Act → World → Prop} {w : World} {B n : Nat} {v : Value} {xs : List Value}
    (hgd : o.guard = none) (s x : Operand) (ho : o.op = .call { callee := .builtin .append, args := #[s, x], argTypes := #[39, 39] })
    (hs : a.eval s = v) (hown : w.ownsRow B 9 1 v n xs) (ys : List Value) (hx : Rd w (a.eval x) ys)
    (h1 : ∀ u ∈ ys, u.oneCell' = true) (hn : n + ys.length ≤ 2097152) (hB : B ≤ w.heap.size)
    (h : ∀ v' w', w'.ownsRow B 9 1 v' (n + ys.length) (xs ++ ys) → w.grownBy w' v.ownBlock → wpList Tryd.prog ops Q rest (a.put o.dst v') w') : wpList Tryd.prog ops Q (o :: rest) a w := by
  obtain ⟨i0, hi, hz0, hz1, hz2⟩ := info_parts info_str
  rcases hx with ⟨rfl, ao, cap, ha, hx⟩ | ⟨b, off, cap, hx, g1, g2, g3⟩
  · cases ao with
    | none =>
      obtain rfl := ha rfl
      have h2 := h v w (by simpa using hown) ⟨rfl, rfl, rfl, Nat.le_refl _, fun _ _ _ => rfl⟩
      exact wpList_append_own_none hgd s x 39 ho B 9 i0 1 Tryd.underlying39 hi v n xs hs hown hx h2
    | some ad =>
      refine wpList_append_own _ hgd s x 39 ho B 9 i0 (.string ByteArray.empty) 1 16 Tryd.underlying39 hi hz0 hz1 hz2 rfl (by decide) v n xs hs hown ad 0 cap [] hx rfl (fun j u hj => by simp at hj) (fun u hu => by simp at hu) ?_ ?_ hB (fun v' w' h2 h3 _ => h v' w' h2 h3)
      · simp at hn; unfold maxLen; omega
      · simp at hn; omega
  · refine wpList_append_own _ hgd s x 39 ho B 9 i0 (.string ByteArray.empty) 1 16 Tryd.underlying39 hi hz0 hz1 hz2 rfl (by decide) v n xs hs hown ⟨b, off, none⟩ ys.length cap ys hx (by simp) (fun j u hj => by rw [Addr.add_lit]; exact g3 j u hj) h1 ?_ ?_ hB (fun v' w' h2 h3 _ => h v' w' h2 h3)
    · unfold maxLen; omega
    · omega

theorem sv_cell (xs : List (List UInt8)) : ∀ u ∈ xs.map sv, u.oneCell' = true := by
  intro u hu
  obtain ⟨x, _, rfl⟩ := List.mem_map.1 hu
  rfl

theorem svs_at {xs : List (List UInt8)} {k : Nat} (h : k < xs.length) : (xs.map sv)[k]? = some (sv (xs.getD k [])) := by simp [h, List.getD_eq_getElem?_getD]

theorem take_more {xs ys : List (List UInt8)} {k : Nat} (h : xs.take k = ys.take k) (h1 : k < xs.length) (hl : xs.length = ys.length) (he : xs.getD k [] = ys.getD k []) : xs.take (k + 1) = ys.take (k + 1) := by
  rw [List.take_succ_eq_append_getElem h1, List.take_succ_eq_append_getElem (by omega), h]
  rw [List.getD_eq_getElem?_getD, List.getD_eq_getElem?_getD, List.getElem?_eq_getElem h1, List.getElem?_eq_getElem (by omega)] at he
  simp only [Option.getD_some] at he
  rw [he]

theorem take_all {xs ys : List (List UInt8)} {k : Nat} (h : xs.take k = ys.take k) (h1 : xs.length ≤ k) (hl : xs.length = ys.length) : xs = ys := by
  rwa [List.take_of_length_le h1, List.take_of_length_le (by omega)] at h

end Go.Proofs.YtiikionoagmabaaDoor

/- text.Words walked. -/
namespace Go.Proofs.YtiikionoagmabaaDoor
open Go.RowKit

/-- What holds at the head of a round of Words. -/
structure WRel (B : Nat) (w wr : World) (s : ByteArray) (v : Value) (start pos : Nat) (ws : List (List UInt8)) : Prop where
  own : wr.ownsRow (B + 1) 9 1 v ws.length (ws.map sv)
  iter : wr.heap[B]? = some (.stringIter s pos)
  below : Below B w wr
  h1 : start ≤ pos
  h2 : pos ≤ s.size
  few : ws.length ≤ start
  sum : ws ++ Tx.wordsGo ((s.data.toList.drop start).take (pos - start)) (s.data.toList.drop pos) = Tx.words s.data.toList

theorem WRel.lt {B : Nat} {w wr : World} {s : ByteArray} {v : Value} {start pos : Nat} {ws : List (List UInt8)} (h : WRel B w wr s v start pos ws) : B < wr.heap.size := (Array.getElem?_eq_some_iff.1 h.iter).1

/-- A rune that is no blank. -/
theorem WRel.skip {B : Nat} {w wr : World} {s : ByteArray} {v : Value} {start pos r n : Nat} {seg : List UInt8} {ws : List (List UInt8)} (h : WRel B w wr s v start pos ws) (hU : Tx.Rune s pos r n seg) (hb : blankB r = false) :
    WRel B w (wr.iterAt B s (pos + n)) s v start (pos + n) ws := by
  refine ⟨ownsRow_iterAt h.own (by omega) _ _, Lib.iterAt_heap _ _ _ _ _ h.iter, Lib.below_iterAt h.below (Nat.le_refl _) _ _, by have := h.h1; omega, hU.fits, h.few, ?_⟩
  rw [hU.cut start h.h1, ← Tx.wordsGo_run _ _ _ (high_blk hU hb), ← hU.rest]
  exact h.sum

/-- A blank with no word ahead. -/
theorem WRel.none {B : Nat} {w wr : World} {s : ByteArray} {v : Value} {pos r n : Nat} {seg : List UInt8} {ws : List (List UInt8)} (h : WRel B w wr s v pos pos ws) (hU : Tx.Rune s pos r n seg) (hb : blankB r = true) :
    n = 1 ∧ WRel B w (wr.iterAt B s (pos + n)) s v (pos + 1) (pos + n) ws := by
  obtain ⟨b, rfl, rfl, hbb⟩ := low_blk hU hb
  refine ⟨rfl, ownsRow_iterAt h.own (by omega) _ _, Lib.iterAt_heap _ _ _ _ _ h.iter, Lib.below_iterAt h.below (Nat.le_refl _) _ _, Nat.le_refl _, hU.fits, by have := h.few; omega, ?_⟩
  rw [← h.sum, hU.rest]
  simp [Tx.wordsGo_blank _ _ _ hbb]

/-- A blank behind a word. -/
theorem WRel.word {B : Nat} {w wr w' : World} {s : ByteArray} {v v' : Value} {start pos r n : Nat} {seg : List UInt8} {ws : List (List UInt8)} (h : WRel B w wr s v start pos ws) (hU : Tx.Rune s pos r n seg) (hb : blankB r = true)
    (hlt : start < pos) (hown : w'.ownsRow (B + 1) 9 1 v' (ws.length + 1) (ws.map sv ++ [.string (s.extract start pos)])) (hg : (wr.iterAt B s (pos + n)).grownBy w' v.ownBlock) :
    n = 1 ∧ ∃ ws', WRel B w w' s v' (pos + 1) (pos + n) ws' := by
  obtain ⟨b, rfl, rfl, hbb⟩ := low_blk hU hb
  have hl : s.data.toList.length = s.size := (Lib.size_eq s).symm
  refine ⟨rfl, ws ++ [(s.data.toList.drop start).take (pos - start)], ?_, ?_, ?_, Nat.le_refl _, hU.fits, by have := h.few; simp; omega, ?_⟩
  · rw [Lib.extract_eq] at hown
    simpa [sv] using hown
  · rw [hg.block B (by rw [Lib.iterAt_size]; exact h.lt) ?_]
    · exact Lib.iterAt_heap _ _ _ _ _ h.iter
    · intro e
      have := (h.own.lt B e.symm).1
      omega
  · refine (Lib.below_iterAt h.below (Nat.le_refl _) s (pos + 1)).grown hg (by rw [Lib.iterAt_size]; exact Nat.le_of_lt h.lt) (fun k hk => by have := (h.own.lt k hk).1; omega)
  · have hne : (s.data.toList.drop start).take (pos - start) ≠ [] := fun e => by
      have := congrArg List.length e
      rw [List.length_take, List.length_drop, hl] at this
      have := h.h2
      simp at *
      omega
    rw [← h.sum, hU.rest]
    simp [Tx.wordsGo_blank _ _ _ hbb, hne]

/-- The end, a word standing open. -/
theorem WRel.last {B : Nat} {w wr w' : World} {s : ByteArray} {v v' : Value} {start : Nat} {ws : List (List UInt8)} (h : WRel B w wr s v start s.size ws)
    (hlt : start < s.size) (hown : w'.ownsRow (B + 1) 9 1 v' (ws.length + 1) (ws.map sv ++ [.string (s.extract start s.size)])) (hg : wr.grownBy w' v.ownBlock) :
    w'.ownsRow B 9 1 v' (Tx.words s.data.toList).length ((Tx.words s.data.toList).map sv) ∧ Below B w w' := by
  have hl : s.data.toList.length = s.size := (Lib.size_eq s).symm
  have e : Tx.words s.data.toList = ws ++ [s.data.toList.drop start] := by
    have h1 := h.sum
    rw [List.drop_of_length_le (by omega : s.data.toList.length ≤ s.size), List.take_of_length_le (by rw [List.length_drop]; omega)] at h1
    rw [← h1, Tx.wordsGo, if_neg (fun e => by have := congrArg List.length e; rw [List.length_drop] at this; simp at this; omega)]
  refine ⟨?_, h.below.grown hg (Nat.le_of_lt h.lt) (fun k hk => by have := (h.own.lt k hk).1; omega)⟩
  rw [Lib.extract_eq, List.take_of_length_le (by rw [List.length_drop]; omega)] at hown
  rw [e]
  refine ownsRow_lower (B := B + 1) ?_ (Nat.le_succ _)
  simpa [sv] using hown

/-- The end, no word standing open. -/
theorem WRel.stop {B : Nat} {w wr : World} {s : ByteArray} {v : Value} {start : Nat} {ws : List (List UInt8)} (h : WRel B w wr s v start s.size ws) (hlt : start = s.size) :
    wr.ownsRow B 9 1 v (Tx.words s.data.toList).length ((Tx.words s.data.toList).map sv) ∧ Below B w wr := by
  have hl : s.data.toList.length = s.size := (Lib.size_eq s).symm
  subst hlt
  have e : Tx.words s.data.toList = ws := by
    have h1 := h.sum
    rw [List.drop_of_length_le (by omega : s.data.toList.length ≤ s.size), List.take_nil, Tx.wordsGo, if_pos rfl, List.append_nil] at h1
    exact h1.symm
  rw [e]
  exact ⟨ownsRow_lower h.own (Nat.le_succ _), h.below⟩

theorem words_any (s : ByteArray) (w : World) (hs : s.size ≤ 1048576) :
    Calls Tryd.prog 57 #[.string s] w fun e w' => ∃ v, e = .returned v ∧ w'.ownsRow w.heap.size 9 1 v (Tx.words s.data.toList).length ((Tx.words s.data.toList).map sv) ∧ Below w.heap.size w w' := by
  go_enter Tryd.func57, Tryd.ntmps57
  go_wp2
  go_loopw [3, 4] (fun v st wr => ∃ (start pos : Nat) (ws : List (List UInt8)), st = .int .i64 start ∧ WRel w.heap.size w wr s v start pos ws) (fun _ _ wr => s.size - wr.iterPos w.heap.size)
  case atStart => exact ⟨0, 0, [], rfl, World.ownsRow_nil _ _ _ _, World.iter_heap _ _ _, (Below.refl _ _).alloc (Nat.le_refl _) _, Nat.le_refl _, Nat.zero_le _, Nat.le_refl _, by simp [Tx.words]⟩
  case round =>
    obtain ⟨start, pos, ws, rfl, hR⟩ := hrel
    have g1 := hR.h1
    have g2 := hR.h2
    have g3 := hR.few
    by_cases hlt : pos < s.size
    · obtain ⟨r, n, seg, hU, hnx⟩ := Tx.next_rune (P := Tryd.prog) wr w.heap.size s pos hR.iter hlt
      have HN := Lib.hid (iterPos_of hR.iter)
      have hn := hU.one
      have hf := hU.fits
      cases hbl : blankB r
      · have RS := hR.skip hU hbl
        go_wp2_with (go_at_call 67; refine (blank_any _ _).mono ?_; rintro e w' ⟨rfl, rfl⟩)
        go_roundw
        case rel => exact ⟨start, pos + n, ws, rfl, RS⟩
        case measure =>
          rw [iterPos_of RS.iter, HN.out]
          omega
      · by_cases h3 : start < pos
        · go_wp2_with (first | (at_builtin; refine append_str rfl (.tmp 19) (.tmp 24) rfl rfl (ownsRow_iterAt hR.own (Nat.lt_succ_self _) _ _) rfl rfl ?ca ?cb ?cc ?_) | (go_at_call 67; refine (blank_any _ _).mono ?_; rintro e w' ⟨rfl, rfl⟩))
          case ca => rfl
          case cb => omega
          case cc => rw [Lib.iterAt_size]; exact hR.lt
          intro v' w' hown hgrow
          obtain ⟨e1, ws', RS⟩ := hR.word hU hbl h3 hown hgrow
          clear hown hgrow hnx
          subst e1
          go_wp2
          go_roundw
          case rel => exact ⟨pos + 1, pos + 1, ws', by go_num, RS⟩
          case measure =>
            rw [iterPos_of RS.iter, HN.out]
            omega
        · obtain rfl : start = pos := by omega
          obtain ⟨e1, RS⟩ := hR.none hU hbl
          subst e1
          go_wp2_with (go_at_call 67; refine (blank_any _ _).mono ?_; rintro e w' ⟨rfl, rfl⟩)
          go_roundw
          case rel => exact ⟨start + 1, start + 1, ws, by go_num, RS⟩
          case measure =>
            rw [iterPos_of RS.iter, HN.out]
            omega
    · have hnx := fun ty => Lib.run_next_end_at (P := Tryd.prog) wr w.heap.size s pos ty hR.iter hlt
      obtain rfl : pos = s.size := by omega
      by_cases h3 : start < s.size
      · go_wp2_with (at_builtin; refine append_str rfl (.tmp 32) (.tmp 36) rfl rfl hR.own rfl rfl ?cd ?ce ?cf ?_)
        case cd => rfl
        case ce => omega
        case cf => exact hR.lt
        intro v' w' hown hgrow
        have HF := hR.last h3 hown hgrow
        clear hown hgrow
        go_wp2
        go_ret
        exact ⟨_, rfl, HF⟩
      · have HF := hR.stop (by omega)
        go_wp2
        go_ret
        exact ⟨_, rfl, HF⟩

end Go.Proofs.YtiikionoagmabaaDoor

/- parse's kindOf walked (layer 15). -/
namespace Go.Proofs.YtiikionoagmabaaDoor
open Go.RowKit

/-- The words of a shape. -/
theorem pwords_any (k : Nat) (h1 : 1 ≤ k) (h2 : k ≤ 17) (w : World) : Calls Tryd.prog 57 #[.string ⟨(Ps.shapeS k).toArray⟩] w fun e w' =>
    ∃ g n cap, e = .returned (.slice (some ⟨g, 0, none⟩) n cap) ∧ n = (Ps.tailW k).length + 1 ∧ w.heap.size ≤ g ∧ Rd w' (.slice (some ⟨g, 0, none⟩) n cap) ((Ps.fw k :: Ps.tailW k).map sv) ∧ w'.cell? ⟨g, 0, none⟩ = some (.string ⟨(Ps.fw k).toArray⟩) ∧ Below w.heap.size w w' := by
  have hl := Ps.shapeS_len ⟨k, by omega⟩
  refine (words_any ⟨(Ps.shapeS k).toArray⟩ w (by show (Ps.shapeS k).length ≤ _; simp only at hl; omega)).mono ?_
  rintro e w' ⟨v, rfl, ho, hb⟩
  rw [show (⟨(Ps.shapeS k).toArray⟩ : ByteArray).data.toList = Ps.shapeS k from rfl, Ps.words_of h1 h2] at ho
  obtain ⟨g, cap, rfl, hg, _, _, hc⟩ := own_pos ho (by simp)
  exact ⟨g, _, cap, rfl, rfl, hg, Rd.of_own ho, hc 0 _ rfl, hb⟩
theorem below_drewK {B : Nat} {a w : World} (h : Below B a w) : Below B a w.drew := ⟨h.os, h.tape, h.output, h.size, h.block⟩

set_option maxRecDepth 20000 in
set_option maxHeartbeats 4000000 in
theorem kindOf_any (k : Nat) (t : List UInt8) (p : Nat) (w : World) (hS : SHP w) (hf : Ps.Fine ⟨k, t, p⟩) : Calls Tryd.prog 56 #[tkv k t p] w fun e w' => e = .returned (.int .i64 ((if k = 1 then Ps.kindOf t else 0 : Nat) : Int)) ∧ Below w.heap.size w w' := by
  obtain ⟨R, hR⟩ : ∃ R, (if k = 1 then Ps.kindOf t else 0 : Nat) = R := ⟨_, rfl⟩
  rw [hR]
  have HR := Lib.hid hR
  have HF := Lib.hid hf
  have HSH := Lib.hid hS
  clear hR hS hf
  unfold tkv
  obtain ⟨T, hT⟩ : ∃ T, w.alloc (.cells #[.int .i64 (k : Int), .string ⟨t.toArray⟩, .int .i64 (p : Int)] 53) = T := ⟨_, rfl⟩
  have hTk := Tk3.new w k t p
  rw [hT] at hTk
  have hbT : Below w.heap.size w T := by rw [← hT]; exact (Below.refl _ _).alloc (Nat.le_refl _) _
  have HTK := Lib.hid (fun (w' : World) (hb : Below T.heap.size T w') => hTk.below hb)
  have HBT := Lib.hid hbT
  clear hTk hbT
  go_enter Tryd.func56, Tryd.ntmps56
  go_wp2
  go_loopw [3] (fun s3 wr => ∃ j : Nat, 1 ≤ j ∧ j ≤ 18 ∧ s3 = .int .i64 (j : Int) ∧ Hid (Below T.heap.size T wr) ∧ Hid (R = if k = 1 then Ps.kindIn t j (Ps.firsts.drop (j - 1)) else 0)) (fun s3 _ => 18 - (intOf s3).toNat)
  case atStart => exact ⟨1, by omega, by omega, rfl, Lib.hid (Below.refl _ _), Lib.hid HR.out.symm⟩
  case round =>
    obtain ⟨j, hj1, hj2, rfl, HB, HQ⟩ := hrel
    by_cases hlt : j ≤ 17
    · have HBD := Lib.hid (below_drewK HB.out)
      have hd := HTK.out _ HBD.out
      have hs0 : wr.drew.cell? ⟨w.heap.size, 0, none⟩ = some (.int .i64 (k : Int)) ∧ wr.drew.cell? ⟨w.heap.size, 1, none⟩ = some (.string ⟨t.toArray⟩) ∧ wr.drew.cell? ⟨w.heap.size, 2, none⟩ = some (.int .i64 (p : Int)) := ⟨hd.c0, hd.c1, hd.c2⟩
      have PW := Lib.hid (fun wx => pwords_any j hj1 hlt wx)
      have FA := Lib.hid (fun wx => fits_any k t p (Ps.fw j) wx)
      unfold tkv at FA
      rw [Ps.fitsT_fw hj1 hlt HF.out] at FA
      have hq := HQ.out
      rw [Ps.kind_from t j hj1 hlt] at hq
      have hj3 : (j : Int) ≤ 17 := by omega
      have hj4 : 1 ≤ j := hj1
      go_wp2_with fail
      refine wp_region_held_drew (S := fun w' => w'.cell? ⟨w.heap.size, 0, none⟩ = some (.int .i64 (k : Int)) ∧ w'.cell? ⟨w.heap.size, 1, none⟩ = some (.string ⟨t.toArray⟩) ∧ w'.cell? ⟨w.heap.size, 2, none⟩ = some (.int .i64 (p : Int))) (by kernel_rfl) hs0 (fun hH => ?_)
      generalize wr.drew = wd at *
      have hSD : SHP wd := ((HSH.out.below HBT.out).below HBD.out)
      have PS := Lib.hid (fun (wx : World) (h : SHP wx) => pshape_any j (by omega) wx h)
      refine heldTake (i := 0) (v := ?_) rfl (by kernel_rfl) (by kernel_rfl) (fun _ _ _ h => h) (by rfl) (by assumption) (fun w hSw => ?_) ?_; rotate_left; focus ((try dsimp only at hSw); go_simp; try with_reducible rfl)
      try simp only [Act.put, List.setIfInBounds_toArray, List.set_cons_zero, List.set_cons_succ]
      refine heldTake (i := 1) (v := ?_) rfl (by kernel_rfl) (by kernel_rfl) (fun _ _ _ h => h) (by rfl) (by assumption) (fun w hSw => ?_) ?_; rotate_left; focus ((try dsimp only at hSw); go_simp; try with_reducible rfl)
      try simp only [Act.put, List.setIfInBounds_toArray, List.set_cons_zero, List.set_cons_succ]
      -- NEXT 2 Op.call { callee := Callee.value (Operand.func 16), args := #[Operand.tmp 9], argTypes := #[3] }
      refine heldNext (i := 2) rfl (by kernel_rfl) (by rfl) (fun K hK => ?_)
      go_simp; go_at_call 16; refine (PS.out _ (by assumption)).mono ?_; rintro e w1 ⟨rfl, rfl⟩; first | (refine hK.out _ _ (by assumption) ?_) | (go_wp2_with fail; refine hK.out _ _ (by assumption) ?_); clear hK K
      try simp only [Act.put, List.setIfInBounds_toArray, List.set_cons_zero, List.set_cons_succ]
      -- NEXT 3 Op.call { callee := Callee.value (Operand.func 57), args := #[Operand.tmp 10], argTypes := #[9] }
      refine heldNext (i := 3) rfl (by kernel_rfl) (by rfl) (fun K hK => ?_)
      go_simp; go_at_call 57; refine (PW.out _).mono ?_; rintro e w2 ⟨gw, nw, cw, rfl, hnw, hgw, hrw, hcw, hbw⟩
      have k2 := HTK.out w2 (HBD.out.trans (hbw.mono HBD.out.size))
      have s2 : w2.cell? ⟨w.heap.size, 0, none⟩ = some (.int .i64 (k : Int)) ∧ w2.cell? ⟨w.heap.size, 1, none⟩ = some (.string ⟨t.toArray⟩) ∧ w2.cell? ⟨w.heap.size, 2, none⟩ = some (.int .i64 (p : Int)) := ⟨k2.c0, k2.c1, k2.c2⟩
      first | (refine hK.out _ _ s2 ?_) | (go_wp2_with fail; refine hK.out _ _ s2 ?_)
      clear hK K
      refine heldMore (S' := fun w' => (w'.cell? ⟨w.heap.size, 0, none⟩ = some (.int .i64 (k : Int)) ∧ w'.cell? ⟨w.heap.size, 1, none⟩ = some (.string ⟨t.toArray⟩) ∧ w'.cell? ⟨w.heap.size, 2, none⟩ = some (.int .i64 (p : Int))) ∧ w'.cell? ⟨gw, 0, none⟩ = some (.string ⟨(Ps.fw j).toArray⟩)) (fun _ h => h.1) ?_
      have s3 := And.intro s2 hcw
      have hn0 : (0 : Int) < (nw : Int) := by omega
      have hn1 : 0 < nw := by omega
      have HBW := Lib.hid (HBD.out.trans (hbw.mono HBD.out.size))
      clear hrw hbw hnw hgw k2 s2 hcw
      try simp only [Act.put, List.setIfInBounds_toArray, List.set_cons_zero, List.set_cons_succ]
      refine heldTake (i := 4) (v := ?_) rfl (by kernel_rfl) (by kernel_rfl) (fun _ _ _ h => h) (by rfl) (by assumption) (fun w hSw => ?_) ?_; rotate_left; focus ((try dsimp only at hSw); go_simp; try with_reducible rfl)
      try simp only [Act.put, List.setIfInBounds_toArray, List.set_cons_zero, List.set_cons_succ]
      refine heldTake (i := 5) (v := ?_) rfl (by kernel_rfl) (by kernel_rfl) (fun _ _ _ h => h) (by rfl) (by assumption) (fun w hSw => ?_) ?_; rotate_left; focus ((try dsimp only at hSw); go_simp; try with_reducible rfl)
      try simp only [Act.put, List.setIfInBounds_toArray, List.set_cons_zero, List.set_cons_succ]
      -- NEXT 6 Op.call { callee := Callee.value (Operand.func 37), args := #[Operand.tmp 8, Operand.tmp 13], argTypes := #[53
      refine heldNext (i := 6) rfl (by kernel_rfl) (by rfl) (fun K hK => ?_)
      go_simp; go_at_call 37; refine (FA.out _).mono ?_; rintro e w3 ⟨rfl, hb3⟩
      have HB3 := Lib.hid (HBW.out.trans (hb3.mono HBW.out.size))
      have k3 := HTK.out w3 HB3.out
      have c3 : w3.cell? ⟨gw, 0, none⟩ = some (.string ⟨(Ps.fw j).toArray⟩) := (hb3.cell (World.block_lt_of_cell? _ _ s3.2)).trans s3.2
      have s4 : (w3.cell? ⟨w.heap.size, 0, none⟩ = some (.int .i64 (k : Int)) ∧ w3.cell? ⟨w.heap.size, 1, none⟩ = some (.string ⟨t.toArray⟩) ∧ w3.cell? ⟨w.heap.size, 2, none⟩ = some (.int .i64 (p : Int))) ∧ w3.cell? ⟨gw, 0, none⟩ = some (.string ⟨(Ps.fw j).toArray⟩) := ⟨⟨k3.c0, k3.c1, k3.c2⟩, c3⟩
      first | (refine hK.out _ _ s4 ?_) | (go_wp2_with fail; refine hK.out _ _ s4 ?_)
      clear hK K hb3 s3 k3 c3
      try simp only [Act.put, List.setIfInBounds_toArray, List.set_cons_zero, List.set_cons_succ]
      refine wpAnyH_done (by kernel_rfl) ?_ _
      skip
      by_cases hn : Ps.isName (Ps.fw j) ⟨k, t, p⟩ = true
      · rw [hn]
        have hv : R = j := by
          unfold Ps.isName at hn
          simp only [Bool.and_eq_true, beq_iff_eq] at hn
          rw [hq, if_pos hn.1, if_pos hn.2]
        subst hv
        clear hq hn
        go_wp2
        go_ret
        exact ⟨rfl, HBT.out.trans (HB3.out.mono HBT.out.size)⟩
      · have hn' : Ps.isName (Ps.fw j) ⟨k, t, p⟩ = false := by simpa using hn
        rw [hn']
        have hv : R = if k = 1 then Ps.kindIn t (j + 1) (Ps.firsts.drop (j + 1 - 1)) else 0 := by
          rw [hq]
          by_cases hk : k = 1
          · rw [if_pos hk, if_pos hk, if_neg (fun e => hn (by unfold Ps.isName; simp [hk, e]))]
            rfl
          · rw [if_neg hk, if_neg hk]
        have HV := Lib.hid hv
        clear hq hn hn' hv
        go_wp2
        go_roundw
        case rel => exact ⟨j + 1, by omega, by omega, by first | rfl | go_num, HB3, HV⟩
        case measure => simp [intOf]; omega
    · obtain rfl : j = 18 := by omega
      have hv : R = 0 := by rw [HQ.out]; split <;> rfl
      subst hv
      go_wp2
      go_ret
      exact ⟨rfl, HBT.out.trans (HB.out.mono HBT.out.size)⟩
end Go.Proofs.YtiikionoagmabaaDoor

/- Numbers, in plain words (layer 1). -/
namespace Go.Proofs.YtiikionoagmabaaDoor
open Go.RowKit

namespace Tx
def dig (b : UInt8) : Bool := decide (48 ≤ b.toNat) && decide (b.toNat ≤ 57)
def digits (l : List UInt8) : Bool := l.all dig
def val (l : List UInt8) : Nat := l.foldl (fun a b => a * 10 + (b.toNat - 48)) 0
theorem digits_app (a b : List UInt8) : digits (a ++ b) = (digits a && digits b) := by simp [digits]
theorem val_snoc (l : List UInt8) (b : UInt8) : val (l ++ [b]) = val l * 10 + (b.toNat - 48) := by simp [val]
theorem val_lt' : ∀ (n : Nat) (l : List UInt8), l.length = n → digits l = true → val l < 10 ^ n
  | 0, l, hl, _ => by
    obtain rfl : l = [] := List.length_eq_zero_iff.1 hl
    show 0 < 1; omega
  | n + 1, l, hl, hd => by
    have hne : l ≠ [] := fun e => by rw [e] at hl; cases hl
    obtain ⟨a, b, rfl⟩ : ∃ a b, l = a ++ [b] := ⟨l.dropLast, l.getLast hne, (List.dropLast_concat_getLast hne).symm⟩
    rw [digits_app] at hd
    simp only [Bool.and_eq_true] at hd
    have h1 := val_lt' n a (by simpa using hl) hd.1
    have h2 : b.toNat ≤ 57 := by have := hd.2; simp [digits, dig] at this; exact this.2
    rw [val_snoc, Nat.pow_succ]
    omega
theorem val_lt {l : List UInt8} (h : l.length ≤ 9) (hd : digits l = true) : val l < 1000000000 :=
  Nat.lt_of_lt_of_le (val_lt' _ l rfl hd) (Nat.pow_le_pow_right (by decide) h)

def number (l : List UInt8) (most : Int) : Int × Bool := if (1 ≤ l.length ∧ l.length ≤ 9 ∧ digits l = true) ∧ (val l : Int) ≤ most then (val l, true) else (0, false)
theorem number_bad {l : List UInt8} {most : Int} (h : ¬ (1 ≤ l.length ∧ l.length ≤ 9 ∧ digits l = true)) : number l most = (0, false) := if_neg (fun e => h e.1)
end Tx
/-- A number, and whether it is one, as a result. -/
def two (p : Int × Bool) : Value := .tuple #[.int .i64 p.1, .bool p.2]
end Go.Proofs.YtiikionoagmabaaDoor

/- A statement's texts, one by one (layer 15, plain). -/
namespace Go.Proofs.YtiikionoagmabaaDoor
namespace Ps
open Lx (Tok)

def isTxt (x : W) : Bool := match x with | .n => true | .t => true | .w => true | _ => false
theorem words_cnt : ∀ (xs : List W) (ts : List Tok) {ws : List (List UInt8)} {n : Nat} {r : List Tok}, words xs ts = .ok (ws, n, r) → ws.length = (xs.filter isTxt).length
  | [], ts, ws, n, r, h => by cases h; rfl
  | x :: xs, [], _, _, _, h => by cases h
  | x :: xs, t :: ts, ws, n, r, h => by
    rw [words] at h
    split at h
    · cases hw : words xs ts with
      | error e => rw [hw] at h; cases h
      | ok y =>
        obtain ⟨ws', n', r'⟩ := y
        rw [hw] at h
        cases h
        have ih := words_cnt xs ts hw
        cases x <;> simp [addW, isTxt, ih, List.filter_cons]
    · cases h
def skipK (k : Nat) : Nat := if k = 2 then 1 else 0
theorem shape_cnt : ∀ k : Fin 18, skipK k.val + ((shape k.val).filter isTxt).length ≤ 3 ∧ (k.val = 2 → ((shape k.val).filter isTxt).length = 1) := by decide +kernel
/-- As head_take, and how many texts there are. -/
theorem head_took {d k : Nat} {t : Tok} {ts r : List Tok} (hd : d ≤ 8) (hf : ∀ u ∈ t :: ts, Fine u) (h1 : t.kind = 1) (hk : kindOf t.text = k) (hk0 : k ≠ 0) (h : takeW d (tailW k) ts = .ok r) :
    ∃ c, ts = c ++ r ∧ c.length = (tailW k).length ∧ headM d (t :: ts) = .ok (mk k t.place (texts c) (lastN c 0) [] [], r) ∧ skipK k + (texts c).length ≤ 3 ∧ (k = 2 → (texts c).length = 1) := by
  obtain ⟨c, h2, h3, h4⟩ := (head_take hd hf h1 hk hk0).2 r h
  refine ⟨c, h2, h3, h4, ?_⟩
  have hle := kindOf_le (x := t.text) (by rw [hk]; exact hk0)
  rw [hk] at hle
  have hs := shape_cnt ⟨k, by omega⟩
  simp only at hs
  rw [headM, hk, if_pos (c := t.kind = 1 ∧ k ≠ 0) ⟨h1, hk0⟩] at h4
  cases hw : words (shape k) ts with
  | error e => rw [hw] at h4; cases h4
  | ok y =>
    obtain ⟨ws, n, r'⟩ := y
    have hc := words_cnt _ _ hw
    rw [hw] at h4
    dsimp only at h4
    obtain ⟨p1, p2, p3, p4⟩ := tail_parts ⟨k, by omega⟩
    simp only at p1 p2 p3 p4
    obtain ⟨c', e1, e2, e3, e4⟩ := words_last p3 hw
    have : texts c = ws := by
      subst h2
      have hlen : c'.length ≤ c.length := by rw [e2, h3, p1, List.length_append, ← p2, List.length_map]; omega
      have htk : c.take c'.length = c' := by
        have h := congrArg (List.take c'.length) e1
        rw [List.take_append_of_le_length hlen, List.take_left] at h
        exact h
      obtain ⟨z, hz⟩ : ∃ z, c = c' ++ z := ⟨c.drop c'.length, by
        conv => lhs; rw [← List.take_append_drop c'.length c, htk]⟩
      clear htk
      subst hz
      rw [e3]
      have hzl : z.length = if k = 5 ∨ k = 6 then 1 else 0 := by
        have h := h3
        rw [p1, List.length_append, List.length_append, e2, ← p2, List.length_map] at h
        split <;> rename_i h5 <;> simp only [h5, if_true, if_false, List.length_cons, List.length_nil] at h <;> omega
      by_cases h5 : k = 5 ∨ k = 6
      · rw [if_pos h5] at hzl h4
        obtain ⟨u, rfl⟩ := List.length_eq_one_iff.1 hzl
        rw [List.append_assoc] at e1
        have e5 := List.append_cancel_left e1
        subst e5
        rw [List.singleton_append, brace] at h4
        by_cases hs2 : isSign 123 u = true
        · have hu : u.kind = 4 := by unfold isSign at hs2; simp at hs2; exact hs2.1
          simp [texts, hu]
        · rw [if_neg hs2] at h4; cases h4
      · rw [if_neg h5] at hzl
        obtain rfl := List.length_eq_zero_iff.1 hzl
        rw [List.append_nil]
    rw [this, hc]
    exact hs
/-- What the fields are, from the first texts on. -/
theorem mk_fields {k p n : Nat} {ws : List (List UInt8)} (h2 : k = 2 → ws.length = 1) : mk k p ws n [] [] = ⟨k, (List.replicate (skipK k) [] ++ ws).getD 0 [], (List.replicate (skipK k) [] ++ ws).getD 1 [], (List.replicate (skipK k) [] ++ ws).getD 2 [], n, p, [], []⟩ := by
  unfold mk skipK
  by_cases h : k = 2
  · rw [if_pos h, if_pos h]
    have hl := h2 h
    match ws, hl with
    | [a], _ => rfl
  · rw [if_neg h, if_neg h]
    rfl
theorem texts_snoc (c : List Tok) (t : Tok) : texts (c ++ [t]) = texts c ++ (if t.kind = 1 ∨ t.kind = 3 then [t.text] else []) := by
  unfold texts
  rw [List.filter_append, List.map_append]
  congr 1
  by_cases h : t.kind = 1 ∨ t.kind = 3
  · rw [if_pos h, List.filter_cons_of_pos (by simpa using h)]; rfl
  · rw [if_neg h, List.filter_cons_of_neg (by simpa using h)]; rfl
theorem lastN_snoc (c : List Tok) (t : Tok) : lastN (c ++ [t]) 0 = if t.kind = 2 then num t.text else lastN c 0 := by
  unfold lastN
  rw [List.foldl_append]
  rfl
theorem texts_le (c : List Tok) (i : Nat) : (texts (c.take i)).length ≤ (texts c).length := by
  have : texts c = texts (c.take i) ++ texts (c.drop i) := by
    unfold texts
    rw [← List.map_append, ← List.filter_append, List.take_append_drop]
  rw [this, List.length_append]
  omega
theorem take_snoc' {c : List Tok} {i : Nat} {t : Tok} (h : c[i]? = some t) : c.take (i + 1) = c.take i ++ [t] := by
  rw [List.take_add_one, h]
  rfl
/-- A number, once it is read. -/
theorem num_fine {t : Tok} (h : Fine t) (hk : t.kind = 2) : Tx.number t.text 9223372036854775807 = ((num t.text : Int), true) ∧ t.text.length ≤ 9 := by
  rcases h with h | h | h | h | h
  · omega
  · omega
  · obtain ⟨_, ⟨c, r, e, _⟩, hall, h9⟩ := h
    have hd : Tx.digits t.text = true := by
      unfold Tx.digits
      rw [List.all_eq_true]
      intro c hc
      have := hall c hc
      unfold Lx.digit at this
      unfold Tx.dig
      exact this
    have hlt := Tx.val_lt' _ t.text rfl hd
    have h10 : 10 ^ t.text.length ≤ 10 ^ 9 := Nat.pow_le_pow_right (by decide) h9
    refine ⟨?_, h9⟩
    unfold Tx.number
    rw [if_pos ⟨⟨by rw [e]; simp, h9, hd⟩, by have : (10 : Nat) ^ 9 = 1000000000 := rfl; omega⟩]
    rfl
  · omega
  · omega
theorem words_ne : ∀ k : Fin 18, 1 ≤ k.val → ∀ x ∈ fw k.val :: tailW k.val, x ≠ [] := by decide +kernel
theorem tail_len : ∀ k : Fin 18, (tailW k.val).length ≤ 4 := by decide +kernel
theorem tail_pos : ∀ k : Fin 18, 1 ≤ k.val → 1 ≤ (tailW k.val).length := by decide +kernel
theorem fw_in : ∀ (l : List (List UInt8)) (k0 : Nat) (x : List UInt8), kindIn x k0 l ≠ 0 → l.getD (kindIn x k0 l - k0) [] = x
  | [], _, _, h => absurd rfl h
  | y :: l, k0, x, h => by
    rw [kindIn] at h ⊢
    by_cases e : x = y
    · rw [if_pos e, Nat.sub_self]; exact e.symm
    · rw [if_neg e] at h ⊢
      have ih := fw_in l (k0 + 1) x h
      have hle := (kindIn_le x l (k0 + 1)).resolve_left h
      obtain ⟨j, hj⟩ : ∃ j, kindIn x (k0 + 1) l - k0 = j + 1 := ⟨kindIn x (k0 + 1) l - k0 - 1, by omega⟩
      rw [hj]
      rw [show kindIn x (k0 + 1) l - (k0 + 1) = j by omega] at ih
      exact ih
theorem fw_of {x : List UInt8} {k : Nat} (h : kindOf x = k) (h0 : k ≠ 0) : x = fw k := by
  have := fw_in firsts 1 x (by rw [show kindIn x 1 firsts = kindOf x from rfl, h]; exact h0)
  rw [show kindIn x 1 firsts = kindOf x from rfl, h] at this
  exact this.symm
end Ps
end Go.Proofs.YtiikionoagmabaaDoor

/- text.isDigit walked. -/
namespace Go.Proofs.YtiikionoagmabaaDoor
open Go.RowKit

def digitB (r : Int) : Bool := decide (48 ≤ r) && decide (r ≤ 57)

theorem digit_any (r : Int) (w : World) :
    Calls Tryd.prog 68 #[.int .i32 r] w fun e w' => e = .returned (.bool (digitB r)) ∧ w = w' := by
  go_enter Tryd.func68, Tryd.ntmps68
  go_wp2
  all_goals (go_ret; refine ⟨?_, rfl⟩; simp_all [digitB]; try omega)
end Go.Proofs.YtiikionoagmabaaDoor

/- text.Number walked. -/
namespace Go.Proofs.YtiikionoagmabaaDoor
open Go.RowKit


theorem seg_dig {s : ByteArray} {pos r n : Nat} {seg : List UInt8} (h : Tx.Rune s pos r n seg) : Tx.digits seg = digitB r := by
  by_cases hr : r < 128
  · obtain ⟨b, rfl, rfl⟩ := h.low hr
    rw [Tx.digits, List.all_cons, List.all_nil, Bool.and_true, Tx.dig, digitB]
    congr 1 <;> exact decide_eq_decide.2 (by omega)
  · have hh := h.high (by omega)
    have : seg ≠ [] := fun e => by have := h.one; have := h.len; rw [e] at this; simp at this; omega
    obtain ⟨b, t, rfl⟩ := List.exists_cons_of_ne_nil this
    have hb := hh b (by simp)
    have e1 : decide (b.toNat ≤ 57) = false := decide_eq_false (by omega)
    have e2 : decide ((r : Int) ≤ 57) = false := decide_eq_false (by omega)
    rw [Tx.digits, List.all_cons, Tx.dig, digitB, e1, e2, Bool.and_false, Bool.and_false, Bool.false_and]

structure NRel (B : Nat) (w wr : World) (s : ByteArray) (v : Nat) (pos : Nat) : Prop where
  iter : wr.heap[B]? = some (.stringIter s pos)
  below : Below B w wr
  h2 : pos ≤ s.size
  all : Tx.digits (s.data.toList.take pos) = true
  v : v = Tx.val (s.data.toList.take pos)

theorem NRel.bad {B : Nat} {w wr : World} {s : ByteArray} {v pos r n : Nat} {seg : List UInt8} (_h : NRel B w wr s v pos) (hU : Tx.Rune s pos r n seg) (hd : digitB r = false) :
    ¬ (1 ≤ s.data.toList.length ∧ s.data.toList.length ≤ 9 ∧ Tx.digits s.data.toList = true) := by
  rintro ⟨_, _, h3⟩
  have e : s.data.toList = s.data.toList.take (pos + n) ++ s.data.toList.drop (pos + n) := (List.take_append_drop _ _).symm
  rw [e, hU.take, Tx.digits_app, Tx.digits_app, seg_dig hU, hd, Bool.and_false, Bool.false_and] at h3
  cases h3

theorem NRel.step {B : Nat} {w wr : World} {s : ByteArray} {v pos r n : Nat} {seg : List UInt8} (h : NRel B w wr s v pos) (hU : Tx.Rune s pos r n seg) (hd : digitB r = true) :
    48 ≤ r ∧ r ≤ 57 ∧ n = 1 ∧ NRel B w (wr.iterAt B s (pos + n)) s (v * 10 + (r - 48)) (pos + n) := by
  have h0 := seg_dig hU
  simp only [digitB, Bool.and_eq_true, decide_eq_true_eq] at hd
  obtain ⟨b, rfl, rfl⟩ := hU.low (by omega)
  have hn : n = 1 := by have := hU.len; simpa using this.symm
  refine ⟨by omega, by omega, hn, Lib.iterAt_heap _ _ _ _ _ h.iter, Lib.below_iterAt h.below (Nat.le_refl _) _ _, hU.fits, ?_, ?_⟩
  · rw [hU.take, Tx.digits_app, h.all, h0]
    simp [digitB]
    omega
  · rw [hU.take, Tx.val_snoc, h.v]

theorem NRel.stop {B : Nat} {w wr : World} {s : ByteArray} {v : Nat} (h : NRel B w wr s v s.size) (hl : s.data.toList.length = s.size) (h1 : 1 ≤ s.size) (h9 : s.size ≤ 9) (most : Int) :
    ((v : Int) ≤ most → Tx.number s.data.toList most = ((v : Int), true)) ∧ (¬ (v : Int) ≤ most → Tx.number s.data.toList most = (0, false)) := by
  have ha := h.all
  have hv := h.v
  rw [← hl, List.take_length] at ha hv
  subst hv
  exact ⟨fun hm => if_pos ⟨⟨by omega, by omega, ha⟩, hm⟩, fun hm => if_neg (fun e => hm e.2)⟩


theorem number_any (s : ByteArray) (most : Int) (w : World) (hs : s.size ≤ 1048576) :
    Calls Tryd.prog 58 #[.string s, .int .i64 most] w fun e w' => e = .returned (two (Tx.number s.data.toList most)) ∧ Below w.heap.size w w' := by
  have hl : s.data.toList.length = s.size := (Lib.size_eq s).symm
  by_cases hsz : 1 ≤ s.size ∧ s.size ≤ 9
  · obtain ⟨hs1, hs9⟩ := hsz
    have HL := Lib.hid hl
    clear hl
    go_enter Tryd.func58, Tryd.ntmps58
    go_wp2
    go_loopw [6] (fun n wr => ∃ pos v : Nat, n = .int .i64 v ∧ NRel w.heap.size w wr s v pos) (fun _ wr => s.size - wr.iterPos w.heap.size)
    case atStart => exact ⟨0, 0, rfl, World.iter_heap _ _ _, (Below.refl _ _).alloc (Nat.le_refl _) _, Nat.zero_le _, rfl, rfl⟩
    case round =>
      obtain ⟨pos, v, rfl, hR⟩ := hrel
      have g2 := hR.h2
      have gv : v < 1000000000 := by
        rw [hR.v]
        exact Tx.val_lt (by rw [List.length_take]; omega) hR.all
      by_cases hlt : pos < s.size
      · obtain ⟨r, n, seg, hU, hnx⟩ := Tx.next_rune (P := Tryd.prog) wr w.heap.size s pos hR.iter hlt
        have HN := Lib.hid (iterPos_of hR.iter)
        have hn := hU.one
        have hf := hU.fits
        cases hd : digitB r
        · have HB := Lib.hid (hR.bad hU hd)
          go_wp2_with (go_at_call 68; refine (digit_any _ _).mono ?_; rintro e w' ⟨rfl, rfl⟩)
          go_ret2
          exact ⟨by rw [Tx.number_bad HB.out]; rfl, Lib.below_iterAt hR.below (Nat.le_refl _) _ _⟩
        · obtain ⟨r1, r2, hn1, RS⟩ := hR.step hU hd
          subst hn1
          go_wp2_with (go_at_call 68; refine (digit_any _ _).mono ?_; rintro e w' ⟨rfl, rfl⟩)
          go_roundw
          case rel => exact ⟨pos + 1, v * 10 + (r - 48), by go_num, RS⟩
          case measure =>
            rw [iterPos_of RS.iter, HN.out]
            omega
      · have hnx := fun ty => Lib.run_next_end_at (P := Tryd.prog) wr w.heap.size s pos ty hR.iter hlt
        obtain rfl : pos = s.size := by omega
        obtain ⟨e1, e2⟩ := hR.stop HL.out hs1 hs9 most
        by_cases hm : (v : Int) ≤ most
        · have HE := Lib.hid (e1 hm)
          clear e1 e2
          go_wp2
          go_ret2
          exact ⟨by rw [HE.out]; rfl, hR.below⟩
        · have HE := Lib.hid (e2 hm)
          clear e1 e2
          go_wp2
          go_ret2
          exact ⟨by rw [HE.out]; rfl, hR.below⟩
  · have HE := Lib.hid (Tx.number_bad (l := s.data.toList) (most := most) (fun e => hsz ⟨by omega, by omega⟩))
    clear hl
    rcases (show s.size = 0 ∨ 9 < s.size from by omega) with h0 | h9
    · have h0' : s.size < 1 := by omega
      clear h0 hsz
      go_enter Tryd.func58, Tryd.ntmps58
      go_wp2
      go_ret2
      exact ⟨by rw [HE.out]; rfl, Below.refl _ _⟩
    · clear hsz
      go_enter Tryd.func58, Tryd.ntmps58
      go_wp2
      go_ret2
      exact ⟨by rw [HE.out]; rfl, Below.refl _ _⟩

end Go.Proofs.YtiikionoagmabaaDoor
