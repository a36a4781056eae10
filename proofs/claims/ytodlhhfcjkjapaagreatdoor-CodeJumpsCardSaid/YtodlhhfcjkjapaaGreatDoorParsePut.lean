/- parse's put walked (layer 15). -/
import Derived.Test.YtodlhhfcjkjapaaGreatDoorPS
import Derived.Test.YtodlhhfcjkjapaaGreatDoorPJ
import Derived.Deep.CutRange
namespace Go.Proofs.YtodlhhfcjkjapaaGreatDoor
open Go.RowKit
theorem int_info : (Tryz.prog.info? 3).map (fun i => (i.zero, i.size, i.bytes)) = some (some (.int .i64 0), 1, 8) := by kernel_rfl
theorem stmt_info : (Tryz.prog.info? 41).map (fun i => (i.zero, i.size, i.bytes)) = some (some (.agg #[.int .i64 0, .string ⟨#[]⟩, .string ⟨#[]⟩, .string ⟨#[]⟩, .int .i64 0, .int .i64 0, .slice none 0 0, .slice none 0 0]), 8, 120) := by kernel_rfl
theorem append_n {o : Oper} {a : Act} {K : Act → World → Prop} {Q : Exit → Act → World → Prop} {w : World} {B b : Nat} {v : Value} {xs : List Nat} (n : Nat)
  (s x : Operand) (ho : o.op = .call { callee := .builtin .append, args := #[s, x], argTypes := #[30, 30] })
  (hs : a.eval s = v) (h : IR w B 3 v xs) (hx : a.eval x = .slice (some ⟨b, 0, none⟩) 1 1) (hb : w.heap[b]? = some (.cells #[.int .i64 (n : Int)] 3 (0, 0)))
  (hn : xs.length ≤ 1048576) (hB : B ≤ w.heap.size)
  (h' : ∀ g cap w', IR w' B 3 (.slice (some ⟨g, 0, none⟩) (xs.length + 1) cap) (xs ++ [n]) → w.grownBy w' v.ownBlock → (v.ownBlock = some g ∨ g = w.heap.size) → K (a.put o.dst (.slice (some ⟨g, 0, none⟩) (xs.length + 1) cap)) w') : o.wp Tryz.prog a w K Q := by
 obtain ⟨i0, hi, hz0, hz1, hz2⟩ := info_parts int_info
 exact wp_append_nv n Tryz.underlying30 hi hz0 hz1 hz2 s x ho hs h hx hb hn hB h'
theorem append_s {o : Oper} {a : Act} {K : Act → World → Prop} {Q : Exit → Act → World → Prop} {w : World} {B b : Nat} {v : Value} {cs : List SA} (t : SA)
  (s x : Operand) (ho : o.op = .call { callee := .builtin .append, args := #[s, x], argTypes := #[29, 29] })
  (hs : a.eval s = v) (h : w.ownsRow B 41 8 v cs.length (stRow cs)) (hx : a.eval x = .slice (some ⟨b, 0, none⟩) 1 1) (hb : w.heap[b]? = some (.cells (stCells t).toArray 41 (0, 0)))
  (hl : t.l.oneCell' = true) (hm : t.m.oneCell' = true) (hn : cs.length ≤ 1048576) (hB : B ≤ w.heap.size)
  (h' : ∀ g cap w', w'.ownsRow B 41 8 (.slice (some ⟨g, 0, none⟩) (cs.length + 1) cap) (cs.length + 1) (stRow (cs ++ [t])) → w.grownBy w' v.ownBlock → (v.ownBlock = some g ∨ g = w.heap.size) → K (a.put o.dst (.slice (some ⟨g, 0, none⟩) (cs.length + 1) cap)) w') : o.wp Tryz.prog a w K Q := by
 obtain ⟨i0, hi, hz0, hz1, hz2⟩ := info_parts stmt_info
 refine wp_append_lies w s x _ ho B _ i0 _ 8 120 Tryz.underlying29 hi hz0 hz1 hz2 (by decide) (by decide) v cs.length (stRow cs) hs h ⟨b, 0, none⟩ 1 1 (stCells t) hx rfl (World.news_of_block hb) ?_ (by decide) (by unfold maxLen; omega) (by omega) hB _ rfl (fun g cap w' h2 h3 h4 _ => h' g cap w' ?_ h3 h4)
 ·intro u hu
  simp [stCells] at hu
  rcases hu with rfl | rfl | rfl | rfl | rfl | rfl | rfl | rfl
  ·rfl
  ·rfl
  ·rfl
  ·rfl
  ·rfl
  ·rfl
  ·exact hl
  ·exact hm
 ·rw [show stRow (cs ++ [t]) = stRow cs ++ stCells t by simp [stRow]]
  exact h2
theorem below_drew {B : Nat} {a w : World} (h : Below B a w) : Below B a w.drew := ⟨h.os, h.tape, h.output, h.size, h.block⟩
theorem IR.len {w : World} {B : Nat} {e : TypeId} {v : Value} {xs : List Nat} (h : IR w B e v xs) : ∃ ao cap, v = .slice ao xs.length cap := h.form
theorem own_form9 {w : World} {B n size : Nat} {e : TypeId} {v : Value} {xs : List Value} (h : w.ownsRow B e size v n xs) : ∃ ao cap, v = .slice ao n cap := by
 rcases h.2 with ⟨rfl, hn⟩ | ⟨g, cap, cur, rfl, _⟩
 ·exact ⟨none, 0, by rw [hn]⟩
 ·exact ⟨_, cap, rfl⟩
set_option maxRecDepth 20000 in
set_option maxHeartbeats 4000000 in
theorem put_top {B g b q md a f : Nat} {lv ov sv' tv : Value} {ts : List Lx.Tok} {cs : List SA} {top : List Nat} (x : HA) (w : World) (h : PX w B g b q lv ov sv' tv md a f ts [] [x] cs top) (hc : cs.length ≤ 1048576) (htop : top.length ≤ 1048576) :
  Calls Tryz.prog 64 #[.pointer (some ⟨g, 0, none⟩), .agg (stCells x.sa).toArray] w fun e w' => e = .returned (.tuple #[]) ∧ (∃ sv2 tv2 , PX w' B g b q lv ov sv2 tv2 md a f ts [] [] (cs ++ [x.sa]) (top ++ [cs.length])) ∧ Below B w w' := by
 obtain ⟨i1, i2⟩ := h.hl x (by simp)
 obtain ⟨st, xl, xm, els⟩ := x
 obtain ⟨la, ll, lc, hl1⟩ := i1.form3
 obtain ⟨ma, ml, mc, hm1⟩ := i2.form3
 dsimp only at hl1 hm1
 subst hl1 hm1
 obtain ⟨k, s, t, u, n, p, pl, pm⟩ := st
 clear i1 i2
 obtain ⟨oo, oc, rfl⟩ := own_form9 h.op
 obtain ⟨ro, rc, rfl⟩ := IR.len h.tp
 rw [List.length_nil] at h
 obtain ⟨so, sc, rfl⟩ := own_form9 h.os
 obtain ⟨C, hC⟩ : ∃ C, cs.length = C := ⟨_, rfl⟩
 rw [hC] at hc h ⊢
 have HC := Lib.hid hC
 obtain ⟨T, hT⟩ : ∃ T, w.alloc (.cells #[.int .i64 (k : Int), .string ⟨s.toArray⟩, .string ⟨t.toArray⟩, .string ⟨u.toArray⟩, .int .i64 (n : Int), .int .i64 (p : Int), .slice la ll lc, .slice ma ml mc] 41) = T := ⟨_, rfl⟩
 have hbx : T.heap[w.heap.size]? = some (.cells #[.int .i64 (k : Int), .string ⟨s.toArray⟩, .string ⟨t.toArray⟩, .string ⟨u.toArray⟩, .int .i64 (n : Int), .int .i64 (p : Int), .slice la ll lc, .slice ma ml mc] 41 (0, 0)) := by rw [← hT]; exact heap_alloc_new _ _
 have hbT : Below w.heap.size w T := by rw [← hT]; exact (Below.refl _ _).alloc (Nat.le_refl _) _
 have hlt := h.lt
 have hPX := h.below hbT
 have hBw := h.bsz
 have bx := fun i v (hv : (#[.int .i64 (k : Int), .string ⟨s.toArray⟩, .string ⟨t.toArray⟩, .string ⟨u.toArray⟩, .int .i64 (n : Int), .int .i64 (p : Int), .slice la ll lc, .slice ma ml mc] : Array Value)[i]? = some v) => (cell_of_row T w.heap.size i _ _ _ hbx).trans hv
 have g1 := hPX.rb.c1
 have g3 := hPX.rb.c3
 have HBX := Lib.hid hbx
 have HBT := Lib.hid hbT
 have HLT := Lib.hid hlt
 have HPX := Lib.hid hPX
 clear hbx hbT hlt hPX bx h
 show Calls Tryz.prog 64 #[.pointer (some ⟨g, 0, none⟩), .agg #[.int .i64 (k : Int), .string ⟨s.toArray⟩, .string ⟨t.toArray⟩, .string ⟨u.toArray⟩, .int .i64 (n : Int), .int .i64 (p : Int), .slice la ll lc, .slice ma ml mc]] w _
 go_enter Tryz.func64, Tryz.ntmps64
 go_upto_region 8 with fail
 go_cut [4] from 37 to 50 (fun s4 wx => (∃ tv2 , PX wx B g b q lv (.slice oo 0 oc) (.slice so C sc) tv2 md a f ts [] [⟨⟨k, s, t, u, n, p, pl, pm⟩, .slice la ll lc, .slice ma ml mc, els⟩] cs (top ++ [C])) ∧ Below B w wx ∧ wx.heap[w.heap.size]? = some (.cells #[.int .i64 (k : Int), .string ⟨s.toArray⟩, .string ⟨t.toArray⟩, .string ⟨u.toArray⟩, .int .i64 (n : Int), .int .i64 (p : Int), .slice la ll lc, .slice ma ml mc] 41 (0, 0)))
 case first =>
  have hbD : Below w.heap.size w T.drew := below_drew HBT.out
  have hD := HPX.out.below (below_drew (Below.refl T.heap.size T))
  have hbxD : T.drew.heap[w.heap.size]? = _ := HBX.out
  have hs0 : T.drew.cell? ⟨g, 3, none⟩ = some (.slice so C sc) := hD.rb.c3
  refine wp_region_held_drew (S := fun w' => w'.cell? ⟨g, 3, none⟩ = some (.slice so C sc)) (by kernel_rfl) hs0 (fun hH => ?_)
  generalize T.drew = wd at *
  obtain ⟨wa, hwa⟩ : ∃ wa, wd.alloc (.cells #[.int .i64 (C : Int)] 3) = wa := ⟨_, rfl⟩
  have hba : Below wd.heap.size wd wa := by rw [← hwa]; exact (Below.refl _ _).alloc (Nat.le_refl _) _
  have hna : wa.heap[wd.heap.size]? = some (.cells #[.int .i64 (C : Int)] 3 (0, 0)) := by rw [← hwa]; exact heap_alloc_new _ _
  have hA := hD.below hba
  have hbxA : wa.heap[w.heap.size]? = _ := (hba.block _ (Array.getElem?_eq_some_iff.1 hbxD).1).trans hbxD
  have hbA : Below w.heap.size w wa := hbD.trans (hba.mono hbD.size)
  have hsA : wa.cell? ⟨g, 3, none⟩ = some (.slice so C sc) := hA.rb.c3
  have e4 := hD.rb.c4
  have e4a := hA.rb.c4
  have HA := Lib.hid hA
  have HSA := Lib.hid hsA
  have HBA := Lib.hid hbA
  have HBXA := Lib.hid hbxA
  have HNA := Lib.hid hna
  have HBD := Lib.hid hbD
  clear hA hsA hbA hbxA hna hba hbD hD hbxD hs0
  refine heldTk (i := 0) (v := ?_) (fun w hSw => ?_) ?_; rotate_left; focus ((try dsimp only at hSw); go_simp; try with_reducible rfl)
  try simp only [Act.put, zLa, zLb, zLc]
  refine heldTk (i := 1) (v := ?_) (fun w hSw => ?_) ?_; rotate_left; focus ((try dsimp only at hSw); go_simp; try with_reducible rfl)
  try simp only [Act.put, zLa, zLb, zLc]
  refine heldTk (i := 2) (v := ?_) (fun w hSw => ?_) ?_; rotate_left; focus ((try dsimp only at hSw); go_simp; try with_reducible rfl)
  try simp only [Act.put, zLa, zLb, zLc]
  refine heldTk (i := 4) (v := ?_) (fun w hSw => ?_) ?_; rotate_left; focus ((try dsimp only at hSw); go_simp; try with_reducible rfl)
  try simp only [Act.put, zLa, zLb, zLc]
  refine heldTk (i := 5) (v := ?_) (fun w hSw => ?_) ?_; rotate_left; focus ((try dsimp only at hSw); go_simp; try with_reducible rfl)
  try simp only [Act.put, zLa, zLb, zLc]
  refine heldTk (i := 6) (v := ?_) (fun w hSw => ?_) ?_; rotate_left; focus ((try dsimp only at hSw); go_simp; try with_reducible rfl)
  try simp only [Act.put, zLa, zLb, zLc]
  refine heldTk (i := 7) (v := ?_) (fun w hSw => ?_) ?_; rotate_left; focus ((try dsimp only at hSw); go_simp; try with_reducible rfl)
  try simp only [Act.put, zLa, zLb, zLc]
  refine heldTk (i := 8) (v := ?_) (fun w hSw => ?_) ?_; rotate_left; focus ((try dsimp only at hSw); go_simp; try with_reducible rfl)
  try simp only [Act.put, zLa, zLb, zLc]
  refine heldTk (i := 9) (v := ?_) (fun w hSw => ?_) ?_; rotate_left; focus ((try dsimp only at hSw); go_simp; try with_reducible rfl)
  try simp only [Act.put, zLa, zLb, zLc]
  refine heldTwo (i := 3) (j := 10) rfl rfl (by kernel_rfl) (by rfl) (by rfl) (fun K hK => ?_) (fun K hK => ?_)
  ·go_simp; refine hK.out _ _ (by assumption) ?_; clear hK K
   try simp only [Act.put, zLa, zLb, zLc]
   refine heldNext (i := 10) rfl (by kernel_rfl) (by rfl) (fun K hK => ?_)
   go_simp; refine hK.out _ _ HSA.out ?_; clear hK K
   try simp only [Act.put, zLa, zLb, zLc]
   refine heldNext (i := 11) rfl (by kernel_rfl) (by rfl) (fun K hK => ?_)
   refine append_n C (.tmp 40) (.tmp 47) (by rfl) (by rfl) (HA.out.tp) (by rfl) HNA.out (by assumption) HA.out.bsz (fun g2 c2 w2 ho hg hgg => ?_)
   obtain ⟨q1, q2⟩ := HA.out.growTop hg ho rfl hgg
   have hr2 := HA.out.rb_grown (i := .t) hg rfl (by simp)
   have e4 := hr2.c4
   have ef := hr2.fr 4
   have e3 := hr2.c3
   refine hK.out _ _ e3 ?_; clear hK K
   try simp only [Act.put, zLa, zLb, zLc]
   refine heldTk (i := 12) (v := ?_) (fun w hSw => ?_) ?_; rotate_left; focus ((try dsimp only at hSw); go_simp; try with_reducible rfl)
   try simp only [Act.put, zLa, zLb, zLc]
   refine heldNext (i := 13) rfl (by kernel_rfl) (by rfl) (fun K hK => ?_)
   go_simp; refine hK.out _ _ q1.rb.c3 ?_; clear hK K
   try simp only [Act.put, zLa, zLb, zLc]
   refine wpAnyH_done (by kernel_rfl) ?_ _
   simp only [Exit.then]
   go_step
   go_meet
   exact ⟨⟨_, q1⟩, (HBA.out.mono hBw).trans q2, (Below.heap_setCell _ _ _ _ (fun e => by have := (HLT.out .g g rfl).2; simp at e; omega)).trans ((hg.block _ (Array.getElem?_eq_some_iff.1 HBXA.out).1 (fun e => by have := (HLT.out .t _ e.symm).2; omega)).trans HBXA.out)⟩
  ·go_simp; refine hK.out _ _ HSA.out ?_; clear hK K
   try simp only [Act.put, zLa, zLb, zLc]
   refine heldNext (i := 3) rfl (by kernel_rfl) (by rfl) (fun K hK => ?_)
   go_simp; refine hK.out _ _ (by assumption) ?_; clear hK K
   try simp only [Act.put, zLa, zLb, zLc]
   refine heldNext (i := 11) rfl (by kernel_rfl) (by rfl) (fun K hK => ?_)
   refine append_n C (.tmp 40) (.tmp 47) (by rfl) (by rfl) (HA.out.tp) (by rfl) HNA.out (by assumption) HA.out.bsz (fun g2 c2 w2 ho hg hgg => ?_)
   obtain ⟨q1, q2⟩ := HA.out.growTop hg ho rfl hgg
   have hr2 := HA.out.rb_grown (i := .t) hg rfl (by simp)
   have e4 := hr2.c4
   have ef := hr2.fr 4
   have e3 := hr2.c3
   refine hK.out _ _ e3 ?_; clear hK K
   try simp only [Act.put, zLa, zLb, zLc]
   refine heldTk (i := 12) (v := ?_) (fun w hSw => ?_) ?_; rotate_left; focus ((try dsimp only at hSw); go_simp; try with_reducible rfl)
   try simp only [Act.put, zLa, zLb, zLc]
   refine heldNext (i := 13) rfl (by kernel_rfl) (by rfl) (fun K hK => ?_)
   go_simp; refine hK.out _ _ q1.rb.c3 ?_; clear hK K
   try simp only [Act.put, zLa, zLb, zLc]
   refine wpAnyH_done (by kernel_rfl) ?_ _
   simp only [Exit.then]
   go_step
   go_meet
   exact ⟨⟨_, q1⟩, (HBA.out.mono hBw).trans q2, (Below.heap_setCell _ _ _ _ (fun e => by have := (HLT.out .g g rfl).2; simp at e; omega)).trans ((hg.block _ (Array.getElem?_eq_some_iff.1 HBXA.out).1 (fun e => by have := (HLT.out .t _ e.symm).2; omega)).trans HBXA.out)⟩
 case rest =>
  obtain ⟨⟨tv2, hP⟩, hB, hbx⟩ := hcut
  clear HPX HBT hT
  go_step
  have hD := hP.below (below_drew (Below.refl wc.heap.size wc))
  have hbD : Below B w wc.drew := below_drew hB
  have hbxD : wc.drew.heap[w.heap.size]? = _ := hbx
  have hs0 : wc.drew.cell? ⟨w.heap.size, 0, none⟩ = some (.int .i64 (k : Int)) ∧ wc.drew.cell? ⟨w.heap.size, 1, none⟩ = some (.string ⟨s.toArray⟩) ∧ wc.drew.cell? ⟨w.heap.size, 2, none⟩ = some (.string ⟨t.toArray⟩) ∧ wc.drew.cell? ⟨w.heap.size, 3, none⟩ = some (.string ⟨u.toArray⟩) ∧ wc.drew.cell? ⟨w.heap.size, 4, none⟩ = some (.int .i64 (n : Int)) ∧ wc.drew.cell? ⟨w.heap.size, 5, none⟩ = some (.int .i64 (p : Int)) ∧ wc.drew.cell? ⟨w.heap.size, 6, none⟩ = some (.slice la ll lc) ∧ wc.drew.cell? ⟨w.heap.size, 7, none⟩ = some (.slice ma ml mc) := ⟨(cell_of_row _ _ 0 _ _ _ hbxD).trans rfl, (cell_of_row _ _ 1 _ _ _ hbxD).trans rfl, (cell_of_row _ _ 2 _ _ _ hbxD).trans rfl, (cell_of_row _ _ 3 _ _ _ hbxD).trans rfl, (cell_of_row _ _ 4 _ _ _ hbxD).trans rfl, (cell_of_row _ _ 5 _ _ _ hbxD).trans rfl, (cell_of_row _ _ 6 _ _ _ hbxD).trans rfl, (cell_of_row _ _ 7 _ _ _ hbxD).trans rfl⟩
  refine wp_region_held_drew (S := fun w' => w'.cell? ⟨w.heap.size, 0, none⟩ = some (.int .i64 (k : Int)) ∧ w'.cell? ⟨w.heap.size, 1, none⟩ = some (.string ⟨s.toArray⟩) ∧ w'.cell? ⟨w.heap.size, 2, none⟩ = some (.string ⟨t.toArray⟩) ∧ w'.cell? ⟨w.heap.size, 3, none⟩ = some (.string ⟨u.toArray⟩) ∧ w'.cell? ⟨w.heap.size, 4, none⟩ = some (.int .i64 (n : Int)) ∧ w'.cell? ⟨w.heap.size, 5, none⟩ = some (.int .i64 (p : Int)) ∧ w'.cell? ⟨w.heap.size, 6, none⟩ = some (.slice la ll lc) ∧ w'.cell? ⟨w.heap.size, 7, none⟩ = some (.slice ma ml mc)) (by kernel_rfl) hs0 (fun hH => ?_)
  generalize wc.drew = wd at *
  obtain ⟨wa, hwa⟩ : ∃ wa, wd.alloc (.cells #[.int .i64 (k : Int), .string ⟨s.toArray⟩, .string ⟨t.toArray⟩, .string ⟨u.toArray⟩, .int .i64 (n : Int), .int .i64 (p : Int), .slice la ll lc, .slice ma ml mc] 41) = wa := ⟨_, rfl⟩
  have hba : Below wd.heap.size wd wa := by rw [← hwa]; exact (Below.refl _ _).alloc (Nat.le_refl _) _
  have hna : wa.heap[wd.heap.size]? = some (.cells #[.int .i64 (k : Int), .string ⟨s.toArray⟩, .string ⟨t.toArray⟩, .string ⟨u.toArray⟩, .int .i64 (n : Int), .int .i64 (p : Int), .slice la ll lc, .slice ma ml mc] 41 (0, 0)) := by rw [← hwa]; exact heap_alloc_new _ _
  have hA := hD.below hba
  have hbxA : wa.heap[w.heap.size]? = _ := (hba.block _ (Array.getElem?_eq_some_iff.1 hbxD).1).trans hbxD
  have hbA : Below B w wa := hbD.trans (hba.mono hD.bsz)
  have hsA : wa.cell? ⟨w.heap.size, 0, none⟩ = some (.int .i64 (k : Int)) ∧ wa.cell? ⟨w.heap.size, 1, none⟩ = some (.string ⟨s.toArray⟩) ∧ wa.cell? ⟨w.heap.size, 2, none⟩ = some (.string ⟨t.toArray⟩) ∧ wa.cell? ⟨w.heap.size, 3, none⟩ = some (.string ⟨u.toArray⟩) ∧ wa.cell? ⟨w.heap.size, 4, none⟩ = some (.int .i64 (n : Int)) ∧ wa.cell? ⟨w.heap.size, 5, none⟩ = some (.int .i64 (p : Int)) ∧ wa.cell? ⟨w.heap.size, 6, none⟩ = some (.slice la ll lc) ∧ wa.cell? ⟨w.heap.size, 7, none⟩ = some (.slice ma ml mc) := ⟨(cell_of_row _ _ 0 _ _ _ hbxA).trans rfl, (cell_of_row _ _ 1 _ _ _ hbxA).trans rfl, (cell_of_row _ _ 2 _ _ _ hbxA).trans rfl, (cell_of_row _ _ 3 _ _ _ hbxA).trans rfl, (cell_of_row _ _ 4 _ _ _ hbxA).trans rfl, (cell_of_row _ _ 5 _ _ _ hbxA).trans rfl, (cell_of_row _ _ 6 _ _ _ hbxA).trans rfl, (cell_of_row _ _ 7 _ _ _ hbxA).trans rfl⟩
  have e3 := hD.rb.c3
  have e3a := hA.rb.c3
  have HA := Lib.hid hA
  have HSA := Lib.hid hsA
  have HBA := Lib.hid hbA
  have HBXA := Lib.hid hbxA
  have HNA := Lib.hid hna
  have hBl := fun k (hk : (Value.slice so C sc).ownBlock = some k) => (HLT.out .s k hk).2
  have HBL := Lib.hid hBl
  clear hBl hA hsA hbA hbxA hna hba hbD hD hbxD hs0 hbx hB hP
  refine heldTk (i := 0) (v := ?_) (fun w hSw => ?_) ?_; rotate_left; focus ((try dsimp only at hSw); go_simp; try with_reducible rfl)
  try simp only [Act.put, zLa, zLb, zLc]
  refine heldTk (i := 1) (v := ?_) (fun w hSw => ?_) ?_; rotate_left; focus ((try dsimp only at hSw); go_simp; try with_reducible rfl)
  try simp only [Act.put, zLa, zLb, zLc]
  refine heldTk (i := 2) (v := ?_) (fun w hSw => ?_) ?_; rotate_left; focus ((try dsimp only at hSw); go_simp; try with_reducible rfl)
  try simp only [Act.put, zLa, zLb, zLc]
  refine heldTk (i := 3) (v := ?_) (fun w hSw => ?_) ?_; rotate_left; focus ((try dsimp only at hSw); go_simp; try with_reducible rfl)
  try simp only [Act.put, zLa, zLb, zLc]
  refine heldTk (i := 4) (v := ?_) (fun w hSw => ?_) ?_; rotate_left; focus ((try dsimp only at hSw); go_simp; try with_reducible rfl)
  try simp only [Act.put, zLa, zLb, zLc]
  refine heldTk (i := 6) (v := ?_) (fun w hSw => ?_) ?_; rotate_left; focus ((try dsimp only at hSw); go_simp; try with_reducible rfl)
  try simp only [Act.put, zLa, zLb, zLc]
  refine heldTwo (i := 5) (j := 7) rfl rfl (by kernel_rfl) (by rfl) (by rfl) (fun K hK => ?_) (fun K hK => ?_)
  ·go_simp; refine hK.out _ _ (by assumption) ?_; clear hK K
   try simp only [Act.put, zLa, zLb, zLc]
   refine heldNext (i := 7) rfl (by kernel_rfl) (by rfl) (fun K hK => ?_)
   go_simp; refine hK.out _ _ HSA.out ?_; clear hK K
   try simp only [Act.put, zLa, zLb, zLc]
   refine heldNext (i := 8) rfl (by kernel_rfl) (by rfl) (fun K hK => ?_)
   refine append_s ⟨⟨k, s, t, u, n, p, pl, pm⟩, .slice la ll lc, .slice ma ml mc⟩ (.tmp 55) (.tmp 57) (by rfl) (by rfl) (by first | exact HA.out.os | (have := HA.out.os; rw [HC.out] at this; rw [HC.out]; exact this)) (by rfl) HNA.out rfl rfl (by rw [HC.out]; exact hc) HA.out.bsz (fun g2 c2 w2 ho hg hgg => ?_)
   obtain ⟨q1, q2⟩ := HA.out.growSt hg ho rfl hgg
   have hr2 := HA.out.rb_grown (i := .s) hg rfl (by simp)
   have f3 := hr2.c3
   have ff := hr2.fr 3
   have hx2 : w2.heap[w.heap.size]? = _ := (hg.block _ (Array.getElem?_eq_some_iff.1 HBXA.out).1 (fun e => by have := HBL.out _ e.symm; omega)).trans HBXA.out
   have hs2 : w2.cell? ⟨w.heap.size, 0, none⟩ = some (.int .i64 (k : Int)) ∧ w2.cell? ⟨w.heap.size, 1, none⟩ = some (.string ⟨s.toArray⟩) ∧ w2.cell? ⟨w.heap.size, 2, none⟩ = some (.string ⟨t.toArray⟩) ∧ w2.cell? ⟨w.heap.size, 3, none⟩ = some (.string ⟨u.toArray⟩) ∧ w2.cell? ⟨w.heap.size, 4, none⟩ = some (.int .i64 (n : Int)) ∧ w2.cell? ⟨w.heap.size, 5, none⟩ = some (.int .i64 (p : Int)) ∧ w2.cell? ⟨w.heap.size, 6, none⟩ = some (.slice la ll lc) ∧ w2.cell? ⟨w.heap.size, 7, none⟩ = some (.slice ma ml mc) := ⟨(cell_of_row _ _ 0 _ _ _ hx2).trans rfl, (cell_of_row _ _ 1 _ _ _ hx2).trans rfl, (cell_of_row _ _ 2 _ _ _ hx2).trans rfl, (cell_of_row _ _ 3 _ _ _ hx2).trans rfl, (cell_of_row _ _ 4 _ _ _ hx2).trans rfl, (cell_of_row _ _ 5 _ _ _ hx2).trans rfl, (cell_of_row _ _ 6 _ _ _ hx2).trans rfl, (cell_of_row _ _ 7 _ _ _ hx2).trans rfl⟩
   rw [HC.out] at q1 q2
   obtain ⟨w3, hw3⟩ : ∃ w3, w2.setCell ⟨g, 3, none⟩ (.slice (some ⟨g2, 0, none⟩) (C + 1) c2) = w3 := ⟨_, rfl⟩
   rw [hw3] at q1 q2
   have hx3 : w3.heap[w.heap.size]? = _ := hw3 ▸ (Below.heap_setCell _ _ _ _ (fun e => by have := (HLT.out .g g rfl).2; simp at e; omega)).trans hx2
   have hs3 : w3.cell? ⟨w.heap.size, 0, none⟩ = some (.int .i64 (k : Int)) ∧ w3.cell? ⟨w.heap.size, 1, none⟩ = some (.string ⟨s.toArray⟩) ∧ w3.cell? ⟨w.heap.size, 2, none⟩ = some (.string ⟨t.toArray⟩) ∧ w3.cell? ⟨w.heap.size, 3, none⟩ = some (.string ⟨u.toArray⟩) ∧ w3.cell? ⟨w.heap.size, 4, none⟩ = some (.int .i64 (n : Int)) ∧ w3.cell? ⟨w.heap.size, 5, none⟩ = some (.int .i64 (p : Int)) ∧ w3.cell? ⟨w.heap.size, 6, none⟩ = some (.slice la ll lc) ∧ w3.cell? ⟨w.heap.size, 7, none⟩ = some (.slice ma ml mc) := ⟨(cell_of_row _ _ 0 _ _ _ hx3).trans rfl, (cell_of_row _ _ 1 _ _ _ hx3).trans rfl, (cell_of_row _ _ 2 _ _ _ hx3).trans rfl, (cell_of_row _ _ 3 _ _ _ hx3).trans rfl, (cell_of_row _ _ 4 _ _ _ hx3).trans rfl, (cell_of_row _ _ 5 _ _ _ hx3).trans rfl, (cell_of_row _ _ 6 _ _ _ hx3).trans rfl, (cell_of_row _ _ 7 _ _ _ hx3).trans rfl⟩
   clear hx2 hx3
   refine hK.out _ _ hs2 ?_; clear hK K
   try simp only [Act.put, zLa, zLb, zLc]
   refine heldTk (i := 9) (v := ?_) (fun w hSw => ?_) ?_; rotate_left; focus ((try dsimp only at hSw); go_simp; try with_reducible rfl)
   try simp only [Act.put, zLa, zLb, zLc]
   refine heldTk (i := 10) (v := ?_) (fun w hSw => ?_) ?_; rotate_left; focus ((try dsimp only at hSw); go_simp; try with_reducible rfl)
   try simp only [Act.put, zLa, zLb, zLc]
   refine heldTk (i := 11) (v := ?_) (fun w hSw => ?_) ?_; rotate_left; focus ((try dsimp only at hSw); go_simp; try with_reducible rfl)
   try simp only [Act.put, zLa, zLb, zLc]
   refine heldNext (i := 12) rfl (by kernel_rfl) (by rfl) (fun K hK => ?_)
   go_simp; refine hK.out _ _ hs3 ?_; clear hK K
   try simp only [Act.put, zLa, zLb, zLc]
   refine wpAnyH_done (by kernel_rfl) ?_ _
   go_wp2
   go_end0
   exact ⟨rfl, ⟨_, _, q1⟩, HBA.out.trans q2⟩
  ·go_simp; refine hK.out _ _ HSA.out ?_; clear hK K
   try simp only [Act.put, zLa, zLb, zLc]
   refine heldNext (i := 5) rfl (by kernel_rfl) (by rfl) (fun K hK => ?_)
   go_simp; refine hK.out _ _ (by assumption) ?_; clear hK K
   try simp only [Act.put, zLa, zLb, zLc]
   refine heldNext (i := 8) rfl (by kernel_rfl) (by rfl) (fun K hK => ?_)
   refine append_s ⟨⟨k, s, t, u, n, p, pl, pm⟩, .slice la ll lc, .slice ma ml mc⟩ (.tmp 55) (.tmp 57) (by rfl) (by rfl) (by first | exact HA.out.os | (have := HA.out.os; rw [HC.out] at this; rw [HC.out]; exact this)) (by rfl) HNA.out rfl rfl (by rw [HC.out]; exact hc) HA.out.bsz (fun g2 c2 w2 ho hg hgg => ?_)
   obtain ⟨q1, q2⟩ := HA.out.growSt hg ho rfl hgg
   have hr2 := HA.out.rb_grown (i := .s) hg rfl (by simp)
   have f3 := hr2.c3
   have ff := hr2.fr 3
   have hx2 : w2.heap[w.heap.size]? = _ := (hg.block _ (Array.getElem?_eq_some_iff.1 HBXA.out).1 (fun e => by have := HBL.out _ e.symm; omega)).trans HBXA.out
   have hs2 : w2.cell? ⟨w.heap.size, 0, none⟩ = some (.int .i64 (k : Int)) ∧ w2.cell? ⟨w.heap.size, 1, none⟩ = some (.string ⟨s.toArray⟩) ∧ w2.cell? ⟨w.heap.size, 2, none⟩ = some (.string ⟨t.toArray⟩) ∧ w2.cell? ⟨w.heap.size, 3, none⟩ = some (.string ⟨u.toArray⟩) ∧ w2.cell? ⟨w.heap.size, 4, none⟩ = some (.int .i64 (n : Int)) ∧ w2.cell? ⟨w.heap.size, 5, none⟩ = some (.int .i64 (p : Int)) ∧ w2.cell? ⟨w.heap.size, 6, none⟩ = some (.slice la ll lc) ∧ w2.cell? ⟨w.heap.size, 7, none⟩ = some (.slice ma ml mc) := ⟨(cell_of_row _ _ 0 _ _ _ hx2).trans rfl, (cell_of_row _ _ 1 _ _ _ hx2).trans rfl, (cell_of_row _ _ 2 _ _ _ hx2).trans rfl, (cell_of_row _ _ 3 _ _ _ hx2).trans rfl, (cell_of_row _ _ 4 _ _ _ hx2).trans rfl, (cell_of_row _ _ 5 _ _ _ hx2).trans rfl, (cell_of_row _ _ 6 _ _ _ hx2).trans rfl, (cell_of_row _ _ 7 _ _ _ hx2).trans rfl⟩
   rw [HC.out] at q1 q2
   obtain ⟨w3, hw3⟩ : ∃ w3, w2.setCell ⟨g, 3, none⟩ (.slice (some ⟨g2, 0, none⟩) (C + 1) c2) = w3 := ⟨_, rfl⟩
   rw [hw3] at q1 q2
   have hx3 : w3.heap[w.heap.size]? = _ := hw3 ▸ (Below.heap_setCell _ _ _ _ (fun e => by have := (HLT.out .g g rfl).2; simp at e; omega)).trans hx2
   have hs3 : w3.cell? ⟨w.heap.size, 0, none⟩ = some (.int .i64 (k : Int)) ∧ w3.cell? ⟨w.heap.size, 1, none⟩ = some (.string ⟨s.toArray⟩) ∧ w3.cell? ⟨w.heap.size, 2, none⟩ = some (.string ⟨t.toArray⟩) ∧ w3.cell? ⟨w.heap.size, 3, none⟩ = some (.string ⟨u.toArray⟩) ∧ w3.cell? ⟨w.heap.size, 4, none⟩ = some (.int .i64 (n : Int)) ∧ w3.cell? ⟨w.heap.size, 5, none⟩ = some (.int .i64 (p : Int)) ∧ w3.cell? ⟨w.heap.size, 6, none⟩ = some (.slice la ll lc) ∧ w3.cell? ⟨w.heap.size, 7, none⟩ = some (.slice ma ml mc) := ⟨(cell_of_row _ _ 0 _ _ _ hx3).trans rfl, (cell_of_row _ _ 1 _ _ _ hx3).trans rfl, (cell_of_row _ _ 2 _ _ _ hx3).trans rfl, (cell_of_row _ _ 3 _ _ _ hx3).trans rfl, (cell_of_row _ _ 4 _ _ _ hx3).trans rfl, (cell_of_row _ _ 5 _ _ _ hx3).trans rfl, (cell_of_row _ _ 6 _ _ _ hx3).trans rfl, (cell_of_row _ _ 7 _ _ _ hx3).trans rfl⟩
   clear hx2 hx3
   refine hK.out _ _ hs2 ?_; clear hK K
   try simp only [Act.put, zLa, zLb, zLc]
   refine heldTk (i := 9) (v := ?_) (fun w hSw => ?_) ?_; rotate_left; focus ((try dsimp only at hSw); go_simp; try with_reducible rfl)
   try simp only [Act.put, zLa, zLb, zLc]
   refine heldTk (i := 10) (v := ?_) (fun w hSw => ?_) ?_; rotate_left; focus ((try dsimp only at hSw); go_simp; try with_reducible rfl)
   try simp only [Act.put, zLa, zLb, zLc]
   refine heldTk (i := 11) (v := ?_) (fun w hSw => ?_) ?_; rotate_left; focus ((try dsimp only at hSw); go_simp; try with_reducible rfl)
   try simp only [Act.put, zLa, zLb, zLc]
   refine heldNext (i := 12) rfl (by kernel_rfl) (by rfl) (fun K hK => ?_)
   go_simp; refine hK.out _ _ hs3 ?_; clear hK K
   try simp only [Act.put, zLa, zLb, zLc]
   refine wpAnyH_done (by kernel_rfl) ?_ _
   go_wp2
   go_end0
   exact ⟨rfl, ⟨_, _, q1⟩, HBA.out.trans q2⟩
set_option maxRecDepth 20000 in
set_option maxHeartbeats 4000000 in
theorem put_l {B g b q md a f : Nat} {lv ov sv' tv : Value} {ts : List Lx.Tok} {hs : List HA} {cs : List SA} {top : List Nat} (y : HA) (x : HA) (w : World) (h : PX w B g b q lv ov sv' tv md a f ts (hs ++ [y]) [x] cs top) (hy : y.els = false) (hn : hs.length ≤ 1048576) (hc : cs.length ≤ 1048576) (htop : y.st.l.length ≤ 1048576) :
  Calls Tryz.prog 64 #[.pointer (some ⟨g, 0, none⟩), .agg (stCells x.sa).toArray] w fun e w' => e = .returned (.tuple #[]) ∧ (∃ sv2 v2 , PX w' B g b q lv ov sv2 tv md a f ts (hs ++ [⟨{ y.st with l := y.st.l ++ [cs.length] }, v2, y.m, y.els⟩]) [] (cs ++ [x.sa]) top) ∧ Below B w w' := by
 obtain ⟨i1, i2⟩ := h.hl x (by simp)
 obtain ⟨st, xl, xm, els⟩ := x
 obtain ⟨la, ll, lc, hl1⟩ := i1.form3
 obtain ⟨ma, ml, mc, hm1⟩ := i2.form3
 dsimp only at hl1 hm1
 subst hl1 hm1
 obtain ⟨k, s, t, u, n, p, pl, pm⟩ := st
 clear i1 i2
 obtain ⟨j1, j2⟩ := h.hl y (by simp)
 obtain ⟨yst, y1, y2, yels⟩ := y
 dsimp only at hy htop j1 j2 ⊢
 subst hy
 obtain ⟨ro, rc, rfl⟩ := IR.len j1
 obtain ⟨yo, yl, yc, rfl⟩ := j2.form3
 clear j1 j2
 obtain ⟨og, oc, rfl, hoc, _⟩ := h.form
 obtain ⟨so, sc, rfl⟩ := own_form9 h.os
 obtain ⟨C, hC⟩ : ∃ C, cs.length = C := ⟨_, rfl⟩
 rw [hC] at hc h ⊢
 have HC := Lib.hid hC
 obtain ⟨T, hT⟩ : ∃ T, w.alloc (.cells #[.int .i64 (k : Int), .string ⟨s.toArray⟩, .string ⟨t.toArray⟩, .string ⟨u.toArray⟩, .int .i64 (n : Int), .int .i64 (p : Int), .slice la ll lc, .slice ma ml mc] 41) = T := ⟨_, rfl⟩
 have hbx : T.heap[w.heap.size]? = some (.cells #[.int .i64 (k : Int), .string ⟨s.toArray⟩, .string ⟨t.toArray⟩, .string ⟨u.toArray⟩, .int .i64 (n : Int), .int .i64 (p : Int), .slice la ll lc, .slice ma ml mc] 41 (0, 0)) := by rw [← hT]; exact heap_alloc_new _ _
 have hbT : Below w.heap.size w T := by rw [← hT]; exact (Below.refl _ _).alloc (Nat.le_refl _) _
 have hlt := h.lt
 have hPX := h.below hbT
 have hBw := h.bsz
 have bx := fun i v (hv : (#[.int .i64 (k : Int), .string ⟨s.toArray⟩, .string ⟨t.toArray⟩, .string ⟨u.toArray⟩, .int .i64 (n : Int), .int .i64 (p : Int), .slice la ll lc, .slice ma ml mc] : Array Value)[i]? = some v) => (cell_of_row T w.heap.size i _ _ _ hbx).trans hv
 have g1 := hPX.rb.c1
 have g3 := hPX.rb.c3
 have g8 := (hPX.last 8 _ rfl).1
 have n1 : ((hs.length + 1 : Nat) : Int) - 1 = (hs.length : Int) := by omega
 have n2 : (hs.length : Int) + 1 - 1 = (hs.length : Int) := by omega
 have n3 : (hs.length : Int) < (hs.length : Int) + 1 := by omega
 have n4 : (0 : Int) < (hs.length : Int) + 1 := by omega
 have HBX := Lib.hid hbx
 have HBT := Lib.hid hbT
 have HLT := Lib.hid hlt
 have HPX := Lib.hid hPX
 clear hbx hbT hlt hPX bx h
 show Calls Tryz.prog 64 #[.pointer (some ⟨g, 0, none⟩), .agg #[.int .i64 (k : Int), .string ⟨s.toArray⟩, .string ⟨t.toArray⟩, .string ⟨u.toArray⟩, .int .i64 (n : Int), .int .i64 (p : Int), .slice la ll lc, .slice ma ml mc]] w _
 go_enter Tryz.func64, Tryz.ntmps64
 go_upto_region 8 with fail
 go_cut [4] from 37 to 50 (fun s4 wx => (∃ v2 , PX wx B g b q lv (.slice (some ⟨og, 0, none⟩) (hs.length + 1) oc) (.slice so C sc) tv md a f ts (hs ++ [⟨{ yst with l := yst.l ++ [C] }, v2, .slice yo yl yc, false⟩]) [⟨⟨k, s, t, u, n, p, pl, pm⟩, .slice la ll lc, .slice ma ml mc, els⟩] cs top) ∧ Below B w wx ∧ wx.heap[w.heap.size]? = some (.cells #[.int .i64 (k : Int), .string ⟨s.toArray⟩, .string ⟨t.toArray⟩, .string ⟨u.toArray⟩, .int .i64 (n : Int), .int .i64 (p : Int), .slice la ll lc, .slice ma ml mc] 41 (0, 0)))
 case first =>
  have hbD : Below w.heap.size w T.drew := below_drew HBT.out
  have hD := HPX.out.below (below_drew (Below.refl T.heap.size T))
  have hbxD : T.drew.heap[w.heap.size]? = _ := HBX.out
  have hs0 : T.drew.cell? ⟨g, 3, none⟩ = some (.slice so C sc) := hD.rb.c3
  refine wp_region_held_drew (S := fun w' => w'.cell? ⟨g, 3, none⟩ = some (.slice so C sc)) (by kernel_rfl) hs0 (fun hH => ?_)
  generalize T.drew = wd at *
  obtain ⟨wa, hwa⟩ : ∃ wa, wd.alloc (.cells #[.int .i64 (C : Int)] 3) = wa := ⟨_, rfl⟩
  have hba : Below wd.heap.size wd wa := by rw [← hwa]; exact (Below.refl _ _).alloc (Nat.le_refl _) _
  have hna : wa.heap[wd.heap.size]? = some (.cells #[.int .i64 (C : Int)] 3 (0, 0)) := by rw [← hwa]; exact heap_alloc_new _ _
  have hA := hD.below hba
  have hbxA : wa.heap[w.heap.size]? = _ := (hba.block _ (Array.getElem?_eq_some_iff.1 hbxD).1).trans hbxD
  have hbA : Below w.heap.size w wa := hbD.trans (hba.mono hbD.size)
  have hsA : wa.cell? ⟨g, 3, none⟩ = some (.slice so C sc) := hA.rb.c3
  have e4 := (hD.last 6 _ rfl).1
  have e4a := (hA.last 6 _ rfl).1
  have HA := Lib.hid hA
  have HSA := Lib.hid hsA
  have HBA := Lib.hid hbA
  have HBXA := Lib.hid hbxA
  have HNA := Lib.hid hna
  have HBD := Lib.hid hbD
  clear hA hsA hbA hbxA hna hba hbD hD hbxD hs0
  refine heldTk (i := 0) (v := ?_) (fun w hSw => ?_) ?_; rotate_left; focus ((try dsimp only at hSw); go_simp; try with_reducible rfl)
  try simp only [Act.put, zLa, zLb, zLc]
  refine heldTk (i := 1) (v := ?_) (fun w hSw => ?_) ?_; rotate_left; focus ((try dsimp only at hSw); go_simp; try with_reducible rfl)
  try simp only [Act.put, zLa, zLb, zLc]
  refine heldTk (i := 2) (v := ?_) (fun w hSw => ?_) ?_; rotate_left; focus ((try dsimp only at hSw); go_simp; try with_reducible rfl)
  try simp only [Act.put, zLa, zLb, zLc]
  refine heldTk (i := 4) (v := ?_) (fun w hSw => ?_) ?_; rotate_left; focus ((try dsimp only at hSw); go_simp; try with_reducible rfl)
  try simp only [Act.put, zLa, zLb, zLc]
  refine heldTk (i := 5) (v := ?_) (fun w hSw => ?_) ?_; rotate_left; focus ((try dsimp only at hSw); go_simp; try with_reducible rfl)
  try simp only [Act.put, zLa, zLb, zLc]
  refine heldTk (i := 6) (v := ?_) (fun w hSw => ?_) ?_; rotate_left; focus ((try dsimp only at hSw); go_simp; try with_reducible rfl)
  try simp only [Act.put, zLa, zLb, zLc]
  refine heldTk (i := 7) (v := ?_) (fun w hSw => ?_) ?_; rotate_left; focus ((try dsimp only at hSw); go_simp; try with_reducible rfl)
  try simp only [Act.put, zLa, zLb, zLc]
  refine heldTk (i := 8) (v := ?_) (fun w hSw => ?_) ?_; rotate_left; focus ((try dsimp only at hSw); go_simp; try with_reducible rfl)
  try simp only [Act.put, zLa, zLb, zLc]
  refine heldTk (i := 9) (v := ?_) (fun w hSw => ?_) ?_; rotate_left; focus ((try dsimp only at hSw); go_simp; try with_reducible rfl)
  try simp only [Act.put, zLa, zLb, zLc]
  refine heldTwo (i := 3) (j := 10) rfl rfl (by kernel_rfl) (by rfl) (by rfl) (fun K hK => ?_) (fun K hK => ?_)
  ·go_simp; refine hK.out _ _ (by assumption) ?_; clear hK K
   try simp only [Act.put, zLa, zLb, zLc]
   refine heldNext (i := 10) rfl (by kernel_rfl) (by rfl) (fun K hK => ?_)
   go_simp; refine hK.out _ _ HSA.out ?_; clear hK K
   try simp only [Act.put, zLa, zLb, zLc]
   refine heldNext (i := 11) rfl (by kernel_rfl) (by rfl) (fun K hK => ?_)
   refine append_n C (.tmp 40) (.tmp 47) (by rfl) (by rfl) ((HA.out.hl _ (List.mem_append.2 (.inl (List.mem_append.2 (.inr (List.mem_singleton.2 rfl)))))).1) (by rfl) HNA.out (by assumption) HA.out.bsz (fun g2 c2 w2 ho hg hgg => ?_)
   obtain ⟨q1, q2⟩ := HA.out.growL hg ho rfl hgg
   have hr2 := HA.out.rb_grown (i := .l hs.length) hg (by simp [bAt]) (by simp)
   obtain ⟨e4, ef⟩ := HA.out.last_grown (i := .l hs.length) hg (by simp [bAt]) (by simp) 6 _ rfl
   have e3 := hr2.c3
   refine hK.out _ _ e3 ?_; clear hK K
   try simp only [Act.put, zLa, zLb, zLc]
   refine heldTk (i := 12) (v := ?_) (fun w hSw => ?_) ?_; rotate_left; focus ((try dsimp only at hSw); go_simp; try with_reducible rfl)
   try simp only [Act.put, zLa, zLb, zLc]
   refine heldNext (i := 13) rfl (by kernel_rfl) (by rfl) (fun K hK => ?_)
   go_simp; refine hK.out _ _ q1.rb.c3 ?_; clear hK K
   try simp only [Act.put, zLa, zLb, zLc]
   refine wpAnyH_done (by kernel_rfl) ?_ _
   simp only [Exit.then]
   go_step
   go_meet
   exact ⟨⟨_, q1⟩, (HBA.out.mono hBw).trans q2, (Below.heap_setCell _ _ _ _ (fun e => by have := (HLT.out .o og rfl).2; simp at e; omega)).trans ((hg.block _ (Array.getElem?_eq_some_iff.1 HBXA.out).1 (fun e => by have := (HLT.out (.l hs.length) w.heap.size (by simp [bAt]; exact e.symm)).2; omega)).trans HBXA.out)⟩
  ·go_simp; refine hK.out _ _ HSA.out ?_; clear hK K
   try simp only [Act.put, zLa, zLb, zLc]
   refine heldNext (i := 3) rfl (by kernel_rfl) (by rfl) (fun K hK => ?_)
   go_simp; refine hK.out _ _ (by assumption) ?_; clear hK K
   try simp only [Act.put, zLa, zLb, zLc]
   refine heldNext (i := 11) rfl (by kernel_rfl) (by rfl) (fun K hK => ?_)
   refine append_n C (.tmp 40) (.tmp 47) (by rfl) (by rfl) ((HA.out.hl _ (List.mem_append.2 (.inl (List.mem_append.2 (.inr (List.mem_singleton.2 rfl)))))).1) (by rfl) HNA.out (by assumption) HA.out.bsz (fun g2 c2 w2 ho hg hgg => ?_)
   obtain ⟨q1, q2⟩ := HA.out.growL hg ho rfl hgg
   have hr2 := HA.out.rb_grown (i := .l hs.length) hg (by simp [bAt]) (by simp)
   obtain ⟨e4, ef⟩ := HA.out.last_grown (i := .l hs.length) hg (by simp [bAt]) (by simp) 6 _ rfl
   have e3 := hr2.c3
   refine hK.out _ _ e3 ?_; clear hK K
   try simp only [Act.put, zLa, zLb, zLc]
   refine heldTk (i := 12) (v := ?_) (fun w hSw => ?_) ?_; rotate_left; focus ((try dsimp only at hSw); go_simp; try with_reducible rfl)
   try simp only [Act.put, zLa, zLb, zLc]
   refine heldNext (i := 13) rfl (by kernel_rfl) (by rfl) (fun K hK => ?_)
   go_simp; refine hK.out _ _ q1.rb.c3 ?_; clear hK K
   try simp only [Act.put, zLa, zLb, zLc]
   refine wpAnyH_done (by kernel_rfl) ?_ _
   simp only [Exit.then]
   go_step
   go_meet
   exact ⟨⟨_, q1⟩, (HBA.out.mono hBw).trans q2, (Below.heap_setCell _ _ _ _ (fun e => by have := (HLT.out .o og rfl).2; simp at e; omega)).trans ((hg.block _ (Array.getElem?_eq_some_iff.1 HBXA.out).1 (fun e => by have := (HLT.out (.l hs.length) w.heap.size (by simp [bAt]; exact e.symm)).2; omega)).trans HBXA.out)⟩
 case rest =>
  obtain ⟨⟨v2, hP⟩, hB, hbx⟩ := hcut
  clear HPX HBT hT
  go_step
  have hD := hP.below (below_drew (Below.refl wc.heap.size wc))
  have hbD : Below B w wc.drew := below_drew hB
  have hbxD : wc.drew.heap[w.heap.size]? = _ := hbx
  have hs0 : wc.drew.cell? ⟨w.heap.size, 0, none⟩ = some (.int .i64 (k : Int)) ∧ wc.drew.cell? ⟨w.heap.size, 1, none⟩ = some (.string ⟨s.toArray⟩) ∧ wc.drew.cell? ⟨w.heap.size, 2, none⟩ = some (.string ⟨t.toArray⟩) ∧ wc.drew.cell? ⟨w.heap.size, 3, none⟩ = some (.string ⟨u.toArray⟩) ∧ wc.drew.cell? ⟨w.heap.size, 4, none⟩ = some (.int .i64 (n : Int)) ∧ wc.drew.cell? ⟨w.heap.size, 5, none⟩ = some (.int .i64 (p : Int)) ∧ wc.drew.cell? ⟨w.heap.size, 6, none⟩ = some (.slice la ll lc) ∧ wc.drew.cell? ⟨w.heap.size, 7, none⟩ = some (.slice ma ml mc) := ⟨(cell_of_row _ _ 0 _ _ _ hbxD).trans rfl, (cell_of_row _ _ 1 _ _ _ hbxD).trans rfl, (cell_of_row _ _ 2 _ _ _ hbxD).trans rfl, (cell_of_row _ _ 3 _ _ _ hbxD).trans rfl, (cell_of_row _ _ 4 _ _ _ hbxD).trans rfl, (cell_of_row _ _ 5 _ _ _ hbxD).trans rfl, (cell_of_row _ _ 6 _ _ _ hbxD).trans rfl, (cell_of_row _ _ 7 _ _ _ hbxD).trans rfl⟩
  refine wp_region_held_drew (S := fun w' => w'.cell? ⟨w.heap.size, 0, none⟩ = some (.int .i64 (k : Int)) ∧ w'.cell? ⟨w.heap.size, 1, none⟩ = some (.string ⟨s.toArray⟩) ∧ w'.cell? ⟨w.heap.size, 2, none⟩ = some (.string ⟨t.toArray⟩) ∧ w'.cell? ⟨w.heap.size, 3, none⟩ = some (.string ⟨u.toArray⟩) ∧ w'.cell? ⟨w.heap.size, 4, none⟩ = some (.int .i64 (n : Int)) ∧ w'.cell? ⟨w.heap.size, 5, none⟩ = some (.int .i64 (p : Int)) ∧ w'.cell? ⟨w.heap.size, 6, none⟩ = some (.slice la ll lc) ∧ w'.cell? ⟨w.heap.size, 7, none⟩ = some (.slice ma ml mc)) (by kernel_rfl) hs0 (fun hH => ?_)
  generalize wc.drew = wd at *
  obtain ⟨wa, hwa⟩ : ∃ wa, wd.alloc (.cells #[.int .i64 (k : Int), .string ⟨s.toArray⟩, .string ⟨t.toArray⟩, .string ⟨u.toArray⟩, .int .i64 (n : Int), .int .i64 (p : Int), .slice la ll lc, .slice ma ml mc] 41) = wa := ⟨_, rfl⟩
  have hba : Below wd.heap.size wd wa := by rw [← hwa]; exact (Below.refl _ _).alloc (Nat.le_refl _) _
  have hna : wa.heap[wd.heap.size]? = some (.cells #[.int .i64 (k : Int), .string ⟨s.toArray⟩, .string ⟨t.toArray⟩, .string ⟨u.toArray⟩, .int .i64 (n : Int), .int .i64 (p : Int), .slice la ll lc, .slice ma ml mc] 41 (0, 0)) := by rw [← hwa]; exact heap_alloc_new _ _
  have hA := hD.below hba
  have hbxA : wa.heap[w.heap.size]? = _ := (hba.block _ (Array.getElem?_eq_some_iff.1 hbxD).1).trans hbxD
  have hbA : Below B w wa := hbD.trans (hba.mono hD.bsz)
  have hsA : wa.cell? ⟨w.heap.size, 0, none⟩ = some (.int .i64 (k : Int)) ∧ wa.cell? ⟨w.heap.size, 1, none⟩ = some (.string ⟨s.toArray⟩) ∧ wa.cell? ⟨w.heap.size, 2, none⟩ = some (.string ⟨t.toArray⟩) ∧ wa.cell? ⟨w.heap.size, 3, none⟩ = some (.string ⟨u.toArray⟩) ∧ wa.cell? ⟨w.heap.size, 4, none⟩ = some (.int .i64 (n : Int)) ∧ wa.cell? ⟨w.heap.size, 5, none⟩ = some (.int .i64 (p : Int)) ∧ wa.cell? ⟨w.heap.size, 6, none⟩ = some (.slice la ll lc) ∧ wa.cell? ⟨w.heap.size, 7, none⟩ = some (.slice ma ml mc) := ⟨(cell_of_row _ _ 0 _ _ _ hbxA).trans rfl, (cell_of_row _ _ 1 _ _ _ hbxA).trans rfl, (cell_of_row _ _ 2 _ _ _ hbxA).trans rfl, (cell_of_row _ _ 3 _ _ _ hbxA).trans rfl, (cell_of_row _ _ 4 _ _ _ hbxA).trans rfl, (cell_of_row _ _ 5 _ _ _ hbxA).trans rfl, (cell_of_row _ _ 6 _ _ _ hbxA).trans rfl, (cell_of_row _ _ 7 _ _ _ hbxA).trans rfl⟩
  have e3 := hD.rb.c3
  have e3a := hA.rb.c3
  have HA := Lib.hid hA
  have HSA := Lib.hid hsA
  have HBA := Lib.hid hbA
  have HBXA := Lib.hid hbxA
  have HNA := Lib.hid hna
  have hBl := fun k (hk : (Value.slice so C sc).ownBlock = some k) => (HLT.out .s k hk).2
  have HBL := Lib.hid hBl
  clear hBl hA hsA hbA hbxA hna hba hbD hD hbxD hs0 hbx hB hP
  refine heldTk (i := 0) (v := ?_) (fun w hSw => ?_) ?_; rotate_left; focus ((try dsimp only at hSw); go_simp; try with_reducible rfl)
  try simp only [Act.put, zLa, zLb, zLc]
  refine heldTk (i := 1) (v := ?_) (fun w hSw => ?_) ?_; rotate_left; focus ((try dsimp only at hSw); go_simp; try with_reducible rfl)
  try simp only [Act.put, zLa, zLb, zLc]
  refine heldTk (i := 2) (v := ?_) (fun w hSw => ?_) ?_; rotate_left; focus ((try dsimp only at hSw); go_simp; try with_reducible rfl)
  try simp only [Act.put, zLa, zLb, zLc]
  refine heldTk (i := 3) (v := ?_) (fun w hSw => ?_) ?_; rotate_left; focus ((try dsimp only at hSw); go_simp; try with_reducible rfl)
  try simp only [Act.put, zLa, zLb, zLc]
  refine heldTk (i := 4) (v := ?_) (fun w hSw => ?_) ?_; rotate_left; focus ((try dsimp only at hSw); go_simp; try with_reducible rfl)
  try simp only [Act.put, zLa, zLb, zLc]
  refine heldTk (i := 6) (v := ?_) (fun w hSw => ?_) ?_; rotate_left; focus ((try dsimp only at hSw); go_simp; try with_reducible rfl)
  try simp only [Act.put, zLa, zLb, zLc]
  refine heldTwo (i := 5) (j := 7) rfl rfl (by kernel_rfl) (by rfl) (by rfl) (fun K hK => ?_) (fun K hK => ?_)
  ·go_simp; refine hK.out _ _ (by assumption) ?_; clear hK K
   try simp only [Act.put, zLa, zLb, zLc]
   refine heldNext (i := 7) rfl (by kernel_rfl) (by rfl) (fun K hK => ?_)
   go_simp; refine hK.out _ _ HSA.out ?_; clear hK K
   try simp only [Act.put, zLa, zLb, zLc]
   refine heldNext (i := 8) rfl (by kernel_rfl) (by rfl) (fun K hK => ?_)
   refine append_s ⟨⟨k, s, t, u, n, p, pl, pm⟩, .slice la ll lc, .slice ma ml mc⟩ (.tmp 55) (.tmp 57) (by rfl) (by rfl) (by first | exact HA.out.os | (have := HA.out.os; rw [HC.out] at this; rw [HC.out]; exact this)) (by rfl) HNA.out rfl rfl (by rw [HC.out]; exact hc) HA.out.bsz (fun g2 c2 w2 ho hg hgg => ?_)
   obtain ⟨q1, q2⟩ := HA.out.growSt hg ho rfl hgg
   have hr2 := HA.out.rb_grown (i := .s) hg rfl (by simp)
   have f3 := hr2.c3
   have ff := hr2.fr 3
   have hx2 : w2.heap[w.heap.size]? = _ := (hg.block _ (Array.getElem?_eq_some_iff.1 HBXA.out).1 (fun e => by have := HBL.out _ e.symm; omega)).trans HBXA.out
   have hs2 : w2.cell? ⟨w.heap.size, 0, none⟩ = some (.int .i64 (k : Int)) ∧ w2.cell? ⟨w.heap.size, 1, none⟩ = some (.string ⟨s.toArray⟩) ∧ w2.cell? ⟨w.heap.size, 2, none⟩ = some (.string ⟨t.toArray⟩) ∧ w2.cell? ⟨w.heap.size, 3, none⟩ = some (.string ⟨u.toArray⟩) ∧ w2.cell? ⟨w.heap.size, 4, none⟩ = some (.int .i64 (n : Int)) ∧ w2.cell? ⟨w.heap.size, 5, none⟩ = some (.int .i64 (p : Int)) ∧ w2.cell? ⟨w.heap.size, 6, none⟩ = some (.slice la ll lc) ∧ w2.cell? ⟨w.heap.size, 7, none⟩ = some (.slice ma ml mc) := ⟨(cell_of_row _ _ 0 _ _ _ hx2).trans rfl, (cell_of_row _ _ 1 _ _ _ hx2).trans rfl, (cell_of_row _ _ 2 _ _ _ hx2).trans rfl, (cell_of_row _ _ 3 _ _ _ hx2).trans rfl, (cell_of_row _ _ 4 _ _ _ hx2).trans rfl, (cell_of_row _ _ 5 _ _ _ hx2).trans rfl, (cell_of_row _ _ 6 _ _ _ hx2).trans rfl, (cell_of_row _ _ 7 _ _ _ hx2).trans rfl⟩
   rw [HC.out] at q1 q2
   obtain ⟨w3, hw3⟩ : ∃ w3, w2.setCell ⟨g, 3, none⟩ (.slice (some ⟨g2, 0, none⟩) (C + 1) c2) = w3 := ⟨_, rfl⟩
   rw [hw3] at q1 q2
   have hx3 : w3.heap[w.heap.size]? = _ := hw3 ▸ (Below.heap_setCell _ _ _ _ (fun e => by have := (HLT.out .g g rfl).2; simp at e; omega)).trans hx2
   have hs3 : w3.cell? ⟨w.heap.size, 0, none⟩ = some (.int .i64 (k : Int)) ∧ w3.cell? ⟨w.heap.size, 1, none⟩ = some (.string ⟨s.toArray⟩) ∧ w3.cell? ⟨w.heap.size, 2, none⟩ = some (.string ⟨t.toArray⟩) ∧ w3.cell? ⟨w.heap.size, 3, none⟩ = some (.string ⟨u.toArray⟩) ∧ w3.cell? ⟨w.heap.size, 4, none⟩ = some (.int .i64 (n : Int)) ∧ w3.cell? ⟨w.heap.size, 5, none⟩ = some (.int .i64 (p : Int)) ∧ w3.cell? ⟨w.heap.size, 6, none⟩ = some (.slice la ll lc) ∧ w3.cell? ⟨w.heap.size, 7, none⟩ = some (.slice ma ml mc) := ⟨(cell_of_row _ _ 0 _ _ _ hx3).trans rfl, (cell_of_row _ _ 1 _ _ _ hx3).trans rfl, (cell_of_row _ _ 2 _ _ _ hx3).trans rfl, (cell_of_row _ _ 3 _ _ _ hx3).trans rfl, (cell_of_row _ _ 4 _ _ _ hx3).trans rfl, (cell_of_row _ _ 5 _ _ _ hx3).trans rfl, (cell_of_row _ _ 6 _ _ _ hx3).trans rfl, (cell_of_row _ _ 7 _ _ _ hx3).trans rfl⟩
   clear hx2 hx3
   refine hK.out _ _ hs2 ?_; clear hK K
   try simp only [Act.put, zLa, zLb, zLc]
   refine heldTk (i := 9) (v := ?_) (fun w hSw => ?_) ?_; rotate_left; focus ((try dsimp only at hSw); go_simp; try with_reducible rfl)
   try simp only [Act.put, zLa, zLb, zLc]
   refine heldTk (i := 10) (v := ?_) (fun w hSw => ?_) ?_; rotate_left; focus ((try dsimp only at hSw); go_simp; try with_reducible rfl)
   try simp only [Act.put, zLa, zLb, zLc]
   refine heldTk (i := 11) (v := ?_) (fun w hSw => ?_) ?_; rotate_left; focus ((try dsimp only at hSw); go_simp; try with_reducible rfl)
   try simp only [Act.put, zLa, zLb, zLc]
   refine heldNext (i := 12) rfl (by kernel_rfl) (by rfl) (fun K hK => ?_)
   go_simp; refine hK.out _ _ hs3 ?_; clear hK K
   try simp only [Act.put, zLa, zLb, zLc]
   refine wpAnyH_done (by kernel_rfl) ?_ _
   go_wp2
   go_end0
   exact ⟨rfl, ⟨_, _, q1⟩, HBA.out.trans q2⟩
  ·go_simp; refine hK.out _ _ HSA.out ?_; clear hK K
   try simp only [Act.put, zLa, zLb, zLc]
   refine heldNext (i := 5) rfl (by kernel_rfl) (by rfl) (fun K hK => ?_)
   go_simp; refine hK.out _ _ (by assumption) ?_; clear hK K
   try simp only [Act.put, zLa, zLb, zLc]
   refine heldNext (i := 8) rfl (by kernel_rfl) (by rfl) (fun K hK => ?_)
   refine append_s ⟨⟨k, s, t, u, n, p, pl, pm⟩, .slice la ll lc, .slice ma ml mc⟩ (.tmp 55) (.tmp 57) (by rfl) (by rfl) (by first | exact HA.out.os | (have := HA.out.os; rw [HC.out] at this; rw [HC.out]; exact this)) (by rfl) HNA.out rfl rfl (by rw [HC.out]; exact hc) HA.out.bsz (fun g2 c2 w2 ho hg hgg => ?_)
   obtain ⟨q1, q2⟩ := HA.out.growSt hg ho rfl hgg
   have hr2 := HA.out.rb_grown (i := .s) hg rfl (by simp)
   have f3 := hr2.c3
   have ff := hr2.fr 3
   have hx2 : w2.heap[w.heap.size]? = _ := (hg.block _ (Array.getElem?_eq_some_iff.1 HBXA.out).1 (fun e => by have := HBL.out _ e.symm; omega)).trans HBXA.out
   have hs2 : w2.cell? ⟨w.heap.size, 0, none⟩ = some (.int .i64 (k : Int)) ∧ w2.cell? ⟨w.heap.size, 1, none⟩ = some (.string ⟨s.toArray⟩) ∧ w2.cell? ⟨w.heap.size, 2, none⟩ = some (.string ⟨t.toArray⟩) ∧ w2.cell? ⟨w.heap.size, 3, none⟩ = some (.string ⟨u.toArray⟩) ∧ w2.cell? ⟨w.heap.size, 4, none⟩ = some (.int .i64 (n : Int)) ∧ w2.cell? ⟨w.heap.size, 5, none⟩ = some (.int .i64 (p : Int)) ∧ w2.cell? ⟨w.heap.size, 6, none⟩ = some (.slice la ll lc) ∧ w2.cell? ⟨w.heap.size, 7, none⟩ = some (.slice ma ml mc) := ⟨(cell_of_row _ _ 0 _ _ _ hx2).trans rfl, (cell_of_row _ _ 1 _ _ _ hx2).trans rfl, (cell_of_row _ _ 2 _ _ _ hx2).trans rfl, (cell_of_row _ _ 3 _ _ _ hx2).trans rfl, (cell_of_row _ _ 4 _ _ _ hx2).trans rfl, (cell_of_row _ _ 5 _ _ _ hx2).trans rfl, (cell_of_row _ _ 6 _ _ _ hx2).trans rfl, (cell_of_row _ _ 7 _ _ _ hx2).trans rfl⟩
   rw [HC.out] at q1 q2
   obtain ⟨w3, hw3⟩ : ∃ w3, w2.setCell ⟨g, 3, none⟩ (.slice (some ⟨g2, 0, none⟩) (C + 1) c2) = w3 := ⟨_, rfl⟩
   rw [hw3] at q1 q2
   have hx3 : w3.heap[w.heap.size]? = _ := hw3 ▸ (Below.heap_setCell _ _ _ _ (fun e => by have := (HLT.out .g g rfl).2; simp at e; omega)).trans hx2
   have hs3 : w3.cell? ⟨w.heap.size, 0, none⟩ = some (.int .i64 (k : Int)) ∧ w3.cell? ⟨w.heap.size, 1, none⟩ = some (.string ⟨s.toArray⟩) ∧ w3.cell? ⟨w.heap.size, 2, none⟩ = some (.string ⟨t.toArray⟩) ∧ w3.cell? ⟨w.heap.size, 3, none⟩ = some (.string ⟨u.toArray⟩) ∧ w3.cell? ⟨w.heap.size, 4, none⟩ = some (.int .i64 (n : Int)) ∧ w3.cell? ⟨w.heap.size, 5, none⟩ = some (.int .i64 (p : Int)) ∧ w3.cell? ⟨w.heap.size, 6, none⟩ = some (.slice la ll lc) ∧ w3.cell? ⟨w.heap.size, 7, none⟩ = some (.slice ma ml mc) := ⟨(cell_of_row _ _ 0 _ _ _ hx3).trans rfl, (cell_of_row _ _ 1 _ _ _ hx3).trans rfl, (cell_of_row _ _ 2 _ _ _ hx3).trans rfl, (cell_of_row _ _ 3 _ _ _ hx3).trans rfl, (cell_of_row _ _ 4 _ _ _ hx3).trans rfl, (cell_of_row _ _ 5 _ _ _ hx3).trans rfl, (cell_of_row _ _ 6 _ _ _ hx3).trans rfl, (cell_of_row _ _ 7 _ _ _ hx3).trans rfl⟩
   clear hx2 hx3
   refine hK.out _ _ hs2 ?_; clear hK K
   try simp only [Act.put, zLa, zLb, zLc]
   refine heldTk (i := 9) (v := ?_) (fun w hSw => ?_) ?_; rotate_left; focus ((try dsimp only at hSw); go_simp; try with_reducible rfl)
   try simp only [Act.put, zLa, zLb, zLc]
   refine heldTk (i := 10) (v := ?_) (fun w hSw => ?_) ?_; rotate_left; focus ((try dsimp only at hSw); go_simp; try with_reducible rfl)
   try simp only [Act.put, zLa, zLb, zLc]
   refine heldTk (i := 11) (v := ?_) (fun w hSw => ?_) ?_; rotate_left; focus ((try dsimp only at hSw); go_simp; try with_reducible rfl)
   try simp only [Act.put, zLa, zLb, zLc]
   refine heldNext (i := 12) rfl (by kernel_rfl) (by rfl) (fun K hK => ?_)
   go_simp; refine hK.out _ _ hs3 ?_; clear hK K
   try simp only [Act.put, zLa, zLb, zLc]
   refine wpAnyH_done (by kernel_rfl) ?_ _
   go_wp2
   go_end0
   exact ⟨rfl, ⟨_, _, q1⟩, HBA.out.trans q2⟩
set_option maxRecDepth 20000 in
set_option maxHeartbeats 4000000 in
theorem put_m {B g b q md a f : Nat} {lv ov sv' tv : Value} {ts : List Lx.Tok} {hs : List HA} {cs : List SA} {top : List Nat} (y : HA) (x : HA) (w : World) (h : PX w B g b q lv ov sv' tv md a f ts (hs ++ [y]) [x] cs top) (hy : y.els = true) (hn : hs.length ≤ 1048576) (hc : cs.length ≤ 1048576) (htop : y.st.m.length ≤ 1048576) :
  Calls Tryz.prog 64 #[.pointer (some ⟨g, 0, none⟩), .agg (stCells x.sa).toArray] w fun e w' => e = .returned (.tuple #[]) ∧ (∃ sv2 v2 , PX w' B g b q lv ov sv2 tv md a f ts (hs ++ [⟨{ y.st with m := y.st.m ++ [cs.length] }, y.l, v2, y.els⟩]) [] (cs ++ [x.sa]) top) ∧ Below B w w' := by
 obtain ⟨i1, i2⟩ := h.hl x (by simp)
 obtain ⟨st, xl, xm, els⟩ := x
 obtain ⟨la, ll, lc, hl1⟩ := i1.form3
 obtain ⟨ma, ml, mc, hm1⟩ := i2.form3
 dsimp only at hl1 hm1
 subst hl1 hm1
 obtain ⟨k, s, t, u, n, p, pl, pm⟩ := st
 clear i1 i2
 obtain ⟨j1, j2⟩ := h.hl y (by simp)
 obtain ⟨yst, y1, y2, yels⟩ := y
 dsimp only at hy htop j1 j2 ⊢
 subst hy
 obtain ⟨ro, rc, rfl⟩ := IR.len j2
 obtain ⟨yo, yl, yc, rfl⟩ := j1.form3
 clear j1 j2
 obtain ⟨og, oc, rfl, hoc, _⟩ := h.form
 obtain ⟨so, sc, rfl⟩ := own_form9 h.os
 obtain ⟨C, hC⟩ : ∃ C, cs.length = C := ⟨_, rfl⟩
 rw [hC] at hc h ⊢
 have HC := Lib.hid hC
 obtain ⟨T, hT⟩ : ∃ T, w.alloc (.cells #[.int .i64 (k : Int), .string ⟨s.toArray⟩, .string ⟨t.toArray⟩, .string ⟨u.toArray⟩, .int .i64 (n : Int), .int .i64 (p : Int), .slice la ll lc, .slice ma ml mc] 41) = T := ⟨_, rfl⟩
 have hbx : T.heap[w.heap.size]? = some (.cells #[.int .i64 (k : Int), .string ⟨s.toArray⟩, .string ⟨t.toArray⟩, .string ⟨u.toArray⟩, .int .i64 (n : Int), .int .i64 (p : Int), .slice la ll lc, .slice ma ml mc] 41 (0, 0)) := by rw [← hT]; exact heap_alloc_new _ _
 have hbT : Below w.heap.size w T := by rw [← hT]; exact (Below.refl _ _).alloc (Nat.le_refl _) _
 have hlt := h.lt
 have hPX := h.below hbT
 have hBw := h.bsz
 have bx := fun i v (hv : (#[.int .i64 (k : Int), .string ⟨s.toArray⟩, .string ⟨t.toArray⟩, .string ⟨u.toArray⟩, .int .i64 (n : Int), .int .i64 (p : Int), .slice la ll lc, .slice ma ml mc] : Array Value)[i]? = some v) => (cell_of_row T w.heap.size i _ _ _ hbx).trans hv
 have g1 := hPX.rb.c1
 have g3 := hPX.rb.c3
 have g8 := (hPX.last 8 _ rfl).1
 have n1 : ((hs.length + 1 : Nat) : Int) - 1 = (hs.length : Int) := by omega
 have n2 : (hs.length : Int) + 1 - 1 = (hs.length : Int) := by omega
 have n3 : (hs.length : Int) < (hs.length : Int) + 1 := by omega
 have n4 : (0 : Int) < (hs.length : Int) + 1 := by omega
 have HBX := Lib.hid hbx
 have HBT := Lib.hid hbT
 have HLT := Lib.hid hlt
 have HPX := Lib.hid hPX
 clear hbx hbT hlt hPX bx h
 show Calls Tryz.prog 64 #[.pointer (some ⟨g, 0, none⟩), .agg #[.int .i64 (k : Int), .string ⟨s.toArray⟩, .string ⟨t.toArray⟩, .string ⟨u.toArray⟩, .int .i64 (n : Int), .int .i64 (p : Int), .slice la ll lc, .slice ma ml mc]] w _
 go_enter Tryz.func64, Tryz.ntmps64
 go_upto_region 8 with fail
 go_cut [4] from 37 to 50 (fun s4 wx => (∃ v2 , PX wx B g b q lv (.slice (some ⟨og, 0, none⟩) (hs.length + 1) oc) (.slice so C sc) tv md a f ts (hs ++ [⟨{ yst with m := yst.m ++ [C] }, .slice yo yl yc, v2, true⟩]) [⟨⟨k, s, t, u, n, p, pl, pm⟩, .slice la ll lc, .slice ma ml mc, els⟩] cs top) ∧ Below B w wx ∧ wx.heap[w.heap.size]? = some (.cells #[.int .i64 (k : Int), .string ⟨s.toArray⟩, .string ⟨t.toArray⟩, .string ⟨u.toArray⟩, .int .i64 (n : Int), .int .i64 (p : Int), .slice la ll lc, .slice ma ml mc] 41 (0, 0)))
 case first =>
  have hbD : Below w.heap.size w T.drew := below_drew HBT.out
  have hD := HPX.out.below (below_drew (Below.refl T.heap.size T))
  have hbxD : T.drew.heap[w.heap.size]? = _ := HBX.out
  have hs0 : T.drew.cell? ⟨g, 3, none⟩ = some (.slice so C sc) := hD.rb.c3
  refine wp_region_held_drew (S := fun w' => w'.cell? ⟨g, 3, none⟩ = some (.slice so C sc)) (by kernel_rfl) hs0 (fun hH => ?_)
  generalize T.drew = wd at *
  obtain ⟨wa, hwa⟩ : ∃ wa, wd.alloc (.cells #[.int .i64 (C : Int)] 3) = wa := ⟨_, rfl⟩
  have hba : Below wd.heap.size wd wa := by rw [← hwa]; exact (Below.refl _ _).alloc (Nat.le_refl _) _
  have hna : wa.heap[wd.heap.size]? = some (.cells #[.int .i64 (C : Int)] 3 (0, 0)) := by rw [← hwa]; exact heap_alloc_new _ _
  have hA := hD.below hba
  have hbxA : wa.heap[w.heap.size]? = _ := (hba.block _ (Array.getElem?_eq_some_iff.1 hbxD).1).trans hbxD
  have hbA : Below w.heap.size w wa := hbD.trans (hba.mono hbD.size)
  have hsA : wa.cell? ⟨g, 3, none⟩ = some (.slice so C sc) := hA.rb.c3
  have e4 := (hD.last 7 _ rfl).1
  have e4a := (hA.last 7 _ rfl).1
  have HA := Lib.hid hA
  have HSA := Lib.hid hsA
  have HBA := Lib.hid hbA
  have HBXA := Lib.hid hbxA
  have HNA := Lib.hid hna
  have HBD := Lib.hid hbD
  clear hA hsA hbA hbxA hna hba hbD hD hbxD hs0
  refine heldTk (i := 0) (v := ?_) (fun w hSw => ?_) ?_; rotate_left; focus ((try dsimp only at hSw); go_simp; try with_reducible rfl)
  try simp only [Act.put, zLa, zLb, zLc]
  refine heldTk (i := 1) (v := ?_) (fun w hSw => ?_) ?_; rotate_left; focus ((try dsimp only at hSw); go_simp; try with_reducible rfl)
  try simp only [Act.put, zLa, zLb, zLc]
  refine heldTk (i := 2) (v := ?_) (fun w hSw => ?_) ?_; rotate_left; focus ((try dsimp only at hSw); go_simp; try with_reducible rfl)
  try simp only [Act.put, zLa, zLb, zLc]
  refine heldTk (i := 4) (v := ?_) (fun w hSw => ?_) ?_; rotate_left; focus ((try dsimp only at hSw); go_simp; try with_reducible rfl)
  try simp only [Act.put, zLa, zLb, zLc]
  refine heldTk (i := 5) (v := ?_) (fun w hSw => ?_) ?_; rotate_left; focus ((try dsimp only at hSw); go_simp; try with_reducible rfl)
  try simp only [Act.put, zLa, zLb, zLc]
  refine heldTk (i := 6) (v := ?_) (fun w hSw => ?_) ?_; rotate_left; focus ((try dsimp only at hSw); go_simp; try with_reducible rfl)
  try simp only [Act.put, zLa, zLb, zLc]
  refine heldTk (i := 7) (v := ?_) (fun w hSw => ?_) ?_; rotate_left; focus ((try dsimp only at hSw); go_simp; try with_reducible rfl)
  try simp only [Act.put, zLa, zLb, zLc]
  refine heldTk (i := 8) (v := ?_) (fun w hSw => ?_) ?_; rotate_left; focus ((try dsimp only at hSw); go_simp; try with_reducible rfl)
  try simp only [Act.put, zLa, zLb, zLc]
  refine heldTk (i := 9) (v := ?_) (fun w hSw => ?_) ?_; rotate_left; focus ((try dsimp only at hSw); go_simp; try with_reducible rfl)
  try simp only [Act.put, zLa, zLb, zLc]
  refine heldTwo (i := 3) (j := 10) rfl rfl (by kernel_rfl) (by rfl) (by rfl) (fun K hK => ?_) (fun K hK => ?_)
  ·go_simp; refine hK.out _ _ (by assumption) ?_; clear hK K
   try simp only [Act.put, zLa, zLb, zLc]
   refine heldNext (i := 10) rfl (by kernel_rfl) (by rfl) (fun K hK => ?_)
   go_simp; refine hK.out _ _ HSA.out ?_; clear hK K
   try simp only [Act.put, zLa, zLb, zLc]
   refine heldNext (i := 11) rfl (by kernel_rfl) (by rfl) (fun K hK => ?_)
   refine append_n C (.tmp 40) (.tmp 47) (by rfl) (by rfl) ((HA.out.hl _ (List.mem_append.2 (.inl (List.mem_append.2 (.inr (List.mem_singleton.2 rfl)))))).2) (by rfl) HNA.out (by assumption) HA.out.bsz (fun g2 c2 w2 ho hg hgg => ?_)
   obtain ⟨q1, q2⟩ := HA.out.growM hg ho rfl hgg
   have hr2 := HA.out.rb_grown (i := .m hs.length) hg (by simp [bAt]) (by simp)
   obtain ⟨e4, ef⟩ := HA.out.last_grown (i := .m hs.length) hg (by simp [bAt]) (by simp) 7 _ rfl
   have e3 := hr2.c3
   refine hK.out _ _ e3 ?_; clear hK K
   try simp only [Act.put, zLa, zLb, zLc]
   refine heldTk (i := 12) (v := ?_) (fun w hSw => ?_) ?_; rotate_left; focus ((try dsimp only at hSw); go_simp; try with_reducible rfl)
   try simp only [Act.put, zLa, zLb, zLc]
   refine heldNext (i := 13) rfl (by kernel_rfl) (by rfl) (fun K hK => ?_)
   go_simp; refine hK.out _ _ q1.rb.c3 ?_; clear hK K
   try simp only [Act.put, zLa, zLb, zLc]
   refine wpAnyH_done (by kernel_rfl) ?_ _
   simp only [Exit.then]
   go_step
   go_meet
   exact ⟨⟨_, q1⟩, (HBA.out.mono hBw).trans q2, (Below.heap_setCell _ _ _ _ (fun e => by have := (HLT.out .o og rfl).2; simp at e; omega)).trans ((hg.block _ (Array.getElem?_eq_some_iff.1 HBXA.out).1 (fun e => by have := (HLT.out (.m hs.length) w.heap.size (by simp [bAt]; exact e.symm)).2; omega)).trans HBXA.out)⟩
  ·go_simp; refine hK.out _ _ HSA.out ?_; clear hK K
   try simp only [Act.put, zLa, zLb, zLc]
   refine heldNext (i := 3) rfl (by kernel_rfl) (by rfl) (fun K hK => ?_)
   go_simp; refine hK.out _ _ (by assumption) ?_; clear hK K
   try simp only [Act.put, zLa, zLb, zLc]
   refine heldNext (i := 11) rfl (by kernel_rfl) (by rfl) (fun K hK => ?_)
   refine append_n C (.tmp 40) (.tmp 47) (by rfl) (by rfl) ((HA.out.hl _ (List.mem_append.2 (.inl (List.mem_append.2 (.inr (List.mem_singleton.2 rfl)))))).2) (by rfl) HNA.out (by assumption) HA.out.bsz (fun g2 c2 w2 ho hg hgg => ?_)
   obtain ⟨q1, q2⟩ := HA.out.growM hg ho rfl hgg
   have hr2 := HA.out.rb_grown (i := .m hs.length) hg (by simp [bAt]) (by simp)
   obtain ⟨e4, ef⟩ := HA.out.last_grown (i := .m hs.length) hg (by simp [bAt]) (by simp) 7 _ rfl
   have e3 := hr2.c3
   refine hK.out _ _ e3 ?_; clear hK K
   try simp only [Act.put, zLa, zLb, zLc]
   refine heldTk (i := 12) (v := ?_) (fun w hSw => ?_) ?_; rotate_left; focus ((try dsimp only at hSw); go_simp; try with_reducible rfl)
   try simp only [Act.put, zLa, zLb, zLc]
   refine heldNext (i := 13) rfl (by kernel_rfl) (by rfl) (fun K hK => ?_)
   go_simp; refine hK.out _ _ q1.rb.c3 ?_; clear hK K
   try simp only [Act.put, zLa, zLb, zLc]
   refine wpAnyH_done (by kernel_rfl) ?_ _
   simp only [Exit.then]
   go_step
   go_meet
   exact ⟨⟨_, q1⟩, (HBA.out.mono hBw).trans q2, (Below.heap_setCell _ _ _ _ (fun e => by have := (HLT.out .o og rfl).2; simp at e; omega)).trans ((hg.block _ (Array.getElem?_eq_some_iff.1 HBXA.out).1 (fun e => by have := (HLT.out (.m hs.length) w.heap.size (by simp [bAt]; exact e.symm)).2; omega)).trans HBXA.out)⟩
 case rest =>
  obtain ⟨⟨v2, hP⟩, hB, hbx⟩ := hcut
  clear HPX HBT hT
  go_step
  have hD := hP.below (below_drew (Below.refl wc.heap.size wc))
  have hbD : Below B w wc.drew := below_drew hB
  have hbxD : wc.drew.heap[w.heap.size]? = _ := hbx
  have hs0 : wc.drew.cell? ⟨w.heap.size, 0, none⟩ = some (.int .i64 (k : Int)) ∧ wc.drew.cell? ⟨w.heap.size, 1, none⟩ = some (.string ⟨s.toArray⟩) ∧ wc.drew.cell? ⟨w.heap.size, 2, none⟩ = some (.string ⟨t.toArray⟩) ∧ wc.drew.cell? ⟨w.heap.size, 3, none⟩ = some (.string ⟨u.toArray⟩) ∧ wc.drew.cell? ⟨w.heap.size, 4, none⟩ = some (.int .i64 (n : Int)) ∧ wc.drew.cell? ⟨w.heap.size, 5, none⟩ = some (.int .i64 (p : Int)) ∧ wc.drew.cell? ⟨w.heap.size, 6, none⟩ = some (.slice la ll lc) ∧ wc.drew.cell? ⟨w.heap.size, 7, none⟩ = some (.slice ma ml mc) := ⟨(cell_of_row _ _ 0 _ _ _ hbxD).trans rfl, (cell_of_row _ _ 1 _ _ _ hbxD).trans rfl, (cell_of_row _ _ 2 _ _ _ hbxD).trans rfl, (cell_of_row _ _ 3 _ _ _ hbxD).trans rfl, (cell_of_row _ _ 4 _ _ _ hbxD).trans rfl, (cell_of_row _ _ 5 _ _ _ hbxD).trans rfl, (cell_of_row _ _ 6 _ _ _ hbxD).trans rfl, (cell_of_row _ _ 7 _ _ _ hbxD).trans rfl⟩
  refine wp_region_held_drew (S := fun w' => w'.cell? ⟨w.heap.size, 0, none⟩ = some (.int .i64 (k : Int)) ∧ w'.cell? ⟨w.heap.size, 1, none⟩ = some (.string ⟨s.toArray⟩) ∧ w'.cell? ⟨w.heap.size, 2, none⟩ = some (.string ⟨t.toArray⟩) ∧ w'.cell? ⟨w.heap.size, 3, none⟩ = some (.string ⟨u.toArray⟩) ∧ w'.cell? ⟨w.heap.size, 4, none⟩ = some (.int .i64 (n : Int)) ∧ w'.cell? ⟨w.heap.size, 5, none⟩ = some (.int .i64 (p : Int)) ∧ w'.cell? ⟨w.heap.size, 6, none⟩ = some (.slice la ll lc) ∧ w'.cell? ⟨w.heap.size, 7, none⟩ = some (.slice ma ml mc)) (by kernel_rfl) hs0 (fun hH => ?_)
  generalize wc.drew = wd at *
  obtain ⟨wa, hwa⟩ : ∃ wa, wd.alloc (.cells #[.int .i64 (k : Int), .string ⟨s.toArray⟩, .string ⟨t.toArray⟩, .string ⟨u.toArray⟩, .int .i64 (n : Int), .int .i64 (p : Int), .slice la ll lc, .slice ma ml mc] 41) = wa := ⟨_, rfl⟩
  have hba : Below wd.heap.size wd wa := by rw [← hwa]; exact (Below.refl _ _).alloc (Nat.le_refl _) _
  have hna : wa.heap[wd.heap.size]? = some (.cells #[.int .i64 (k : Int), .string ⟨s.toArray⟩, .string ⟨t.toArray⟩, .string ⟨u.toArray⟩, .int .i64 (n : Int), .int .i64 (p : Int), .slice la ll lc, .slice ma ml mc] 41 (0, 0)) := by rw [← hwa]; exact heap_alloc_new _ _
  have hA := hD.below hba
  have hbxA : wa.heap[w.heap.size]? = _ := (hba.block _ (Array.getElem?_eq_some_iff.1 hbxD).1).trans hbxD
  have hbA : Below B w wa := hbD.trans (hba.mono hD.bsz)
  have hsA : wa.cell? ⟨w.heap.size, 0, none⟩ = some (.int .i64 (k : Int)) ∧ wa.cell? ⟨w.heap.size, 1, none⟩ = some (.string ⟨s.toArray⟩) ∧ wa.cell? ⟨w.heap.size, 2, none⟩ = some (.string ⟨t.toArray⟩) ∧ wa.cell? ⟨w.heap.size, 3, none⟩ = some (.string ⟨u.toArray⟩) ∧ wa.cell? ⟨w.heap.size, 4, none⟩ = some (.int .i64 (n : Int)) ∧ wa.cell? ⟨w.heap.size, 5, none⟩ = some (.int .i64 (p : Int)) ∧ wa.cell? ⟨w.heap.size, 6, none⟩ = some (.slice la ll lc) ∧ wa.cell? ⟨w.heap.size, 7, none⟩ = some (.slice ma ml mc) := ⟨(cell_of_row _ _ 0 _ _ _ hbxA).trans rfl, (cell_of_row _ _ 1 _ _ _ hbxA).trans rfl, (cell_of_row _ _ 2 _ _ _ hbxA).trans rfl, (cell_of_row _ _ 3 _ _ _ hbxA).trans rfl, (cell_of_row _ _ 4 _ _ _ hbxA).trans rfl, (cell_of_row _ _ 5 _ _ _ hbxA).trans rfl, (cell_of_row _ _ 6 _ _ _ hbxA).trans rfl, (cell_of_row _ _ 7 _ _ _ hbxA).trans rfl⟩
  have e3 := hD.rb.c3
  have e3a := hA.rb.c3
  have HA := Lib.hid hA
  have HSA := Lib.hid hsA
  have HBA := Lib.hid hbA
  have HBXA := Lib.hid hbxA
  have HNA := Lib.hid hna
  have hBl := fun k (hk : (Value.slice so C sc).ownBlock = some k) => (HLT.out .s k hk).2
  have HBL := Lib.hid hBl
  clear hBl hA hsA hbA hbxA hna hba hbD hD hbxD hs0 hbx hB hP
  refine heldTk (i := 0) (v := ?_) (fun w hSw => ?_) ?_; rotate_left; focus ((try dsimp only at hSw); go_simp; try with_reducible rfl)
  try simp only [Act.put, zLa, zLb, zLc]
  refine heldTk (i := 1) (v := ?_) (fun w hSw => ?_) ?_; rotate_left; focus ((try dsimp only at hSw); go_simp; try with_reducible rfl)
  try simp only [Act.put, zLa, zLb, zLc]
  refine heldTk (i := 2) (v := ?_) (fun w hSw => ?_) ?_; rotate_left; focus ((try dsimp only at hSw); go_simp; try with_reducible rfl)
  try simp only [Act.put, zLa, zLb, zLc]
  refine heldTk (i := 3) (v := ?_) (fun w hSw => ?_) ?_; rotate_left; focus ((try dsimp only at hSw); go_simp; try with_reducible rfl)
  try simp only [Act.put, zLa, zLb, zLc]
  refine heldTk (i := 4) (v := ?_) (fun w hSw => ?_) ?_; rotate_left; focus ((try dsimp only at hSw); go_simp; try with_reducible rfl)
  try simp only [Act.put, zLa, zLb, zLc]
  refine heldTk (i := 6) (v := ?_) (fun w hSw => ?_) ?_; rotate_left; focus ((try dsimp only at hSw); go_simp; try with_reducible rfl)
  try simp only [Act.put, zLa, zLb, zLc]
  refine heldTwo (i := 5) (j := 7) rfl rfl (by kernel_rfl) (by rfl) (by rfl) (fun K hK => ?_) (fun K hK => ?_)
  ·go_simp; refine hK.out _ _ (by assumption) ?_; clear hK K
   try simp only [Act.put, zLa, zLb, zLc]
   refine heldNext (i := 7) rfl (by kernel_rfl) (by rfl) (fun K hK => ?_)
   go_simp; refine hK.out _ _ HSA.out ?_; clear hK K
   try simp only [Act.put, zLa, zLb, zLc]
   refine heldNext (i := 8) rfl (by kernel_rfl) (by rfl) (fun K hK => ?_)
   refine append_s ⟨⟨k, s, t, u, n, p, pl, pm⟩, .slice la ll lc, .slice ma ml mc⟩ (.tmp 55) (.tmp 57) (by rfl) (by rfl) (by first | exact HA.out.os | (have := HA.out.os; rw [HC.out] at this; rw [HC.out]; exact this)) (by rfl) HNA.out rfl rfl (by rw [HC.out]; exact hc) HA.out.bsz (fun g2 c2 w2 ho hg hgg => ?_)
   obtain ⟨q1, q2⟩ := HA.out.growSt hg ho rfl hgg
   have hr2 := HA.out.rb_grown (i := .s) hg rfl (by simp)
   have f3 := hr2.c3
   have ff := hr2.fr 3
   have hx2 : w2.heap[w.heap.size]? = _ := (hg.block _ (Array.getElem?_eq_some_iff.1 HBXA.out).1 (fun e => by have := HBL.out _ e.symm; omega)).trans HBXA.out
   have hs2 : w2.cell? ⟨w.heap.size, 0, none⟩ = some (.int .i64 (k : Int)) ∧ w2.cell? ⟨w.heap.size, 1, none⟩ = some (.string ⟨s.toArray⟩) ∧ w2.cell? ⟨w.heap.size, 2, none⟩ = some (.string ⟨t.toArray⟩) ∧ w2.cell? ⟨w.heap.size, 3, none⟩ = some (.string ⟨u.toArray⟩) ∧ w2.cell? ⟨w.heap.size, 4, none⟩ = some (.int .i64 (n : Int)) ∧ w2.cell? ⟨w.heap.size, 5, none⟩ = some (.int .i64 (p : Int)) ∧ w2.cell? ⟨w.heap.size, 6, none⟩ = some (.slice la ll lc) ∧ w2.cell? ⟨w.heap.size, 7, none⟩ = some (.slice ma ml mc) := ⟨(cell_of_row _ _ 0 _ _ _ hx2).trans rfl, (cell_of_row _ _ 1 _ _ _ hx2).trans rfl, (cell_of_row _ _ 2 _ _ _ hx2).trans rfl, (cell_of_row _ _ 3 _ _ _ hx2).trans rfl, (cell_of_row _ _ 4 _ _ _ hx2).trans rfl, (cell_of_row _ _ 5 _ _ _ hx2).trans rfl, (cell_of_row _ _ 6 _ _ _ hx2).trans rfl, (cell_of_row _ _ 7 _ _ _ hx2).trans rfl⟩
   rw [HC.out] at q1 q2
   obtain ⟨w3, hw3⟩ : ∃ w3, w2.setCell ⟨g, 3, none⟩ (.slice (some ⟨g2, 0, none⟩) (C + 1) c2) = w3 := ⟨_, rfl⟩
   rw [hw3] at q1 q2
   have hx3 : w3.heap[w.heap.size]? = _ := hw3 ▸ (Below.heap_setCell _ _ _ _ (fun e => by have := (HLT.out .g g rfl).2; simp at e; omega)).trans hx2
   have hs3 : w3.cell? ⟨w.heap.size, 0, none⟩ = some (.int .i64 (k : Int)) ∧ w3.cell? ⟨w.heap.size, 1, none⟩ = some (.string ⟨s.toArray⟩) ∧ w3.cell? ⟨w.heap.size, 2, none⟩ = some (.string ⟨t.toArray⟩) ∧ w3.cell? ⟨w.heap.size, 3, none⟩ = some (.string ⟨u.toArray⟩) ∧ w3.cell? ⟨w.heap.size, 4, none⟩ = some (.int .i64 (n : Int)) ∧ w3.cell? ⟨w.heap.size, 5, none⟩ = some (.int .i64 (p : Int)) ∧ w3.cell? ⟨w.heap.size, 6, none⟩ = some (.slice la ll lc) ∧ w3.cell? ⟨w.heap.size, 7, none⟩ = some (.slice ma ml mc) := ⟨(cell_of_row _ _ 0 _ _ _ hx3).trans rfl, (cell_of_row _ _ 1 _ _ _ hx3).trans rfl, (cell_of_row _ _ 2 _ _ _ hx3).trans rfl, (cell_of_row _ _ 3 _ _ _ hx3).trans rfl, (cell_of_row _ _ 4 _ _ _ hx3).trans rfl, (cell_of_row _ _ 5 _ _ _ hx3).trans rfl, (cell_of_row _ _ 6 _ _ _ hx3).trans rfl, (cell_of_row _ _ 7 _ _ _ hx3).trans rfl⟩
   clear hx2 hx3
   refine hK.out _ _ hs2 ?_; clear hK K
   try simp only [Act.put, zLa, zLb, zLc]
   refine heldTk (i := 9) (v := ?_) (fun w hSw => ?_) ?_; rotate_left; focus ((try dsimp only at hSw); go_simp; try with_reducible rfl)
   try simp only [Act.put, zLa, zLb, zLc]
   refine heldTk (i := 10) (v := ?_) (fun w hSw => ?_) ?_; rotate_left; focus ((try dsimp only at hSw); go_simp; try with_reducible rfl)
   try simp only [Act.put, zLa, zLb, zLc]
   refine heldTk (i := 11) (v := ?_) (fun w hSw => ?_) ?_; rotate_left; focus ((try dsimp only at hSw); go_simp; try with_reducible rfl)
   try simp only [Act.put, zLa, zLb, zLc]
   refine heldNext (i := 12) rfl (by kernel_rfl) (by rfl) (fun K hK => ?_)
   go_simp; refine hK.out _ _ hs3 ?_; clear hK K
   try simp only [Act.put, zLa, zLb, zLc]
   refine wpAnyH_done (by kernel_rfl) ?_ _
   go_wp2
   go_end0
   exact ⟨rfl, ⟨_, _, q1⟩, HBA.out.trans q2⟩
  ·go_simp; refine hK.out _ _ HSA.out ?_; clear hK K
   try simp only [Act.put, zLa, zLb, zLc]
   refine heldNext (i := 5) rfl (by kernel_rfl) (by rfl) (fun K hK => ?_)
   go_simp; refine hK.out _ _ (by assumption) ?_; clear hK K
   try simp only [Act.put, zLa, zLb, zLc]
   refine heldNext (i := 8) rfl (by kernel_rfl) (by rfl) (fun K hK => ?_)
   refine append_s ⟨⟨k, s, t, u, n, p, pl, pm⟩, .slice la ll lc, .slice ma ml mc⟩ (.tmp 55) (.tmp 57) (by rfl) (by rfl) (by first | exact HA.out.os | (have := HA.out.os; rw [HC.out] at this; rw [HC.out]; exact this)) (by rfl) HNA.out rfl rfl (by rw [HC.out]; exact hc) HA.out.bsz (fun g2 c2 w2 ho hg hgg => ?_)
   obtain ⟨q1, q2⟩ := HA.out.growSt hg ho rfl hgg
   have hr2 := HA.out.rb_grown (i := .s) hg rfl (by simp)
   have f3 := hr2.c3
   have ff := hr2.fr 3
   have hx2 : w2.heap[w.heap.size]? = _ := (hg.block _ (Array.getElem?_eq_some_iff.1 HBXA.out).1 (fun e => by have := HBL.out _ e.symm; omega)).trans HBXA.out
   have hs2 : w2.cell? ⟨w.heap.size, 0, none⟩ = some (.int .i64 (k : Int)) ∧ w2.cell? ⟨w.heap.size, 1, none⟩ = some (.string ⟨s.toArray⟩) ∧ w2.cell? ⟨w.heap.size, 2, none⟩ = some (.string ⟨t.toArray⟩) ∧ w2.cell? ⟨w.heap.size, 3, none⟩ = some (.string ⟨u.toArray⟩) ∧ w2.cell? ⟨w.heap.size, 4, none⟩ = some (.int .i64 (n : Int)) ∧ w2.cell? ⟨w.heap.size, 5, none⟩ = some (.int .i64 (p : Int)) ∧ w2.cell? ⟨w.heap.size, 6, none⟩ = some (.slice la ll lc) ∧ w2.cell? ⟨w.heap.size, 7, none⟩ = some (.slice ma ml mc) := ⟨(cell_of_row _ _ 0 _ _ _ hx2).trans rfl, (cell_of_row _ _ 1 _ _ _ hx2).trans rfl, (cell_of_row _ _ 2 _ _ _ hx2).trans rfl, (cell_of_row _ _ 3 _ _ _ hx2).trans rfl, (cell_of_row _ _ 4 _ _ _ hx2).trans rfl, (cell_of_row _ _ 5 _ _ _ hx2).trans rfl, (cell_of_row _ _ 6 _ _ _ hx2).trans rfl, (cell_of_row _ _ 7 _ _ _ hx2).trans rfl⟩
   rw [HC.out] at q1 q2
   obtain ⟨w3, hw3⟩ : ∃ w3, w2.setCell ⟨g, 3, none⟩ (.slice (some ⟨g2, 0, none⟩) (C + 1) c2) = w3 := ⟨_, rfl⟩
   rw [hw3] at q1 q2
   have hx3 : w3.heap[w.heap.size]? = _ := hw3 ▸ (Below.heap_setCell _ _ _ _ (fun e => by have := (HLT.out .g g rfl).2; simp at e; omega)).trans hx2
   have hs3 : w3.cell? ⟨w.heap.size, 0, none⟩ = some (.int .i64 (k : Int)) ∧ w3.cell? ⟨w.heap.size, 1, none⟩ = some (.string ⟨s.toArray⟩) ∧ w3.cell? ⟨w.heap.size, 2, none⟩ = some (.string ⟨t.toArray⟩) ∧ w3.cell? ⟨w.heap.size, 3, none⟩ = some (.string ⟨u.toArray⟩) ∧ w3.cell? ⟨w.heap.size, 4, none⟩ = some (.int .i64 (n : Int)) ∧ w3.cell? ⟨w.heap.size, 5, none⟩ = some (.int .i64 (p : Int)) ∧ w3.cell? ⟨w.heap.size, 6, none⟩ = some (.slice la ll lc) ∧ w3.cell? ⟨w.heap.size, 7, none⟩ = some (.slice ma ml mc) := ⟨(cell_of_row _ _ 0 _ _ _ hx3).trans rfl, (cell_of_row _ _ 1 _ _ _ hx3).trans rfl, (cell_of_row _ _ 2 _ _ _ hx3).trans rfl, (cell_of_row _ _ 3 _ _ _ hx3).trans rfl, (cell_of_row _ _ 4 _ _ _ hx3).trans rfl, (cell_of_row _ _ 5 _ _ _ hx3).trans rfl, (cell_of_row _ _ 6 _ _ _ hx3).trans rfl, (cell_of_row _ _ 7 _ _ _ hx3).trans rfl⟩
   clear hx2 hx3
   refine hK.out _ _ hs2 ?_; clear hK K
   try simp only [Act.put, zLa, zLb, zLc]
   refine heldTk (i := 9) (v := ?_) (fun w hSw => ?_) ?_; rotate_left; focus ((try dsimp only at hSw); go_simp; try with_reducible rfl)
   try simp only [Act.put, zLa, zLb, zLc]
   refine heldTk (i := 10) (v := ?_) (fun w hSw => ?_) ?_; rotate_left; focus ((try dsimp only at hSw); go_simp; try with_reducible rfl)
   try simp only [Act.put, zLa, zLb, zLc]
   refine heldTk (i := 11) (v := ?_) (fun w hSw => ?_) ?_; rotate_left; focus ((try dsimp only at hSw); go_simp; try with_reducible rfl)
   try simp only [Act.put, zLa, zLb, zLc]
   refine heldNext (i := 12) rfl (by kernel_rfl) (by rfl) (fun K hK => ?_)
   go_simp; refine hK.out _ _ hs3 ?_; clear hK K
   try simp only [Act.put, zLa, zLb, zLc]
   refine wpAnyH_done (by kernel_rfl) ?_ _
   go_wp2
   go_end0
   exact ⟨rfl, ⟨_, _, q1⟩, HBA.out.trans q2⟩
end Go.Proofs.YtodlhhfcjkjapaaGreatDoor
