/- The texts CodePut, CodeGoes, one behind the other. -/
import Derived.Test.YtodlhhfcjkjapaaGreatDoorDW
import Derived.Test.YtodlhhfcjkjapaaGreatDoorPJ
import Derived.Deep.CutRange
namespace Go.Proofs.YtodlhhfcjkjapaaGreatDoor
open Go.RowKit
theorem op_info : (Tryz.prog.info? 38).map (fun i => (i.zero, i.size, i.bytes)) = some (some (.agg #[.int .i64 0, .string ⟨#[]⟩, .string ⟨#[]⟩, .string ⟨#[]⟩, .int .i64 0, .int .i64 0]), 6, 72) := by kernel_rfl
theorem append_o {o : Oper} {a : Act} {K : Act → World → Prop} {Q : Exit → Act → World → Prop} {w : World} {B b n : Nat} {v : Value} {cs : List Cd.Op} (t : Cd.Op)
  (s x : Operand) (ho : o.op = .call { callee := .builtin .append, args := #[s, x], argTypes := #[24, 24] })
  (hs : a.eval s = v) (h : w.ownsRow B 38 6 v n (opRow cs)) (hx : a.eval x = .slice (some ⟨b, 0, none⟩) 1 1) (hb : w.heap[b]? = some (.cells (opCells t).toArray 38 (0, 0)))
  (hn : n ≤ 1048576) (hB : B ≤ w.heap.size)
  (h' : ∀ g cap w', w'.ownsRow B 38 6 (.slice (some ⟨g, 0, none⟩) (n + 1) cap) (n + 1) (opRow (cs ++ [t])) → w.grownBy w' v.ownBlock → (v.ownBlock = some g ∨ g = w.heap.size) → K (a.put o.dst (.slice (some ⟨g, 0, none⟩) (n + 1) cap)) w') : o.wp Tryz.prog a w K Q := by
 obtain ⟨i0, hi, hz0, hz1, hz2⟩ := info_parts op_info
 refine wp_append_lies w s x _ ho B _ i0 _ 6 72 Tryz.underlying24 hi hz0 hz1 hz2 (by decide) (by decide) v n (opRow cs) hs h ⟨b, 0, none⟩ 1 1 (opCells t) hx rfl (World.news_of_block hb) ?_ (by decide) (by unfold maxLen; omega) (by omega) hB _ rfl (fun g cap w' h2 h3 h4 _ => h' g cap w' ?_ h3 h4)
 ·intro u hu
  simp [opCells] at hu
  rcases hu with rfl | rfl | rfl | rfl | rfl | rfl <;> rfl
 ·rw [opRow_app, show opRow [t] = opCells t by simp [opRow]]
  exact h2
section
variable {w0 w : World} {B g m : Nat} {rv ov : Value} {O : List Cd.Op} {σ : List LA}
theorem WS.c (h : WS w0 w B g m rv ov O σ) : w.cell? ⟨g, 0, none⟩ = some rv ∧ w.cell? ⟨g, 1, none⟩ = some ov ∧ w.cell? ⟨g, 2, none⟩ = some (.map (some m)) ∧ ∀ i, w.frozen? ⟨g, i, none⟩ = false :=
 ⟨cell_of_row _ _ _ _ _ _ h.wb, cell_of_row _ _ _ _ _ _ h.wb, cell_of_row _ _ _ _ _ _ h.wb, fun _ => frozen_of_row _ _ _ _ _ h.wb⟩
set_option maxRecDepth 20000 in
set_option maxHeartbeats 4000000 in
theorem wput_any (h : WS w0 w B g m rv ov O σ) (k : Nat) (s t u : List UInt8) (n : Nat) (p : Int) (hO : O.length ≤ 1048576) :
  Calls Tryz.prog 21 #[.pointer (some ⟨g, 0, none⟩), .agg #[.int .i64 (k : Int), .string ⟨s.toArray⟩, .string ⟨t.toArray⟩, .string ⟨u.toArray⟩, .int .i64 (n : Int), .int .i64 p]] w fun e w' => e = .returned (.int .i64 (O.length : Int)) ∧ (∃ ov', WS w0 w' B g m rv ov' (O ++ [⟨k, s, t, u, n, p⟩]) σ) ∧ Keep w w' := by
 obtain ⟨oo, oc, rfl⟩ := own_form9 h.op
 obtain ⟨N, hN⟩ : ∃ N, O.length = N := ⟨_, rfl⟩
 rw [hN] at h hO ⊢
 have HN := Lib.hid hN
 obtain ⟨T, hT⟩ : ∃ T, w.alloc (.cells #[.int .i64 (k : Int), .string ⟨s.toArray⟩, .string ⟨t.toArray⟩, .string ⟨u.toArray⟩, .int .i64 (n : Int), .int .i64 p] 38) = T := ⟨_, rfl⟩
 have hbx : T.heap[w.heap.size]? = some (.cells #[.int .i64 (k : Int), .string ⟨s.toArray⟩, .string ⟨t.toArray⟩, .string ⟨u.toArray⟩, .int .i64 (n : Int), .int .i64 p] 38 (0, 0)) := by rw [← hT]; exact heap_alloc_new _ _
 have hbT : Below w.heap.size w T.drew := by rw [← hT]; exact below_drew ((Below.refl _ _).alloc (Nat.le_refl _) _)
 have hD := h.below hbT
 have hbxD : T.drew.heap[w.heap.size]? = _ := hbx
 have hgl := h.glt
 have HH := Lib.hid h
 have HBX := Lib.hid hbxD
 have HBT := Lib.hid hbT
 have HD := Lib.hid hD
 have hs0 : True := trivial
 clear h hN hbx hbT hD hbxD
 go_enter Tryz.func21, Tryz.ntmps21
 go_upto_region 1 with fail
 refine wp_region_held_drew (S := fun w' => True) (by kernel_rfl) hs0 (fun hH => ?_)
 have hbxD := HBX.out
 have hD := HD.out
 have hbT := HBT.out
 clear HBX HD HBT hT
 generalize T.drew = wd at *
 obtain ⟨wa, hwa⟩ : ∃ wa, wd.alloc (.cells #[.int .i64 (k : Int), .string ⟨s.toArray⟩, .string ⟨t.toArray⟩, .string ⟨u.toArray⟩, .int .i64 (n : Int), .int .i64 p] 38) = wa := ⟨_, rfl⟩
 have hba : Below wd.heap.size wd wa := by rw [← hwa]; exact (Below.refl _ _).alloc (Nat.le_refl _) _
 have hna : wa.heap[wd.heap.size]? = some (.cells #[.int .i64 (k : Int), .string ⟨s.toArray⟩, .string ⟨t.toArray⟩, .string ⟨u.toArray⟩, .int .i64 (n : Int), .int .i64 p] 38 (0, 0)) := by rw [← hwa]; exact heap_alloc_new _ _
 have hA := hD.below hba
 have hbxA : wa.heap[w.heap.size]? = _ := (hba.block _ (Array.getElem?_eq_some_iff.1 hbxD).1).trans hbxD
 have hkA : Keep w wa := (Keep.of_below hbT).trans (Keep.of_below hba)
 have bx0 := fun i v (hv : (#[.int .i64 (k : Int), .string ⟨s.toArray⟩, .string ⟨t.toArray⟩, .string ⟨u.toArray⟩, .int .i64 (n : Int), .int .i64 p] : Array Value)[i]? = some v) => (cell_of_row wd w.heap.size i _ _ _ hbxD).trans hv
 have d0 := bx0 0 _ rfl
 have d1 := bx0 1 _ rfl
 have d2 := bx0 2 _ rfl
 have d3 := bx0 3 _ rfl
 have d4 := bx0 4 _ rfl
 have d5 := bx0 5 _ rfl
 have e1 := hD.c.2.1
 have e1a := hA.c.2.1
 have HA := Lib.hid hA
 have HKA := Lib.hid hkA
 have HBXA := Lib.hid hbxA
 have HNA := Lib.hid hna
 have hopA := hA.op
 rw [HN.out] at hopA
 have HOP := Lib.hid hopA
 clear bx0 hA hkA hbxA hna hba hbT hD hbxD hs0 hopA
 refine heldTake (i := 0) (v := ?_) rfl (by kernel_rfl) (by kernel_rfl) (fun _ _ _ h => h) (by rfl) trivial (fun w hSw => ?_) ?_; rotate_left; focus ((try dsimp only at hSw); go_simp; try with_reducible rfl)
 try simp only [Act.put, zLa, zLb, zLc]
 refine heldTake (i := 1) (v := ?_) rfl (by kernel_rfl) (by kernel_rfl) (fun _ _ _ h => h) (by rfl) trivial (fun w hSw => ?_) ?_; rotate_left; focus ((try dsimp only at hSw); go_simp; try with_reducible rfl)
 try simp only [Act.put, zLa, zLb, zLc]
 refine heldTake (i := 2) (v := ?_) rfl (by kernel_rfl) (by kernel_rfl) (fun _ _ _ h => h) (by rfl) trivial (fun w hSw => ?_) ?_; rotate_left; focus ((try dsimp only at hSw); go_simp; try with_reducible rfl)
 try simp only [Act.put, zLa, zLb, zLc]
 refine heldTake (i := 3) (v := ?_) rfl (by kernel_rfl) (by kernel_rfl) (fun _ _ _ h => h) (by rfl) trivial (fun w hSw => ?_) ?_; rotate_left; focus ((try dsimp only at hSw); go_simp; try with_reducible rfl)
 try simp only [Act.put, zLa, zLb, zLc]
 refine heldTwo (i := 4) (j := 5) rfl rfl (by kernel_rfl) (by rfl) (by rfl) (fun K hK => ?_) (fun K hK => ?_)
 ·go_simp; refine hK.out _ _ trivial ?_; clear hK K
  try simp only [Act.put, zLa, zLb, zLc]
  refine heldNext (i := 5) rfl (by kernel_rfl) (by rfl) (fun K hK => ?_)
  go_simp; refine hK.out _ _ trivial ?_; clear hK K
  try simp only [Act.put, zLa, zLb, zLc]
  refine heldNext (i := 6) rfl (by kernel_rfl) (by rfl) (fun K hK => ?_)
  go_simp; refine hK.out _ _ trivial ?_; clear hK K
  try simp only [Act.put, zLa, zLb, zLc]
  refine heldNext (i := 7) rfl (by kernel_rfl) (by rfl) (fun K hK => ?_)
  refine append_o ⟨k, s, t, u, n, p⟩ (.tmp 9) (.tmp 11) (by rfl) (by rfl) HOP.out (by rfl) HNA.out hO HA.out.bsz (fun g2 c2 w2 ho hg hgg => ?_)
  obtain ⟨q1, q2⟩ := HA.out.push (o := ⟨k, s, t, u, n, p⟩) hg (by rw [HN.out]; exact ho) rfl hgg
  have hwb2 : w2.heap[g]? = _ := (hg.block g HA.out.glt (fun e => (HA.out.far_ov e.symm).1 rfl)).trans HA.out.wb
  have f1 : w2.cell? ⟨g, 1, none⟩ = some (.slice oo N oc) := cell_of_row _ _ _ _ _ _ hwb2
  have ff : w2.frozen? ⟨g, 1, none⟩ = false := frozen_of_row _ _ _ _ _ hwb2
  refine hK.out _ _ trivial ?_; clear hK K
  try simp only [Act.put, zLa, zLb, zLc]
  refine heldTake (i := 8) (v := ?_) rfl (by kernel_rfl) (by kernel_rfl) (fun _ _ _ h => h) (by rfl) trivial (fun w hSw => ?_) ?_; rotate_left; focus ((try dsimp only at hSw); go_simp; try with_reducible rfl)
  try simp only [Act.put, zLa, zLb, zLc]
  refine heldTake (i := 9) (v := ?_) rfl (by kernel_rfl) (by kernel_rfl) (fun _ _ _ h => h) (by rfl) trivial (fun w hSw => ?_) ?_; rotate_left; focus ((try dsimp only at hSw); go_simp; try with_reducible rfl)
  try simp only [Act.put, zLa, zLb, zLc]
  refine heldNext (i := 10) rfl (by kernel_rfl) (by rfl) (fun K hK => ?_)
  go_simp; refine hK.out _ _ trivial ?_; clear hK K
  try simp only [Act.put, zLa, zLb, zLc]
  refine wpAnyH_done (by kernel_rfl) ?_ _
  obtain ⟨w3, hw3⟩ : ∃ w3, w2.setCell ⟨g, 1, none⟩ (.slice (some ⟨g2, 0, none⟩) (N + 1) c2) = w3 := ⟨_, rfl⟩
  rw [hw3] at q1 q2 ⊢
  have c1 := q1.c.2.1
  have HQ := Lib.hid (⟨⟨_, q1⟩, HKA.out.trans q2⟩ : (∃ ov', WS w0 w3 B g m rv ov' (O ++ [⟨k, s, t, u, n, p⟩]) σ) ∧ Keep w w3)
  clear q1 q2 hw3 f1 ff hwb2 ho hg hgg hwa hH
  go_wp2
  go_ret
  exact ⟨rfl, HQ.out⟩
 ·go_simp; refine hK.out _ _ trivial ?_; clear hK K
  try simp only [Act.put, zLa, zLb, zLc]
  refine heldTwo (i := 4) (j := 6) rfl rfl (by kernel_rfl) (by rfl) (by rfl) (fun K hK => ?_) (fun K hK => ?_)
  ·go_simp; refine hK.out _ _ trivial ?_; clear hK K
   try simp only [Act.put, zLa, zLb, zLc]
   refine heldNext (i := 6) rfl (by kernel_rfl) (by rfl) (fun K hK => ?_)
   go_simp; refine hK.out _ _ trivial ?_; clear hK K
   try simp only [Act.put, zLa, zLb, zLc]
   refine heldNext (i := 7) rfl (by kernel_rfl) (by rfl) (fun K hK => ?_)
   refine append_o ⟨k, s, t, u, n, p⟩ (.tmp 9) (.tmp 11) (by rfl) (by rfl) HOP.out (by rfl) HNA.out hO HA.out.bsz (fun g2 c2 w2 ho hg hgg => ?_)
   obtain ⟨q1, q2⟩ := HA.out.push (o := ⟨k, s, t, u, n, p⟩) hg (by rw [HN.out]; exact ho) rfl hgg
   have hwb2 : w2.heap[g]? = _ := (hg.block g HA.out.glt (fun e => (HA.out.far_ov e.symm).1 rfl)).trans HA.out.wb
   have f1 : w2.cell? ⟨g, 1, none⟩ = some (.slice oo N oc) := cell_of_row _ _ _ _ _ _ hwb2
   have ff : w2.frozen? ⟨g, 1, none⟩ = false := frozen_of_row _ _ _ _ _ hwb2
   refine hK.out _ _ trivial ?_; clear hK K
   try simp only [Act.put, zLa, zLb, zLc]
   refine heldTake (i := 8) (v := ?_) rfl (by kernel_rfl) (by kernel_rfl) (fun _ _ _ h => h) (by rfl) trivial (fun w hSw => ?_) ?_; rotate_left; focus ((try dsimp only at hSw); go_simp; try with_reducible rfl)
   try simp only [Act.put, zLa, zLb, zLc]
   refine heldTake (i := 9) (v := ?_) rfl (by kernel_rfl) (by kernel_rfl) (fun _ _ _ h => h) (by rfl) trivial (fun w hSw => ?_) ?_; rotate_left; focus ((try dsimp only at hSw); go_simp; try with_reducible rfl)
   try simp only [Act.put, zLa, zLb, zLc]
   refine heldNext (i := 10) rfl (by kernel_rfl) (by rfl) (fun K hK => ?_)
   go_simp; refine hK.out _ _ trivial ?_; clear hK K
   try simp only [Act.put, zLa, zLb, zLc]
   refine wpAnyH_done (by kernel_rfl) ?_ _
   obtain ⟨w3, hw3⟩ : ∃ w3, w2.setCell ⟨g, 1, none⟩ (.slice (some ⟨g2, 0, none⟩) (N + 1) c2) = w3 := ⟨_, rfl⟩
   rw [hw3] at q1 q2 ⊢
   have c1 := q1.c.2.1
   have HQ := Lib.hid (⟨⟨_, q1⟩, HKA.out.trans q2⟩ : (∃ ov', WS w0 w3 B g m rv ov' (O ++ [⟨k, s, t, u, n, p⟩]) σ) ∧ Keep w w3)
   clear q1 q2 hw3 f1 ff hwb2 ho hg hgg hwa hH
   go_wp2
   go_ret
   exact ⟨rfl, HQ.out⟩
  ·go_simp; refine hK.out _ _ trivial ?_; clear hK K
   try simp only [Act.put, zLa, zLb, zLc]
   refine heldNext (i := 4) rfl (by kernel_rfl) (by rfl) (fun K hK => ?_)
   go_simp; refine hK.out _ _ trivial ?_; clear hK K
   try simp only [Act.put, zLa, zLb, zLc]
   refine heldNext (i := 7) rfl (by kernel_rfl) (by rfl) (fun K hK => ?_)
   refine append_o ⟨k, s, t, u, n, p⟩ (.tmp 9) (.tmp 11) (by rfl) (by rfl) HOP.out (by rfl) HNA.out hO HA.out.bsz (fun g2 c2 w2 ho hg hgg => ?_)
   obtain ⟨q1, q2⟩ := HA.out.push (o := ⟨k, s, t, u, n, p⟩) hg (by rw [HN.out]; exact ho) rfl hgg
   have hwb2 : w2.heap[g]? = _ := (hg.block g HA.out.glt (fun e => (HA.out.far_ov e.symm).1 rfl)).trans HA.out.wb
   have f1 : w2.cell? ⟨g, 1, none⟩ = some (.slice oo N oc) := cell_of_row _ _ _ _ _ _ hwb2
   have ff : w2.frozen? ⟨g, 1, none⟩ = false := frozen_of_row _ _ _ _ _ hwb2
   refine hK.out _ _ trivial ?_; clear hK K
   try simp only [Act.put, zLa, zLb, zLc]
   refine heldTake (i := 8) (v := ?_) rfl (by kernel_rfl) (by kernel_rfl) (fun _ _ _ h => h) (by rfl) trivial (fun w hSw => ?_) ?_; rotate_left; focus ((try dsimp only at hSw); go_simp; try with_reducible rfl)
   try simp only [Act.put, zLa, zLb, zLc]
   refine heldTake (i := 9) (v := ?_) rfl (by kernel_rfl) (by kernel_rfl) (fun _ _ _ h => h) (by rfl) trivial (fun w hSw => ?_) ?_; rotate_left; focus ((try dsimp only at hSw); go_simp; try with_reducible rfl)
   try simp only [Act.put, zLa, zLb, zLc]
   refine heldNext (i := 10) rfl (by kernel_rfl) (by rfl) (fun K hK => ?_)
   go_simp; refine hK.out _ _ trivial ?_; clear hK K
   try simp only [Act.put, zLa, zLb, zLc]
   refine wpAnyH_done (by kernel_rfl) ?_ _
   obtain ⟨w3, hw3⟩ : ∃ w3, w2.setCell ⟨g, 1, none⟩ (.slice (some ⟨g2, 0, none⟩) (N + 1) c2) = w3 := ⟨_, rfl⟩
   rw [hw3] at q1 q2 ⊢
   have c1 := q1.c.2.1
   have HQ := Lib.hid (⟨⟨_, q1⟩, HKA.out.trans q2⟩ : (∃ ov', WS w0 w3 B g m rv ov' (O ++ [⟨k, s, t, u, n, p⟩]) σ) ∧ Keep w w3)
   clear q1 q2 hw3 f1 ff hwb2 ho hg hgg hwa hH
   go_wp2
   go_ret
   exact ⟨rfl, HQ.out⟩
set_option maxRecDepth 20000 in
set_option maxHeartbeats 4000000 in
theorem goeshere_any (h : WS w0 w B g m rv ov O σ) {k : Nat} (hk : k < O.length) :
  Calls Tryz.prog 55 #[.pointer (some ⟨g, 0, none⟩), .int .i64 (k : Int)] w fun e w' => e = .returned (.tuple #[]) ∧ WS w0 w' B g m rv ov (O.modify k (Cd.toP (O.length : Int))) σ ∧ Keep w w' := by
 have hD := h.below (below_drew (Below.refl w.heap.size w))
 obtain ⟨q, cap, rfl, hq, hfr, ⟨u0, hu0⟩, hput⟩ := hD.turn hk
 obtain ⟨N, hN⟩ : ∃ N, O.length = N := ⟨_, rfl⟩
 rw [hN] at h hD hk hput ⊢
 obtain ⟨hW, hKp⟩ := hput (N : Int)
 have e1 := hD.c.2.1
 have e2 := h.c.2.1
 have ef := hfr (k * 6 + 5)
 have HW := Lib.hid hW
 have HK := Lib.hid ((Keep.of_below (below_drew (Below.refl w.heap.size w))).trans hKp)
 have b1 : ((N : Int) ≤ (k : Int)) = False := eq_false (by omega)
 have b2 : (k : Int) < (N : Int) := by omega
 have b3 : ((k : Int) < 0) = False := eq_false (by omega)
 have hx0 : ∀ a, w.drew.cell? a = w.cell? a := fun _ => rfl
 clear h hD hq hput hW hKp hN hfr
 go_enter Tryz.func55, Tryz.ntmps55
 go_upto_region 0 with fail
 refine wp_region_held_drew (S := fun _ => True) (by kernel_rfl) trivial (fun hH => ?_)
 refine heldTake (i := 0) (v := ?_) rfl (by kernel_rfl) (by kernel_rfl) (fun _ _ _ h => h) (by rfl) trivial (fun w hSw => ?_) ?_; rotate_left; focus ((try dsimp only at hSw); go_simp; try with_reducible rfl)
 try simp only [Act.put, zLa, zLb, zLc]
 refine heldTake (i := 1) (v := ?_) rfl (by kernel_rfl) (by kernel_rfl) (fun _ _ _ h => h) (by rfl) trivial (fun w hSw => ?_) ?_; rotate_left; focus ((try dsimp only at hSw); go_simp; try with_reducible rfl)
 try simp only [Act.put, zLa, zLb, zLc]
 refine heldTake (i := 2) (v := ?_) rfl (by kernel_rfl) (by kernel_rfl) (fun _ _ _ h => h) (by rfl) trivial (fun w hSw => ?_) ?_; rotate_left; focus ((try dsimp only at hSw); go_simp; try with_reducible rfl)
 try simp only [Act.put, zLa, zLb, zLc]
 refine heldTake (i := 4) (v := ?_) rfl (by kernel_rfl) (by kernel_rfl) (fun _ _ _ h => h) (by rfl) trivial (fun w hSw => ?_) ?_; rotate_left; focus ((try dsimp only at hSw); go_simp; try with_reducible rfl)
 try simp only [Act.put, zLa, zLb, zLc]
 refine heldTake (i := 5) (v := ?_) rfl (by kernel_rfl) (by kernel_rfl) (fun _ _ _ h => h) (by rfl) trivial (fun w hSw => ?_) ?_; rotate_left; focus ((try dsimp only at hSw); go_simp; try with_reducible rfl)
 try simp only [Act.put, zLa, zLb, zLc]
 refine heldTake (i := 6) (v := ?_) rfl (by kernel_rfl) (by kernel_rfl) (fun _ _ _ h => h) (by rfl) trivial (fun w hSw => ?_) ?_; rotate_left; focus ((try dsimp only at hSw); go_simp; try with_reducible rfl)
 try simp only [Act.put, zLa, zLb, zLc]
 refine heldTake (i := 7) (v := ?_) rfl (by kernel_rfl) (by kernel_rfl) (fun _ _ _ h => h) (by rfl) trivial (fun w hSw => ?_) ?_; rotate_left; focus ((try dsimp only at hSw); go_simp; try with_reducible rfl)
 try simp only [Act.put, zLa, zLb, zLc]
 refine heldTwo (i := 3) (j := 8) rfl rfl (by kernel_rfl) (by rfl) (by rfl) (fun K hK => ?_) (fun K hK => ?_)
 ·go_simp; refine hK.out _ _ trivial ?_; clear hK K
  try simp only [Act.put, zLa, zLb, zLc]
  refine heldNext (i := 8) rfl (by kernel_rfl) (by rfl) (fun K hK => ?_)
  go_simp; refine hK.out _ _ trivial ?_; clear hK K
  try simp only [Act.put, zLa, zLb, zLc]
  refine heldTake (i := 9) (v := ?_) rfl (by kernel_rfl) (by kernel_rfl) (fun _ _ _ h => h) (by rfl) trivial (fun w hSw => ?_) ?_; rotate_left; focus ((try dsimp only at hSw); go_simp; try with_reducible rfl)
  try simp only [Act.put, zLa, zLb, zLc]
  refine heldTake (i := 10) (v := ?_) rfl (by kernel_rfl) (by kernel_rfl) (fun _ _ _ h => h) (by rfl) trivial (fun w hSw => ?_) ?_; rotate_left; focus ((try dsimp only at hSw); go_simp; try with_reducible rfl)
  try simp only [Act.put, zLa, zLb, zLc]
  refine heldTake (i := 11) (v := ?_) rfl (by kernel_rfl) (by kernel_rfl) (fun _ _ _ h => h) (by rfl) trivial (fun w hSw => ?_) ?_; rotate_left; focus ((try dsimp only at hSw); go_simp; try with_reducible rfl)
  try simp only [Act.put, zLa, zLb, zLc]
  refine heldNext (i := 12) rfl (by kernel_rfl) (by rfl) (fun K hK => ?_)
  go_simp; refine hK.out _ _ trivial ?_; clear hK K
  try simp only [Act.put, zLa, zLb, zLc]
  refine wpAnyH_done (by kernel_rfl) ?_ _
  go_wp2
  go_end0
  exact ⟨rfl, HW.out, HK.out⟩
 ·go_simp; refine hK.out _ _ trivial ?_; clear hK K
  try simp only [Act.put, zLa, zLb, zLc]
  refine heldTake (i := 9) (v := ?_) rfl (by kernel_rfl) (by kernel_rfl) (fun _ _ _ h => h) (by rfl) trivial (fun w hSw => ?_) ?_; rotate_left; focus ((try dsimp only at hSw); go_simp; try with_reducible rfl)
  try simp only [Act.put, zLa, zLb, zLc]
  refine heldNext (i := 3) rfl (by kernel_rfl) (by rfl) (fun K hK => ?_)
  go_simp; refine hK.out _ _ trivial ?_; clear hK K
  try simp only [Act.put, zLa, zLb, zLc]
  refine heldTake (i := 10) (v := ?_) rfl (by kernel_rfl) (by kernel_rfl) (fun _ _ _ h => h) (by rfl) trivial (fun w hSw => ?_) ?_; rotate_left; focus ((try dsimp only at hSw); go_simp; try with_reducible rfl)
  try simp only [Act.put, zLa, zLb, zLc]
  refine heldTake (i := 11) (v := ?_) rfl (by kernel_rfl) (by kernel_rfl) (fun _ _ _ h => h) (by rfl) trivial (fun w hSw => ?_) ?_; rotate_left; focus ((try dsimp only at hSw); go_simp; try with_reducible rfl)
  try simp only [Act.put, zLa, zLb, zLc]
  refine heldNext (i := 12) rfl (by kernel_rfl) (by rfl) (fun K hK => ?_)
  go_simp; refine hK.out _ _ trivial ?_; clear hK K
  try simp only [Act.put, zLa, zLb, zLc]
  refine wpAnyH_done (by kernel_rfl) ?_ _
  go_wp2
  go_end0
  exact ⟨rfl, HW.out, HK.out⟩
end
end Go.Proofs.YtodlhhfcjkjapaaGreatDoor
namespace Go.Proofs.YtodlhhfcjkjapaaGreatDoor
open Go.RowKit
theorem pos_len (x : List UInt8) : ∀ (M : List Cd.MOp) (k : Nat), (Cd.pos x M k).length ≤ M.length
 | [], _ => Nat.le_refl _
 | o :: M, k => by
  have := pos_len x M (k + 1)
  rw [Cd.pos, List.length_append, List.length_cons]
  split
  ·simp only [List.length_singleton]; omega
  ·simp only [List.length_nil]; omega
theorem goes_fin {w0 w1 wa w4 : World} {B g m t g3 : Nat} {rv ov c0 v0 : Value} {O : List Cd.Op} {σ : List LA} {e : LA} (h : WS w0 wa B g m rv ov O σ) (hon : Once σ) (hk : Keep w1 wa) (hB1 : B ≤ w1.heap.size)
  (ht : wa.heap[t]? = some (.cells #[c0, v0] 72 (0, 0))) (hwt : w1.heap.size ≤ t) (hg : wa.grownBy w4 (lookL σ e.x).v.ownBlock) (hI : IR w4 B 3 e.v e.gs) (hv' : e.v.ownBlock = some g3) (hgg : (lookL σ e.x).v.ownBlock = some g3 ∨ g3 = wa.heap.size) :
  (w4.setCell ⟨t, 1, none⟩ e.v).drew.heap[t]? = some (.cells #[c0, e.v] 72 (0, 0)) ∧ (w4.setCell ⟨t, 1, none⟩ e.v).drew.heap[g]? = some (.cells #[rv, ov, .map (some m)] 51 (0, 0)) ∧ (w4.setCell ⟨t, 1, none⟩ e.v).drew.heap[m]? = some (.map (entsL σ) σ.length) ∧
   WS w0 (setL (w4.setCell ⟨t, 1, none⟩ e.v).drew m (putL σ e)) B g m rv ov O (putL σ e) ∧ Keep w1 (setL (w4.setCell ⟨t, 1, none⟩ e.v).drew m (putL σ e)) := by
 have hf : Free wa t := ⟨_, _, _, ht, by decide, by decide, by decide⟩
 have h4 : w4.heap[t]? = _ := (hg.block t (Array.getElem?_eq_some_iff.1 ht).1 (fun e2 => (h.look_far _ e2.symm).2.2.2.1 hf)).trans ht
 have t5 : Trn (fun k => (lookL σ e.x).v.ownBlock = some k ∨ k = t) wa (w4.setCell ⟨t, 1, none⟩ e.v) := Trn.setCell (Trn.of_grown hg (fun k hk => .inl hk)) (.inr rfl) _
 have t6 : Trn (fun k => (lookL σ e.x).v.ownBlock = some k ∨ k = t) wa (w4.setCell ⟨t, 1, none⟩ e.v).drew := ⟨t5.os, t5.tape, t5.output, t5.size, t5.block⟩
 have hgt : g3 ≠ t := by
  rcases hgg with e2 | e2
  ·rintro rfl; exact (h.look_far _ e2).2.2.2.1 hf
  ·have := (Array.getElem?_eq_some_iff.1 ht).1; omega
 refine ⟨?_, (t6.block g h.glt (fun e2 => e2.elim (fun e3 => (h.look_far _ e3).1 rfl) (fun e3 => h.free_g (by rw [e3]; exact hf)))).trans h.wb, (t6.block m h.mlt (fun e2 => e2.elim (fun e3 => (h.look_far _ e3).2.1 rfl) (fun e3 => h.free_m (by rw [e3]; exact hf)))).trans h.mp, h.upd hon hk hB1 t6 (fun k hk2 => hk2.imp id (fun e2 => ⟨by rw [e2]; exact hf, by rw [e2]; exact hwt⟩)) ?_ (fun k hk2 => ?_)⟩
 ·show (w4.setCell ⟨t, 1, none⟩ e.v).heap[t]? = _
  rw [setCell_row h4]; rfl
 ·have t7 : Trn (only t) w4 (w4.setCell ⟨t, 1, none⟩ e.v).drew := by
   have := Trn.setCell (F := only t) (Trn.refl _ w4) (show t = t from rfl) (i := 1) e.v
   exact ⟨this.os, this.tape, this.output, this.size, this.block⟩
  exact own_trn hI t7 (fun k hk2 e2 => by rw [hv'] at hk2; cases hk2; exact hgt e2)
 ·rw [hv'] at hk2
  cases hk2
  exact hgg.imp id (fun e2 => Nat.le_of_eq e2.symm)
section
variable {w0 w : World} {B g m : Nat} {rv ov : Value} {M : List Cd.MOp} {L : List Cd.Lb} {σ : List LA}
set_option maxRecDepth 20000 in
set_option maxHeartbeats 4000000 in
theorem goes_any (h : WS w0 w B g m rv ov (M.map (·.1)) σ) (ht : Tells σ M L) (k : Nat) (x : List UInt8) (hx : x.length ≤ 16777216) (hM : M.length ≤ 1048576) :
  Calls Tryz.prog 53 #[.pointer (some ⟨g, 0, none⟩), .int .i64 (k : Int), .string ⟨x.toArray⟩] w fun e w' => e = .returned (.tuple #[]) ∧ (∃ ov' σ', WS w0 w' B g m rv ov' ((M ++ [(Cd.zop k, some x)]).map (·.1)) σ' ∧ Tells σ' (M ++ [(Cd.zop k, some x)]) L) ∧ Keep w w' := by
 have hlk := look_entL h.mp x hx
 have hgl : (lookL σ x).gs.length ≤ 1048576 := by rw [(ht.2 x).2]; exact Nat.le_trans (pos_len _ _ _) hM
 have hOl : (M.map (·.1)).length = M.length := List.length_map ..
 have htl := Tells.goes ht x (Cd.zop k)
 obtain ⟨vo, vc, hv⟩ := (h.look x).form
 have hlx := lookL_x σ x
 obtain ⟨P, hP⟩ : ∃ P, (lookL σ x).p = P := ⟨_, rfl⟩
 obtain ⟨G, hG⟩ : ∃ G, (lookL σ x).gs = G := ⟨_, rfl⟩
 rw [hG] at hv hgl
 rw [hv, hP] at hlk
 rw [hP, hG] at htl
 obtain ⟨t, hts⟩ : ∃ t, w.heap.size = t := ⟨_, rfl⟩
 obtain ⟨T, hT⟩ : ∃ T, w.alloc (.cells #[.int .i64 (P : Int), .slice vo G.length vc] 72) = T := ⟨_, rfl⟩
 have hbt : T.heap[t]? = some (.cells #[.int .i64 (P : Int), .slice vo G.length vc] 72 (0, 0)) := by rw [← hT, ← hts]; exact heap_alloc_new _ _
 have hbT : Below w.heap.size w T.drew := by rw [← hT]; exact below_drew ((Below.refl _ _).alloc (Nat.le_refl _) _)
 have hD := h.below hbT
 have hbtD : T.drew.heap[t]? = _ := hbt
 have e2 := h.c.2.2.1
 have hkD := Keep.of_below hbT
 have HT := Lib.hid hT
 have HB1 := Lib.hid h.bsz
 have HTS0 := Lib.hid hts
 have HTS := Lib.hid (Nat.le_of_eq hts)
 have HV := Lib.hid hv
 have HG := Lib.hid hG
 have HX := Lib.hid hlx
 have HTL := Lib.hid htl
 have HON := Lib.hid ht.1
 have HOL := Lib.hid hOl
 clear h hT hts hbt hbT hv hlx hG htl ht hP hOl
 go_enter Tryz.func53, Tryz.ntmps53
 go_upto_region 1 with fail
 rw [HT.out, HTS0.out]
 refine wp_region_held_drew (S := fun _ => True) (by kernel_rfl) trivial (fun hH => ?_)
 generalize T.drew = wd at *
 have PUT := Lib.hid (wput_any hD k [] [] [] 0 0 (by rw [HOL.out]; exact hM))
 have d1 : wd.cell? ⟨t, 1, none⟩ = some (.slice vo G.length vc) := cell_of_row _ _ _ _ _ _ hbtD
 have HBD := Lib.hid hbtD
 have HKD := Lib.hid hkD
 clear hD hbtD hkD
 refine heldTake (i := 0) (v := ?_) rfl (by kernel_rfl) (by kernel_rfl) (fun _ _ _ h => h) (by rfl) trivial (fun w hSw => ?_) ?_; rotate_left; focus ((try dsimp only at hSw); go_simp; try with_reducible rfl)
 try simp only [Act.put, zLa, zLb, zLc]
 refine heldTake (i := 2) (v := ?_) rfl (by kernel_rfl) (by kernel_rfl) (fun _ _ _ h => h) (by rfl) trivial (fun w hSw => ?_) ?_; rotate_left; focus ((try dsimp only at hSw); go_simp; try with_reducible rfl)
 try simp only [Act.put, zLa, zLb, zLc]
 refine heldTake (i := 3) (v := ?_) rfl (by kernel_rfl) (by kernel_rfl) (fun _ _ _ h => h) (by rfl) trivial (fun w hSw => ?_) ?_; rotate_left; focus ((try dsimp only at hSw); go_simp; try with_reducible rfl)
 try simp only [Act.put, zLa, zLb, zLc]
 refine heldTake (i := 4) (v := ?_) rfl (by kernel_rfl) (by kernel_rfl) (fun _ _ _ h => h) (by rfl) trivial (fun w hSw => ?_) ?_; rotate_left; focus ((try dsimp only at hSw); go_simp; try with_reducible rfl)
 try simp only [Act.put, zLa, zLb, zLc]
 refine heldTwo (i := 1) (j := 5) rfl rfl (by kernel_rfl) (by rfl) (by rfl) (fun K hK => ?_) (fun K hK => ?_)
 ·go_simp; refine hK.out _ _ trivial ?_; clear hK K
  try simp only [Act.put, zLa, zLb, zLc]
  refine heldNext (i := 5) rfl (by kernel_rfl) (by rfl) (fun K hK => ?_)
  go_simp
  go_at_call 21
  refine PUT.out.mono ?_
  rintro e w2 ⟨rfl, ⟨ov2, hW2⟩, hK2⟩
  obtain ⟨N, hN⟩ : ∃ N, (M.map (·.1)).length = N := ⟨_, rfl⟩
  rw [hN]
  have hb2 : w2.heap[t]? = some (.cells #[.int .i64 (P : Int), .slice vo G.length vc] 72 (0, 0)) := hK2.blk _ _ _ _ HBD.out (by decide) (by decide) (by decide)
  have d2 : w2.cell? ⟨t, 1, none⟩ = some (.slice vo G.length vc) := cell_of_row _ _ _ _ _ _ hb2
  obtain ⟨wa, hwa⟩ : ∃ wa, w2.alloc (.cells #[.int .i64 (N : Int)] 3) = wa := ⟨_, rfl⟩
  have hba : Below w2.heap.size w2 wa := by rw [← hwa]; exact (Below.refl _ _).alloc (Nat.le_refl _) _
  have hna : wa.heap[w2.heap.size]? = some (.cells #[.int .i64 (N : Int)] 3 (0, 0)) := by rw [← hwa]; exact heap_alloc_new _ _
  have hA := hW2.below hba
  have hbtA : wa.heap[t]? = some (.cells #[.int .i64 (P : Int), .slice vo G.length vc] 72 (0, 0)) := (hba.block _ (Array.getElem?_eq_some_iff.1 hb2).1).trans hb2
  have hkA : Keep w wa := HKD.out.trans (hK2.trans (Keep.of_below hba))
  have d3 : wa.cell? ⟨t, 1, none⟩ = some (.slice vo G.length vc) := cell_of_row _ _ _ _ _ _ hbtA
  have hir := hA.look x
  rw [HV.out, HG.out] at hir
  have HIR := Lib.hid hir
  have HA := Lib.hid hA
  have HKA := Lib.hid hkA
  have HBA := Lib.hid hbtA
  have HNA := Lib.hid hna
  have HN := Lib.hid hN
  clear hb2 hba hna hA hbtA hkA hir hW2 hK2 hN
  refine hK.out _ _ trivial ?_; clear hK K
  try simp only [Act.put, zLa, zLb, zLc]
  refine heldNext (i := 6) rfl (by kernel_rfl) (by rfl) (fun K hK => ?_)
  go_simp; refine hK.out _ _ trivial ?_; clear hK K
  try simp only [Act.put, zLa, zLb, zLc]
  refine heldNext (i := 7) rfl (by kernel_rfl) (by rfl) (fun K hK => ?_)
  refine append_n N (.tmp 14) (.tmp 19) (by rfl) (by rfl) HIR.out (by rfl) HNA.out hgl HA.out.bsz (fun g3 c3 w4 ho hg hgg => ?_)
  have hb4 : w4.heap[t]? = some (.cells #[.int .i64 (P : Int), .slice vo G.length vc] 72 (0, 0)) := (hg.block t (Array.getElem?_eq_some_iff.1 HBA.out).1 (fun e => (HA.out.look_far x (by rw [HV.out]; exact e.symm)).2.2.2.1 ⟨_, _, _, HBA.out, by decide, by decide, by decide⟩)).trans HBA.out
  have q0 : w4.cell? ⟨t, 0, none⟩ = some (.int .i64 (P : Int)) := cell_of_row _ _ _ _ _ _ hb4
  have q1 : w4.cell? ⟨t, 1, none⟩ = some (.slice vo G.length vc) := cell_of_row _ _ _ _ _ _ hb4
  have qf : w4.frozen? ⟨t, 1, none⟩ = false := frozen_of_row _ _ _ _ _ hb4
  refine hK.out _ _ trivial ?_; clear hK K
  try simp only [Act.put, zLa, zLb, zLc]
  refine heldTake (i := 8) (v := ?_) rfl (by kernel_rfl) (by kernel_rfl) (fun _ _ _ h => h) (by rfl) trivial (fun w hSw => ?_) ?_; rotate_left; focus ((try dsimp only at hSw); go_simp; try with_reducible rfl)
  try simp only [Act.put, zLa, zLb, zLc]
  refine heldNext (i := 9) rfl (by kernel_rfl) (by rfl) (fun K hK => ?_)
  go_simp; refine hK.out _ _ trivial ?_; clear hK K
  try simp only [Act.put, zLa, zLb, zLc]
  refine wpAnyH_done (by kernel_rfl) ?_ _
  have hF := goes_fin (e := ⟨x, P, .slice (some ⟨g3, 0, none⟩) (G.length + 1) c3, G ++ [N]⟩) HA.out HON.out HKA.out HB1.out HBA.out HTS.out (by rw [HV.out]; exact hg) ho rfl (by rw [HV.out]; exact hgg)
  obtain ⟨w5, hw5⟩ : ∃ w5, w4.setCell ⟨t, 1, none⟩ (.slice (some ⟨g3, 0, none⟩) (G.length + 1) c3) = w5 := ⟨_, rfl⟩
  dsimp only at hF
  rw [hw5] at hF ⊢
  obtain ⟨r0, r1, r2, r3, r4⟩ := hF
  clear hH hwa ho hgg hg hb4 d1 d2 d3 q0 q1 qf
  go_upto_region 2 with fail
  refine wp_region_held_drew (S := fun _ => True) (by kernel_rfl) trivial (fun hH => ?_)
  generalize w5.drew = wz at *
  have s0 : wz.cell? ⟨t, 0, none⟩ = some (.int .i64 (P : Int)) := cell_of_row _ _ _ _ _ _ r0
  have s1 : wz.cell? ⟨t, 1, none⟩ = some (.slice (some ⟨g3, 0, none⟩) (G.length + 1) c3) := cell_of_row _ _ _ _ _ _ r0
  have s2 : wz.cell? ⟨g, 2, none⟩ = some (.map (some m)) := cell_of_row _ _ _ _ _ _ r1
  have up := upd_entL r2 ⟨x, P, .slice (some ⟨g3, 0, none⟩) (G.length + 1) c3, G ++ [N]⟩ hx
  dsimp only at up
  have htl := HTL.out (.slice (some ⟨g3, 0, none⟩) (G.length + 1) c3)
  rw [← HOL.out, HN.out] at htl
  have HFIN := Lib.hid (And.intro r3 (And.intro r4 htl))
  clear r0 r1 r2 r3 r4 hw5 htl
  refine heldTake (i := 0) (v := ?_) rfl (by kernel_rfl) (by kernel_rfl) (fun _ _ _ h => h) (by rfl) trivial (fun w hSw => ?_) ?_; rotate_left; focus ((try dsimp only at hSw); go_simp; try with_reducible rfl)
  try simp only [Act.put, zLa, zLb, zLc]
  refine heldTake (i := 1) (v := ?_) rfl (by kernel_rfl) (by kernel_rfl) (fun _ _ _ h => h) (by rfl) trivial (fun w hSw => ?_) ?_; rotate_left; focus ((try dsimp only at hSw); go_simp; try with_reducible rfl)
  try simp only [Act.put, zLa, zLb, zLc]
  refine heldTake (i := 2) (v := ?_) rfl (by kernel_rfl) (by kernel_rfl) (fun _ _ _ h => h) (by rfl) trivial (fun w hSw => ?_) ?_; rotate_left; focus ((try dsimp only at hSw); go_simp; try with_reducible rfl)
  try simp only [Act.put, zLa, zLb, zLc]
  refine heldTake (i := 4) (v := ?_) rfl (by kernel_rfl) (by kernel_rfl) (fun _ _ _ h => h) (by rfl) trivial (fun w hSw => ?_) ?_; rotate_left; focus ((try dsimp only at hSw); go_simp; try with_reducible rfl)
  try simp only [Act.put, zLa, zLb, zLc]
  refine heldTwo (i := 3) (j := 5) rfl rfl (by kernel_rfl) (by rfl) (by rfl) (fun K hK => ?_) (fun K hK => ?_)
  ·go_simp; refine hK.out _ _ trivial ?_; clear hK K
   try simp only [Act.put, zLa, zLb, zLc]
   refine heldNext (i := 5) rfl (by kernel_rfl) (by rfl) (fun K hK => ?_)
   go_simp; refine hK.out _ _ trivial ?_; clear hK K
   try simp only [Act.put, zLa, zLb, zLc]
   refine heldNext (i := 6) rfl (by kernel_rfl) (by rfl) (fun K hK => ?_)
   go_simp; refine hK.out _ _ trivial ?_; clear hK K
   try simp only [Act.put, zLa, zLb, zLc]
   refine wpAnyH_done (by kernel_rfl) ?_ _
   go_wp2
   go_end0
   obtain ⟨z1, z2, z3⟩ := HFIN.out
   rw [show (M ++ [(Cd.zop k, some x)]).map (·.1) = M.map (·.1) ++ [⟨k, [], [], [], 0, 0⟩] from List.map_append]
   exact ⟨rfl, ⟨_, _, z1, z3⟩, z2⟩
  ·go_simp; refine hK.out _ _ trivial ?_; clear hK K
   try simp only [Act.put, zLa, zLb, zLc]
   refine heldNext (i := 3) rfl (by kernel_rfl) (by rfl) (fun K hK => ?_)
   go_simp; refine hK.out _ _ trivial ?_; clear hK K
   try simp only [Act.put, zLa, zLb, zLc]
   refine heldNext (i := 6) rfl (by kernel_rfl) (by rfl) (fun K hK => ?_)
   go_simp; refine hK.out _ _ trivial ?_; clear hK K
   try simp only [Act.put, zLa, zLb, zLc]
   refine wpAnyH_done (by kernel_rfl) ?_ _
   go_wp2
   go_end0
   obtain ⟨z1, z2, z3⟩ := HFIN.out
   rw [show (M ++ [(Cd.zop k, some x)]).map (·.1) = M.map (·.1) ++ [⟨k, [], [], [], 0, 0⟩] from List.map_append]
   exact ⟨rfl, ⟨_, _, z1, z3⟩, z2⟩
 ·go_simp
  go_at_call 21
  refine PUT.out.mono ?_
  rintro e w2 ⟨rfl, ⟨ov2, hW2⟩, hK2⟩
  obtain ⟨N, hN⟩ : ∃ N, (M.map (·.1)).length = N := ⟨_, rfl⟩
  rw [hN]
  have hb2 : w2.heap[t]? = some (.cells #[.int .i64 (P : Int), .slice vo G.length vc] 72 (0, 0)) := hK2.blk _ _ _ _ HBD.out (by decide) (by decide) (by decide)
  have d2 : w2.cell? ⟨t, 1, none⟩ = some (.slice vo G.length vc) := cell_of_row _ _ _ _ _ _ hb2
  obtain ⟨wa, hwa⟩ : ∃ wa, w2.alloc (.cells #[.int .i64 (N : Int)] 3) = wa := ⟨_, rfl⟩
  have hba : Below w2.heap.size w2 wa := by rw [← hwa]; exact (Below.refl _ _).alloc (Nat.le_refl _) _
  have hna : wa.heap[w2.heap.size]? = some (.cells #[.int .i64 (N : Int)] 3 (0, 0)) := by rw [← hwa]; exact heap_alloc_new _ _
  have hA := hW2.below hba
  have hbtA : wa.heap[t]? = some (.cells #[.int .i64 (P : Int), .slice vo G.length vc] 72 (0, 0)) := (hba.block _ (Array.getElem?_eq_some_iff.1 hb2).1).trans hb2
  have hkA : Keep w wa := HKD.out.trans (hK2.trans (Keep.of_below hba))
  have d3 : wa.cell? ⟨t, 1, none⟩ = some (.slice vo G.length vc) := cell_of_row _ _ _ _ _ _ hbtA
  have hir := hA.look x
  rw [HV.out, HG.out] at hir
  have HIR := Lib.hid hir
  have HA := Lib.hid hA
  have HKA := Lib.hid hkA
  have HBA := Lib.hid hbtA
  have HNA := Lib.hid hna
  have HN := Lib.hid hN
  clear hb2 hba hna hA hbtA hkA hir hW2 hK2 hN
  refine hK.out _ _ trivial ?_; clear hK K
  try simp only [Act.put, zLa, zLb, zLc]
  refine heldTwo (i := 1) (j := 6) rfl rfl (by kernel_rfl) (by rfl) (by rfl) (fun K hK => ?_) (fun K hK => ?_)
  ·go_simp; refine hK.out _ _ trivial ?_; clear hK K
   try simp only [Act.put, zLa, zLb, zLc]
   refine heldNext (i := 6) rfl (by kernel_rfl) (by rfl) (fun K hK => ?_)
   go_simp; refine hK.out _ _ trivial ?_; clear hK K
   try simp only [Act.put, zLa, zLb, zLc]
   refine heldNext (i := 7) rfl (by kernel_rfl) (by rfl) (fun K hK => ?_)
   refine append_n N (.tmp 14) (.tmp 19) (by rfl) (by rfl) HIR.out (by rfl) HNA.out hgl HA.out.bsz (fun g3 c3 w4 ho hg hgg => ?_)
   have hb4 : w4.heap[t]? = some (.cells #[.int .i64 (P : Int), .slice vo G.length vc] 72 (0, 0)) := (hg.block t (Array.getElem?_eq_some_iff.1 HBA.out).1 (fun e => (HA.out.look_far x (by rw [HV.out]; exact e.symm)).2.2.2.1 ⟨_, _, _, HBA.out, by decide, by decide, by decide⟩)).trans HBA.out
   have q0 : w4.cell? ⟨t, 0, none⟩ = some (.int .i64 (P : Int)) := cell_of_row _ _ _ _ _ _ hb4
   have q1 : w4.cell? ⟨t, 1, none⟩ = some (.slice vo G.length vc) := cell_of_row _ _ _ _ _ _ hb4
   have qf : w4.frozen? ⟨t, 1, none⟩ = false := frozen_of_row _ _ _ _ _ hb4
   refine hK.out _ _ trivial ?_; clear hK K
   try simp only [Act.put, zLa, zLb, zLc]
   refine heldTake (i := 8) (v := ?_) rfl (by kernel_rfl) (by kernel_rfl) (fun _ _ _ h => h) (by rfl) trivial (fun w hSw => ?_) ?_; rotate_left; focus ((try dsimp only at hSw); go_simp; try with_reducible rfl)
   try simp only [Act.put, zLa, zLb, zLc]
   refine heldNext (i := 9) rfl (by kernel_rfl) (by rfl) (fun K hK => ?_)
   go_simp; refine hK.out _ _ trivial ?_; clear hK K
   try simp only [Act.put, zLa, zLb, zLc]
   refine wpAnyH_done (by kernel_rfl) ?_ _
   have hF := goes_fin (e := ⟨x, P, .slice (some ⟨g3, 0, none⟩) (G.length + 1) c3, G ++ [N]⟩) HA.out HON.out HKA.out HB1.out HBA.out HTS.out (by rw [HV.out]; exact hg) ho rfl (by rw [HV.out]; exact hgg)
   obtain ⟨w5, hw5⟩ : ∃ w5, w4.setCell ⟨t, 1, none⟩ (.slice (some ⟨g3, 0, none⟩) (G.length + 1) c3) = w5 := ⟨_, rfl⟩
   dsimp only at hF
   rw [hw5] at hF ⊢
   obtain ⟨r0, r1, r2, r3, r4⟩ := hF
   clear hH hwa ho hgg hg hb4 d1 d2 d3 q0 q1 qf
   go_upto_region 2 with fail
   refine wp_region_held_drew (S := fun _ => True) (by kernel_rfl) trivial (fun hH => ?_)
   generalize w5.drew = wz at *
   have s0 : wz.cell? ⟨t, 0, none⟩ = some (.int .i64 (P : Int)) := cell_of_row _ _ _ _ _ _ r0
   have s1 : wz.cell? ⟨t, 1, none⟩ = some (.slice (some ⟨g3, 0, none⟩) (G.length + 1) c3) := cell_of_row _ _ _ _ _ _ r0
   have s2 : wz.cell? ⟨g, 2, none⟩ = some (.map (some m)) := cell_of_row _ _ _ _ _ _ r1
   have up := upd_entL r2 ⟨x, P, .slice (some ⟨g3, 0, none⟩) (G.length + 1) c3, G ++ [N]⟩ hx
   dsimp only at up
   have htl := HTL.out (.slice (some ⟨g3, 0, none⟩) (G.length + 1) c3)
   rw [← HOL.out, HN.out] at htl
   have HFIN := Lib.hid (And.intro r3 (And.intro r4 htl))
   clear r0 r1 r2 r3 r4 hw5 htl
   refine heldTake (i := 0) (v := ?_) rfl (by kernel_rfl) (by kernel_rfl) (fun _ _ _ h => h) (by rfl) trivial (fun w hSw => ?_) ?_; rotate_left; focus ((try dsimp only at hSw); go_simp; try with_reducible rfl)
   try simp only [Act.put, zLa, zLb, zLc]
   refine heldTake (i := 1) (v := ?_) rfl (by kernel_rfl) (by kernel_rfl) (fun _ _ _ h => h) (by rfl) trivial (fun w hSw => ?_) ?_; rotate_left; focus ((try dsimp only at hSw); go_simp; try with_reducible rfl)
   try simp only [Act.put, zLa, zLb, zLc]
   refine heldTake (i := 2) (v := ?_) rfl (by kernel_rfl) (by kernel_rfl) (fun _ _ _ h => h) (by rfl) trivial (fun w hSw => ?_) ?_; rotate_left; focus ((try dsimp only at hSw); go_simp; try with_reducible rfl)
   try simp only [Act.put, zLa, zLb, zLc]
   refine heldTake (i := 4) (v := ?_) rfl (by kernel_rfl) (by kernel_rfl) (fun _ _ _ h => h) (by rfl) trivial (fun w hSw => ?_) ?_; rotate_left; focus ((try dsimp only at hSw); go_simp; try with_reducible rfl)
   try simp only [Act.put, zLa, zLb, zLc]
   refine heldTwo (i := 3) (j := 5) rfl rfl (by kernel_rfl) (by rfl) (by rfl) (fun K hK => ?_) (fun K hK => ?_)
   ·go_simp; refine hK.out _ _ trivial ?_; clear hK K
    try simp only [Act.put, zLa, zLb, zLc]
    refine heldNext (i := 5) rfl (by kernel_rfl) (by rfl) (fun K hK => ?_)
    go_simp; refine hK.out _ _ trivial ?_; clear hK K
    try simp only [Act.put, zLa, zLb, zLc]
    refine heldNext (i := 6) rfl (by kernel_rfl) (by rfl) (fun K hK => ?_)
    go_simp; refine hK.out _ _ trivial ?_; clear hK K
    try simp only [Act.put, zLa, zLb, zLc]
    refine wpAnyH_done (by kernel_rfl) ?_ _
    go_wp2
    go_end0
    obtain ⟨z1, z2, z3⟩ := HFIN.out
    rw [show (M ++ [(Cd.zop k, some x)]).map (·.1) = M.map (·.1) ++ [⟨k, [], [], [], 0, 0⟩] from List.map_append]
    exact ⟨rfl, ⟨_, _, z1, z3⟩, z2⟩
   ·go_simp; refine hK.out _ _ trivial ?_; clear hK K
    try simp only [Act.put, zLa, zLb, zLc]
    refine heldNext (i := 3) rfl (by kernel_rfl) (by rfl) (fun K hK => ?_)
    go_simp; refine hK.out _ _ trivial ?_; clear hK K
    try simp only [Act.put, zLa, zLb, zLc]
    refine heldNext (i := 6) rfl (by kernel_rfl) (by rfl) (fun K hK => ?_)
    go_simp; refine hK.out _ _ trivial ?_; clear hK K
    try simp only [Act.put, zLa, zLb, zLc]
    refine wpAnyH_done (by kernel_rfl) ?_ _
    go_wp2
    go_end0
    obtain ⟨z1, z2, z3⟩ := HFIN.out
    rw [show (M ++ [(Cd.zop k, some x)]).map (·.1) = M.map (·.1) ++ [⟨k, [], [], [], 0, 0⟩] from List.map_append]
    exact ⟨rfl, ⟨_, _, z1, z3⟩, z2⟩
  ·go_simp; refine hK.out _ _ trivial ?_; clear hK K
   try simp only [Act.put, zLa, zLb, zLc]
   refine heldNext (i := 1) rfl (by kernel_rfl) (by rfl) (fun K hK => ?_)
   go_simp; refine hK.out _ _ trivial ?_; clear hK K
   try simp only [Act.put, zLa, zLb, zLc]
   refine heldNext (i := 7) rfl (by kernel_rfl) (by rfl) (fun K hK => ?_)
   refine append_n N (.tmp 14) (.tmp 19) (by rfl) (by rfl) HIR.out (by rfl) HNA.out hgl HA.out.bsz (fun g3 c3 w4 ho hg hgg => ?_)
   have hb4 : w4.heap[t]? = some (.cells #[.int .i64 (P : Int), .slice vo G.length vc] 72 (0, 0)) := (hg.block t (Array.getElem?_eq_some_iff.1 HBA.out).1 (fun e => (HA.out.look_far x (by rw [HV.out]; exact e.symm)).2.2.2.1 ⟨_, _, _, HBA.out, by decide, by decide, by decide⟩)).trans HBA.out
   have q0 : w4.cell? ⟨t, 0, none⟩ = some (.int .i64 (P : Int)) := cell_of_row _ _ _ _ _ _ hb4
   have q1 : w4.cell? ⟨t, 1, none⟩ = some (.slice vo G.length vc) := cell_of_row _ _ _ _ _ _ hb4
   have qf : w4.frozen? ⟨t, 1, none⟩ = false := frozen_of_row _ _ _ _ _ hb4
   refine hK.out _ _ trivial ?_; clear hK K
   try simp only [Act.put, zLa, zLb, zLc]
   refine heldTake (i := 8) (v := ?_) rfl (by kernel_rfl) (by kernel_rfl) (fun _ _ _ h => h) (by rfl) trivial (fun w hSw => ?_) ?_; rotate_left; focus ((try dsimp only at hSw); go_simp; try with_reducible rfl)
   try simp only [Act.put, zLa, zLb, zLc]
   refine heldNext (i := 9) rfl (by kernel_rfl) (by rfl) (fun K hK => ?_)
   go_simp; refine hK.out _ _ trivial ?_; clear hK K
   try simp only [Act.put, zLa, zLb, zLc]
   refine wpAnyH_done (by kernel_rfl) ?_ _
   have hF := goes_fin (e := ⟨x, P, .slice (some ⟨g3, 0, none⟩) (G.length + 1) c3, G ++ [N]⟩) HA.out HON.out HKA.out HB1.out HBA.out HTS.out (by rw [HV.out]; exact hg) ho rfl (by rw [HV.out]; exact hgg)
   obtain ⟨w5, hw5⟩ : ∃ w5, w4.setCell ⟨t, 1, none⟩ (.slice (some ⟨g3, 0, none⟩) (G.length + 1) c3) = w5 := ⟨_, rfl⟩
   dsimp only at hF
   rw [hw5] at hF ⊢
   obtain ⟨r0, r1, r2, r3, r4⟩ := hF
   clear hH hwa ho hgg hg hb4 d1 d2 d3 q0 q1 qf
   go_upto_region 2 with fail
   refine wp_region_held_drew (S := fun _ => True) (by kernel_rfl) trivial (fun hH => ?_)
   generalize w5.drew = wz at *
   have s0 : wz.cell? ⟨t, 0, none⟩ = some (.int .i64 (P : Int)) := cell_of_row _ _ _ _ _ _ r0
   have s1 : wz.cell? ⟨t, 1, none⟩ = some (.slice (some ⟨g3, 0, none⟩) (G.length + 1) c3) := cell_of_row _ _ _ _ _ _ r0
   have s2 : wz.cell? ⟨g, 2, none⟩ = some (.map (some m)) := cell_of_row _ _ _ _ _ _ r1
   have up := upd_entL r2 ⟨x, P, .slice (some ⟨g3, 0, none⟩) (G.length + 1) c3, G ++ [N]⟩ hx
   dsimp only at up
   have htl := HTL.out (.slice (some ⟨g3, 0, none⟩) (G.length + 1) c3)
   rw [← HOL.out, HN.out] at htl
   have HFIN := Lib.hid (And.intro r3 (And.intro r4 htl))
   clear r0 r1 r2 r3 r4 hw5 htl
   refine heldTake (i := 0) (v := ?_) rfl (by kernel_rfl) (by kernel_rfl) (fun _ _ _ h => h) (by rfl) trivial (fun w hSw => ?_) ?_; rotate_left; focus ((try dsimp only at hSw); go_simp; try with_reducible rfl)
   try simp only [Act.put, zLa, zLb, zLc]
   refine heldTake (i := 1) (v := ?_) rfl (by kernel_rfl) (by kernel_rfl) (fun _ _ _ h => h) (by rfl) trivial (fun w hSw => ?_) ?_; rotate_left; focus ((try dsimp only at hSw); go_simp; try with_reducible rfl)
   try simp only [Act.put, zLa, zLb, zLc]
   refine heldTake (i := 2) (v := ?_) rfl (by kernel_rfl) (by kernel_rfl) (fun _ _ _ h => h) (by rfl) trivial (fun w hSw => ?_) ?_; rotate_left; focus ((try dsimp only at hSw); go_simp; try with_reducible rfl)
   try simp only [Act.put, zLa, zLb, zLc]
   refine heldTake (i := 4) (v := ?_) rfl (by kernel_rfl) (by kernel_rfl) (fun _ _ _ h => h) (by rfl) trivial (fun w hSw => ?_) ?_; rotate_left; focus ((try dsimp only at hSw); go_simp; try with_reducible rfl)
   try simp only [Act.put, zLa, zLb, zLc]
   refine heldTwo (i := 3) (j := 5) rfl rfl (by kernel_rfl) (by rfl) (by rfl) (fun K hK => ?_) (fun K hK => ?_)
   ·go_simp; refine hK.out _ _ trivial ?_; clear hK K
    try simp only [Act.put, zLa, zLb, zLc]
    refine heldNext (i := 5) rfl (by kernel_rfl) (by rfl) (fun K hK => ?_)
    go_simp; refine hK.out _ _ trivial ?_; clear hK K
    try simp only [Act.put, zLa, zLb, zLc]
    refine heldNext (i := 6) rfl (by kernel_rfl) (by rfl) (fun K hK => ?_)
    go_simp; refine hK.out _ _ trivial ?_; clear hK K
    try simp only [Act.put, zLa, zLb, zLc]
    refine wpAnyH_done (by kernel_rfl) ?_ _
    go_wp2
    go_end0
    obtain ⟨z1, z2, z3⟩ := HFIN.out
    rw [show (M ++ [(Cd.zop k, some x)]).map (·.1) = M.map (·.1) ++ [⟨k, [], [], [], 0, 0⟩] from List.map_append]
    exact ⟨rfl, ⟨_, _, z1, z3⟩, z2⟩
   ·go_simp; refine hK.out _ _ trivial ?_; clear hK K
    try simp only [Act.put, zLa, zLb, zLc]
    refine heldNext (i := 3) rfl (by kernel_rfl) (by rfl) (fun K hK => ?_)
    go_simp; refine hK.out _ _ trivial ?_; clear hK K
    try simp only [Act.put, zLa, zLb, zLc]
    refine heldNext (i := 6) rfl (by kernel_rfl) (by rfl) (fun K hK => ?_)
    go_simp; refine hK.out _ _ trivial ?_; clear hK K
    try simp only [Act.put, zLa, zLb, zLc]
    refine wpAnyH_done (by kernel_rfl) ?_ _
    go_wp2
    go_end0
    obtain ⟨z1, z2, z3⟩ := HFIN.out
    rw [show (M ++ [(Cd.zop k, some x)]).map (·.1) = M.map (·.1) ++ [⟨k, [], [], [], 0, 0⟩] from List.map_append]
    exact ⟨rfl, ⟨_, _, z1, z3⟩, z2⟩
end
end Go.Proofs.YtodlhhfcjkjapaaGreatDoor
