/- parse's kindOf walked (layer 15). -/
import Derived.Test.YtiikionoagmabaaDoorPF
import Derived.Test.YtiikionoagmabaaDoorHeld
import Derived.Test.YtiikionoagmabaaDoorWords
namespace Go.Proofs.YtiikionoagmabaaDoor
open Go.RowKit

/-- The words of a shape. -/
theorem pwords_any (k : Nat) (h1 : 1 ≤ k) (h2 : k ≤ 17) (w : World) : Calls Tryd.prog 57 #[.string ⟨(Ps.shapeS k).toArray⟩] w fun e w' =>
    ∃ g n cap, e = .returned (.slice (some ⟨g, 0, none⟩) n cap) ∧ n = (Ps.tailW k).length + 1 ∧ w.heap.size ≤ g ∧ Rd w' (.slice (some ⟨g, 0, none⟩) n cap) ((Ps.fw k :: Ps.tailW k).map sv) ∧ w'.cell? ⟨g, 0, none⟩ = some (.string ⟨(Ps.fw k).toArray⟩) ∧ Below w.heap.size w w' := by
  have hl := Ps.shapeS_len ⟨k, by omega⟩
  refine (words_any ⟨(Ps.shapeS k).toArray⟩ w (by show (Ps.shapeS k).length ≤ _; simp only at hl; omega)).mono ?_
  rintro e w' ⟨v, rfl, ho, hb⟩
  rw [show (⟨(Ps.shapeS k).toArray⟩ : ByteArray).data.toList = Ps.shapeS k from rfl, Ps.words_of h1 h2] at ho
  obtain ⟨g, cap, rfl, hg, _, _, hc⟩ := own_pos ho (by simp)
  exact ⟨g, _, cap, rfl, rfl, hg, Rd.of_own ho, hc 0 _ rfl, hb⟩
theorem below_drewK {B : Nat} {a w : World} (h : Below B a w) : Below B a w.drew := ⟨h.os, h.tape, h.output, h.size, h.block⟩

set_option maxRecDepth 20000 in
set_option maxHeartbeats 4000000 in
theorem kindOf_any (k : Nat) (t : List UInt8) (p : Nat) (w : World) (hS : SHP w) (hf : Ps.Fine ⟨k, t, p⟩) : Calls Tryd.prog 56 #[tkv k t p] w fun e w' => e = .returned (.int .i64 ((if k = 1 then Ps.kindOf t else 0 : Nat) : Int)) ∧ Below w.heap.size w w' := by
  obtain ⟨R, hR⟩ : ∃ R, (if k = 1 then Ps.kindOf t else 0 : Nat) = R := ⟨_, rfl⟩
  rw [hR]
  have HR := Lib.hid hR
  have HF := Lib.hid hf
  have HSH := Lib.hid hS
  clear hR hS hf
  unfold tkv
  obtain ⟨T, hT⟩ : ∃ T, w.alloc (.cells #[.int .i64 (k : Int), .string ⟨t.toArray⟩, .int .i64 (p : Int)] 53) = T := ⟨_, rfl⟩
  have hTk := Tk3.new w k t p
  rw [hT] at hTk
  have hbT : Below w.heap.size w T := by rw [← hT]; exact (Below.refl _ _).alloc (Nat.le_refl _) _
  have HTK := Lib.hid (fun (w' : World) (hb : Below T.heap.size T w') => hTk.below hb)
  have HBT := Lib.hid hbT
  clear hTk hbT
  go_enter Tryd.func56, Tryd.ntmps56
  go_wp2
  go_loopw [3] (fun s3 wr => ∃ j : Nat, 1 ≤ j ∧ j ≤ 18 ∧ s3 = .int .i64 (j : Int) ∧ Hid (Below T.heap.size T wr) ∧ Hid (R = if k = 1 then Ps.kindIn t j (Ps.firsts.drop (j - 1)) else 0)) (fun s3 _ => 18 - (intOf s3).toNat)
  case atStart => exact ⟨1, by omega, by omega, rfl, Lib.hid (Below.refl _ _), Lib.hid HR.out.symm⟩
  case round =>
    obtain ⟨j, hj1, hj2, rfl, HB, HQ⟩ := hrel
    by_cases hlt : j ≤ 17
    · have HBD := Lib.hid (below_drewK HB.out)
      have hd := HTK.out _ HBD.out
      have hs0 : wr.drew.cell? ⟨w.heap.size, 0, none⟩ = some (.int .i64 (k : Int)) ∧ wr.drew.cell? ⟨w.heap.size, 1, none⟩ = some (.string ⟨t.toArray⟩) ∧ wr.drew.cell? ⟨w.heap.size, 2, none⟩ = some (.int .i64 (p : Int)) := ⟨hd.c0, hd.c1, hd.c2⟩
      have PW := Lib.hid (fun wx => pwords_any j hj1 hlt wx)
      have FA := Lib.hid (fun wx => fits_any k t p (Ps.fw j) wx)
      unfold tkv at FA
      rw [Ps.fitsT_fw hj1 hlt HF.out] at FA
      have hq := HQ.out
      rw [Ps.kind_from t j hj1 hlt] at hq
      have hj3 : (j : Int) ≤ 17 := by omega
      have hj4 : 1 ≤ j := hj1
      go_wp2_with fail
      refine wp_region_held_drew (S := fun w' => w'.cell? ⟨w.heap.size, 0, none⟩ = some (.int .i64 (k : Int)) ∧ w'.cell? ⟨w.heap.size, 1, none⟩ = some (.string ⟨t.toArray⟩) ∧ w'.cell? ⟨w.heap.size, 2, none⟩ = some (.int .i64 (p : Int))) (by kernel_rfl) hs0 (fun hH => ?_)
      generalize wr.drew = wd at *
      have hSD : SHP wd := ((HSH.out.below HBT.out).below HBD.out)
      have PS := Lib.hid (fun (wx : World) (h : SHP wx) => pshape_any j (by omega) wx h)
      refine heldTake (i := 0) (v := ?_) rfl (by kernel_rfl) (by kernel_rfl) (fun _ _ _ h => h) (by rfl) (by assumption) (fun w hSw => ?_) ?_; rotate_left; focus ((try dsimp only at hSw); go_simp; try with_reducible rfl)
      try simp only [Act.put, List.setIfInBounds_toArray, List.set_cons_zero, List.set_cons_succ]
      refine heldTake (i := 1) (v := ?_) rfl (by kernel_rfl) (by kernel_rfl) (fun _ _ _ h => h) (by rfl) (by assumption) (fun w hSw => ?_) ?_; rotate_left; focus ((try dsimp only at hSw); go_simp; try with_reducible rfl)
      try simp only [Act.put, List.setIfInBounds_toArray, List.set_cons_zero, List.set_cons_succ]
      -- NEXT 2 Op.call { callee := Callee.value (Operand.func 16), args := #[Operand.tmp 9], argTypes := #[3] }
      refine heldNext (i := 2) rfl (by kernel_rfl) (by rfl) (fun K hK => ?_)
      go_simp; go_at_call 16; refine (PS.out _ (by assumption)).mono ?_; rintro e w1 ⟨rfl, rfl⟩; first | (refine hK.out _ _ (by assumption) ?_) | (go_wp2_with fail; refine hK.out _ _ (by assumption) ?_); clear hK K
      try simp only [Act.put, List.setIfInBounds_toArray, List.set_cons_zero, List.set_cons_succ]
      -- NEXT 3 Op.call { callee := Callee.value (Operand.func 57), args := #[Operand.tmp 10], argTypes := #[9] }
      refine heldNext (i := 3) rfl (by kernel_rfl) (by rfl) (fun K hK => ?_)
      go_simp; go_at_call 57; refine (PW.out _).mono ?_; rintro e w2 ⟨gw, nw, cw, rfl, hnw, hgw, hrw, hcw, hbw⟩
      have k2 := HTK.out w2 (HBD.out.trans (hbw.mono HBD.out.size))
      have s2 : w2.cell? ⟨w.heap.size, 0, none⟩ = some (.int .i64 (k : Int)) ∧ w2.cell? ⟨w.heap.size, 1, none⟩ = some (.string ⟨t.toArray⟩) ∧ w2.cell? ⟨w.heap.size, 2, none⟩ = some (.int .i64 (p : Int)) := ⟨k2.c0, k2.c1, k2.c2⟩
      first | (refine hK.out _ _ s2 ?_) | (go_wp2_with fail; refine hK.out _ _ s2 ?_)
      clear hK K
      refine heldMore (S' := fun w' => (w'.cell? ⟨w.heap.size, 0, none⟩ = some (.int .i64 (k : Int)) ∧ w'.cell? ⟨w.heap.size, 1, none⟩ = some (.string ⟨t.toArray⟩) ∧ w'.cell? ⟨w.heap.size, 2, none⟩ = some (.int .i64 (p : Int))) ∧ w'.cell? ⟨gw, 0, none⟩ = some (.string ⟨(Ps.fw j).toArray⟩)) (fun _ h => h.1) ?_
      have s3 := And.intro s2 hcw
      have hn0 : (0 : Int) < (nw : Int) := by omega
      have hn1 : 0 < nw := by omega
      have HBW := Lib.hid (HBD.out.trans (hbw.mono HBD.out.size))
      clear hrw hbw hnw hgw k2 s2 hcw
      try simp only [Act.put, List.setIfInBounds_toArray, List.set_cons_zero, List.set_cons_succ]
      refine heldTake (i := 4) (v := ?_) rfl (by kernel_rfl) (by kernel_rfl) (fun _ _ _ h => h) (by rfl) (by assumption) (fun w hSw => ?_) ?_; rotate_left; focus ((try dsimp only at hSw); go_simp; try with_reducible rfl)
      try simp only [Act.put, List.setIfInBounds_toArray, List.set_cons_zero, List.set_cons_succ]
      refine heldTake (i := 5) (v := ?_) rfl (by kernel_rfl) (by kernel_rfl) (fun _ _ _ h => h) (by rfl) (by assumption) (fun w hSw => ?_) ?_; rotate_left; focus ((try dsimp only at hSw); go_simp; try with_reducible rfl)
      try simp only [Act.put, List.setIfInBounds_toArray, List.set_cons_zero, List.set_cons_succ]
      -- NEXT 6 Op.call { callee := Callee.value (Operand.func 37), args := #[Operand.tmp 8, Operand.tmp 13], argTypes := #[53
      refine heldNext (i := 6) rfl (by kernel_rfl) (by rfl) (fun K hK => ?_)
      go_simp; go_at_call 37; refine (FA.out _).mono ?_; rintro e w3 ⟨rfl, hb3⟩
      have HB3 := Lib.hid (HBW.out.trans (hb3.mono HBW.out.size))
      have k3 := HTK.out w3 HB3.out
      have c3 : w3.cell? ⟨gw, 0, none⟩ = some (.string ⟨(Ps.fw j).toArray⟩) := (hb3.cell (World.block_lt_of_cell? _ _ s3.2)).trans s3.2
      have s4 : (w3.cell? ⟨w.heap.size, 0, none⟩ = some (.int .i64 (k : Int)) ∧ w3.cell? ⟨w.heap.size, 1, none⟩ = some (.string ⟨t.toArray⟩) ∧ w3.cell? ⟨w.heap.size, 2, none⟩ = some (.int .i64 (p : Int))) ∧ w3.cell? ⟨gw, 0, none⟩ = some (.string ⟨(Ps.fw j).toArray⟩) := ⟨⟨k3.c0, k3.c1, k3.c2⟩, c3⟩
      first | (refine hK.out _ _ s4 ?_) | (go_wp2_with fail; refine hK.out _ _ s4 ?_)
      clear hK K hb3 s3 k3 c3
      try simp only [Act.put, List.setIfInBounds_toArray, List.set_cons_zero, List.set_cons_succ]
      refine wpAnyH_done (by kernel_rfl) ?_ _
      skip
      by_cases hn : Ps.isName (Ps.fw j) ⟨k, t, p⟩ = true
      · rw [hn]
        have hv : R = j := by
          unfold Ps.isName at hn
          simp only [Bool.and_eq_true, beq_iff_eq] at hn
          rw [hq, if_pos hn.1, if_pos hn.2]
        subst hv
        clear hq hn
        go_wp2
        go_ret
        exact ⟨rfl, HBT.out.trans (HB3.out.mono HBT.out.size)⟩
      · have hn' : Ps.isName (Ps.fw j) ⟨k, t, p⟩ = false := by simpa using hn
        rw [hn']
        have hv : R = if k = 1 then Ps.kindIn t (j + 1) (Ps.firsts.drop (j + 1 - 1)) else 0 := by
          rw [hq]
          by_cases hk : k = 1
          · rw [if_pos hk, if_pos hk, if_neg (fun e => hn (by unfold Ps.isName; simp [hk, e]))]
            rfl
          · rw [if_neg hk, if_neg hk]
        have HV := Lib.hid hv
        clear hq hn hn' hv
        go_wp2
        go_roundw
        case rel => exact ⟨j + 1, by omega, by omega, by first | rfl | go_num, HB3, HV⟩
        case measure => simp [intOf]; omega
    · obtain rfl : j = 18 := by omega
      have hv : R = 0 := by rw [HQ.out]; split <;> rfl
      subst hv
      go_wp2
      go_ret
      exact ⟨rfl, HBT.out.trans (HB.out.mono HBT.out.size)⟩
end Go.Proofs.YtiikionoagmabaaDoor
