/- caps.Of walked, out of what its lines are. -/
import Derived.Test.YtomeoploojjacaaDoorCapPush
import Derived.Test.YtomeoploojjacaaDoorCapsIn
import Derived.Test.YtomeoploojjacaaDoorCapsLines
namespace Go.Proofs.YtomeoploojjacaaDoor
open Go.RowKit
namespace Cp
theorem ofLines_none {cnt : List (List UInt8)} {k : Nat} (h : k < cnt.length) (hw : Tx.words (Tx.up (cnt.getD k [])) = []) : ofLines (cnt.take (k + 1)) = ofLines (cnt.take k) := by
  have e : cnt[k] = cnt.getD k [] := by rw [List.getD_eq_getElem?_getD, List.getElem?_eq_getElem h]; rfl
  rw [List.take_succ_eq_append_getElem h, ofLines_app, e]
  have : capOf (cnt.getD k []) = none := by unfold capOf; rw [hw]; rfl
  simp only [ofLines, List.filterMap_cons, this, List.filterMap_nil, List.append_nil]
theorem ofLines_some {cnt : List (List UInt8)} {k : Nat} (h : k < cnt.length) {n : List UInt8} {r : List (List UInt8)} (hw : Tx.words (Tx.up (cnt.getD k [])) = n :: r) : ofLines (cnt.take (k + 1)) = ofLines (cnt.take k) ++ [⟨n, r⟩] := by
  have e : cnt[k] = cnt.getD k [] := by rw [List.getD_eq_getElem?_getD, List.getElem?_eq_getElem h]; rfl
  rw [List.take_succ_eq_append_getElem h, ofLines_app, e]
  have : capOf (cnt.getD k []) = some ⟨n, r⟩ := by unfold capOf; rw [hw]; rfl
  simp only [ofLines, List.filterMap_cons, this, List.filterMap_nil]
end Cp

set_option maxHeartbeats 1000000 in
theorem of_any (proto : Int) (code : ByteArray) (lv bo : Value) (ls : List (List UInt8)) (xs : List UInt8) (w : World) (hl : Rd w lv (ls.map sv)) (hb : Rd w bo (xs.map bv)) (h1 : ls.length ≤ 1000) (h2 : xs.length ≤ 1000) (h3 : ∀ x ∈ ls, x.length ≤ 1000) (hm : MX w) :
    Calls Tryd.prog 11 #[.int .i64 proto, .agg #[.string code, lv, bo]] w fun e w' => ∃ v, e = .returned v ∧ CL w' v (Cp.of proto ls xs) ∧ Below w.heap.size w w' := by
  have C1 := fun w1 hb1 => lines_any proto code lv bo ls xs w1 (hl.below hb1) (hb.below hb1) h1 h2 (hm.below hb1)
  have hcn := Cp.count_len proto ls xs
  have hce : ∀ x ∈ Cp.count proto ls xs, x.length ≤ 1000 := Cp.count_each proto h3 h2
  unfold Cp.of
  generalize Cp.count proto ls xs = cnt at *
  have HCE := Lib.hid hce
  have hal : Below w.heap.size w (w.alloc (.cells #[.string code, lv, bo] 25 (0, 0))) := (Below.refl _ _).alloc (Nat.le_refl _) _
  have C1' := Lib.hid (C1 _ hal)
  have HAL := Lib.hid hal
  clear C1 hl hb h3 hm hal hce
  go_enter Tryd.func11, Tryd.ntmps11
  go_wp2_with fail
  refine C1'.out.mono ?_
  rintro e w1 ⟨v, rfl, hr, hb1⟩
  obtain ⟨ao, cap, rfl, hc1, hc2, hc3⟩ := hr.formV
  rw [List.length_map] at hc1 hc3 ⊢
  obtain ⟨N, hN⟩ : ∃ N, N = cnt.length := ⟨_, rfl⟩
  rw [← hN] at hc1 hc3 hcn ⊢
  have HN := Lib.hid hN
  have HB1 := Lib.hid (HAL.out.trans (hb1.mono HAL.out.size))
  have HC3 := Lib.hid hc3
  have HR := Lib.hid hr
  clear hN hb1 hc3 hr C1' HAL
  go_wp2
  go_loopw [5, 7, 8, 13] (fun l _ _ i wr => ∃ (k : Nat) (cs2 : List CapA), k ≤ N ∧ i = .int .i64 k ∧ Hid (OC wr w1.heap.size l cs2) ∧ Hid (cs2.map (·.1) = Cp.ofLines (cnt.take k)) ∧ Hid (cs2.length ≤ k) ∧ Hid (Below w1.heap.size w1 wr)) (fun _ _ _ i _ => N - (intOf i).toNat)
  case atStart => exact ⟨0, [], Nat.zero_le _, rfl, OC.nil _ _, rfl, Nat.le_refl _, Below.refl _ _⟩
  case round =>
    obtain ⟨k, cs2, hk, rfl, HO, HE, HL, HB2⟩ := hrel
    by_cases hlt : k < N
    · obtain ⟨b, o, rfl, hm, hc⟩ := HC3.out (by omega)
      obtain ⟨x, hx⟩ : ∃ x, x = cnt.getD k [] := ⟨_, rfl⟩
      have hcx := (HB2.out.cell (World.block_lt_of_cell? _ _ (hc k _ (svs_at (by rw [← HN.out]; exact hlt))))).trans (hc k _ (svs_at (by rw [← HN.out]; exact hlt)))
      rw [← hx, sv] at hcx
      have hxs : x.length ≤ 1000 := HCE.out x (by rw [hx, List.getD_eq_getElem?_getD, List.getElem?_eq_getElem (by rw [← HN.out]; exact hlt)]; exact List.getElem_mem _)
      have CC := capitals_any ⟨x.toArray⟩ wr (by rw [Lib.size_eq]; show x.length ≤ _; omega)
      have HX := Lib.hid hx
      unfold maxLen at hm
      clear hc hx hxs
      cases hw : Tx.words (Tx.up x) with
      | nil =>
        have HZ := Lib.hid (show Cp.ofLines (cnt.take (k + 1)) = Cp.ofLines (cnt.take k) from Cp.ofLines_none (by rw [← HN.out]; exact hlt) (by rw [← HX.out]; exact hw))
        have e0 : (⟨x.toArray⟩ : ByteArray).data.toList = x := rfl
        rw [e0, hw] at CC
        clear hw e0
        go_wp2_with fail
        refine CC.mono ?_
        rintro e w2 ⟨vw, rfl, how, hbw⟩
        obtain ⟨wo, wc, rfl⟩ := own_form how
        have HBW := Lib.hid hbw
        clear how hbw
        go_wp2
        go_roundw
        case rel => exact ⟨k + 1, cs2, by omega, by go_num, HO.out.below HBW.out, by rw [HZ.out]; exact HE.out, by have := HL.out; show _ ≤ _; omega, HB2.out.trans (HBW.out.mono HB2.out.size)⟩
        case measure => simp [intOf]; omega
      | cons n r =>
        have HZ := Lib.hid (show Cp.ofLines (cnt.take (k + 1)) = Cp.ofLines (cnt.take k) ++ [⟨n, r⟩] from Cp.ofLines_some (by rw [← HN.out]; exact hlt) (by rw [← HX.out]; exact hw))
        have e0 : (⟨x.toArray⟩ : ByteArray).data.toList = x := rfl
        rw [e0, hw] at CC
        clear hw e0
        go_wp2_with fail
        refine CC.mono ?_
        rintro e w2 ⟨vw, rfl, how, hbw⟩
        obtain ⟨g, wc, rfl, hwr⟩ := WR.of_own how
        have hlt0 := HO.out.lt
        have hpu : ∀ A, WR wr w2 g wc n r A → PU wr w1.heap.size u5 cs2 g wc n r A w2 := fun A hA => ⟨HO.out.below hbw, hA, fun k hk => (hlt0 k hk).2, Nat.le_trans HB2.out.size hbw.size⟩
        have hdr : Below w2.heap.size w2 w2.drew := (Below.refl _ _).drew
        have hcd : w2.drew.cell? ⟨g, 0, none⟩ = some (.string ⟨n.toArray⟩) := (hwr.below hdr).cell
        have HB4 := Lib.hid (HB2.out.trans ((hbw.trans (hdr.mono hbw.size)).mono HB2.out.size))
        have hwl := hwr.le
        have hwm := hwr.max
        unfold maxLen at hwm
        by_cases hcap : wc = 1
        · subst hcap
          obtain rfl : r = [] := List.length_eq_zero_iff.1 (by omega)
          rw [if_pos rfl] at hwr
          have HP := Lib.hid ((hpu _ hwr).below hdr)
          have S1 := Lib.hid hcd
          have q1 : (1 : Int) ≤ 0 + 1 := by decide
          clear hwr hpu how hbw hdr hlt0
          go_wp2_with fail
          refine wp_region_held_drew (S := fun w' => w'.cell? ⟨g, 0, none⟩ = some (.string ⟨n.toArray⟩)) (by kernel_rfl) hcd (fun hH => ?_)
          clear hcd
          generalize w2.drew = w3 at *
          refine heldTake (i := 0) (v := ?_) rfl (by kernel_rfl) (by kernel_rfl) (fun _ _ _ h => h) (by rfl) (by assumption) (fun w hSw => ?_) ?_; rotate_left; focus ((try dsimp only at hSw); go_simp; try with_reducible rfl)
          try simp only [Act.put, List.setIfInBounds_toArray, List.set_cons_zero, List.set_cons_succ]
          refine heldTake (i := 1) (v := ?_) rfl (by kernel_rfl) (by kernel_rfl) (fun _ _ _ h => h) (by rfl) (by assumption) (fun w hSw => ?_) ?_; rotate_left; focus ((try dsimp only at hSw); go_simp; try with_reducible rfl)
          try simp only [Act.put, List.setIfInBounds_toArray, List.set_cons_zero, List.set_cons_succ]
          refine heldTake (i := 2) (v := ?_) rfl (by kernel_rfl) (by kernel_rfl) (fun _ _ _ h => h) (by rfl) (by assumption) (fun w hSw => ?_) ?_; rotate_left; focus ((try dsimp only at hSw); go_simp; try with_reducible rfl)
          try simp only [Act.put, List.setIfInBounds_toArray, List.set_cons_zero, List.set_cons_succ]
          refine heldTake (i := 3) (v := ?_) rfl (by kernel_rfl) (by kernel_rfl) (fun _ _ _ h => h) (by rfl) (by assumption) (fun w hSw => ?_) ?_; rotate_left; focus ((try dsimp only at hSw); go_simp; try with_reducible rfl)
          try simp only [Act.put, List.setIfInBounds_toArray, List.set_cons_zero, List.set_cons_succ]
          refine heldTake (i := 4) (v := ?_) rfl (by kernel_rfl) (by kernel_rfl) (fun _ _ _ h => h) (by rfl) (by assumption) (fun w hSw => ?_) ?_; rotate_left; focus ((try dsimp only at hSw); go_simp; try with_reducible rfl)
          try simp only [Act.put, List.setIfInBounds_toArray, List.set_cons_zero, List.set_cons_succ]
          refine heldTake (i := 5) (v := ?_) rfl (by kernel_rfl) (by kernel_rfl) (fun _ _ _ h => h) (by rfl) (by assumption) (fun w hSw => ?_) ?_; rotate_left; focus ((try dsimp only at hSw); go_simp; try with_reducible rfl)
          try simp only [Act.put, List.setIfInBounds_toArray, List.set_cons_zero, List.set_cons_succ]
          refine heldTake (i := 6) (v := ?_) rfl (by kernel_rfl) (by kernel_rfl) (fun _ _ _ h => h) (by rfl) (by assumption) (fun w hSw => ?_) ?_; rotate_left; focus ((try dsimp only at hSw); go_simp; try with_reducible rfl)
          try simp only [Act.put, List.setIfInBounds_toArray, List.set_cons_zero, List.set_cons_succ]
          -- NEXT 7 Op.buildSlice 29 1 #[(0, Operand.tmp 28)]
          refine heldNext (i := 7) rfl (by kernel_rfl) (by rfl) (fun K hK => ?_)
          go_simp; refine hK.out _ _ (cell_alloc S1.out _) ?_; clear hK K
          try simp only [Act.put, List.setIfInBounds_toArray, List.set_cons_zero, List.set_cons_succ]
          -- NEXT 8 Op.call { callee := Callee.builtin Builtin.append, args := #[Operand.tmp 22, Operand.tmp 29], argTypes := #[29
          refine heldNext (i := 8) rfl (by kernel_rfl) (by rfl) (fun K hK => ?_)
          refine PU.push HP.out (.tmp 22) (.tmp 29) (by rfl) (by rfl) (by rfl) (by have := HL.out; omega) (fun g2 c2 w4 ho4 hb4 hc4 => ?_); refine hK.out _ _ hc4 ?_; clear hK K
          try simp only [Act.put, List.setIfInBounds_toArray, List.set_cons_zero, List.set_cons_succ]
          refine heldTake (i := 9) (v := ?_) rfl (by kernel_rfl) (by kernel_rfl) (fun _ _ _ h => h) (by rfl) (by assumption) (fun w hSw => ?_) ?_; rotate_left; focus ((try dsimp only at hSw); go_simp; try with_reducible rfl)
          try simp only [Act.put, List.setIfInBounds_toArray, List.set_cons_zero, List.set_cons_succ]
          refine wpAnyH_done (by kernel_rfl) ?_ _
          clear hH
          have HO4 := Lib.hid ho4
          have HB5 := Lib.hid (show Below w1.heap.size w1 w4 from HB4.out.trans hb4)
          clear ho4 hb4 hc4
          go_wp2
          go_roundw
          case rel =>
            refine ⟨k + 1, _, by omega, by go_num, HO4.out, ?_, ?_, HB5.out⟩
            · show _ = _
              rw [HZ.out, List.map_append, HE.out]
              rfl
            · have := HL.out
              show _ ≤ _
              rw [List.length_append]
              exact Nat.succ_le_succ this
          case measure => simp [intOf]; omega
        · rw [if_neg hcap] at hwr
          have HP := Lib.hid ((hpu _ hwr).below hdr)
          have S1 := Lib.hid hcd
          have q1 : (1 : Int) ≤ (r.length : Int) + 1 := by omega
          clear hwr hpu how hbw hdr hlt0
          go_wp2_with fail
          refine wp_region_held_drew (S := fun w' => w'.cell? ⟨g, 0, none⟩ = some (.string ⟨n.toArray⟩)) (by kernel_rfl) hcd (fun hH => ?_)
          clear hcd
          generalize w2.drew = w3 at *
          refine heldTake (i := 0) (v := ?_) rfl (by kernel_rfl) (by kernel_rfl) (fun _ _ _ h => h) (by rfl) (by assumption) (fun w hSw => ?_) ?_; rotate_left; focus ((try dsimp only at hSw); go_simp; try with_reducible rfl)
          try simp only [Act.put, List.setIfInBounds_toArray, List.set_cons_zero, List.set_cons_succ]
          refine heldTake (i := 1) (v := ?_) rfl (by kernel_rfl) (by kernel_rfl) (fun _ _ _ h => h) (by rfl) (by assumption) (fun w hSw => ?_) ?_; rotate_left; focus ((try dsimp only at hSw); go_simp; try with_reducible rfl)
          try simp only [Act.put, List.setIfInBounds_toArray, List.set_cons_zero, List.set_cons_succ]
          refine heldTake (i := 2) (v := ?_) rfl (by kernel_rfl) (by kernel_rfl) (fun _ _ _ h => h) (by rfl) (by assumption) (fun w hSw => ?_) ?_; rotate_left; focus ((try dsimp only at hSw); go_simp; try with_reducible rfl)
          try simp only [Act.put, List.setIfInBounds_toArray, List.set_cons_zero, List.set_cons_succ]
          refine heldTake (i := 3) (v := ?_) rfl (by kernel_rfl) (by kernel_rfl) (fun _ _ _ h => h) (by rfl) (by assumption) (fun w hSw => ?_) ?_; rotate_left; focus ((try dsimp only at hSw); go_simp; try with_reducible rfl)
          try simp only [Act.put, List.setIfInBounds_toArray, List.set_cons_zero, List.set_cons_succ]
          refine heldTake (i := 4) (v := ?_) rfl (by kernel_rfl) (by kernel_rfl) (fun _ _ _ h => h) (by rfl) (by assumption) (fun w hSw => ?_) ?_; rotate_left; focus ((try dsimp only at hSw); go_simp; try with_reducible rfl)
          try simp only [Act.put, List.setIfInBounds_toArray, List.set_cons_zero, List.set_cons_succ]
          refine heldTake (i := 5) (v := ?_) rfl (by kernel_rfl) (by kernel_rfl) (fun _ _ _ h => h) (by rfl) (by assumption) (fun w hSw => ?_) ?_; rotate_left; focus ((try dsimp only at hSw); go_simp; try with_reducible rfl)
          try simp only [Act.put, List.setIfInBounds_toArray, List.set_cons_zero, List.set_cons_succ]
          refine heldTake (i := 6) (v := ?_) rfl (by kernel_rfl) (by kernel_rfl) (fun _ _ _ h => h) (by rfl) (by assumption) (fun w hSw => ?_) ?_; rotate_left; focus ((try dsimp only at hSw); go_simp; try with_reducible rfl)
          try simp only [Act.put, List.setIfInBounds_toArray, List.set_cons_zero, List.set_cons_succ]
          -- NEXT 7 Op.buildSlice 29 1 #[(0, Operand.tmp 28)]
          refine heldNext (i := 7) rfl (by kernel_rfl) (by rfl) (fun K hK => ?_)
          go_simp; refine hK.out _ _ (cell_alloc S1.out _) ?_; clear hK K
          try simp only [Act.put, List.setIfInBounds_toArray, List.set_cons_zero, List.set_cons_succ]
          -- NEXT 8 Op.call { callee := Callee.builtin Builtin.append, args := #[Operand.tmp 22, Operand.tmp 29], argTypes := #[29
          refine heldNext (i := 8) rfl (by kernel_rfl) (by rfl) (fun K hK => ?_)
          refine PU.push HP.out (.tmp 22) (.tmp 29) (by rfl) (by rfl) (by rfl) (by have := HL.out; omega) (fun g2 c2 w4 ho4 hb4 hc4 => ?_); refine hK.out _ _ hc4 ?_; clear hK K
          try simp only [Act.put, List.setIfInBounds_toArray, List.set_cons_zero, List.set_cons_succ]
          refine heldTake (i := 9) (v := ?_) rfl (by kernel_rfl) (by kernel_rfl) (fun _ _ _ h => h) (by rfl) (by assumption) (fun w hSw => ?_) ?_; rotate_left; focus ((try dsimp only at hSw); go_simp; try with_reducible rfl)
          try simp only [Act.put, List.setIfInBounds_toArray, List.set_cons_zero, List.set_cons_succ]
          refine wpAnyH_done (by kernel_rfl) ?_ _
          clear hH
          have HO4 := Lib.hid ho4
          have HB5 := Lib.hid (show Below w1.heap.size w1 w4 from HB4.out.trans hb4)
          clear ho4 hb4 hc4
          go_wp2
          go_roundw
          case rel =>
            refine ⟨k + 1, _, by omega, by go_num, HO4.out, ?_, ?_, HB5.out⟩
            · show _ = _
              rw [HZ.out, List.map_append, HE.out]
              rfl
            · have := HL.out
              show _ ≤ _
              rw [List.length_append]
              exact Nat.succ_le_succ this
          case measure => simp [intOf]; omega
    · obtain rfl : k = N := by omega
      have HE2 := Lib.hid (show CL wr u5 (Cp.ofLines cnt) by
        have := HO.out.cl
        rw [HE.out, HN.out, List.take_length] at this
        exact this)
      go_wp2
      go_ret
      exact ⟨_, rfl, HE2.out, HB1.out.trans (HB2.out.mono HB1.out.size)⟩
end Go.Proofs.YtomeoploojjacaaDoor
