/- The reference's Of walked. -/
import Derived.Test.YtomeoploojjacaaDoorCapsOf
import Derived.Test.YtomeoploojjacaaDoorCapsRefL
import Derived.Test.YtomeoploojjacaaDoorRefWords
import Derived.Test.YtomeoploojjacaaDoorRefUpper
namespace Go.Proofs.YtomeoploojjacaaDoor
open Go.RowKit

/-- Capitals, then words, of the reference. -/
theorem rcap_any (s : ByteArray) (hs : s.size ≤ 1048576) : (∀ w, Calls Tryd.prog 16 #[.string s] w fun e w' => e = .returned (sv (Tx.up s.data.toList)) ∧ Below w.heap.size w w') ∧
    ∀ w, Calls Tryd.prog 18 #[sv (Tx.up s.data.toList)] w fun e w' => ∃ v, e = .returned v ∧ w'.ownsRow w.heap.size 9 1 v (Tx.words (Tx.up s.data.toList)).length ((Tx.words (Tx.up s.data.toList)).map sv) ∧ Below w.heap.size w w' :=
  ⟨fun w => ref_upper s w hs, fun w => ref_words ⟨(Tx.up s.data.toList).toArray⟩ w (by
    rw [Lib.size_eq]
    show (Tx.up s.data.toList).length ≤ _
    rw [Tx.up_len, ← Lib.size_eq]
    exact hs)⟩
theorem OC.made (w : World) (B : Nat) (hB : B ≤ w.heap.size) : OC (w.alloc (.cells #[] 35 (0, 0))) B (.slice (some ⟨w.heap.size, 0, none⟩) 0 0) [] :=
  ⟨World.ownsRow_made w #[] 0 hB (Nat.zero_le _) rfl, fun c hc => by simp at hc, fun c hc => by simp at hc⟩

set_option maxHeartbeats 1000000 in
theorem rof_any (proto : Int) (code : ByteArray) (lv bo : Value) (ls : List (List UInt8)) (xs : List UInt8) (w : World) (hl : Rd w lv (ls.map sv)) (hb : Rd w bo (xs.map bv)) (h1 : ls.length ≤ 1000) (h2 : xs.length ≤ 1000) (h3 : ∀ x ∈ ls, x.length ≤ 1000) :
    Calls Tryd.prog 12 #[.int .i64 proto, .agg #[.string code, lv, bo]] w fun e w' => ∃ v, e = .returned v ∧ CL w' v (Cp.of proto ls xs) ∧ Below w.heap.size w w' := by
  obtain ⟨lo, lc, rfl, hlc, _, hlx⟩ := hl.formV
  rw [List.length_map] at hlc hlx hl ⊢
  obtain ⟨N, hN⟩ : ∃ N, N = ls.length := ⟨_, rfl⟩
  rw [← hN] at hlc hlx hl ⊢
  have HNL := Lib.hid hN
  have HLX := Lib.hid hlx
  have hcn := Cp.count_len proto ls xs
  have hce : ∀ x ∈ Cp.count proto ls xs, x.length ≤ 1000 := Cp.count_each proto h3 h2
  unfold Cp.of
  obtain ⟨cnt, hcnt⟩ : ∃ cnt, cnt = Cp.count proto ls xs := ⟨_, rfl⟩
  rw [← hcnt] at hcn hce ⊢
  have HCNT := Lib.hid hcnt
  have HCE := Lib.hid hce
  clear hcnt
  have hal : Below w.heap.size w ((w.alloc (.cells #[.string code, .slice lo N lc, bo] 25 (0, 0))).alloc (.cells #[] 9 (0, 0))) := ((Below.refl _ _).alloc (Nat.le_refl _) _).alloc (by simp) _
  have hblk : ((w.alloc (.cells #[.string code, .slice lo N lc, bo] 25 (0, 0))).alloc (.cells #[] 9 (0, 0))).heap[w.heap.size]? = some (.cells #[.string code, .slice lo N lc, bo] 25 (0, 0)) :=
    (Below.heap_alloc _ _ _ (by simp)).trans (heap_alloc_new w _)
  clear h3 hce hN hlx
  go_enter Tryd.func12, Tryd.ntmps12
  go_upto_region 2 with fail
  generalize (w.alloc (.cells #[.string code, .slice lo N lc, bo] 25 (0, 0))).alloc (.cells #[] 9 (0, 0)) = wa at *
  obtain ⟨H, hH⟩ : ∃ H, H = w.heap.size := ⟨_, rfl⟩
  have c1 : wa.cell? ⟨H, 1, none⟩ = some (.slice lo N lc) := by rw [hH]; exact cell_of_row _ _ _ _ _ _ hblk
  have c2 : wa.cell? ⟨H, 2, none⟩ = some bo := by rw [hH]; exact cell_of_row _ _ _ _ _ _ hblk
  have HL1 := Lib.hid (hl.below hal)
  have HX1 := Lib.hid (hb.below hal)
  have HAL := Lib.hid hal
  rw [← hH]
  have HH := Lib.hid hH
  generalize H + 1 = H1 at *
  clear hl hb hblk hal hH
  go_cut [10] from 10 to 10 (fun s10 wx => s10 = .int .i64 proto ∧ wx = wa)
  case first =>
    go_wp2
    go_meet
    exact ⟨rfl, rfl⟩
  case rest =>
  obtain ⟨rfl, rfl⟩ := hcut
  go_step
  go_cut [5] from 11 to 37 (fun l wx => Rd wx l (cnt.map sv) ∧ Below w.heap.size w wx)
  case first =>
    have hN := HNL.out
    have hlx := HLX.out
    have hnil : ∀ (wx : World) (ao : Option Addr) (c : Nat), (ao = none → c = 0) → Rd wx (.slice ao 0 c) (([] : List (List UInt8)).map sv) := fun wx ao c h => .inl ⟨rfl, _, _, h, rfl⟩
    have HX := HCNT.out
    unfold Cp.count at HX
    by_cases p1 : proto = 1
    · rw [if_pos p1] at HX
      by_cases hN1 : 1 < N
      · obtain ⟨b, o, rfl, hm, _⟩ := hlx (by omega)
        unfold maxLen at hm
        have hr := HL1.out.tailV (m := 1) (by rw [List.length_map]; exact hN) (by omega)
        rw [if_neg (by omega), Option.map_some, Addr.add_lit, ← List.map_drop, ← HX] at hr
        have HR := Lib.hid hr
        have t1 : (1 : Int) < (N : Int) := by omega
        have t2 : (1 : Int) ≤ (N : Int) := by omega
        have t3 : (lc = 1) = False := eq_false (by omega)
        subst p1
        clear hr HX hN hlx hnil
        go_wp2
        go_meet
        exact ⟨HR.out, HAL.out⟩
      · have e : cnt = [] := by rw [HX, List.drop_of_length_le (by omega)]
        have t1 : ((1 : Int) < (N : Int)) = False := eq_false (by omega)
        subst p1
        clear HX hN hlx
        go_wp2
        go_meet
        refine ⟨?_, HAL.out⟩
        rw [e]
        exact hnil _ _ _ (fun h => by cases h)
    · rw [if_neg p1] at HX
      have q1 : (proto == 1) = false := beq_eq_false_iff_ne.2 p1
      by_cases p3 : proto = 3
      · rw [if_pos p3] at HX
        by_cases hN1 : 2 < N
        · obtain ⟨b, o, rfl, hm, _⟩ := hlx (by omega)
          unfold maxLen at hm
          have hr := (HL1.out.tailV (m := 1) (by rw [List.length_map]; exact hN) (by omega)).cutW (m := N - 2) (by rw [List.length_drop, List.length_map, hN]) (by omega)
          have e2 : ((ls.map sv).drop 1).take (N - 2) = ((ls.drop 1).dropLast).map sv := by
            rw [List.dropLast_eq_take, List.map_take, List.map_drop, List.length_drop, hN]
            rfl
          rw [if_neg (by omega), Option.map_some, Addr.add_lit, e2, ← HX] at hr
          have HR := Lib.hid hr
          obtain ⟨M, hM⟩ : ∃ M, M = N - 1 := ⟨_, rfl⟩
          have t1 : (2 : Int) < (N : Int) := by omega
          have t2 : (N : Int) - 1 = (M : Int) := by omega
          have t3 : (lc = 1) = False := eq_false (by omega)
          have t4 : (1 : Int) ≤ (M : Int) := by omega
          have t5 : (M : Int) ≤ (lc : Int) := by omega
          have t6 : M - 1 = N - 2 := by omega
          subst p3
          clear hr HX hN hlx hnil q1 p1 e2 hM
          go_wp2
          go_meet
          exact ⟨HR.out, HAL.out⟩
        · have e : cnt = [] := by rw [HX, List.dropLast_eq_take, List.length_drop, show ls.length - 1 - 1 = 0 from by omega, List.take_zero]
          have t1 : ((2 : Int) < (N : Int)) = False := eq_false (by omega)
          subst p3
          clear HX hN hlx q1 p1
          go_wp2
          go_meet
          refine ⟨?_, HAL.out⟩
          rw [e]
          exact hnil _ _ _ (fun h => by cases h)
      · rw [if_neg p3] at HX
        have q3 : (proto == 3) = false := beq_eq_false_iff_ne.2 p3
        by_cases p2 : proto = 2
        · rw [if_pos p2] at HX
          have HC := Lib.hid (rlines_any bo xs _ HX1.out (by omega))
          rw [← HX] at HC
          subst p2
          clear HX hN hlx hnil
          go_wp2_with fail
          refine HC.out.mono ?_
          rintro e w2 ⟨v2, rfl, hr2, hb2⟩
          have HR := Lib.hid hr2
          have HB := Lib.hid (HAL.out.trans (hb2.mono HAL.out.size))
          clear hr2 hb2
          go_wp2
          go_meet
          exact ⟨HR.out, HB.out⟩
        · rw [if_neg p2] at HX
          have q2 : (proto == 2) = false := beq_eq_false_iff_ne.2 p2
          clear hN hlx
          go_wp2
          go_meet
          refine ⟨?_, HAL.out⟩
          rw [HX]
          exact hnil _ _ _ (fun h => by cases h)
  case rest =>
  obtain ⟨hr, hb1⟩ := hcut
  go_step
  obtain ⟨ao, cap, rfl, hc1, hc2, hc3⟩ := hr.formV
  rw [List.length_map] at hc1 hc3 ⊢
  obtain ⟨NC, hN⟩ : ∃ NC, NC = cnt.length := ⟨_, rfl⟩
  rw [← hN] at hc1 hc3 hcn ⊢
  have HN := Lib.hid hN
  have HC3 := Lib.hid hc3
  have HR := Lib.hid hr
  obtain ⟨w1, hw1⟩ : ∃ w1, w1 = wc.alloc (.cells #[] 35 (0, 0)) := ⟨_, rfl⟩
  have hal1 : Below wc.heap.size wc w1 := by rw [hw1]; exact (Below.refl _ _).alloc (Nat.le_refl _) _
  have HB0 := Lib.hid hb1
  have HBR := Lib.hid hal1
  have HM := Lib.hid (show OC w1 wc.heap.size (.slice (some ⟨wc.heap.size, 0, none⟩) 0 0) [] by rw [hw1]; exact OC.made wc _ (Nat.le_refl _))
  have HW1 := Lib.hid hw1
  have HHB := Lib.hid hb1.size
  clear hN hb1 hc3 hr hal1 c1 c2 HL1 HX1 HAL HH
  go_wp2
  rw [← HW1.out]
  go_loopw [6, 7, 8] (fun l i _ wr => ∃ (k : Nat) (cs2 : List CapA), k ≤ NC ∧ i = .int .i64 k ∧ Hid (OC wr wc.heap.size l cs2) ∧ Hid (cs2.map (·.1) = Cp.ofLines (cnt.take k)) ∧ Hid (cs2.length ≤ k) ∧ Hid (Below wc.heap.size wc wr)) (fun _ i _ _ => NC - (intOf i).toNat)
  case atStart => exact ⟨0, [], Nat.zero_le _, rfl, HM.out, rfl, Nat.le_refl _, HBR.out⟩
  case round =>
    obtain ⟨k, cs2, hk, rfl, HO, HE, HL, HB2⟩ := hrel
    by_cases hlt : k < NC
    · obtain ⟨b, o, rfl, hm, hc⟩ := HC3.out (by omega)
      obtain ⟨x, hx⟩ : ∃ x, x = cnt.getD k [] := ⟨_, rfl⟩
      have hcx := (HB2.out.cell (World.block_lt_of_cell? _ _ (hc k _ (svs_at (by rw [← HN.out]; exact hlt))))).trans (hc k _ (svs_at (by rw [← HN.out]; exact hlt)))
      rw [← hx, sv] at hcx
      have hxs : x.length ≤ 1000 := HCE.out x (by rw [hx, List.getD_eq_getElem?_getD, List.getElem?_eq_getElem (by rw [← HN.out]; exact hlt)]; exact List.getElem_mem _)
      obtain ⟨CA, CB⟩ := rcap_any ⟨x.toArray⟩ (by rw [Lib.size_eq]; show x.length ≤ _; omega)
      have HX := Lib.hid hx
      unfold maxLen at hm
      clear hc hx hxs
      have e0 : (⟨x.toArray⟩ : ByteArray).data.toList = x := rfl
      rw [e0] at CA CB
      go_wp2_with fail
      refine (CA _).mono ?_
      rintro e w5 ⟨rfl, hbu⟩
      cases hw : Tx.words (Tx.up x) with
      | nil =>
        have HZ := Lib.hid (show Cp.ofLines (cnt.take (k + 1)) = Cp.ofLines (cnt.take k) from Cp.ofLines_none (by rw [← HN.out]; exact hlt) (by rw [← HX.out]; exact hw))
        rw [hw] at CB
        clear hw e0
        go_wp2_with fail
        refine (CB _).mono ?_
        rintro e w2 ⟨vw, rfl, how, hbw⟩
        obtain ⟨wo, wc, rfl⟩ := own_form how
        have HBW := Lib.hid (hbu.trans (hbw.mono hbu.size))
        clear how hbw hbu
        go_wp2
        go_roundw
        case rel => exact ⟨k + 1, cs2, by omega, by go_num, HO.out.below HBW.out, by rw [HZ.out]; exact HE.out, by have := HL.out; show _ ≤ _; omega, HB2.out.trans (HBW.out.mono HB2.out.size)⟩
        case measure => simp [intOf]; omega
      | cons n r =>
        have HZ := Lib.hid (show Cp.ofLines (cnt.take (k + 1)) = Cp.ofLines (cnt.take k) ++ [⟨n, r⟩] from Cp.ofLines_some (by rw [← HN.out]; exact hlt) (by rw [← HX.out]; exact hw))
        rw [hw] at CB
        clear hw e0
        go_wp2_with fail
        refine (CB _).mono ?_
        rintro e w2 ⟨vw, rfl, how, hbw2⟩
        have how := ownsRow_lower how hbu.size
        have hbw := hbu.trans (hbw2.mono hbu.size)
        clear hbw2 hbu
        obtain ⟨g, wc1, rfl, hwr⟩ := WR.of_own how
        have hlt0 := HO.out.lt
        have hpu : ∀ A, WR wr w2 g wc1 n r A → PU wr wc.heap.size u6 cs2 g wc1 n r A w2 := fun A hA => ⟨HO.out.below hbw, hA, fun k hk => (hlt0 k hk).2, Nat.le_trans HB2.out.size hbw.size⟩
        have hdr : Below w2.heap.size w2 w2.drew := (Below.refl _ _).drew
        have hcd : w2.drew.cell? ⟨g, 0, none⟩ = some (.string ⟨n.toArray⟩) := (hwr.below hdr).cell
        have HB4 := Lib.hid (HB2.out.trans ((hbw.trans (hdr.mono hbw.size)).mono HB2.out.size))
        have hwl := hwr.le
        have hwm := hwr.max
        unfold maxLen at hwm
        by_cases hcap : wc1 = 1
        · subst hcap
          obtain rfl : r = [] := List.length_eq_zero_iff.1 (by omega)
          rw [if_pos rfl] at hwr
          have HP := Lib.hid ((hpu _ hwr).below hdr)
          have S1 := Lib.hid hcd
          have q1 : (1 : Int) ≤ 0 + 1 := by decide
          clear hwr hpu how hbw hdr hlt0
          go_wp2_with fail
          refine wp_region_held_drew (S := fun w' => w'.cell? ⟨g, 0, none⟩ = some (.string ⟨n.toArray⟩)) (by kernel_rfl) hcd (fun hH => ?_)
          clear hcd
          generalize w2.drew = w3 at *
          refine heldTake (i := 0) (v := ?_) rfl (by kernel_rfl) (by kernel_rfl) (fun _ _ _ h => h) (by rfl) (by assumption) (fun w hSw => ?_) ?_; rotate_left; focus ((try dsimp only at hSw); go_simp; try with_reducible rfl)
          try simp only [Act.put, List.setIfInBounds_toArray, List.set_cons_zero, List.set_cons_succ]
          refine heldTake (i := 1) (v := ?_) rfl (by kernel_rfl) (by kernel_rfl) (fun _ _ _ h => h) (by rfl) (by assumption) (fun w hSw => ?_) ?_; rotate_left; focus ((try dsimp only at hSw); go_simp; try with_reducible rfl)
          try simp only [Act.put, List.setIfInBounds_toArray, List.set_cons_zero, List.set_cons_succ]
          refine heldTake (i := 2) (v := ?_) rfl (by kernel_rfl) (by kernel_rfl) (fun _ _ _ h => h) (by rfl) (by assumption) (fun w hSw => ?_) ?_; rotate_left; focus ((try dsimp only at hSw); go_simp; try with_reducible rfl)
          try simp only [Act.put, List.setIfInBounds_toArray, List.set_cons_zero, List.set_cons_succ]
          refine heldTake (i := 3) (v := ?_) rfl (by kernel_rfl) (by kernel_rfl) (fun _ _ _ h => h) (by rfl) (by assumption) (fun w hSw => ?_) ?_; rotate_left; focus ((try dsimp only at hSw); go_simp; try with_reducible rfl)
          try simp only [Act.put, List.setIfInBounds_toArray, List.set_cons_zero, List.set_cons_succ]
          refine heldTake (i := 4) (v := ?_) rfl (by kernel_rfl) (by kernel_rfl) (fun _ _ _ h => h) (by rfl) (by assumption) (fun w hSw => ?_) ?_; rotate_left; focus ((try dsimp only at hSw); go_simp; try with_reducible rfl)
          try simp only [Act.put, List.setIfInBounds_toArray, List.set_cons_zero, List.set_cons_succ]
          refine heldTake (i := 5) (v := ?_) rfl (by kernel_rfl) (by kernel_rfl) (fun _ _ _ h => h) (by rfl) (by assumption) (fun w hSw => ?_) ?_; rotate_left; focus ((try dsimp only at hSw); go_simp; try with_reducible rfl)
          try simp only [Act.put, List.setIfInBounds_toArray, List.set_cons_zero, List.set_cons_succ]
          refine heldTake (i := 6) (v := ?_) rfl (by kernel_rfl) (by kernel_rfl) (fun _ _ _ h => h) (by rfl) (by assumption) (fun w hSw => ?_) ?_; rotate_left; focus ((try dsimp only at hSw); go_simp; try with_reducible rfl)
          try simp only [Act.put, List.setIfInBounds_toArray, List.set_cons_zero, List.set_cons_succ]
          -- NEXT 7 Op.buildSlice 29 1 #[(0, Operand.tmp 60)]
          refine heldNext (i := 7) rfl (by kernel_rfl) (by rfl) (fun K hK => ?_)
          go_simp; refine hK.out _ _ (cell_alloc S1.out _) ?_; clear hK K
          try simp only [Act.put, List.setIfInBounds_toArray, List.set_cons_zero, List.set_cons_succ]
          -- NEXT 8 Op.call { callee := Callee.builtin Builtin.append, args := #[Operand.tmp 54, Operand.tmp 61], argTypes := #[29
          refine heldNext (i := 8) rfl (by kernel_rfl) (by rfl) (fun K hK => ?_)
          refine PU.push HP.out (.tmp 54) (.tmp 61) (by rfl) (by rfl) (by rfl) (by have := HL.out; omega) (fun g2 c2 w4 ho4 hb4 hc4 => ?_); refine hK.out _ _ hc4 ?_; clear hK K
          try simp only [Act.put, List.setIfInBounds_toArray, List.set_cons_zero, List.set_cons_succ]
          refine heldTake (i := 9) (v := ?_) rfl (by kernel_rfl) (by kernel_rfl) (fun _ _ _ h => h) (by rfl) (by assumption) (fun w hSw => ?_) ?_; rotate_left; focus ((try dsimp only at hSw); go_simp; try with_reducible rfl)
          try simp only [Act.put, List.setIfInBounds_toArray, List.set_cons_zero, List.set_cons_succ]
          refine wpAnyH_done (by kernel_rfl) ?_ _
          clear hH
          have HO4 := Lib.hid ho4
          have HB5 := Lib.hid (show Below wc.heap.size wc w4 from HB4.out.trans hb4)
          clear ho4 hb4 hc4
          go_wp2
          go_roundw
          case rel =>
            refine ⟨k + 1, _, by omega, by go_num, HO4.out, ?_, ?_, HB5.out⟩
            · show _ = _
              rw [HZ.out, List.map_append, HE.out]
              rfl
            · have := HL.out
              show _ ≤ _
              rw [List.length_append]
              exact Nat.succ_le_succ this
          case measure => simp [intOf]; omega
        · rw [if_neg hcap] at hwr
          have HP := Lib.hid ((hpu _ hwr).below hdr)
          have S1 := Lib.hid hcd
          have q1 : (1 : Int) ≤ (r.length : Int) + 1 := by omega
          clear hwr hpu how hbw hdr hlt0
          go_wp2_with fail
          refine wp_region_held_drew (S := fun w' => w'.cell? ⟨g, 0, none⟩ = some (.string ⟨n.toArray⟩)) (by kernel_rfl) hcd (fun hH => ?_)
          clear hcd
          generalize w2.drew = w3 at *
          refine heldTake (i := 0) (v := ?_) rfl (by kernel_rfl) (by kernel_rfl) (fun _ _ _ h => h) (by rfl) (by assumption) (fun w hSw => ?_) ?_; rotate_left; focus ((try dsimp only at hSw); go_simp; try with_reducible rfl)
          try simp only [Act.put, List.setIfInBounds_toArray, List.set_cons_zero, List.set_cons_succ]
          refine heldTake (i := 1) (v := ?_) rfl (by kernel_rfl) (by kernel_rfl) (fun _ _ _ h => h) (by rfl) (by assumption) (fun w hSw => ?_) ?_; rotate_left; focus ((try dsimp only at hSw); go_simp; try with_reducible rfl)
          try simp only [Act.put, List.setIfInBounds_toArray, List.set_cons_zero, List.set_cons_succ]
          refine heldTake (i := 2) (v := ?_) rfl (by kernel_rfl) (by kernel_rfl) (fun _ _ _ h => h) (by rfl) (by assumption) (fun w hSw => ?_) ?_; rotate_left; focus ((try dsimp only at hSw); go_simp; try with_reducible rfl)
          try simp only [Act.put, List.setIfInBounds_toArray, List.set_cons_zero, List.set_cons_succ]
          refine heldTake (i := 3) (v := ?_) rfl (by kernel_rfl) (by kernel_rfl) (fun _ _ _ h => h) (by rfl) (by assumption) (fun w hSw => ?_) ?_; rotate_left; focus ((try dsimp only at hSw); go_simp; try with_reducible rfl)
          try simp only [Act.put, List.setIfInBounds_toArray, List.set_cons_zero, List.set_cons_succ]
          refine heldTake (i := 4) (v := ?_) rfl (by kernel_rfl) (by kernel_rfl) (fun _ _ _ h => h) (by rfl) (by assumption) (fun w hSw => ?_) ?_; rotate_left; focus ((try dsimp only at hSw); go_simp; try with_reducible rfl)
          try simp only [Act.put, List.setIfInBounds_toArray, List.set_cons_zero, List.set_cons_succ]
          refine heldTake (i := 5) (v := ?_) rfl (by kernel_rfl) (by kernel_rfl) (fun _ _ _ h => h) (by rfl) (by assumption) (fun w hSw => ?_) ?_; rotate_left; focus ((try dsimp only at hSw); go_simp; try with_reducible rfl)
          try simp only [Act.put, List.setIfInBounds_toArray, List.set_cons_zero, List.set_cons_succ]
          refine heldTake (i := 6) (v := ?_) rfl (by kernel_rfl) (by kernel_rfl) (fun _ _ _ h => h) (by rfl) (by assumption) (fun w hSw => ?_) ?_; rotate_left; focus ((try dsimp only at hSw); go_simp; try with_reducible rfl)
          try simp only [Act.put, List.setIfInBounds_toArray, List.set_cons_zero, List.set_cons_succ]
          -- NEXT 7 Op.buildSlice 29 1 #[(0, Operand.tmp 60)]
          refine heldNext (i := 7) rfl (by kernel_rfl) (by rfl) (fun K hK => ?_)
          go_simp; refine hK.out _ _ (cell_alloc S1.out _) ?_; clear hK K
          try simp only [Act.put, List.setIfInBounds_toArray, List.set_cons_zero, List.set_cons_succ]
          -- NEXT 8 Op.call { callee := Callee.builtin Builtin.append, args := #[Operand.tmp 54, Operand.tmp 61], argTypes := #[29
          refine heldNext (i := 8) rfl (by kernel_rfl) (by rfl) (fun K hK => ?_)
          refine PU.push HP.out (.tmp 54) (.tmp 61) (by rfl) (by rfl) (by rfl) (by have := HL.out; omega) (fun g2 c2 w4 ho4 hb4 hc4 => ?_); refine hK.out _ _ hc4 ?_; clear hK K
          try simp only [Act.put, List.setIfInBounds_toArray, List.set_cons_zero, List.set_cons_succ]
          refine heldTake (i := 9) (v := ?_) rfl (by kernel_rfl) (by kernel_rfl) (fun _ _ _ h => h) (by rfl) (by assumption) (fun w hSw => ?_) ?_; rotate_left; focus ((try dsimp only at hSw); go_simp; try with_reducible rfl)
          try simp only [Act.put, List.setIfInBounds_toArray, List.set_cons_zero, List.set_cons_succ]
          refine wpAnyH_done (by kernel_rfl) ?_ _
          clear hH
          have HO4 := Lib.hid ho4
          have HB5 := Lib.hid (show Below wc.heap.size wc w4 from HB4.out.trans hb4)
          clear ho4 hb4 hc4
          go_wp2
          go_roundw
          case rel =>
            refine ⟨k + 1, _, by omega, by go_num, HO4.out, ?_, ?_, HB5.out⟩
            · show _ = _
              rw [HZ.out, List.map_append, HE.out]
              rfl
            · have := HL.out
              show _ ≤ _
              rw [List.length_append]
              exact Nat.succ_le_succ this
          case measure => simp [intOf]; omega
    · obtain rfl : k = NC := by omega
      have HE2 := Lib.hid (show CL wr u6 (Cp.ofLines cnt) by
        have := HO.out.cl
        rw [HE.out, HN.out, List.take_length] at this
        exact this)
      go_wp2
      go_ret
      exact ⟨_, rfl, HE2.out, HB0.out.trans (HB2.out.mono HB0.out.size)⟩
end Go.Proofs.YtomeoploojjacaaDoor
