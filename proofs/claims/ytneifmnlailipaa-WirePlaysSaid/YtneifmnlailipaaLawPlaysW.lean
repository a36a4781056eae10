/- The law WirePlays walked. (Laid by wip/tools/gen_wplays.py.) -/
import Derived.Test.YtneifmnlailipaaWirePZ
import Derived.Test.YtneifmnlailipaaOpenWops
import Derived.Test.YtneifmnlailipaaHeld
import Derived.Deep.CutRange
namespace Go.Proofs.Ytneifmnlailipaa
open Go.RowKit Go.ChangeShapes

set_option maxRecDepth 100000 in
set_option maxHeartbeats 8000000 in
theorem lawPlaysW (v0 : Value) (os : List WOp) (h0 : os.length ≤ maxLen) (w : World) (r0 : RdN 7 w v0 (os.map WOp.cells)) (m0 : ∀ o ∈ os, o.Ok w) :
    Calls Try.prog 3 #[v0] w fun e w' => e = .returned (.bool true) ∧ Below w.heap.size w w' := by
  obtain ⟨lo, cl, rfl, hcl, hll⟩ := r0.form
  rw [List.length_map] at hcl hll ⊢
  obtain ⟨L, hL⟩ : ∃ L, L = os.length := ⟨_, rfl⟩
  rw [← hL] at h0 hcl hll ⊢
  have HLL := Lib.hid hll
  have HM0 := Lib.hid m0
  have HL := Lib.hid hL
  have kc := fun (w : World) (C : Array Value) (n c : Nat) => Lib.run_convert_bytes_const (P := Try.prog) w 28 5 C n c Try.underlying28 Try.underlying5
  unfold maxLen at h0
  clear hll m0 hL r0
  go_enter Try.func3, Try.ntmps3
  go_wp2_with fail
  refine (shown_any w).mono ?_
  rintro e wa ⟨rfl, hba⟩
  have HBA := Lib.hid hba
  clear hba
  go_wp2_with fail
  refine (PW.new HBA.out).mono ?_
  rintro e wb ⟨g0, rfl, hq⟩
  have Q0 := Lib.hid hq
  clear hq HBA
  go_wp2_with fail
  refine (PY.new Q0.out).mono ?_
  rintro e wc ⟨gy, rfl, hq⟩
  have Q1 := Lib.hid hq
  clear hq Q0
  go_wp2
  go_loopw [4, 6] (fun p i wr => ∃ (W : Wi.Wm) (q g : Nat), q ≤ L ∧ q ≤ 60 ∧ p = .pointer (some ⟨g, 0, none⟩) ∧ i = .int .i64 q ∧ Hid (PY w g gy W W (3000 * q) [] wr)) (fun _ i _ => 60 - (intOf i).toNat)
  case atStart => exact ⟨_, 0, g0, by omega, by omega, rfl, rfl, Q1.out⟩
  case round =>
    obtain ⟨W, q, g, hq, hq60, rfl, rfl, HP⟩ := hrel
    by_cases hgo : q < L ∧ q < 60
    · obtain ⟨hlt, hlt60⟩ := hgo
      obtain ⟨b, o, rfl, _, hcell⟩ := HLL.out (by omega)
      obtain ⟨op, hop⟩ : ∃ op, os[q]? = some op := ⟨_, List.getElem?_eq_getElem (by rw [← HL.out]; exact hlt)⟩
      obtain ⟨kind, conn, vb, xs, ek, ec, en, ve, zs⟩ := op
      have ok := HM0.out _ (List.mem_of_getElem? hop)
      have hkb := bounds_u8 ok.kind
      have hrz := ok.erd
      have hlz := ok.elen
      have hrx := ok.rd
      have hlx := ok.len
      simp only at hkb hrz hlz hrx hlx
      obtain ⟨kd, rfl⟩ := Int.eq_ofNat_of_zero_le hkb.1
      obtain ⟨vo, vc, rfl, _, _⟩ := hrz.form
      obtain ⟨xo, xc, rfl, _, _⟩ := hrx.form
      have cells : ∀ i u, (WOp.cells ⟨(kd : Int), conn, .slice xo xs.length xc, xs, ek, ec, en, .slice vo zs.length vc, zs⟩)[i]? = some u → wr.cell? ⟨b, o + (q * 7 + i), none⟩ = some u := fun i u hu => by
        have hc := hcell q _ (by rw [List.getElem?_map, hop]; rfl) i u hu
        exact (HP.out.below.cell (World.block_lt_of_cell? w _ hc)).trans hc
      have k0 := cells 0 _ rfl
      have k1 := cells 1 _ rfl
      have k2 := cells 2 _ rfl
      have k3 := cells 3 _ rfl
      have k4 := cells 4 _ rfl
      have k5 := cells 5 _ rfl
      have k6 := cells 6 _ rfl
      rw [Nat.add_zero] at k0
      rw [← Nat.add_assoc] at k1 k2 k3 k4 k5 k6
      obtain ⟨XL, hXL⟩ : ∃ XL, XL = xs.length := ⟨_, rfl⟩
      rw [← hXL] at k2 hrx
      obtain ⟨Z, hZ⟩ : ∃ Z, Z = zs.length := ⟨_, rfl⟩
      rw [← hZ] at k6 hrz
      have HZ := Lib.hid hZ
      have HXL := Lib.hid hXL
      have HRZ := Lib.hid hrz
      have HLZ := Lib.hid hlz
      have HRX := Lib.hid hrx
      have HLX := Lib.hid hlx
      obtain ⟨r, hr⟩ : ∃ r, r = kd % 8 := ⟨_, rfl⟩
      have hr8 : r < 8 := by omega
      have e1 : bits .and .u8 (kd : Int) 7 = (r : Int) := by
        have := mask_u8 3 (by decide) (x := (kd : Int)) (by omega) (by omega)
        rw [show ((2 : Int) ^ 3 - 1) = 7 by decide, show ((2 : Int) ^ 3) = 8 by decide] at this
        rw [this]
        omega
      obtain ⟨X, hX⟩ : ∃ X, X = xs.take 1500 := ⟨_, rfl⟩
      have lX : X.length ≤ 1500 := by rw [hX]; exact List.length_take_le _ _
      obtain ⟨N, hN⟩ : ∃ N, N = X.length := ⟨_, rfl⟩
      rw [← hN] at lX
      have HN := Lib.hid hN
      have SH := Lib.hid (show ∀ wx : World, Below w.heap.size w wx → Calls Try.prog 12 #[.slice xo XL xc] wx fun e w' => ∃ ao ac, e = .returned (.slice ao N ac) ∧ Hid (Rd w (.slice ao N ac) (X.map bv)) ∧ wx = w' from fun wx hb => by
        refine (short_any (.slice xo XL xc) xs wx (hrx.below hb) hlx).mono ?_
        rintro e w' ⟨ao, ac, rfl, hrs, hw⟩
        rw [hN, hX]
        exact ⟨ao, ac, rfl, hrs w hrx, hw⟩)
      clear cells hop hcell ok hZ hrz hlz hr hkb hrx hlx hX hN hXL
      go_upto_region 10 with fail
      have P9 := HP.out.alloc (.cells #[.int .u8 (kd : Int), .int .i64 conn, .slice xo XL xc, .int .i64 ek, .int .i64 ec, .int .i64 en, .slice vo Z vc] 32)
      obtain ⟨ob, hob⟩ : ∃ ob, ob = Obj.cells #[.int .u8 (kd : Int), .int .i64 conn, .slice xo XL xc, .int .i64 ek, .int .i64 ec, .int .i64 en, .slice vo Z vc] 32 (0, 0) := ⟨_, rfl⟩
      rw [← hob] at P9 ⊢
      generalize wr.alloc ob = w9 at *
      generalize wr.heap.size = go at *
      have OC := Lib.hid (show ∀ wx : World, wx.heap[go]? = some ob → (wx.cell? ⟨go, 0, none⟩ = some (.int .u8 (kd : Int)) ∧ wx.cell? ⟨go, 1, none⟩ = some (.int .i64 conn) ∧ wx.cell? ⟨go, 2, none⟩ = some (.slice xo XL xc)) ∧ wx.cell? ⟨go, 3, none⟩ = some (.int .i64 ek) ∧ wx.cell? ⟨go, 4, none⟩ = some (.int .i64 ec) ∧ wx.cell? ⟨go, 5, none⟩ = some (.int .i64 en) ∧ wx.cell? ⟨go, 6, none⟩ = some (.slice vo Z vc) from fun wx hx => by
        rw [hob] at hx
        exact ⟨⟨cell_of_row _ _ _ _ _ _ hx, cell_of_row _ _ _ _ _ _ hx, cell_of_row _ _ _ _ _ _ hx⟩, cell_of_row _ _ _ _ _ _ hx, cell_of_row _ _ _ _ _ _ hx, cell_of_row _ _ _ _ _ _ hx, cell_of_row _ _ _ _ _ _ hx⟩)
      have P9 := Lib.hid P9
      clear hob HP k0 k1 k2 k3 k4 k5 k6
      obtain ⟨c0, c1, c2⟩ := (OC.out _ P9.out.kept).1
      go_cut [43] from 41 to 43 (fun s43 wx => s43 = .int .u8 (r : Int) ∧ wx = w9)
      case first =>
        clear c1 c2
        go_wp2
        go_meet
        exact ⟨rfl, rfl⟩
      case rest =>
      obtain ⟨rfl, rfl⟩ := hcut
      clear c0 e1
      go_step
      go_cut [4, 8, 9, 10, 11, 12, 13, 14, 15, 16] from 27 to 123 (fun s4 s8 s9 s10 s11 s12 s13 s14 s15 s16 wx => ∃ (g2 : Nat) (W' : Wi.Wm), s4 = .pointer (some ⟨g2, 0, none⟩) ∧ Hid (PY w g2 gy W' W' (3000 * q + 3000) [] wx))
      case first =>
        have hcase : r = 3 ∨ r = 4 ∨ r = 5 ∨ r = 6 ∨ (r ≠ 3 ∧ r ≠ 4 ∧ r ≠ 5 ∧ r ≠ 6) := by omega
        rcases hcase with rfl | rfl | rfl | rfl | ⟨hr3, hr4, hr5, hr6⟩
        · obtain ⟨m, W', hW⟩ : ∃ m W', (m, W') = W.write conn X := ⟨_, _, rfl⟩
          have HW := Lib.hid hW
          have PD := Lib.hid (P9.out.next ((Below.refl _ _).drew))
          clear hW c1 c2 P9 kc
          go_wp2
          have sD := And.intro (OC.out _ PD.out.kept).1.2.1 (OC.out _ PD.out.kept).1.2.2
          refine wp_region_held_drew (S := fun w' => w'.cell? ⟨go, 1, none⟩ = some (.int .i64 conn) ∧ w'.cell? ⟨go, 2, none⟩ = some (.slice xo XL xc)) (by kernel_rfl) (by assumption) (fun hH => ?_)
          generalize World.drew _ = wd at *
          refine heldTake (i := 0) (v := ?_) rfl (by kernel_rfl) (by kernel_rfl) (fun _ _ _ h => h) (by rfl) (by assumption) (fun w hSw => ?_) ?_; rotate_left; focus ((try dsimp only at hSw); go_simp; try with_reducible rfl)
          try simp only [Act.put, List.setIfInBounds_toArray, List.set_cons_zero, List.set_cons_succ]
          refine heldTake (i := 1) (v := ?_) rfl (by kernel_rfl) (by kernel_rfl) (fun _ _ _ h => h) (by rfl) (by assumption) (fun w hSw => ?_) ?_; rotate_left; focus ((try dsimp only at hSw); go_simp; try with_reducible rfl)
          try simp only [Act.put, List.setIfInBounds_toArray, List.set_cons_zero, List.set_cons_succ]
          refine heldTake (i := 2) (v := ?_) rfl (by kernel_rfl) (by kernel_rfl) (fun _ _ _ h => h) (by rfl) (by assumption) (fun w hSw => ?_) ?_; rotate_left; focus ((try dsimp only at hSw); go_simp; try with_reducible rfl)
          try simp only [Act.put, List.setIfInBounds_toArray, List.set_cons_zero, List.set_cons_succ]
          refine heldTake (i := 3) (v := ?_) rfl (by kernel_rfl) (by kernel_rfl) (fun _ _ _ h => h) (by rfl) (by assumption) (fun w hSw => ?_) ?_; rotate_left; focus ((try dsimp only at hSw); go_simp; try with_reducible rfl)
          try simp only [Act.put, List.setIfInBounds_toArray, List.set_cons_zero, List.set_cons_succ]
          refine heldTake (i := 4) (v := ?_) rfl (by kernel_rfl) (by kernel_rfl) (fun _ _ _ h => h) (by rfl) (by assumption) (fun w hSw => ?_) ?_; rotate_left; focus ((try dsimp only at hSw); go_simp; try with_reducible rfl)
          try simp only [Act.put, List.setIfInBounds_toArray, List.set_cons_zero, List.set_cons_succ]
          -- NEXT 5 Op.call { callee := Callee.value (Operand.func 12), args := #[Operand.tmp 76], argTypes := #[28] }
          refine heldNext (i := 5) rfl (by kernel_rfl) (by rfl) (fun K hK => ?_)
          go_simp; go_at_call 12; refine (SH.out _ PD.out.below).mono ?_; rintro e w_s ⟨ao, ac, rfl, RX, hw⟩; obtain rfl := hw; first | (refine hK.out _ _ (by assumption) ?_) | (go_wp2_with fail; refine hK.out _ _ (by assumption) ?_); clear hK K
          try simp only [Act.put, List.setIfInBounds_toArray, List.set_cons_zero, List.set_cons_succ]
          -- NEXT 6 Op.call { callee := Callee.value (Operand.func 11), args := #[Operand.tmp 72, Operand.tmp 74, Operand.tmp 77],
          refine heldNext (i := 6) rfl (by kernel_rfl) (by rfl) (fun K hK => ?_)
          go_simp; go_at_call 11; refine (PY.write PD.out conn _ X (RX.out.below PD.out.below) (by rw [← HN.out]; exact lX) (M := 3000 * q + 1500) (by omega) (by omega) HW.out).mono ?_; rintro e w13 ⟨rfl, p13⟩; have P13 := Lib.hid p13; have s13 := And.intro (OC.out _ p13.kept).1.2.1 (OC.out _ p13.kept).1.2.2; first | (refine hK.out _ _ (by assumption) ?_) | (go_wp2_with fail; refine hK.out _ _ (by assumption) ?_); clear hK K
          try simp only [Act.put, List.setIfInBounds_toArray, List.set_cons_zero, List.set_cons_succ]
          refine heldTake (i := 7) (v := ?_) rfl (by kernel_rfl) (by kernel_rfl) (fun _ _ _ h => h) (by rfl) (by assumption) (fun w hSw => ?_) ?_; rotate_left; focus ((try dsimp only at hSw); go_simp; try with_reducible rfl)
          try simp only [Act.put, List.setIfInBounds_toArray, List.set_cons_zero, List.set_cons_succ]
          refine wpAnyH_done (by kernel_rfl) ?_ _

          clear sD PD RX hH
          have PE := Lib.hid (P13.out.next ((Below.refl _ _).drew))
          clear s13 P13 p13
          go_wp2
          have sE := And.intro (OC.out _ PE.out.kept).1.2.1 (OC.out _ PE.out.kept).1.2.2
          refine wp_region_held_drew (S := fun w' => w'.cell? ⟨go, 1, none⟩ = some (.int .i64 conn) ∧ w'.cell? ⟨go, 2, none⟩ = some (.slice xo XL xc)) (by kernel_rfl) (by assumption) (fun hH => ?_)
          generalize World.drew _ = we at *
          refine heldTake (i := 0) (v := ?_) rfl (by kernel_rfl) (by kernel_rfl) (fun _ _ _ h => h) (by rfl) (by assumption) (fun w hSw => ?_) ?_; rotate_left; focus ((try dsimp only at hSw); go_simp; try with_reducible rfl)
          try simp only [Act.put, List.setIfInBounds_toArray, List.set_cons_zero, List.set_cons_succ]
          refine heldTake (i := 1) (v := ?_) rfl (by kernel_rfl) (by kernel_rfl) (fun _ _ _ h => h) (by rfl) (by assumption) (fun w hSw => ?_) ?_; rotate_left; focus ((try dsimp only at hSw); go_simp; try with_reducible rfl)
          try simp only [Act.put, List.setIfInBounds_toArray, List.set_cons_zero, List.set_cons_succ]
          refine heldTake (i := 2) (v := ?_) rfl (by kernel_rfl) (by kernel_rfl) (fun _ _ _ h => h) (by rfl) (by assumption) (fun w hSw => ?_) ?_; rotate_left; focus ((try dsimp only at hSw); go_simp; try with_reducible rfl)
          try simp only [Act.put, List.setIfInBounds_toArray, List.set_cons_zero, List.set_cons_succ]
          refine heldTake (i := 3) (v := ?_) rfl (by kernel_rfl) (by kernel_rfl) (fun _ _ _ h => h) (by rfl) (by assumption) (fun w hSw => ?_) ?_; rotate_left; focus ((try dsimp only at hSw); go_simp; try with_reducible rfl)
          try simp only [Act.put, List.setIfInBounds_toArray, List.set_cons_zero, List.set_cons_succ]
          refine heldTake (i := 4) (v := ?_) rfl (by kernel_rfl) (by kernel_rfl) (fun _ _ _ h => h) (by rfl) (by assumption) (fun w hSw => ?_) ?_; rotate_left; focus ((try dsimp only at hSw); go_simp; try with_reducible rfl)
          try simp only [Act.put, List.setIfInBounds_toArray, List.set_cons_zero, List.set_cons_succ]
          -- NEXT 5 Op.call { callee := Callee.value (Operand.func 12), args := #[Operand.tmp 83], argTypes := #[28] }
          refine heldNext (i := 5) rfl (by kernel_rfl) (by rfl) (fun K hK => ?_)
          go_simp; go_at_call 12; refine (SH.out _ PE.out.below).mono ?_; rintro e w_s ⟨ao, ac, rfl, RX, hw⟩; obtain rfl := hw; first | (refine hK.out _ _ (by assumption) ?_) | (go_wp2_with fail; refine hK.out _ _ (by assumption) ?_); clear hK K
          try simp only [Act.put, List.setIfInBounds_toArray, List.set_cons_zero, List.set_cons_succ]
          -- NEXT 6 Op.call { callee := Callee.value (Operand.func 13), args := #[Operand.tmp 79, Operand.tmp 81, Operand.tmp 84],
          refine heldNext (i := 6) rfl (by kernel_rfl) (by rfl) (fun K hK => ?_)
          go_simp; go_at_call 13; refine (PY.rwrite PE.out conn _ X (RX.out.below PE.out.below) (by rw [← HN.out]; exact lX) (M := 3000 * q + 3000) (by omega) (by omega) HW.out).mono ?_; rintro e w15 ⟨rfl, p15⟩; have P15 := Lib.hid p15; have s15 := And.intro (OC.out _ p15.kept).1.2.1 (OC.out _ p15.kept).1.2.2; first | (refine hK.out _ _ (by assumption) ?_) | (go_wp2_with fail; refine hK.out _ _ (by assumption) ?_); clear hK K
          try simp only [Act.put, List.setIfInBounds_toArray, List.set_cons_zero, List.set_cons_succ]
          refine heldTake (i := 7) (v := ?_) rfl (by kernel_rfl) (by kernel_rfl) (fun _ _ _ h => h) (by rfl) (by assumption) (fun w hSw => ?_) ?_; rotate_left; focus ((try dsimp only at hSw); go_simp; try with_reducible rfl)
          try simp only [Act.put, List.setIfInBounds_toArray, List.set_cons_zero, List.set_cons_succ]
          refine wpAnyH_done (by kernel_rfl) ?_ _

          clear sE PE RX hH s15 p15
          go_wp2
          go_meet
          exact ⟨g, W', rfl, P15.out.drop⟩
        · go_wp2_with fail
          refine (PY.finish P9.out conn).mono ?_
          rintro e w12 ⟨rfl, p12⟩
          have P12 := Lib.hid p12
          obtain ⟨_, b1, b2⟩ := (OC.out _ p12.kept).1
          clear p12 P9 c1 c2
          go_wp2_with fail
          refine (PY.rfinish P12.out conn).mono ?_
          rintro e w13 ⟨rfl, p13⟩
          have P13 := Lib.hid p13
          clear p13 P12 b1 b2
          go_wp2
          go_meet
          exact ⟨g, W.finish conn, rfl, P13.out.drop.up (by omega) (by omega)⟩
        · obtain ⟨d, hd⟩ : ∃ d, d = W.ask.1 := ⟨_, rfl⟩
          have HD := Lib.hid hd
          clear hd
          go_wp2_with fail
          refine (PY.ask P9.out).mono ?_
          rintro e w12 ⟨rfl, p12⟩
          rw [← HD.out]
          have P12 := Lib.hid p12
          clear p12 P9 c1 c2
          go_wp2_with fail
          refine (PY.rask P12.out).mono ?_
          rintro e w13 ⟨rfl, p13⟩
          rw [← HD.out]
          have P13 := Lib.hid p13
          clear p13 P12
          go_wp2
          go_meet
          exact ⟨g, W.ask.2, rfl, P13.out.drop.up (by omega) (by omega)⟩
        · go_wp2_with fail
          refine (PY.clone P9.out).mono ?_
          rintro e w12 ⟨gc, rfl, p12⟩
          have P12 := Lib.hid p12
          clear p12 P9 c1 c2
          go_wp2_with fail
          have ha := (Below.refl w12.heap.size w12).alloc (Nat.le_refl _) (.cells ([122, 122].map bv).toArray 5 (2, 3))
          refine (PZ.write (P12.out.next ha) 0 _ [122, 122] (Rd.made w12 [122, 122] _ _ 2 rfl (by decide)) (by decide) (by omega)).mono ?_
          rintro e w13 ⟨m13, rfl, p13⟩
          have P13 := Lib.hid p13
          clear p13 P12 ha
          go_wp2_with fail
          refine (PZ.happen P13.out 4 0 0).mono ?_
          rintro e w14 ⟨u14, m14, rfl, p14⟩
          have P14 := Lib.hid p14
          clear p14 P13
          go_wp2_with fail
          refine (PZ.ask P14.out).mono ?_
          rintro e w15 ⟨d15, rfl, p15⟩
          have P15 := Lib.hid p15
          clear p15 P14
          go_wp2
          go_meet
          exact ⟨gc, W, rfl, P15.out.drop.drop.up (by omega) (by omega)⟩
        · have h3 : ((r : Int) == 3) = false := by simp; omega
          have h4 : ((r : Int) == 4) = false := by simp; omega
          have h5 : ((r : Int) == 5) = false := by simp; omega
          have h6 : ((r : Int) == 6) = false := by simp; omega
          have h3' : (r = 3) = False := eq_false hr3
          have h4' : (r = 4) = False := eq_false hr4
          have h5' : (r = 5) = False := eq_false hr5
          have h6' : (r = 6) = False := eq_false hr6
          obtain ⟨e3, e4, e5, e6⟩ := (OC.out _ P9.out.kept).2
          clear hr3 hr4 hr5 hr6 c1 c2 kc
          go_wp2_with fail
          refine (event_any ek ec en (.slice vo Z vc) zs _ (HRZ.out.below P9.out.below) HLZ.out).mono ?_
          rintro e w12 ⟨ao, ac, rfl, hr12, hb12⟩
          have P12 := Lib.hid (P9.out.next hb12)
          have RX := Lib.hid (hr12 w HRZ.out)
          obtain ⟨X2, hX2⟩ : ∃ X, X = zs.take 1500 := ⟨_, rfl⟩
          have lX2 : X2.length ≤ 1500 := by rw [hX2]; exact List.length_take_le _ _
          rw [← hX2] at RX ⊢
          obtain ⟨N2, hN2⟩ : ∃ N, N = X2.length := ⟨_, rfl⟩
          rw [← hN2] at RX lX2 ⊢
          have HN2 := Lib.hid hN2
          have HX2 := Lib.hid hX2
          obtain ⟨us, m, W', hR⟩ : ∃ us m W', W.happen ek ec en X2 = (us, m, W') := ⟨_, _, _, rfl⟩
          obtain ⟨QL, hQL⟩ : ∃ QL, QL = us.length := ⟨_, rfl⟩
          obtain ⟨KX, hKX⟩ : ∃ K, K = kb us := ⟨_, rfl⟩
          have HR := Lib.hid hR
          have HQL := Lib.hid hQL
          have HKX := Lib.hid hKX
          clear hr12 hb12 P9 hX2 e3 e4 e5 e6 hN2 hR hQL hKX
          go_wp2_with fail
          refine (PY.happenF P12.out ek ec en _ X2 RX.out (by rw [← HN2.out]; unfold maxLen; omega) (q := QL) (by rw [HR.out]; exact HQL.out)).mono ?_
          rintro e w13 ⟨bo, cp, rfl, p13⟩
          rw [HR.out] at p13 ⊢
          have P13 := Lib.hid p13
          obtain ⟨d3, d4, d5, d6⟩ := (OC.out _ p13.kept).2
          clear p13 P12 RX
          go_wp2_with fail
          refine (event_any ek ec en (.slice vo Z vc) zs _ (HRZ.out.below P13.out.below) HLZ.out).mono ?_
          rintro e w14 ⟨ao2, ac2, rfl, hr14, hb14⟩
          have P14 := Lib.hid (P13.out.next hb14)
          have RX := Lib.hid (hr14 w HRZ.out)
          rw [← HX2.out, ← HN2.out] at RX ⊢
          clear hr14 hb14 P13 d3 d4 d5 d6
          go_wp2_with fail
          refine (PYA.rhappen P14.out ek ec en _ X2 RX.out (by rw [← HN2.out]; unfold maxLen; omega) (q := QL) (by rw [HR.out]; exact HQL.out)).mono ?_
          rintro e w15 ⟨bo2, cp2, rfl, hr15, p15, hu15⟩
          rw [HR.out] at hr15 p15 ⊢
          have v1 := str_of hu15 HKX.out
          have v2 := str_of hr15 HKX.out
          have P15 := Lib.hid p15
          clear p15 P14 hr15 hu15 RX
          go_wp2
          go_meet
          exact ⟨g, W', rfl, P15.out.drop.up (by omega) (by omega)⟩
      case rest =>
        obtain ⟨g2, W2, rfl, HP2⟩ := hcut
        clear P9 OC c1 c2 SH HRX HLX HRZ HLZ HZ HXL HN lX kc
        go_wp2
        go_loopw [17] (fun i wr => ∃ k : Int, -1 ≤ k ∧ k ≤ 3 ∧ i = .int .i64 k ∧ Hid (PY w g2 gy W2 W2 (3000 * q + 3000) [] wr)) (fun i _ => (3 - intOf i).toNat)
        case atStart => exact ⟨-1, by omega, by omega, rfl, HP2.out⟩
        case round =>
          obtain ⟨k, hk1, hk3, rfl, HK⟩ := hrel
          by_cases hk : k ≤ 2
          · obtain ⟨m1, hm1⟩ : ∃ m, m = (W2.at k).st := ⟨_, rfl⟩
            obtain ⟨m2, hm2⟩ : ∃ m, m = (W2.at k).waits := ⟨_, rfl⟩
            obtain ⟨ls, hls⟩ : ∃ m, m = (W2.at k).sent := ⟨_, rfl⟩
            obtain ⟨lw, hlw⟩ : ∃ m, m = (W2.at k).written := ⟨_, rfl⟩
            obtain ⟨n1, hn1⟩ : ∃ m, m = ls.length := ⟨_, rfl⟩
            obtain ⟨n2, hn2⟩ : ∃ m, m = lw.length := ⟨_, rfl⟩
            obtain ⟨KS, hKS⟩ : ∃ m, m = kb ls := ⟨_, rfl⟩
            obtain ⟨KW, hKW⟩ : ∃ m, m = kb lw := ⟨_, rfl⟩
            obtain ⟨dn, hdn⟩ : ∃ m, m = (W2.at k).dn := ⟨_, rfl⟩
            have HKS := Lib.hid hKS
            have HKW := Lib.hid hKW
            have C0 := Lib.hid (fun wr (h : PY w g2 gy W2 W2 (3000 * q + 3000) [] wr) => h.state k hm1)
            have C1 := Lib.hid (fun wr (h : PY w g2 gy W2 W2 (3000 * q + 3000) [] wr) => h.rstate k hm1)
            have C2 := Lib.hid (fun wr (h : PY w g2 gy W2 W2 (3000 * q + 3000) [] wr) => h.waits k hm2)
            have C3 := Lib.hid (fun wr (h : PY w g2 gy W2 W2 (3000 * q + 3000) [] wr) => h.rwaits k hm2)
            have C4 := Lib.hid (fun wr (h : PY w g2 gy W2 W2 (3000 * q + 3000) [] wr) => h.sent k hls hn1)
            have C5 := Lib.hid (fun wr (h : PY w g2 gy W2 W2 (3000 * q + 3000) [] wr) => h.rsent k hls hn1)
            have C6 := Lib.hid (fun wr (h : PY w g2 gy W2 W2 (3000 * q + 3000) [] wr) => h.written k hlw hn2)
            have C7 := Lib.hid (fun wr (h : PY w g2 gy W2 W2 (3000 * q + 3000) [] wr) => h.rwritten k hlw hn2)
            have C8 := Lib.hid (fun wr (h : PY w g2 gy W2 W2 (3000 * q + 3000) [] wr) => h.finished k hdn)
            have C9 := Lib.hid (fun wr (h : PY w g2 gy W2 W2 (3000 * q + 3000) [] wr) => h.rfinished k hdn)
            have A0 := HK.out.next ((Below.refl _ _).drew)
            have s0 := True.intro
            clear hm1 hm2 hls hlw hn1 hn2 hKS hKW hdn HK HP2
            go_wp2
            refine wp_region_held_drew (S := fun _ => True) (by kernel_rfl) (by assumption) (fun hH => ?_)
            generalize World.drew _ = wd at *
            refine heldTake (i := 0) (v := ?_) rfl (by kernel_rfl) (by kernel_rfl) (fun _ _ _ h => h) (by rfl) (by assumption) (fun w hSw => ?_) ?_; rotate_left; focus ((try dsimp only at hSw); go_simp; try with_reducible rfl)
            try simp only [Act.put, List.setIfInBounds_toArray, List.set_cons_zero, List.set_cons_succ]
            refine heldTake (i := 1) (v := ?_) rfl (by kernel_rfl) (by kernel_rfl) (fun _ _ _ h => h) (by rfl) (by assumption) (fun w hSw => ?_) ?_; rotate_left; focus ((try dsimp only at hSw); go_simp; try with_reducible rfl)
            try simp only [Act.put, List.setIfInBounds_toArray, List.set_cons_zero, List.set_cons_succ]
            refine heldTake (i := 3) (v := ?_) rfl (by kernel_rfl) (by kernel_rfl) (fun _ _ _ h => h) (by rfl) (by assumption) (fun w hSw => ?_) ?_; rotate_left; focus ((try dsimp only at hSw); go_simp; try with_reducible rfl)
            try simp only [Act.put, List.setIfInBounds_toArray, List.set_cons_zero, List.set_cons_succ]
            refine heldTake (i := 4) (v := ?_) rfl (by kernel_rfl) (by kernel_rfl) (fun _ _ _ h => h) (by rfl) (by assumption) (fun w hSw => ?_) ?_; rotate_left; focus ((try dsimp only at hSw); go_simp; try with_reducible rfl)
            try simp only [Act.put, List.setIfInBounds_toArray, List.set_cons_zero, List.set_cons_succ]
            -- NEXT 2 Op.call { callee := Callee.value (Operand.func 22), args := #[Operand.tmp 128, Operand.tmp 129], argTypes := #
            refine heldNext (i := 2) rfl (by kernel_rfl) (by rfl) (fun K hK => ?_)
            go_simp; go_at_call 22; refine (C0.out _ (by assumption)).mono ?_; rintro e w1 ⟨rfl, A1, b1⟩; have s1 := True.intro; first | (refine hK.out _ _ (by assumption) ?_) | (go_wp2_with fail; refine hK.out _ _ (by assumption) ?_); clear hK K
            try simp only [Act.put, List.setIfInBounds_toArray, List.set_cons_zero, List.set_cons_succ]
            -- NEXT 5 Op.call { callee := Callee.value (Operand.func 23), args := #[Operand.tmp 131, Operand.tmp 132], argTypes := #
            refine heldNext (i := 5) rfl (by kernel_rfl) (by rfl) (fun K hK => ?_)
            go_simp; go_at_call 23; refine (C1.out _ (by assumption)).mono ?_; rintro e w2 ⟨rfl, A2, b2⟩; have s2 := True.intro; first | (refine hK.out _ _ (by assumption) ?_) | (go_wp2_with fail; refine hK.out _ _ (by assumption) ?_); clear hK K
            try simp only [Act.put, List.setIfInBounds_toArray, List.set_cons_zero, List.set_cons_succ]
            refine heldTake (i := 6) (v := ?_) rfl (by kernel_rfl) (by kernel_rfl) (fun _ _ _ h => h) (by rfl) (by assumption) (fun w hSw => ?_) ?_; rotate_left; focus ((try dsimp only at hSw); go_simp; try with_reducible rfl)
            try simp only [Act.put, List.setIfInBounds_toArray, List.set_cons_zero, List.set_cons_succ]
            refine heldTake (i := 7) (v := ?_) rfl (by kernel_rfl) (by kernel_rfl) (fun _ _ _ h => h) (by rfl) (by assumption) (fun w hSw => ?_) ?_; rotate_left; focus ((try dsimp only at hSw); go_simp; try with_reducible rfl)
            try simp only [Act.put, List.setIfInBounds_toArray, List.set_cons_zero, List.set_cons_succ]
            refine heldTake (i := 8) (v := ?_) rfl (by kernel_rfl) (by kernel_rfl) (fun _ _ _ h => h) (by rfl) (by assumption) (fun w hSw => ?_) ?_; rotate_left; focus ((try dsimp only at hSw); go_simp; try with_reducible rfl)
            try simp only [Act.put, List.setIfInBounds_toArray, List.set_cons_zero, List.set_cons_succ]
            refine heldTake (i := 9) (v := ?_) rfl (by kernel_rfl) (by kernel_rfl) (fun _ _ _ h => h) (by rfl) (by assumption) (fun w hSw => ?_) ?_; rotate_left; focus ((try dsimp only at hSw); go_simp; try with_reducible rfl)
            try simp only [Act.put, List.setIfInBounds_toArray, List.set_cons_zero, List.set_cons_succ]
            refine heldTake (i := 11) (v := ?_) rfl (by kernel_rfl) (by kernel_rfl) (fun _ _ _ h => h) (by rfl) (by assumption) (fun w hSw => ?_) ?_; rotate_left; focus ((try dsimp only at hSw); go_simp; try with_reducible rfl)
            try simp only [Act.put, List.setIfInBounds_toArray, List.set_cons_zero, List.set_cons_succ]
            refine heldTake (i := 12) (v := ?_) rfl (by kernel_rfl) (by kernel_rfl) (fun _ _ _ h => h) (by rfl) (by assumption) (fun w hSw => ?_) ?_; rotate_left; focus ((try dsimp only at hSw); go_simp; try with_reducible rfl)
            try simp only [Act.put, List.setIfInBounds_toArray, List.set_cons_zero, List.set_cons_succ]
            -- NEXT 10 Op.call { callee := Callee.value (Operand.func 24), args := #[Operand.tmp 136, Operand.tmp 137], argTypes := #
            refine heldNext (i := 10) rfl (by kernel_rfl) (by rfl) (fun K hK => ?_)
            go_simp; go_at_call 24; refine (C2.out _ (by assumption)).mono ?_; rintro e w3 ⟨rfl, A3, b3⟩; have s3 := True.intro; first | (refine hK.out _ _ (by assumption) ?_) | (go_wp2_with fail; refine hK.out _ _ (by assumption) ?_); clear hK K
            try simp only [Act.put, List.setIfInBounds_toArray, List.set_cons_zero, List.set_cons_succ]
            -- NEXT 13 Op.call { callee := Callee.value (Operand.func 25), args := #[Operand.tmp 139, Operand.tmp 140], argTypes := #
            refine heldNext (i := 13) rfl (by kernel_rfl) (by rfl) (fun K hK => ?_)
            go_simp; go_at_call 25; refine (C3.out _ (by assumption)).mono ?_; rintro e w4 ⟨rfl, A4, b4⟩; have s4 := True.intro; first | (refine hK.out _ _ (by assumption) ?_) | (go_wp2_with fail; refine hK.out _ _ (by assumption) ?_); clear hK K
            try simp only [Act.put, List.setIfInBounds_toArray, List.set_cons_zero, List.set_cons_succ]
            refine heldTake (i := 14) (v := ?_) rfl (by kernel_rfl) (by kernel_rfl) (fun _ _ _ h => h) (by rfl) (by assumption) (fun w hSw => ?_) ?_; rotate_left; focus ((try dsimp only at hSw); go_simp; try with_reducible rfl)
            try simp only [Act.put, List.setIfInBounds_toArray, List.set_cons_zero, List.set_cons_succ]
            refine heldTake (i := 15) (v := ?_) rfl (by kernel_rfl) (by kernel_rfl) (fun _ _ _ h => h) (by rfl) (by assumption) (fun w hSw => ?_) ?_; rotate_left; focus ((try dsimp only at hSw); go_simp; try with_reducible rfl)
            try simp only [Act.put, List.setIfInBounds_toArray, List.set_cons_zero, List.set_cons_succ]
            refine heldTake (i := 16) (v := ?_) rfl (by kernel_rfl) (by kernel_rfl) (fun _ _ _ h => h) (by rfl) (by assumption) (fun w hSw => ?_) ?_; rotate_left; focus ((try dsimp only at hSw); go_simp; try with_reducible rfl)
            try simp only [Act.put, List.setIfInBounds_toArray, List.set_cons_zero, List.set_cons_succ]
            refine heldTake (i := 17) (v := ?_) rfl (by kernel_rfl) (by kernel_rfl) (fun _ _ _ h => h) (by rfl) (by assumption) (fun w hSw => ?_) ?_; rotate_left; focus ((try dsimp only at hSw); go_simp; try with_reducible rfl)
            try simp only [Act.put, List.setIfInBounds_toArray, List.set_cons_zero, List.set_cons_succ]
            refine heldTake (i := 18) (v := ?_) rfl (by kernel_rfl) (by kernel_rfl) (fun _ _ _ h => h) (by rfl) (by assumption) (fun w hSw => ?_) ?_; rotate_left; focus ((try dsimp only at hSw); go_simp; try with_reducible rfl)
            try simp only [Act.put, List.setIfInBounds_toArray, List.set_cons_zero, List.set_cons_succ]
            refine heldTake (i := 21) (v := ?_) rfl (by kernel_rfl) (by kernel_rfl) (fun _ _ _ h => h) (by rfl) (by assumption) (fun w hSw => ?_) ?_; rotate_left; focus ((try dsimp only at hSw); go_simp; try with_reducible rfl)
            try simp only [Act.put, List.setIfInBounds_toArray, List.set_cons_zero, List.set_cons_succ]
            refine heldTake (i := 22) (v := ?_) rfl (by kernel_rfl) (by kernel_rfl) (fun _ _ _ h => h) (by rfl) (by assumption) (fun w hSw => ?_) ?_; rotate_left; focus ((try dsimp only at hSw); go_simp; try with_reducible rfl)
            try simp only [Act.put, List.setIfInBounds_toArray, List.set_cons_zero, List.set_cons_succ]
            -- NEXT 19 Op.call { callee := Callee.value (Operand.func 26), args := #[Operand.tmp 145, Operand.tmp 146], argTypes := #
            refine heldNext (i := 19) rfl (by kernel_rfl) (by rfl) (fun K hK => ?_)
            go_simp; go_at_call 26; refine (C4.out _ (by assumption)).mono ?_; rintro e w5 ⟨xo2, xc2, rfl, RT, A5, b5⟩; have s5 := True.intro; first | (refine hK.out _ _ (by assumption) ?_) | (go_wp2_with fail; refine hK.out _ _ (by assumption) ?_); clear hK K
            have c5 := str_of RT HKS.out
            refine heldMore (S' := fun w' => (convert 28 9 (.slice xo2 n1 xc2)).run Try.prog w' = .ok (.string KS) w') (fun w' h => trivial) ?_
            try simp only [Act.put, List.setIfInBounds_toArray, List.set_cons_zero, List.set_cons_succ]
            refine heldTake (i := 20) (v := ?_) rfl (by kernel_rfl) (by kernel_rfl) (fun _ _ _ h => h) (by rfl) (by assumption) (fun w hSw => ?_) ?_; rotate_left; focus ((try dsimp only at hSw); go_simp; try with_reducible rfl)
            try simp only [Act.put, List.setIfInBounds_toArray, List.set_cons_zero, List.set_cons_succ]
            -- NEXT 23 Op.call { callee := Callee.value (Operand.func 27), args := #[Operand.tmp 149, Operand.tmp 150], argTypes := #
            refine heldNext (i := 23) rfl (by kernel_rfl) (by rfl) (fun K hK => ?_)
            go_simp; go_at_call 27; refine (C5.out _ (by assumption)).mono ?_; rintro e w6 ⟨yo2, yc2, rfl, RY, A6, b6⟩; have c6 := str_of (RT.below b6) HKS.out; have d6 := str_of RY HKS.out; first | (refine hK.out _ _ (by assumption) ?_) | (go_wp2_with fail; refine hK.out _ _ (by assumption) ?_); clear hK K
            try simp only [Act.put, List.setIfInBounds_toArray, List.set_cons_zero, List.set_cons_succ]
            -- NEXT 24 Op.convert 28 9 (Operand.tmp 151)
            refine heldNext (i := 24) rfl (by kernel_rfl) (by rfl) (fun K hK => ?_)
            go_simp; refine hK.out _ _ (by assumption) ?_; clear hK K
            try simp only [Act.put, List.setIfInBounds_toArray, List.set_cons_zero, List.set_cons_succ]
            refine heldTake (i := 25) (v := ?_) rfl (by kernel_rfl) (by kernel_rfl) (fun _ _ _ h => h) (by rfl) (by assumption) (fun w hSw => ?_) ?_; rotate_left; focus ((try dsimp only at hSw); go_simp; try with_reducible rfl)
            try simp only [Act.put, List.setIfInBounds_toArray, List.set_cons_zero, List.set_cons_succ]
            refine heldTake (i := 26) (v := ?_) rfl (by kernel_rfl) (by kernel_rfl) (fun _ _ _ h => h) (by rfl) (by assumption) (fun w hSw => ?_) ?_; rotate_left; focus ((try dsimp only at hSw); go_simp; try with_reducible rfl)
            try simp only [Act.put, List.setIfInBounds_toArray, List.set_cons_zero, List.set_cons_succ]
            refine heldTake (i := 27) (v := ?_) rfl (by kernel_rfl) (by kernel_rfl) (fun _ _ _ h => h) (by rfl) (by assumption) (fun w hSw => ?_) ?_; rotate_left; focus ((try dsimp only at hSw); go_simp; try with_reducible rfl)
            try simp only [Act.put, List.setIfInBounds_toArray, List.set_cons_zero, List.set_cons_succ]
            refine heldTake (i := 28) (v := ?_) rfl (by kernel_rfl) (by kernel_rfl) (fun _ _ _ h => h) (by rfl) (by assumption) (fun w hSw => ?_) ?_; rotate_left; focus ((try dsimp only at hSw); go_simp; try with_reducible rfl)
            try simp only [Act.put, List.setIfInBounds_toArray, List.set_cons_zero, List.set_cons_succ]
            refine heldTake (i := 29) (v := ?_) rfl (by kernel_rfl) (by kernel_rfl) (fun _ _ _ h => h) (by rfl) (by assumption) (fun w hSw => ?_) ?_; rotate_left; focus ((try dsimp only at hSw); go_simp; try with_reducible rfl)
            try simp only [Act.put, List.setIfInBounds_toArray, List.set_cons_zero, List.set_cons_succ]
            refine heldTake (i := 32) (v := ?_) rfl (by kernel_rfl) (by kernel_rfl) (fun _ _ _ h => h) (by rfl) (by assumption) (fun w hSw => ?_) ?_; rotate_left; focus ((try dsimp only at hSw); go_simp; try with_reducible rfl)
            try simp only [Act.put, List.setIfInBounds_toArray, List.set_cons_zero, List.set_cons_succ]
            refine heldTake (i := 33) (v := ?_) rfl (by kernel_rfl) (by kernel_rfl) (fun _ _ _ h => h) (by rfl) (by assumption) (fun w hSw => ?_) ?_; rotate_left; focus ((try dsimp only at hSw); go_simp; try with_reducible rfl)
            try simp only [Act.put, List.setIfInBounds_toArray, List.set_cons_zero, List.set_cons_succ]
            -- NEXT 30 Op.call { callee := Callee.value (Operand.func 28), args := #[Operand.tmp 156, Operand.tmp 157], argTypes := #
            refine heldNext (i := 30) rfl (by kernel_rfl) (by rfl) (fun K hK => ?_)
            go_simp; go_at_call 28; refine (C6.out _ (by assumption)).mono ?_; rintro e w7 ⟨zo2, zc2, rfl, RZ, A7, b7⟩; have q7 := b6.trans (b7.mono b6.size); have c7 := str_of (RT.below q7) HKS.out; have d7 := str_of RZ HKW.out; have t7 := And.intro c7 d7; first | (refine hK.out _ _ (by assumption) ?_) | (go_wp2_with fail; refine hK.out _ _ (by assumption) ?_); clear hK K
            refine heldMore (S' := fun w' => (convert 28 9 (.slice xo2 n1 xc2)).run Try.prog w' = .ok (.string KS) w' ∧ (convert 28 9 (.slice zo2 n2 zc2)).run Try.prog w' = .ok (.string KW) w') (fun w' h => h.1) ?_
            try simp only [Act.put, List.setIfInBounds_toArray, List.set_cons_zero, List.set_cons_succ]
            refine heldTake (i := 31) (v := ?_) rfl (by kernel_rfl) (by kernel_rfl) (fun _ _ _ h => h) (by rfl) (by assumption) (fun w hSw => ?_) ?_; rotate_left; focus ((try dsimp only at hSw); go_simp; try with_reducible rfl)
            try simp only [Act.put, List.setIfInBounds_toArray, List.set_cons_zero, List.set_cons_succ]
            -- NEXT 34 Op.call { callee := Callee.value (Operand.func 29), args := #[Operand.tmp 160, Operand.tmp 161], argTypes := #
            refine heldNext (i := 34) rfl (by kernel_rfl) (by rfl) (fun K hK => ?_)
            go_simp; go_at_call 29; refine (C7.out _ (by assumption)).mono ?_; rintro e w8 ⟨uo2, uc2, rfl, RU, A8, b8⟩; have q8 := q7.trans (b8.mono q7.size); have t8 := And.intro (str_of (RT.below q8) HKS.out) (str_of (RZ.below b8) HKW.out); have e8 := str_of RU HKW.out; first | (refine hK.out _ _ (by assumption) ?_) | (go_wp2_with fail; refine hK.out _ _ (by assumption) ?_); clear hK K
            try simp only [Act.put, List.setIfInBounds_toArray, List.set_cons_zero, List.set_cons_succ]
            -- NEXT 35 Op.convert 28 9 (Operand.tmp 162)
            refine heldNext (i := 35) rfl (by kernel_rfl) (by rfl) (fun K hK => ?_)
            go_simp; refine hK.out _ _ (by assumption) ?_; clear hK K
            try simp only [Act.put, List.setIfInBounds_toArray, List.set_cons_zero, List.set_cons_succ]
            refine heldTake (i := 36) (v := ?_) rfl (by kernel_rfl) (by kernel_rfl) (fun _ _ _ h => h) (by rfl) (by assumption) (fun w hSw => ?_) ?_; rotate_left; focus ((try dsimp only at hSw); go_simp; try with_reducible rfl)
            try simp only [Act.put, List.setIfInBounds_toArray, List.set_cons_zero, List.set_cons_succ]
            refine heldTake (i := 37) (v := ?_) rfl (by kernel_rfl) (by kernel_rfl) (fun _ _ _ h => h) (by rfl) (by assumption) (fun w hSw => ?_) ?_; rotate_left; focus ((try dsimp only at hSw); go_simp; try with_reducible rfl)
            try simp only [Act.put, List.setIfInBounds_toArray, List.set_cons_zero, List.set_cons_succ]
            refine heldTake (i := 38) (v := ?_) rfl (by kernel_rfl) (by kernel_rfl) (fun _ _ _ h => h) (by rfl) (by assumption) (fun w hSw => ?_) ?_; rotate_left; focus ((try dsimp only at hSw); go_simp; try with_reducible rfl)
            try simp only [Act.put, List.setIfInBounds_toArray, List.set_cons_zero, List.set_cons_succ]
            refine heldTake (i := 39) (v := ?_) rfl (by kernel_rfl) (by kernel_rfl) (fun _ _ _ h => h) (by rfl) (by assumption) (fun w hSw => ?_) ?_; rotate_left; focus ((try dsimp only at hSw); go_simp; try with_reducible rfl)
            try simp only [Act.put, List.setIfInBounds_toArray, List.set_cons_zero, List.set_cons_succ]
            refine heldTake (i := 40) (v := ?_) rfl (by kernel_rfl) (by kernel_rfl) (fun _ _ _ h => h) (by rfl) (by assumption) (fun w hSw => ?_) ?_; rotate_left; focus ((try dsimp only at hSw); go_simp; try with_reducible rfl)
            try simp only [Act.put, List.setIfInBounds_toArray, List.set_cons_zero, List.set_cons_succ]
            refine heldTake (i := 42) (v := ?_) rfl (by kernel_rfl) (by kernel_rfl) (fun _ _ _ h => h) (by rfl) (by assumption) (fun w hSw => ?_) ?_; rotate_left; focus ((try dsimp only at hSw); go_simp; try with_reducible rfl)
            try simp only [Act.put, List.setIfInBounds_toArray, List.set_cons_zero, List.set_cons_succ]
            refine heldTake (i := 43) (v := ?_) rfl (by kernel_rfl) (by kernel_rfl) (fun _ _ _ h => h) (by rfl) (by assumption) (fun w hSw => ?_) ?_; rotate_left; focus ((try dsimp only at hSw); go_simp; try with_reducible rfl)
            try simp only [Act.put, List.setIfInBounds_toArray, List.set_cons_zero, List.set_cons_succ]
            -- NEXT 41 Op.call { callee := Callee.value (Operand.func 30), args := #[Operand.tmp 167, Operand.tmp 168], argTypes := #
            refine heldNext (i := 41) rfl (by kernel_rfl) (by rfl) (fun K hK => ?_)
            go_simp; go_at_call 30; refine (C8.out _ (by assumption)).mono ?_; rintro e w9x ⟨rfl, A9, b9⟩; have q9 := q8.trans (b9.mono q8.size); have r9 := b8.trans (b9.mono b8.size); have t9 := And.intro (str_of (RT.below q9) HKS.out) (str_of (RZ.below r9) HKW.out); first | (refine hK.out _ _ (by assumption) ?_) | (go_wp2_with fail; refine hK.out _ _ (by assumption) ?_); clear hK K
            try simp only [Act.put, List.setIfInBounds_toArray, List.set_cons_zero, List.set_cons_succ]
            -- NEXT 44 Op.call { callee := Callee.value (Operand.func 31), args := #[Operand.tmp 170, Operand.tmp 171], argTypes := #
            refine heldNext (i := 44) rfl (by kernel_rfl) (by rfl) (fun K hK => ?_)
            go_simp; go_at_call 31; refine (C9.out _ (by assumption)).mono ?_; rintro e w10x ⟨rfl, A10, b10⟩; have q10 := q9.trans (b10.mono q9.size); have r10 := r9.trans (b10.mono r9.size); have t10 := And.intro (str_of (RT.below q10) HKS.out) (str_of (RZ.below r10) HKW.out); first | (refine hK.out _ _ (by assumption) ?_) | (go_wp2_with fail; refine hK.out _ _ (by assumption) ?_); clear hK K
            try simp only [Act.put, List.setIfInBounds_toArray, List.set_cons_zero, List.set_cons_succ]
            refine heldTake (i := 45) (v := ?_) rfl (by kernel_rfl) (by kernel_rfl) (fun _ _ _ h => h) (by rfl) (by assumption) (fun w hSw => ?_) ?_; rotate_left; focus ((try dsimp only at hSw); go_simp; try with_reducible rfl)
            try simp only [Act.put, List.setIfInBounds_toArray, List.set_cons_zero, List.set_cons_succ]
            refine heldTake (i := 46) (v := ?_) rfl (by kernel_rfl) (by kernel_rfl) (fun _ _ _ h => h) (by rfl) (by assumption) (fun w hSw => ?_) ?_; rotate_left; focus ((try dsimp only at hSw); go_simp; try with_reducible rfl)
            try simp only [Act.put, List.setIfInBounds_toArray, List.set_cons_zero, List.set_cons_succ]
            refine wpAnyH_done (by kernel_rfl) ?_ _
  
            have q9 := Lib.hid A10
            clear A0 A1 A2 A3 A4 A5 A6 A7 A8 A9 A10 hH s0 s1 s2 s3 s4 s5 c5 c6 d6 c7 d7 t7 t8 e8 t9 t10 RT RY RZ RU b1 b2 b3 b4 b5 b6 b7 b8 b9 b10 q7 q8 r9 q10 r10 C0 C1 C2 C3 C4 C5 C6 C7 C8 C9
            go_wp2
            go_roundw
            case rel => exact ⟨k + 1, by omega, by omega, by go_num, q9.out⟩
            case measure => simp [intOf]; omega
          · have hk' : (k ≤ 2) = False := eq_false hk
            go_wp2
            go_roundw
            case rel => exact ⟨W2, q + 1, g2, by omega, by omega, rfl, by go_num, HK.out⟩
            case measure => simp [intOf]; omega
    · by_cases hlt : q < L
      · have hlt60 : ¬ q < 60 := fun h => hgo ⟨hlt, h⟩
        clear hgo
        go_wp2
        go_ret
        exact ⟨rfl, HP.out.below⟩
      · clear hgo
        go_wp2
        go_ret
        exact ⟨rfl, HP.out.below⟩
end Go.Proofs.Ytneifmnlailipaa
