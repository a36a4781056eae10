/- The law WireGoes walked. -/
import Derived.Test.YtneifmnlailipaaWireKeep
import Derived.Test.YtneifmnlailipaaWireG
import Derived.Test.YtneifmnlailipaaOpenWops
import Derived.Deep.CutRange
import Derived.Lib.Strings
namespace Go.Proofs.Ytneifmnlailipaa
open Go.RowKit Go.ChangeShapes

theorem sent_xs {W : Wi.Wm} (h : W.Ok) {W' : Wi.Wm} (h' : W'.Ok) (hx : W'.a.xs = W.a.xs) (ht : W'.a.t = W.a.t) : W'.a.sent = W.a.sent := by
  rw [h.a_sent, h'.a_sent, hx, ht]

/-- A text of bytes, cut. -/
theorem kb_take (xs : List UInt8) (n : Nat) : (kb xs).extract 0 n = kb (xs.take n) := by
  rw [Lib.extract_eq]
  simp [kb]
theorem sent_cut {W : Wi.Wm} (h : W.Ok) {T : Nat} (hT : T = W.a.sent.length) : (kb W.a.xs).extract 0 T = kb W.a.sent ∧ T ≤ W.a.xs.length := by
  have h1 := h.a.t
  have hl : T = W.a.t := by rw [hT, h.a_sent, List.length_take]; omega
  rw [kb_take, h.a_sent, hl]
  exact ⟨rfl, h1⟩

set_option maxRecDepth 100000 in
set_option maxHeartbeats 4000000 in
theorem lawGoesW (v0 : Value) (os : List WOp) (h0 : os.length ≤ maxLen) (w : World) (r0 : RdN 7 w v0 (os.map WOp.cells)) (m0 : ∀ o ∈ os, o.Ok w) :
    Calls Try.prog 4 #[v0] w fun e w' => e = .returned (.bool true) ∧ Below w.heap.size w w' := by
  obtain ⟨lo, cl, rfl, hcl, hll⟩ := r0.form
  rw [List.length_map] at hcl hll ⊢
  obtain ⟨L, hL⟩ : ∃ L, L = os.length := ⟨_, rfl⟩
  rw [← hL] at h0 hcl hll ⊢
  have HLL := Lib.hid hll
  have HM0 := Lib.hid m0
  have HL := Lib.hid hL
  unfold maxLen at h0
  clear hll m0 hL r0
  go_enter Try.func4, Try.ntmps4
  go_wp2_with fail
  refine (shown_any w).mono ?_
  rintro e wa ⟨rfl, hba⟩
  have HBA := Lib.hid hba
  clear hba
  go_wp2_with fail
  refine (PW.new HBA.out).mono ?_
  rintro e wb ⟨g, rfl, hq⟩
  have Q0 := Lib.hid hq
  clear hq HBA
  go_wp2
  go_loopw [5, 6] (fun a i wr => ∃ (W : Wi.Wm) (q : Nat) (ka : ByteArray), q ≤ L ∧ q ≤ 60 ∧ a = .string ka ∧ i = .int .i64 q ∧ ka.size ≤ 4000 ∧ Hid (ka = kb W.a.xs) ∧ Hid (PW w g W (1500 * q) wr)) (fun _ i _ => 60 - (intOf i).toNat)
  case atStart => exact ⟨Wi.start, 0, kb [], by omega, by omega, rfl, rfl, by decide, rfl, Q0.out⟩
  case round =>
    obtain ⟨W, q, ka, hq, hq60, rfl, rfl, hka, HKA, HP⟩ := hrel
    by_cases hgo : q < L ∧ q < 60
    · obtain ⟨hlt, hlt60⟩ := hgo
      obtain ⟨b, o, rfl, _, hcell⟩ := HLL.out (by omega)
      obtain ⟨op, hop⟩ : ∃ op, os[q]? = some op := ⟨_, List.getElem?_eq_getElem (by rw [← HL.out]; exact hlt)⟩
      obtain ⟨kind, conn, vb, xs, ek, ec, en, ve, zs⟩ := op
      have ok := HM0.out _ (List.mem_of_getElem? hop)
      have hkb := bounds_u8 ok.kind
      have hrz := ok.erd
      have hlz := ok.elen
      have hrx := ok.rd
      have hlx := ok.len
      simp only at hkb hrz hlz hrx hlx
      obtain ⟨kd, rfl⟩ := Int.eq_ofNat_of_zero_le hkb.1
      obtain ⟨vo, vc, rfl, _, _⟩ := hrz.form
      obtain ⟨xo, xc, rfl, _, _⟩ := hrx.form
      have cells : ∀ i u, (WOp.cells ⟨(kd : Int), conn, .slice xo xs.length xc, xs, ek, ec, en, .slice vo zs.length vc, zs⟩)[i]? = some u → wr.cell? ⟨b, o + (q * 7 + i), none⟩ = some u := fun i u hu => by
        have hc := hcell q _ (by rw [List.getElem?_map, hop]; rfl) i u hu
        exact (HP.out.below.cell (World.block_lt_of_cell? w _ hc)).trans hc
      have k0 := cells 0 _ rfl
      have k1 := cells 1 _ rfl
      have k2 := cells 2 _ rfl
      have k3 := cells 3 _ rfl
      have k4 := cells 4 _ rfl
      have k5 := cells 5 _ rfl
      have k6 := cells 6 _ rfl
      rw [Nat.add_zero] at k0
      rw [← Nat.add_assoc] at k1 k2 k3 k4 k5 k6
      obtain ⟨XL, hXL⟩ : ∃ XL, XL = xs.length := ⟨_, rfl⟩
      rw [← hXL] at k2 hrx
      obtain ⟨Z, hZ⟩ : ∃ Z, Z = zs.length := ⟨_, rfl⟩
      rw [← hZ] at k6 hrz
      have HZ := Lib.hid hZ
      have HXL := Lib.hid hXL
      have HRZ := Lib.hid hrz
      have HLZ := Lib.hid hlz
      have HRX := Lib.hid hrx
      have HLX := Lib.hid hlx
      obtain ⟨r, hr⟩ : ∃ r, r = kd % 8 := ⟨_, rfl⟩
      have hr8 : r < 8 := by omega
      have e1 : bits .and .u8 (kd : Int) 7 = (r : Int) := by
        have := mask_u8 3 (by decide) (x := (kd : Int)) (by omega) (by omega)
        rw [show ((2 : Int) ^ 3 - 1) = 7 by decide, show ((2 : Int) ^ 3) = 8 by decide] at this
        rw [this]
        omega
      obtain ⟨X, hX⟩ : ∃ X, X = xs.take 1500 := ⟨_, rfl⟩
      have lX : X.length ≤ 1500 := by rw [hX]; exact List.length_take_le _ _
      obtain ⟨N, hN⟩ : ∃ N, N = X.length := ⟨_, rfl⟩
      rw [← hN] at lX
      have HN := Lib.hid hN
      have SH := Lib.hid (show ∀ wx : World, Below w.heap.size w wx → Calls Try.prog 12 #[.slice xo XL xc] wx fun e w' => ∃ ao ac, e = .returned (.slice ao N ac) ∧ Hid (Rd w (.slice ao N ac) (X.map bv)) ∧ wx = w' from fun wx hb => by
        refine (short_any (.slice xo XL xc) xs wx (hrx.below hb) hlx).mono ?_
        rintro e w' ⟨ao, ac, rfl, hrs, hw⟩
        rw [hN, hX]
        exact ⟨ao, ac, rfl, hrs w hrx, hw⟩)
      clear cells hop hcell ok hZ hrz hlz hr hkb hrx hlx hX hN hXL
      go_upto_region 10 with fail
      have P9 := (PV.of HP.out).alloc (.cells #[.int .u8 (kd : Int), .int .i64 conn, .slice xo XL xc, .int .i64 ek, .int .i64 ec, .int .i64 en, .slice vo Z vc] 32)
      obtain ⟨ob, hob⟩ : ∃ ob, ob = Obj.cells #[.int .u8 (kd : Int), .int .i64 conn, .slice xo XL xc, .int .i64 ek, .int .i64 ec, .int .i64 en, .slice vo Z vc] 32 (0, 0) := ⟨_, rfl⟩
      rw [← hob] at P9 ⊢
      generalize wr.alloc ob = w9 at *
      generalize wr.heap.size = go at *
      have OC := Lib.hid (show ∀ wx : World, wx.heap[go]? = some ob → (wx.cell? ⟨go, 0, none⟩ = some (.int .u8 (kd : Int)) ∧ wx.cell? ⟨go, 1, none⟩ = some (.int .i64 conn) ∧ wx.cell? ⟨go, 2, none⟩ = some (.slice xo XL xc)) ∧ wx.cell? ⟨go, 3, none⟩ = some (.int .i64 ek) ∧ wx.cell? ⟨go, 4, none⟩ = some (.int .i64 ec) ∧ wx.cell? ⟨go, 5, none⟩ = some (.int .i64 en) ∧ wx.cell? ⟨go, 6, none⟩ = some (.slice vo Z vc) from fun wx hx => by
        rw [hob] at hx
        exact ⟨⟨cell_of_row _ _ _ _ _ _ hx, cell_of_row _ _ _ _ _ _ hx, cell_of_row _ _ _ _ _ _ hx⟩, cell_of_row _ _ _ _ _ _ hx, cell_of_row _ _ _ _ _ _ hx, cell_of_row _ _ _ _ _ _ hx, cell_of_row _ _ _ _ _ _ hx⟩)
      have P9 := Lib.hid P9
      have HOK := Lib.hid HP.out.ok
      obtain ⟨S0, hS0⟩ : ∃ S0, S0 = W.a.sent.length := ⟨_, rfl⟩
      obtain ⟨ks, hks⟩ : ∃ ks, ks = kb W.a.sent := ⟨_, rfl⟩
      have HS0 := Lib.hid hS0
      have HKS := Lib.hid hks
      obtain ⟨st, hst⟩ : ∃ st, st = W.a.st := ⟨_, rfl⟩
      have HST := Lib.hid hst
      obtain ⟨gb, hgb⟩ : ∃ gb, ((st : Int) == 4) = gb := ⟨_, rfl⟩
      have HGB := Lib.hid hgb
      clear hob HP k0 k1 k2 k3 k4 k5 k6 hS0 hks hst
      go_wp2_with fail
      refine (PV.sent P9.out 0 (S := ks) HKS.out HS0.out).mono ?_
      rintro e w10 ⟨xo10, xc10, rfl, hc10, p10⟩
      have P10 := Lib.hid p10
      clear p10 P9
      go_wp2_with fail
      refine (PV.state P10.out 0 HST.out).mono ?_
      rintro e w11 ⟨rfl, p11⟩
      have P11 := Lib.hid p11
      obtain ⟨c0, c1, c2⟩ := (OC.out _ p11.kept).1
      clear p11 P10 hc10
      go_upto_if 44 with fail
      clear hgb
      go_cut [5, 10, 11] from 44 to 103 (fun s5 s10 s11 wx => ∃ (W' : Wi.Wm) (kz : ByteArray), s5 = .string kz ∧ kz.size ≤ 4000 ∧ Hid (kz = kb W'.a.xs) ∧ Hid (PV w g W' (1500 * q + 1500) [(go, ob)] wx) ∧ Hid (W.a.st = 4 → W'.a.sent = W.a.sent))
      case first =>
        have hcase : r = 3 ∨ r = 4 ∨ r < 3 ∨ (r ≠ 3 ∧ r ≠ 4 ∧ 3 ≤ r) := by omega
        rcases hcase with rfl | rfl | hr3 | ⟨hr3, hr4, hr5⟩
        · obtain ⟨KX, hKX⟩ : ∃ K, K = kb X := ⟨_, rfl⟩
          have sX : KX.size = N := by rw [hKX, kb_size, HN.out]
          have HKX := Lib.hid hKX
          clear hKX
          go_wp2_with fail
          refine (SH.out _ P11.out.below).mono ?_
          rintro e w12 ⟨ao, ac, rfl, RX, hw⟩
          obtain rfl := hw
          by_cases h4 : st = 4
          · obtain rfl : gb = true := by rw [← HGB.out, h4]; rfl
            have H4 := Lib.hid (HST.out.symm.trans h4)
            clear h4
            go_wp2_with fail
            refine (PV.write P11.out 0 _ X (RX.out.below P11.out.below) (by rw [← HN.out]; exact lX) rfl (by omega) (Wi.Wm.write_gone H4.out X)).mono ?_
            rintro e w13 ⟨rfl, p13⟩
            have P13 := Lib.hid p13
            clear p13 P11
            go_wp2
            go_meet
            exact ⟨W, ka, rfl, hka, HKA.out, P13.out, fun _ => rfl⟩
          · obtain rfl : gb = false := by rw [← HGB.out]; simp; omega
            have hl := HOK.out.a_live (by rw [← HST.out]; exact h4)
            have h4 := Lib.hid h4
            obtain ⟨dn, hdn⟩ : ∃ dn, dn = W.a.dn := ⟨_, rfl⟩
            have HDN := Lib.hid hdn
            cases dn
            · by_cases hf : 4000 < W.a.xs.length + X.length
              · have HW := Lib.hid (Wi.Wm.write_full hl hdn.symm hf)
                have hAN : ((ka.size : Int) + (N : Int) ≤ 4000) = False := eq_false (by rw [HKA.out, kb_size, HN.out]; omega)
                have hAN2 : (ka.size + N ≤ 4000) = False := eq_false (by rw [HKA.out, kb_size, HN.out]; omega)
                clear hf hl hdn
                go_wp2_with fail
                refine (PV.write P11.out 0 _ X (RX.out.below P11.out.below) (by rw [← HN.out]; exact lX) rfl (by omega) HW.out).mono ?_
                rintro e w13 ⟨rfl, p13⟩
                have P13 := Lib.hid p13
                obtain ⟨b0, b1, b2⟩ := (OC.out _ p13.kept).1
                clear p13 P11 c0 c1 c2
                go_wp2_with fail
                refine (PV.finished P13.out 0 HDN.out).mono ?_
                rintro e w14 ⟨rfl, p14⟩
                have P14 := Lib.hid p14
                obtain ⟨d0, d1, d2⟩ := (OC.out _ p14.kept).1
                clear p14 P13 b0 b1 b2
                go_wp2_with fail
                refine (SH.out _ P14.out.below).mono ?_
                rintro e w15 ⟨ao2, ac2, rfl, RX2, hw⟩
                obtain rfl := hw
                go_wp2
                go_meet
                exact ⟨W, ka, rfl, hka, HKA.out, P14.out, fun _ => rfl⟩
              · have HW := Lib.hid (Wi.Wm.write_fits hl hdn.symm hf)
                have hAN : ka.size + N ≤ 4000 := by rw [HKA.out, kb_size, HN.out]; omega
                have HZZ := Lib.hid (show ka ++ KX = kb (W.a.xs ++ X) by rw [kb_append, HKA.out, HKX.out])
                clear hf hl hdn
                go_wp2_with fail
                refine (PV.write P11.out 0 _ X (RX.out.below P11.out.below) (by rw [← HN.out]; exact lX) rfl (by omega) HW.out).mono ?_
                rintro e w13 ⟨rfl, p13⟩
                have P13 := Lib.hid p13
                obtain ⟨b0, b1, b2⟩ := (OC.out _ p13.kept).1
                clear p13 P11 c0 c1 c2
                go_wp2_with fail
                refine (SH.out _ P13.out.below).mono ?_
                rintro e w15 ⟨ao2, ac2, rfl, RX2, hw⟩
                obtain rfl := hw
                have hcv := str_of (RX2.out.below P13.out.below) HKX.out
                go_wp2_with fail
                refine (PV.finished P13.out 0 HDN.out).mono ?_
                rintro e w14 ⟨rfl, p14⟩
                have P14 := Lib.hid p14
                clear p14 P13 b0 b1 b2 hcv
                go_wp2
                go_meet
                exact ⟨({ W with a := { W.a with xs := W.a.xs ++ X } } : Wi.Wm), ka ++ KX, rfl, by rw [ByteArray.size_append, sX]; exact hAN, HZZ.out, P14.out, fun h => absurd (HST.out.trans h) h4.out⟩
            · have HW := Lib.hid (Wi.Wm.write_done hdn.symm X)
              clear hl hdn
              go_wp2_with fail
              refine (PV.write P11.out 0 _ X (RX.out.below P11.out.below) (by rw [← HN.out]; exact lX) rfl (by omega) HW.out).mono ?_
              rintro e w13 ⟨rfl, p13⟩
              have P13 := Lib.hid p13
              clear p13 P11
              go_wp2_with fail
              refine (PV.finished P13.out 0 HDN.out).mono ?_
              rintro e w14 ⟨rfl, p14⟩
              have P14 := Lib.hid p14
              clear p14 P13
              go_wp2
              go_meet
              exact ⟨W, ka, rfl, hka, HKA.out, P14.out, fun _ => rfl⟩
        · go_wp2_with fail
          refine (PV.finish P11.out conn (W' := W.finish conn) rfl).mono ?_
          rintro e w12 ⟨rfl, p12⟩
          have P12 := Lib.hid p12
          obtain ⟨b0, b1, b2⟩ := (OC.out _ p12.kept).1
          clear p12 P11 c0 c1 c2
          go_wp2
          go_meet
          have hfa := Wi.Wm.finish_a W conn
          exact ⟨_, ka, rfl, hka, by rw [hfa.1]; exact HKA.out, P12.out.up (by omega) (by omega), fun _ => sent_xs HOK.out P12.out.ok hfa.1 hfa.2.1⟩
        · have h5 : ((r : Int) == 3) = false := by simp; omega
          have h6 : ((r : Int) == 4) = false := by simp; omega
          have h3 : ((r : Int) < 3) = True := eq_true (by omega)
          obtain ⟨e3, e4, e5, e6⟩ := (OC.out _ P11.out.kept).2
          clear hr3
          go_wp2_with fail
          refine (event_any ek ec en (.slice vo Z vc) zs _ (HRZ.out.below P11.out.below) HLZ.out).mono ?_
          rintro e w12 ⟨ao, ac, rfl, hr12, hb12⟩
          have P12 := Lib.hid (P11.out.next hb12)
          have RX := Lib.hid (hr12 w HRZ.out)
          obtain ⟨X2, hX2⟩ : ∃ X, X = zs.take 1500 := ⟨_, rfl⟩
          have lX2 : X2.length ≤ 1500 := by rw [hX2]; exact List.length_take_le _ _
          rw [← hX2] at RX ⊢
          clear hr12 hb12 P11 hX2 e3 e4 e5 e6
          go_wp2_with fail
          refine (PV.happen P12.out ek ec en _ X2 RX.out (by unfold maxLen; omega) (zs := (W.happen ek ec en X2).1) (m := (W.happen ek ec en X2).2.1) (W' := (W.happen ek ec en X2).2.2) rfl rfl).mono ?_
          rintro e w13 ⟨bo, cp, rfl, _, p13⟩
          have P13 := Lib.hid p13
          have NR := Lib.hid (Wi.Wm.happen_a (w := W) ek ec en X2)
          generalize (W.happen ek ec en X2).2.1 = m at *
          generalize (W.happen ek ec en X2).2.2 = W' at *
          generalize (W.happen ek ec en X2).1.length = ln at *
          clear p13 P12
          go_wp2
          go_meet
          exact ⟨W', ka, rfl, hka, by rw [NR.out.xs]; exact HKA.out, P13.out.up (by omega) (by omega), fun h => by rw [NR.out.gone h]⟩
        · have h5 : ((r : Int) == 3) = false := by simp; omega
          have h6 : ((r : Int) == 4) = false := by simp; omega
          have h3 : ((r : Int) < 3) = False := eq_false (by omega)
          go_wp2
          go_meet
          exact ⟨W, ka, rfl, hka, HKA.out, P11.out.up (by omega) (by omega), fun _ => rfl⟩
      case rest =>
        obtain ⟨W', kz, rfl, hkz, HKZ, P, hgs⟩ := hcut
        obtain ⟨T, hT⟩ : ∃ T, T = W'.a.sent.length := ⟨_, rfl⟩
        obtain ⟨k2, hk2⟩ : ∃ k, k = kb W'.a.sent := ⟨_, rfl⟩
        have sT : k2.size = T := by rw [hk2, kb_size, hT]
        have HT := Lib.hid hT
        have HK2 := Lib.hid hk2
        clear hT hk2 c0 c1 c2
        go_wp2_with fail
        refine (PV.sent P.out 0 (S := k2) HK2.out HT.out).mono ?_
        rintro e w20 ⟨xo20, xc20, rfl, hc20, p20⟩
        have P20 := Lib.hid p20
        clear p20 P
        go_wp2_with fail
        refine (PV.written P20.out 0 (S := kz) (by rw [HKZ.out, Wi.Wm.at_zero, P20.out.ok.a_written]) (m := (W'.at 0).written.length) rfl).mono ?_
        rintro e w21 ⟨xo21, xc21, rfl, hc21, p21⟩
        have P21 := Lib.hid p21
        generalize (W'.at 0).written.length = wl at *
        clear p21 P20 hc20
        have hsc := sent_cut P21.out.ok HT.out
        have hx : kz.extract 0 T = k2 := by rw [HKZ.out, HK2.out]; exact hsc.1
        have hTl : T ≤ kz.size := by rw [HKZ.out, kb_size]; exact hsc.2
        obtain ⟨s2, hs2⟩ : ∃ s2, s2 = W'.a.st := ⟨_, rfl⟩
        obtain ⟨D, hD⟩ : ∃ D, kz.size = T + D := ⟨kz.size - T, by omega⟩
        have hDz : (kz.size : Int) - (T : Int) = (D : Int) := by omega
        have HS2 := Lib.hid hs2
        have HD := Lib.hid hD
        clear hsc hs2 hD
        have hw : gb = false ∨ (gb = true ∧ k2 = ks) := by
          by_cases h4 : st = 4
          · exact .inr (by refine ⟨by rw [← HGB.out, h4]; rfl, ?_⟩; rw [HK2.out, HKS.out, hgs.out (HST.out.symm.trans h4)])
          · exact .inl (by rw [← HGB.out]; simp; omega)
        by_cases h2 : s2 = 4
        · have HWT := Lib.hid (show 0 = (W'.at 0).waits from (Wi.Wm.waits_gone (Wi.Wm.a_gone (HS2.out.symm.trans h2))).symm)
          have j4 : ((s2 : Int) == 4) = true := by simp; omega
          have j6 : ((s2 : Int) != 4) = false := by rw [bne, j4]; rfl
          have j5 : (s2 = 4) = True := eq_true h2
          clear h2
          rcases hw with rfl | ⟨rfl, rfl⟩
          all_goals
            go_wp2_with fail
            refine (PV.state P21.out 0 HS2.out).mono ?_
            rintro e w22 ⟨rfl, p22⟩
            have P22 := Lib.hid p22
            clear p22 P21
            go_wp2_with fail
            refine (PV.state P22.out 0 HS2.out).mono ?_
            rintro e w23 ⟨rfl, p23⟩
            have P23 := Lib.hid p23
            clear p23 P22
            go_wp2_with fail
            refine (PV.waits P23.out 0 HWT.out).mono ?_
            rintro e w24 ⟨rfl, p24⟩
            have P24 := Lib.hid p24
            clear p24 P23
            go_wp2
            go_roundw
            case rel => exact ⟨W', q + 1, kz, by omega, by omega, rfl, by go_num, hkz, HKZ.out, by have := P24.out.to; rwa [show 1500 * q + 1500 = 1500 * (q + 1) by omega] at this⟩
            case measure => simp [intOf]; omega
        · have HWT := Lib.hid (show D = (W'.at 0).waits by
            have hl := P21.out.ok.a_live (by rw [← HS2.out]; exact h2)
            rw [Wi.Wm.at_zero, Wi.Wm.waits_live hl]
            have h1 := HD.out
            rw [HKZ.out, kb_size] at h1
            have h3 := HT.out
            have h5 := P21.out.ok.a.t
            rw [P21.out.ok.a_sent, List.length_take] at h3
            omega)
          have j4 : ((s2 : Int) == 4) = false := by simp; omega
          have j6 : ((s2 : Int) != 4) = true := by rw [bne, j4]; rfl
          have j5 : (s2 = 4) = False := eq_false h2
          clear h2
          rcases hw with rfl | ⟨rfl, rfl⟩
          all_goals
            go_wp2_with fail
            refine (PV.state P21.out 0 HS2.out).mono ?_
            rintro e w22 ⟨rfl, p22⟩
            have P22 := Lib.hid p22
            clear p22 P21
            go_wp2_with fail
            refine (PV.waits P22.out 0 HWT.out).mono ?_
            rintro e w23 ⟨rfl, p23⟩
            have P23 := Lib.hid p23
            clear p23 P22
            go_wp2_with fail
            refine (PV.state P23.out 0 HS2.out).mono ?_
            rintro e w24 ⟨rfl, p24⟩
            have P24 := Lib.hid p24
            clear p24 P23
            go_wp2
            go_roundw
            case rel => exact ⟨W', q + 1, kz, by omega, by omega, rfl, by go_num, hkz, HKZ.out, by have := P24.out.to; rwa [show 1500 * q + 1500 = 1500 * (q + 1) by omega] at this⟩
            case measure => simp [intOf]; omega
    · by_cases hlt : q < L
      · have hlt60 : ¬ q < 60 := fun h => hgo ⟨hlt, h⟩
        clear hgo
        go_wp2
        go_ret
        exact ⟨rfl, HP.out.below⟩
      · clear hgo
        go_wp2
        go_ret
        exact ⟨rfl, HP.out.below⟩
end Go.Proofs.Ytneifmnlailipaa
