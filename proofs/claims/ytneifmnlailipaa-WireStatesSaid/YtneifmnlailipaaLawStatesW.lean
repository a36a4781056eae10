/- The law WireStates walked. -/
import Derived.Test.YtneifmnlailipaaWireKeep
import Derived.Test.YtneifmnlailipaaOpenWops
import Derived.Deep.CutRange
namespace Go.Proofs.Ytneifmnlailipaa
open Go.RowKit Go.ChangeShapes

/-- How the first one may stand behind what it stood. -/
def RA (a x : Nat) : Prop := x = a ∨ (a = 2 ∧ x = 3) ∨ ((a = 2 ∨ a = 3) ∧ x = 4)
/-- How the second one may. -/
def RB (b y : Nat) : Prop := y = b ∨ (b = 1 ∧ (y = 2 ∨ y = 5)) ∨ (b = 2 ∧ y = 3) ∨ ((b = 2 ∨ b = 3) ∧ y = 4)

/-- An event between: what it may do. -/
theorem hap_RA (W : Wi.Wm) (kd k n : Int) (ys : List UInt8) : RA W.a.st (W.happen kd k n ys).2.2.a.st := by
  have h := (Wi.Wm.happen_a (w := W) kd k n ys).st
  exact h
theorem hap_RB (W : Wi.Wm) (kd k n : Int) (ys : List UInt8) : RB W.b.st (W.happen kd k n ys).2.2.b.st := Wi.Wm.happen_b kd k n ys

set_option maxRecDepth 100000 in
set_option maxHeartbeats 4000000 in
theorem lawStatesW (v0 : Value) (os : List WOp) (h0 : os.length ≤ maxLen) (w : World) (r0 : RdN 7 w v0 (os.map WOp.cells)) (m0 : ∀ o ∈ os, o.Ok w) :
    Calls Try.prog 5 #[v0] w fun e w' => e = .returned (.bool true) ∧ Below w.heap.size w w' := by
  obtain ⟨lo, cl, rfl, hcl, hll⟩ := r0.form
  rw [List.length_map] at hcl hll ⊢
  obtain ⟨L, hL⟩ : ∃ L, L = os.length := ⟨_, rfl⟩
  rw [← hL] at h0 hcl hll ⊢
  have HLL := Lib.hid hll
  have HM0 := Lib.hid m0
  have HL := Lib.hid hL
  unfold maxLen at h0
  clear hll m0 hL r0
  go_enter Try.func5, Try.ntmps5
  go_wp2_with fail
  refine (shown_any w).mono ?_
  rintro e wa ⟨rfl, hba⟩
  have HBA := Lib.hid hba
  clear hba
  go_wp2_with fail
  refine (PW.new HBA.out).mono ?_
  rintro e wb ⟨g, rfl, hq⟩
  have Q0 := Lib.hid hq
  clear hq HBA
  go_wp2
  go_loopw [5] (fun i wr => ∃ (W : Wi.Wm) (q : Nat), q ≤ L ∧ q ≤ 60 ∧ i = .int .i64 q ∧ Hid (PW w g W 0 wr)) (fun i _ => 60 - (intOf i).toNat)
  case atStart => exact ⟨_, 0, by omega, by omega, rfl, Q0.out⟩
  case round =>
    obtain ⟨W, q, hq, hq60, rfl, HP⟩ := hrel
    by_cases hgo : q < L ∧ q < 60
    · obtain ⟨hlt, hlt60⟩ := hgo
      obtain ⟨b, o, rfl, _, hcell⟩ := HLL.out (by omega)
      obtain ⟨op, hop⟩ : ∃ op, os[q]? = some op := ⟨_, List.getElem?_eq_getElem (by rw [← HL.out]; exact hlt)⟩
      obtain ⟨kind, conn, vb, xs, ek, ec, en, ve, zs⟩ := op
      have ok := HM0.out _ (List.mem_of_getElem? hop)
      have hkb := bounds_u8 ok.kind
      have hrz := ok.erd
      have hlz := ok.elen
      have hrx := ok.rd
      simp only at hkb hrz hlz hrx
      obtain ⟨kd, rfl⟩ := Int.eq_ofNat_of_zero_le hkb.1
      obtain ⟨vo, vc, rfl, _, _⟩ := hrz.form
      obtain ⟨xo, xc, rfl, _, _⟩ := hrx.form
      have cells : ∀ i u, (WOp.cells ⟨(kd : Int), conn, .slice xo xs.length xc, xs, ek, ec, en, .slice vo zs.length vc, zs⟩)[i]? = some u → wr.cell? ⟨b, o + (q * 7 + i), none⟩ = some u := fun i u hu => by
        have hc := hcell q _ (by rw [List.getElem?_map, hop]; rfl) i u hu
        exact (HP.out.below.cell (World.block_lt_of_cell? w _ hc)).trans hc
      have k0 := cells 0 _ rfl
      have k1 := cells 1 _ rfl
      have k2 := cells 2 _ rfl
      have k3 := cells 3 _ rfl
      have k4 := cells 4 _ rfl
      have k5 := cells 5 _ rfl
      have k6 := cells 6 _ rfl
      rw [Nat.add_zero] at k0
      rw [← Nat.add_assoc] at k1 k2 k3 k4 k5 k6
      generalize xs.length = XL at *
      obtain ⟨Z, hZ⟩ : ∃ Z, Z = zs.length := ⟨_, rfl⟩
      rw [← hZ] at k6 hrz
      have HZ := Lib.hid hZ
      have HRZ := Lib.hid hrz
      have HLZ := Lib.hid hlz
      obtain ⟨r, hr⟩ : ∃ r, r = kd % 8 := ⟨_, rfl⟩
      have hr8 : r < 8 := by omega
      have e1 : bits .and .u8 (kd : Int) 7 = (r : Int) := by
        have := mask_u8 3 (by decide) (x := (kd : Int)) (by omega) (by omega)
        rw [show ((2 : Int) ^ 3 - 1) = 7 by decide, show ((2 : Int) ^ 3) = 8 by decide] at this
        rw [this]
        omega
      clear cells hop hcell ok hZ hrz hlz hr hkb hrx
      go_upto_region 9 with fail
      have P9 := (PV.of HP.out).alloc (.cells #[.int .u8 (kd : Int), .int .i64 conn, .slice xo XL xc, .int .i64 ek, .int .i64 ec, .int .i64 en, .slice vo Z vc] 32)
      obtain ⟨ob, hob⟩ : ∃ ob, ob = Obj.cells #[.int .u8 (kd : Int), .int .i64 conn, .slice xo XL xc, .int .i64 ek, .int .i64 ec, .int .i64 en, .slice vo Z vc] 32 (0, 0) := ⟨_, rfl⟩
      rw [← hob] at P9 ⊢
      generalize wr.alloc ob = w9 at *
      generalize wr.heap.size = go at *
      have OC := Lib.hid (show ∀ wx : World, wx.heap[go]? = some ob → wx.cell? ⟨go, 0, none⟩ = some (.int .u8 (kd : Int)) ∧ wx.cell? ⟨go, 3, none⟩ = some (.int .i64 ek) ∧ wx.cell? ⟨go, 4, none⟩ = some (.int .i64 ec) ∧ wx.cell? ⟨go, 5, none⟩ = some (.int .i64 en) ∧ wx.cell? ⟨go, 6, none⟩ = some (.slice vo Z vc) from fun wx hx => by
        rw [hob] at hx
        exact ⟨cell_of_row _ _ _ _ _ _ hx, cell_of_row _ _ _ _ _ _ hx, cell_of_row _ _ _ _ _ _ hx, cell_of_row _ _ _ _ _ _ hx, cell_of_row _ _ _ _ _ _ hx⟩)
      have P9 := Lib.hid P9
      clear hob HP k0 k1 k2 k3 k4 k5 k6
      go_wp2_with fail
      refine (PV.state P9.out 0 (m := W.a.st) rfl).mono ?_
      rintro e w10 ⟨rfl, p10⟩
      have P10 := Lib.hid p10
      clear p10 P9
      go_wp2_with fail
      refine (PV.state P10.out 1 (m := W.b.st) rfl).mono ?_
      rintro e w11 ⟨rfl, p11⟩
      have P11 := Lib.hid p11
      have c0 := (OC.out _ p11.kept).1
      clear p11 P10
      go_upto_if 44 with fail
      go_cut [8, 9, 10] from 44 to 73 (fun s8 s9 s10 wx => ∃ (W' : Wi.Wm) (m y : Nat), s8 = .int .i64 y ∧ s9 = .int .i64 m ∧ Hid (PV w g W' 0 [(go, ob)] wx) ∧ RA W.a.st W'.a.st ∧ RB y W'.b.st ∧ Hid (m ≠ 0 → W'.a.st = W.a.st ∧ W'.b.st = y))
      case first =>
        have hcase : r = 5 ∨ r < 3 ∨ (r ≠ 5 ∧ 3 ≤ r) := by omega
        rcases hcase with rfl | hr3 | ⟨hr5, hr3⟩
        · by_cases hb : W.b.st = 1
          · have HA := Lib.hid (Wi.Wm.ask_no hb).symm
            have hb1 : ((W.b.st : Int) == 1) = true := by simp; omega
            have HB := Lib.hid hb
            clear hb
            go_wp2_with fail
            refine (PV.ask P11.out HA.out).mono ?_
            rintro e w12 ⟨rfl, p12⟩
            have P12 := Lib.hid p12
            clear p12 P11
            go_wp2_with fail
            refine (PV.state P12.out 1 (m := W.b.st) rfl).mono ?_
            rintro e w13 ⟨rfl, p13⟩
            have P13 := Lib.hid p13
            clear p13 P12
            go_wp2
            go_meet
            exact ⟨W, 0, W.b.st, rfl, rfl, P13.out, .inl rfl, .inl rfl, fun h => absurd rfl h⟩
          · have HA := Lib.hid (Wi.Wm.ask_eq hb).symm
            have hb1 : ((W.b.st : Int) == 1) = false := by simp; omega
            have HB := Lib.hid (show 1 = ((W.upd 1 W.b.asked).at 1).st from rfl)
            clear hb
            generalize W.b.st = bs at *
            go_wp2_with fail
            refine (PV.ask P11.out HA.out).mono ?_
            rintro e w12 ⟨rfl, p12⟩
            have P12 := Lib.hid p12
            clear p12 P11
            go_wp2_with fail
            refine (PV.state P12.out 1 HB.out).mono ?_
            rintro e w13 ⟨rfl, p13⟩
            have P13 := Lib.hid p13
            clear p13 P12
            go_wp2_with fail
            refine (PV.state P13.out 1 HB.out).mono ?_
            rintro e w14 ⟨rfl, p14⟩
            have P14 := Lib.hid p14
            clear p14 P13
            go_wp2
            go_meet
            exact ⟨_, 0, 1, rfl, rfl, P14.out, .inl rfl, .inl rfl, fun h => absurd rfl h⟩
        · have h5 : ((r : Int) == 5) = false := by simp; omega
          have h3 : ((r : Int) < 3) = True := eq_true (by omega)
          have h5' : (r = 5) = False := eq_false (by omega)
          obtain ⟨e3, e4, e5, e6⟩ := (OC.out _ P11.out.kept).2
          clear hr3
          go_wp2_with fail
          refine (event_any ek ec en (.slice vo Z vc) zs _ (HRZ.out.below P11.out.below) HLZ.out).mono ?_
          rintro e w12 ⟨ao, ac, rfl, hr12, hb12⟩
          have P12 := Lib.hid (P11.out.next hb12)
          have RX := Lib.hid (hr12 w HRZ.out)
          obtain ⟨X, hX⟩ : ∃ X, X = zs.take 1500 := ⟨_, rfl⟩
          have lX : X.length ≤ 1500 := by rw [hX]; exact List.length_take_le _ _
          rw [← hX] at RX ⊢
          clear hr12 hb12 P11 hX e3 e4 e5 e6
          go_wp2_with fail
          refine (PV.happen P12.out ek ec en _ X RX.out (by unfold maxLen; omega) (zs := (W.happen ek ec en X).1) (m := (W.happen ek ec en X).2.1) (W' := (W.happen ek ec en X).2.2) rfl rfl).mono ?_
          rintro e w13 ⟨bo, cp, rfl, _, p13⟩
          have P13 := Lib.hid p13
          have A1 := Lib.hid (hap_RA W ek ec en X)
          have B1 := Lib.hid (hap_RB W ek ec en X)
          have E1 := Lib.hid (show (W.happen ek ec en X).2.1 ≠ 0 → (W.happen ek ec en X).2.2.a.st = W.a.st ∧ (W.happen ek ec en X).2.2.b.st = W.b.st from fun h => by rw [Wi.Wm.happen_err h]; exact ⟨rfl, rfl⟩)
          generalize (W.happen ek ec en X).2.1 = m at *
          generalize (W.happen ek ec en X).2.2 = W' at *
          generalize (W.happen ek ec en X).1.length = ln at *
          clear p13 P12
          go_wp2
          go_meet
          exact ⟨W', m, W.b.st, rfl, rfl, P13.out, A1.out, B1.out, E1.out⟩
        · have h5 : ((r : Int) == 5) = false := by simp; omega
          have h3 : ((r : Int) < 3) = False := eq_false (by omega)
          have h5' : (r = 5) = False := eq_false (by omega)
          go_wp2
          go_meet
          exact ⟨W, 0, W.b.st, rfl, rfl, P11.out, .inl rfl, .inl rfl, fun h => absurd rfl h⟩
      case rest =>
        obtain ⟨W', m, y, rfl, rfl, P, hra, hrb, hme⟩ := hcut
        have HA := Lib.hid hra
        have HB := Lib.hid hrb
        clear hra hrb c0 OC HRZ HLZ e1
        go_wp2_with fail
        refine (PV.state P.out 0 (m := W'.a.st) rfl).mono ?_
        rintro e w15 ⟨rfl, p15⟩
        have P15 := Lib.hid p15
        clear p15 P
        go_wp2_with fail
        refine (PV.state P15.out 1 (m := W'.b.st) rfl).mono ?_
        rintro e w16 ⟨rfl, p16⟩
        have P16 := Lib.hid p16
        clear p16 P15
        generalize W.a.st = a at *
        generalize W'.a.st = x at *
        generalize hy : W'.b.st = z at *
        go_upto_region 21 with fail
        go_cut [13] from 77 to 100 (fun s13 wx => s13 = .bool true ∧ wx = w16)
        case first =>
          rcases HA.out with rfl | ⟨rfl, rfl⟩ | ⟨rfl | rfl, rfl⟩
          all_goals
            clear HA HB hme P16
            go_wp2
            go_meet
            exact ⟨rfl, rfl⟩
        case rest =>
          obtain ⟨rfl, rfl⟩ := hcut
          go_upto_region 22 with fail
          go_cut [14] from 100 to 135 (fun s14 wx => s14 = .bool true ∧ wx = wc)
          case first =>
            rcases HB.out with rfl | ⟨rfl, rfl | rfl⟩ | ⟨rfl, rfl⟩ | ⟨rfl | rfl, rfl⟩
            all_goals
              clear HA HB hme P16
              go_wp2
              go_meet
              exact ⟨rfl, rfl⟩
          case rest =>
            obtain ⟨rfl, rfl⟩ := hcut
            by_cases hm : m = 0
            · subst hm
              clear HA HB hme
              go_wp2
              go_roundw
              case rel => exact ⟨W', q + 1, by omega, by omega, by go_num, ⟨P16.out.ok, P16.out.o.imp fun F h => h.1, P16.out.below, P16.out.n, P16.out.hN⟩⟩
              case measure => simp [intOf]; omega
            · obtain ⟨rfl, rfl⟩ := hme.out hm
              have hm' : (m = 0) = False := eq_false hm
              have hm2 : ((m : Int) == 0) = false := by simpa using hm
              clear HA HB hme hm
              go_wp2
              go_roundw
              case rel => exact ⟨W', q + 1, by omega, by omega, by go_num, ⟨P16.out.ok, P16.out.o.imp fun F h => h.1, P16.out.below, P16.out.n, P16.out.hN⟩⟩
              case measure => simp [intOf]; omega
    · by_cases hlt : q < L
      · have hlt60 : ¬ q < 60 := fun h => hgo ⟨hlt, h⟩
        clear hgo
        go_wp2
        go_ret
        exact ⟨rfl, HP.out.below⟩
      · clear hgo
        go_wp2
        go_ret
        exact ⟨rfl, HP.out.below⟩
end Go.Proofs.Ytneifmnlailipaa
