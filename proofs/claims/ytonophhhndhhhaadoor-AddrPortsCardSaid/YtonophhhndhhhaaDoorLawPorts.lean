/- AddrPorts walked (layer 13; by gen_aports.py). -/
import Derived.Test.YtonophhhndhhhaaDoorALawP
import Derived.Test.YtonophhhndhhhaaDoorAddrEpsv
import Derived.Test.YtonophhhndhhhaaDoorRdB
namespace Go.Proofs.YtonophhhndhhhaaDoor
open Go.RowKit

/-- What opens nothing, of the first 200 bytes. -/
def noL (l : List UInt8) : List UInt8 := (l.take 200).filter fun b => b != 40
theorem noL_len (l : List UInt8) : (noL l).length ≤ 200 := Nat.le_trans (List.length_filter_le _ _) (by rw [List.length_take]; omega)
theorem noL_no (l : List UInt8) : ∀ b ∈ noL l, b ≠ 40 := by
  intro b hb
  have := (List.mem_filter.1 hb).2
  simpa using this
theorem noL_more {l : List UInt8} {k : Nat} {c : UInt8} (hc : l[k]? = some c) : (l.take (k + 1)).filter (fun b => b != 40) = (l.take k).filter (fun b => b != 40) ++ (if c = 40 then [] else [c]) := by
  rw [List.take_add_one, hc, List.filter_append]
  by_cases h : c = 40
  · subst h; simp
  · simp [h]
theorem epsv_c (l : List UInt8) (hl : l.length ≤ 1048576) (o : Option Int) (ho : Ad.epsv l = o) (w : World) :
    Calls Tryd.prog 12 #[.string ⟨l.toArray⟩] w fun e w' => e = .returned (.tuple #[.agg #[.int .i64 ((o.map Ad.mk).getD ad0).a, .int .i64 ((o.map Ad.mk).getD ad0).b, .int .i64 ((o.map Ad.mk).getD ad0).c, .int .i64 ((o.map Ad.mk).getD ad0).d, .int .i64 ((o.map Ad.mk).getD ad0).port], .bool (o.map Ad.mk).isSome]) ∧ Below w.heap.size w w' := by
  rw [← ho]
  exact epsv_any l hl w

set_option maxHeartbeats 8000000 in
set_option maxRecDepth 20000 in
theorem lawPorts (n di : Int) (s : ByteArray) (_ : (Lit.int .i64 n).wf = true) (hdw : (Lit.int .u8 di).wf = true) (hs : s.size ≤ maxLen) (w : World) :
    Calls Tryd.prog 5 #[.int .i64 n, .int .u8 di, .string s] w fun e w' => e = .returned (.bool true) ∧ Below w.heap.size w w' := by
  have hdi : 0 ≤ di ∧ di ≤ 255 := by
    unfold Lit.wf at hdw
    rw [Bool.and_eq_true, decide_eq_true_eq, decide_eq_true_eq, show IntKind.min .u8 = 0 by decide, show IntKind.max .u8 = 255 by decide] at hdw
    exact hdw
  obtain ⟨dn, rfl⟩ : ∃ dn : Nat, di = (dn : Int) := ⟨di.toNat, by omega⟩
  have hdn : dn ≤ 255 := by omega
  obtain ⟨d, hd⟩ : ∃ d : UInt8, d.toNat = dn := ⟨UInt8.ofNat dn, by rw [UInt8.toNat_ofNat']; omega⟩
  obtain ⟨l, rfl⟩ : ∃ l : List UInt8, s = ⟨l.toArray⟩ := ⟨s.data.toList, rfl⟩
  unfold maxLen at hs
  have hls : l.length ≤ 9223372036854775807 := hs
  obtain ⟨P, hP⟩ : ∃ P : Nat, n % 262144 = (P : Int) := ⟨(n % 262144).toNat, by omega⟩
  have hP18 : P < 262144 := by omega
  have hand : bits .and .i64 n 262143 = (P : Int) := by rw [i64_18]; exact hP
  obtain ⟨A, hA⟩ : ∃ A, noL l = A := ⟨_, rfl⟩
  have hAl := noL_len l
  have hAn := noL_no l
  rw [hA] at hAl hAn
  obtain ⟨D, hD⟩ : ∃ D, Lib.decDigits P = D := ⟨_, rfl⟩
  have hDl := itoaN_len P (by omega)
  have SW := Lib.hid (fun wx => shown_any wx)
  have DG := Lib.hid (fun wx => ldigits_any P P (Nat.le_refl _) (by omega) wx)
  have HW := Ad.epsv_whole hAn d P [32, 103, 111]
  have HO := Ad.epsv_open hAn d P
  have HV := Ad.epsv_two hAn d P
  rw [hD] at hDl DG HW HO HV
  obtain ⟨S1, hS1⟩ : ∃ S, A ++ [40] = S := ⟨_, rfl⟩
  obtain ⟨S2, hS2⟩ : ∃ S, S1 ++ [d] = S := ⟨_, rfl⟩
  obtain ⟨S3, hS3⟩ : ∃ S, S2 ++ [d] = S := ⟨_, rfl⟩
  obtain ⟨S4, hS4⟩ : ∃ S, S3 ++ [d] = S := ⟨_, rfl⟩
  obtain ⟨S5, hS5⟩ : ∃ S, S4 ++ D = S := ⟨_, rfl⟩
  obtain ⟨S6, hS6⟩ : ∃ S, S5 ++ [d] = S := ⟨_, rfl⟩
  obtain ⟨S7, hS7⟩ : ∃ S, S6 ++ [41, 32, 103, 111] = S := ⟨_, rfl⟩
  obtain ⟨U4, hU4⟩ : ∃ S, S3 ++ D = S := ⟨_, rfl⟩
  obtain ⟨U5, hU5⟩ : ∃ S, U4 ++ [d] = S := ⟨_, rfl⟩
  obtain ⟨U6, hU6⟩ : ∃ S, U5 ++ [41] = S := ⟨_, rfl⟩
  have l1 : S1.length = A.length + 1 := by rw [← hS1]; simp
  have l2 : S2.length = A.length + 2 := by rw [← hS2]; simp [l1]
  have l3 : S3.length = A.length + 3 := by rw [← hS3]; simp [l2]
  have l4 : S4.length = A.length + 4 := by rw [← hS4]; simp [l3]
  have l5 : S5.length = A.length + 4 + D.length := by rw [← hS5]; simp [l4]
  have l6 : S6.length = A.length + 5 + D.length := by rw [← hS6]; simp [l5]; omega
  have l7 : S7.length = A.length + 9 + D.length := by rw [← hS7]; simp [l6]; omega
  have m4 : U4.length = A.length + 3 + D.length := by rw [← hU4]; simp [l3]
  have m5 : U5.length = A.length + 4 + D.length := by rw [← hU5]; simp [m4]; omega
  have m6 : U6.length = A.length + 5 + D.length := by rw [← hU6]; simp [m5]; omega
  have E1 := fun wx => epsv_c S7 (by omega) _ ((congrArg Ad.epsv (show S7 = A ++ 40 :: d :: d :: d :: (D ++ d :: 41 :: [32, 103, 111]) by rw [← hS7, ← hS6, ← hS5, ← hS4, ← hS3, ← hS2, ← hS1]; simp)).trans HW) wx
  have E2 := Lib.hid (fun wx => epsv_c S6 (by omega) _ ((congrArg Ad.epsv (show S6 = A ++ 40 :: d :: d :: d :: (D ++ [d]) by rw [← hS6, ← hS5, ← hS4, ← hS3, ← hS2, ← hS1]; simp)).trans HO) wx)
  have E3 := Lib.hid (fun wx => epsv_c U6 (by omega) _ ((congrArg Ad.epsv (show U6 = A ++ 40 :: d :: d :: (D ++ [d, 41]) by rw [← hU6, ← hU5, ← hU4, ← hS3, ← hS2, ← hS1]; simp)).trans HV) wx)
  rw [hd, show Tx.dig d = (decide (48 ≤ dn) && decide (dn ≤ 57)) by rw [← hd]; rfl] at E1
  obtain ⟨oy, hoy⟩ : ∃ oy : Option Int, (if 33 ≤ dn ∧ dn ≤ 126 ∧ (decide (48 ≤ dn) && decide (dn ≤ 57)) = false ∧ 1 ≤ P ∧ P ≤ 65535 then some (P : Int) else none) = oy := ⟨_, rfl⟩
  rw [hoy] at E1
  have HOY := Lib.hid hoy
  obtain ⟨y, hy⟩ : ∃ y, (oy.map Ad.mk).getD ad0 = y := ⟨_, rfl⟩
  obtain ⟨r, hr⟩ : ∃ r, (oy.map Ad.mk).isSome = r := ⟨_, rfl⟩
  rw [hy, hr] at E1
  have HY := Lib.hid hy
  have HR := Lib.hid hr
  have E1 := Lib.hid E1
  dsimp only [Option.map_none, Option.getD_none, Option.isSome_none, ad0] at E2 E3
  have hcv : ∀ wx : World, (convert 32 9 (.slice (some ⟨wx.heap.size, 0, none⟩) 1 1)).run Tryd.prog (wx.alloc (.cells #[.int .u8 (dn : Int)] 5)) = .ok (.string ⟨#[d]⟩) (wx.alloc (.cells #[.int .u8 (dn : Int)] 5)) := by
    intro wx
    refine bytes_string (l := [d]) (.inr ⟨wx.heap.size, 0, 1, rfl, by simp, by unfold maxLen; simp, fun j u hj => ?_⟩)
    rw [cell_of_row _ _ _ _ _ _ (heap_alloc_new wx _), Nat.zero_add]
    rw [hd.symm]
    simpa [bv] using hj
  have HCV := Lib.hid hcv
  have b1 : (⟨A.toArray⟩ : ByteArray) ++ ⟨#[40]⟩ = ⟨S1.toArray⟩ := by rw [← hS1]; exact ByteArray.mk_append_mk A [40]
  have b2 : (⟨S1.toArray⟩ : ByteArray) ++ ⟨#[d]⟩ = ⟨S2.toArray⟩ := by rw [← hS2]; exact ByteArray.mk_append_mk S1 [d]
  have b3 : (⟨S2.toArray⟩ : ByteArray) ++ ⟨#[d]⟩ = ⟨S3.toArray⟩ := by rw [← hS3]; exact ByteArray.mk_append_mk S2 [d]
  have b4 : (⟨S3.toArray⟩ : ByteArray) ++ ⟨#[d]⟩ = ⟨S4.toArray⟩ := by rw [← hS4]; exact ByteArray.mk_append_mk S3 [d]
  have b5 : (⟨S4.toArray⟩ : ByteArray) ++ ⟨D.toArray⟩ = ⟨S5.toArray⟩ := by rw [← hS5]; exact ByteArray.mk_append_mk S4 D
  have b6 : (⟨S5.toArray⟩ : ByteArray) ++ ⟨#[d]⟩ = ⟨S6.toArray⟩ := by rw [← hS6]; exact ByteArray.mk_append_mk S5 [d]
  have b7 : (⟨S6.toArray⟩ : ByteArray) ++ ⟨#[41, 32, 103, 111]⟩ = ⟨S7.toArray⟩ := by rw [← hS7]; exact ByteArray.mk_append_mk S6 [41, 32, 103, 111]
  have b8 : (⟨S3.toArray⟩ : ByteArray) ++ ⟨D.toArray⟩ = ⟨U4.toArray⟩ := by rw [← hU4]; exact ByteArray.mk_append_mk S3 D
  have b9 : (⟨U4.toArray⟩ : ByteArray) ++ ⟨#[d]⟩ = ⟨U5.toArray⟩ := by rw [← hU5]; exact ByteArray.mk_append_mk U4 [d]
  have b10 : (⟨U5.toArray⟩ : ByteArray) ++ ⟨#[41]⟩ = ⟨U6.toArray⟩ := by rw [← hU6]; exact ByteArray.mk_append_mk U5 [41]
  have z0 : (⟨#[d]⟩ : ByteArray).size = 1 := rfl
  have z40 : (⟨#[40]⟩ : ByteArray).size = 1 := rfl
  have z41 : (⟨#[41]⟩ : ByteArray).size = 1 := rfl
  have z4 : (⟨#[41, 32, 103, 111]⟩ : ByteArray).size = 4 := rfl
  have zA : (⟨A.toArray⟩ : ByteArray).size = A.length := rfl
  have zD : (⟨D.toArray⟩ : ByteArray).size = D.length := rfl
  have zS1 : (⟨S1.toArray⟩ : ByteArray).size = A.length + 1 := l1
  have zS2 : (⟨S2.toArray⟩ : ByteArray).size = A.length + 2 := l2
  have zS3 : (⟨S3.toArray⟩ : ByteArray).size = A.length + 3 := l3
  have zS4 : (⟨S4.toArray⟩ : ByteArray).size = A.length + 4 := l4
  have zS5 : (⟨S5.toArray⟩ : ByteArray).size = A.length + 4 + D.length := l5
  have zS6 : (⟨S6.toArray⟩ : ByteArray).size = A.length + 5 + D.length := l6
  have zU4 : (⟨U4.toArray⟩ : ByteArray).size = A.length + 3 + D.length := m4
  have zU5 : (⟨U5.toArray⟩ : ByteArray).size = A.length + 4 + D.length := m5
  have ZZ := Lib.hid (And.intro b1 (And.intro b2 (And.intro b3 (And.intro b4 (And.intro b5 (And.intro b6 (And.intro b7 (And.intro b8 (And.intro b9 b10)))))))))
  have ZL := Lib.hid (And.intro zS1 (And.intro zS2 (And.intro zS3 (And.intro zS4 (And.intro zS5 (And.intro zS6 (And.intro zU4 zU5)))))))
  have HA := Lib.hid hA
  have q2 := adHeld
  have q3 := adGuard
  clear b1 b2 b3 b4 b5 b6 b7 b8 b9 b10 zS1 zS2 zS3 zS4 zS5 zS6 zU4 zU5 l1 l2 l3 l4 l5 l6 l7 m4 m5 m6 hS1 hS2 hS3 hS4 hS5 hS6 hS7 hU4 hU5 hU6 HW HO HV hcv hA hAn hD hP hd hdi hdw hoy hy hr
  have hz : (⟨l.toArray⟩ : ByteArray).size = l.length := rfl
  go_enter Tryd.func5, Tryd.ntmps5
  go_wp2_with fail
  refine (SW.out _).mono ?_
  rintro e wa ⟨rfl, hb⟩
  have HBA := Lib.hid hb
  clear hb SW
  go_wp2_with fail
  go_loop [8, 9] (fun s8 s9 => ∃ k : Nat, k ≤ l.length ∧ k ≤ 200 ∧ s8 = .string ⟨((l.take k).filter fun b => b != 40).toArray⟩ ∧ s9 = .int .i64 k) (fun _ s9 => 201 - (intOf s9).toNat)
  case atStart => exact ⟨0, by omega, by omega, by simp, rfl⟩
  case round =>
    obtain ⟨k, hk, hk2, rfl, rfl⟩ := hrel
    by_cases h1 : k < l.length ∧ k < 200
    · obtain ⟨h1, h2⟩ := h1
      have g1 : (k : Int) < (l.length : Int) := by omega
      have g2 : (k : Int) < 200 := by omega
      obtain ⟨c, hc⟩ : ∃ c, l[k]? = some c := ⟨_, List.getElem?_eq_getElem h1⟩
      have HM := Lib.hid (noL_more hc)
      have hx : ∀ h, ((⟨l.toArray⟩ : ByteArray)[k]'h).toNat = c.toNat := fun h => by rw [byte_at]; simp [hc]
      have hx2 : (⟨l.toArray⟩ : ByteArray).extract k (k + 1) = ⟨[c].toArray⟩ := by
        rw [ba_extract, List.take_add_one, hc, List.drop_left' (by rw [List.length_take]; omega)]
        rfl
      obtain ⟨cn, hcn⟩ : ∃ n, c.toNat = n := ⟨_, rfl⟩
      rw [hcn] at hx
      have hlen : ((l.take k).filter fun b => b != 40).length ≤ 200 := Nat.le_trans (List.length_filter_le _ _) (by rw [List.length_take]; omega)
      obtain ⟨K, hK⟩ : ∃ K, ((l.take k).filter fun b => b != 40) = K := ⟨_, rfl⟩
      rw [hK] at HM hlen ⊢
      have z1 : (⟨K.toArray⟩ : ByteArray).size = K.length := rfl
      have z2 : (⟨[c].toArray⟩ : ByteArray).size = 1 := rfl
      have e1 := ByteArray.mk_append_mk K [c]
      by_cases c1 : c = 40
      · rw [if_pos c1, List.append_nil] at HM
        have c40 : cn = 40 := by rw [← hcn, c1]; rfl
        subst c40
        clear hc hK hcn c1 E1 E2 E3
        go_wp2
        go_round
        case rel => exact ⟨k + 1, by omega, by omega, by rw [HM.out], by go_num⟩
        case measure => simp [intOf]; omega
      · rw [if_neg c1] at HM
        have f1 : ((cn : Int) != 40) = true := bne_iff_ne.2 (fun e => c1 (UInt8.toNat_inj.1 (by rw [hcn]; show cn = 40; omega)))
        have f2 : ((cn : Int) = 40) = False := eq_false (fun e => c1 (UInt8.toNat_inj.1 (by rw [hcn]; show cn = 40; omega)))
        clear hc hK hcn c1 E1 E2 E3
        go_wp2
        go_round
        case rel => exact ⟨k + 1, by omega, by omega, by rw [HM.out] <;> exact congrArg Value.string e1, by go_num⟩
        case measure => simp [intOf]; omega
    · have HE := Lib.hid (show (l.take k).filter (fun b => b != 40) = A by
        rw [← HA.out]
        unfold noL
        rcases (show k = l.length ∨ k = 200 by omega) with h | h
        · rw [h, List.take_length, List.take_of_length_le (by omega)]
        · rw [h])
      rw [HE.out]
      rcases (show ¬ k < l.length ∨ (k < l.length ∧ ¬ k < 200) by omega) with h | ⟨h, h2⟩
      · have g1 : ¬ (k : Int) < (l.length : Int) := by omega
        have hcv := HCV.out wa
        obtain ⟨b1, b2, b3, b4, b5, b6, b7, b8, b9, b10⟩ := ZZ.out
        obtain ⟨zS1, zS2, zS3, zS4, zS5, zS6, zU4, zU5⟩ := ZL.out
        have HB1 := Lib.hid (HBA.out.alloc HBA.out.size (.cells #[.int .u8 (dn : Int)] 5))
        have dg := DG.out
        go_wp2_with fail
        refine (dg _).mono ?_
        rintro e w' ⟨rfl, rfl⟩
        go_wp2_with fail
        refine (E1.out _).mono ?_
        rintro e v1 ⟨rfl, hb⟩
        have H1 := Lib.hid (show LA w v1 [] from ⟨HB1.out.trans (hb.mono HB1.out.size), fun p hp => by cases hp⟩)
        have H2 := Lib.hid (H1.out.push y.a y.b y.c y.d y.port)
        clear hb H1 hcv
        go_wp2_with fail
        refine (E2.out _).mono ?_
        rintro e v2 ⟨rfl, hb⟩
        have H3 := Lib.hid (H2.out.next hb)
        have H4 := Lib.hid (H3.out.push 0 0 0 0 0)
        clear hb H2 H3
        go_wp2_with fail
        refine (dg _).mono ?_
        rintro e w' ⟨rfl, rfl⟩
        go_wp2_with fail
        refine (E3.out _).mono ?_
        rintro e v3 ⟨rfl, hb⟩
        have H5 := Lib.hid (H4.out.next hb)
        have H6 := Lib.hid (H5.out.push 0 0 0 0 0)
        have H7 := Lib.hid (H6.out.push 0 0 0 0 (P : Int))
        clear hb H4 H5 H6 dg b1 b2 b3 b4 b5 b6 b7 b8 b9 b10 zS1 zS2 zS3 zS4 zS5 zS6 zU4 zU5
        by_cases c1 : 33 ≤ dn
        · by_cases c2 : dn ≤ 126
          · by_cases c3 : dn < 48
            · have f1 : ((33 : Int) ≤ (dn : Int)) = True := eq_true (by omega)
              have f2 : ((dn : Int) ≤ 126) = True := eq_true (by omega)
              have f3 : ((dn : Int) < 48) = True := eq_true (by omega)
              by_cases c5 : 1 ≤ P
              · by_cases c6 : P ≤ 65535
                · have f5 : ((1 : Int) ≤ (P : Int)) = True := eq_true (by omega)
                  have f6 : ((P : Int) ≤ 65535) = True := eq_true (by omega)
                  have hoy : oy = some (P : Int) := by rw [← HOY.out, if_pos ⟨by omega, by omega, by simp; omega, by omega, by omega⟩]
                  subst hoy
                  have hr : r = true := HR.out.symm
                  subst hr
                  have hy : y = ⟨0, 0, 0, 0, (P : Int)⟩ := HY.out.symm
                  subst hy
                  have A0 : AB _ v1.heap.size ⟨0, 0, 0, 0, (P : Int)⟩ := H7.out.ab (v1.heap.size, ⟨0, 0, 0, 0, (P : Int)⟩) (by simp)
                  have c0 := A0.c0
                  have c1 := A0.c1
                  have c2 := A0.c2
                  have c3 := A0.c3
                  have c4 := A0.c4
                  dsimp only at c0 c1 c2 c3 c4
                  have he : ∀ w, (Op.equalIn 10000 24 (.agg #[.int .i64 0, .int .i64 0, .int .i64 0, .int .i64 0, .int .i64 (P : Int)]) (.agg #[.int .i64 0, .int .i64 0, .int .i64 0, .int .i64 0, .int .i64 (P : Int)])).run Tryd.prog w = .ok true w := fun w => by
                    have := equalAd ⟨0, 0, 0, 0, (P : Int)⟩ ⟨0, 0, 0, 0, (P : Int)⟩ w
                    simpa [adv, adc] using this
                  clear A0 HOY HR HY
                  go_wp2
                  go_ret
                  exact ⟨rfl, H7.out.below⟩
                · have f5 : ((1 : Int) ≤ (P : Int)) = True := eq_true (by omega)
                  have f6 : ((P : Int) ≤ 65535) = False := eq_false (by omega)
                  have hoy : oy = none := by rw [← HOY.out, if_neg (by rintro ⟨_, _, _, _, h⟩; exact c6 h)]
                  subst hoy
                  have hr : r = false := HR.out.symm
                  subst hr
                  clear HOY HR HY
                  go_wp2
                  go_ret
                  exact ⟨rfl, H7.out.below⟩
              · obtain rfl : P = 0 := by omega
                have f5 : ((1 : Int) ≤ ((0 : Nat) : Int)) = False := eq_false (by omega)
                have hoy : oy = none := by rw [← HOY.out, if_neg (by rintro ⟨_, _, _, h, _⟩; exact c5 h)]
                subst hoy
                have hr : r = false := HR.out.symm
                subst hr
                clear HOY HR HY
                go_wp2
                go_ret
                exact ⟨rfl, H7.out.below⟩
            · by_cases c4 : 57 < dn
              · have f1 : ((33 : Int) ≤ (dn : Int)) = True := eq_true (by omega)
                have f2 : ((dn : Int) ≤ 126) = True := eq_true (by omega)
                have f3 : ((dn : Int) < 48) = False := eq_false (by omega)
                have f4 : ((57 : Int) < (dn : Int)) = True := eq_true (by omega)
                by_cases c5 : 1 ≤ P
                · by_cases c6 : P ≤ 65535
                  · have f5 : ((1 : Int) ≤ (P : Int)) = True := eq_true (by omega)
                    have f6 : ((P : Int) ≤ 65535) = True := eq_true (by omega)
                    have hoy : oy = some (P : Int) := by rw [← HOY.out, if_pos ⟨by omega, by omega, by simp; omega, by omega, by omega⟩]
                    subst hoy
                    have hr : r = true := HR.out.symm
                    subst hr
                    have hy : y = ⟨0, 0, 0, 0, (P : Int)⟩ := HY.out.symm
                    subst hy
                    have A0 : AB _ v1.heap.size ⟨0, 0, 0, 0, (P : Int)⟩ := H7.out.ab (v1.heap.size, ⟨0, 0, 0, 0, (P : Int)⟩) (by simp)
                    have c0 := A0.c0
                    have c1 := A0.c1
                    have c2 := A0.c2
                    have c3 := A0.c3
                    have c4 := A0.c4
                    dsimp only at c0 c1 c2 c3 c4
                    have he : ∀ w, (Op.equalIn 10000 24 (.agg #[.int .i64 0, .int .i64 0, .int .i64 0, .int .i64 0, .int .i64 (P : Int)]) (.agg #[.int .i64 0, .int .i64 0, .int .i64 0, .int .i64 0, .int .i64 (P : Int)])).run Tryd.prog w = .ok true w := fun w => by
                      have := equalAd ⟨0, 0, 0, 0, (P : Int)⟩ ⟨0, 0, 0, 0, (P : Int)⟩ w
                      simpa [adv, adc] using this
                    clear A0 HOY HR HY
                    go_wp2
                    go_ret
                    exact ⟨rfl, H7.out.below⟩
                  · have f5 : ((1 : Int) ≤ (P : Int)) = True := eq_true (by omega)
                    have f6 : ((P : Int) ≤ 65535) = False := eq_false (by omega)
                    have hoy : oy = none := by rw [← HOY.out, if_neg (by rintro ⟨_, _, _, _, h⟩; exact c6 h)]
                    subst hoy
                    have hr : r = false := HR.out.symm
                    subst hr
                    clear HOY HR HY
                    go_wp2
                    go_ret
                    exact ⟨rfl, H7.out.below⟩
                · obtain rfl : P = 0 := by omega
                  have f5 : ((1 : Int) ≤ ((0 : Nat) : Int)) = False := eq_false (by omega)
                  have hoy : oy = none := by rw [← HOY.out, if_neg (by rintro ⟨_, _, _, h, _⟩; exact c5 h)]
                  subst hoy
                  have hr : r = false := HR.out.symm
                  subst hr
                  clear HOY HR HY
                  go_wp2
                  go_ret
                  exact ⟨rfl, H7.out.below⟩
              · have f1 : ((33 : Int) ≤ (dn : Int)) = True := eq_true (by omega)
                have f2 : ((dn : Int) ≤ 126) = True := eq_true (by omega)
                have f3 : ((dn : Int) < 48) = False := eq_false (by omega)
                have f4 : ((57 : Int) < (dn : Int)) = False := eq_false (by omega)
                have hoy : oy = none := by rw [← HOY.out, if_neg (by rintro ⟨_, _, h, _⟩; simp at h; omega)]
                subst hoy
                have hr : r = false := HR.out.symm
                subst hr
                clear HOY HR HY
                go_wp2
                go_ret
                exact ⟨rfl, H7.out.below⟩
          · have f1 : ((33 : Int) ≤ (dn : Int)) = True := eq_true (by omega)
            have f2 : ((dn : Int) ≤ 126) = False := eq_false (by omega)
            have hoy : oy = none := by rw [← HOY.out, if_neg (by rintro ⟨_, h, _⟩; exact c2 h)]
            subst hoy
            have hr : r = false := HR.out.symm
            subst hr
            clear HOY HR HY
            go_wp2
            go_ret
            exact ⟨rfl, H7.out.below⟩
        · have f1 : ((33 : Int) ≤ (dn : Int)) = False := eq_false (by omega)
          have hoy : oy = none := by rw [← HOY.out, if_neg (by rintro ⟨h, _⟩; exact c1 h)]
          subst hoy
          have hr : r = false := HR.out.symm
          subst hr
          clear HOY HR HY
          go_wp2
          go_ret
          exact ⟨rfl, H7.out.below⟩
      · have g1 : (k : Int) < (l.length : Int) := by omega
        have g2 : ¬ (k : Int) < 200 := by omega
        have hcv := HCV.out wa
        obtain ⟨b1, b2, b3, b4, b5, b6, b7, b8, b9, b10⟩ := ZZ.out
        obtain ⟨zS1, zS2, zS3, zS4, zS5, zS6, zU4, zU5⟩ := ZL.out
        have HB1 := Lib.hid (HBA.out.alloc HBA.out.size (.cells #[.int .u8 (dn : Int)] 5))
        have dg := DG.out
        go_wp2_with fail
        refine (dg _).mono ?_
        rintro e w' ⟨rfl, rfl⟩
        go_wp2_with fail
        refine (E1.out _).mono ?_
        rintro e v1 ⟨rfl, hb⟩
        have H1 := Lib.hid (show LA w v1 [] from ⟨HB1.out.trans (hb.mono HB1.out.size), fun p hp => by cases hp⟩)
        have H2 := Lib.hid (H1.out.push y.a y.b y.c y.d y.port)
        clear hb H1 hcv
        go_wp2_with fail
        refine (E2.out _).mono ?_
        rintro e v2 ⟨rfl, hb⟩
        have H3 := Lib.hid (H2.out.next hb)
        have H4 := Lib.hid (H3.out.push 0 0 0 0 0)
        clear hb H2 H3
        go_wp2_with fail
        refine (dg _).mono ?_
        rintro e w' ⟨rfl, rfl⟩
        go_wp2_with fail
        refine (E3.out _).mono ?_
        rintro e v3 ⟨rfl, hb⟩
        have H5 := Lib.hid (H4.out.next hb)
        have H6 := Lib.hid (H5.out.push 0 0 0 0 0)
        have H7 := Lib.hid (H6.out.push 0 0 0 0 (P : Int))
        clear hb H4 H5 H6 dg b1 b2 b3 b4 b5 b6 b7 b8 b9 b10 zS1 zS2 zS3 zS4 zS5 zS6 zU4 zU5
        by_cases c1 : 33 ≤ dn
        · by_cases c2 : dn ≤ 126
          · by_cases c3 : dn < 48
            · have f1 : ((33 : Int) ≤ (dn : Int)) = True := eq_true (by omega)
              have f2 : ((dn : Int) ≤ 126) = True := eq_true (by omega)
              have f3 : ((dn : Int) < 48) = True := eq_true (by omega)
              by_cases c5 : 1 ≤ P
              · by_cases c6 : P ≤ 65535
                · have f5 : ((1 : Int) ≤ (P : Int)) = True := eq_true (by omega)
                  have f6 : ((P : Int) ≤ 65535) = True := eq_true (by omega)
                  have hoy : oy = some (P : Int) := by rw [← HOY.out, if_pos ⟨by omega, by omega, by simp; omega, by omega, by omega⟩]
                  subst hoy
                  have hr : r = true := HR.out.symm
                  subst hr
                  have hy : y = ⟨0, 0, 0, 0, (P : Int)⟩ := HY.out.symm
                  subst hy
                  have A0 : AB _ v1.heap.size ⟨0, 0, 0, 0, (P : Int)⟩ := H7.out.ab (v1.heap.size, ⟨0, 0, 0, 0, (P : Int)⟩) (by simp)
                  have c0 := A0.c0
                  have c1 := A0.c1
                  have c2 := A0.c2
                  have c3 := A0.c3
                  have c4 := A0.c4
                  dsimp only at c0 c1 c2 c3 c4
                  have he : ∀ w, (Op.equalIn 10000 24 (.agg #[.int .i64 0, .int .i64 0, .int .i64 0, .int .i64 0, .int .i64 (P : Int)]) (.agg #[.int .i64 0, .int .i64 0, .int .i64 0, .int .i64 0, .int .i64 (P : Int)])).run Tryd.prog w = .ok true w := fun w => by
                    have := equalAd ⟨0, 0, 0, 0, (P : Int)⟩ ⟨0, 0, 0, 0, (P : Int)⟩ w
                    simpa [adv, adc] using this
                  clear A0 HOY HR HY
                  go_wp2
                  go_ret
                  exact ⟨rfl, H7.out.below⟩
                · have f5 : ((1 : Int) ≤ (P : Int)) = True := eq_true (by omega)
                  have f6 : ((P : Int) ≤ 65535) = False := eq_false (by omega)
                  have hoy : oy = none := by rw [← HOY.out, if_neg (by rintro ⟨_, _, _, _, h⟩; exact c6 h)]
                  subst hoy
                  have hr : r = false := HR.out.symm
                  subst hr
                  clear HOY HR HY
                  go_wp2
                  go_ret
                  exact ⟨rfl, H7.out.below⟩
              · obtain rfl : P = 0 := by omega
                have f5 : ((1 : Int) ≤ ((0 : Nat) : Int)) = False := eq_false (by omega)
                have hoy : oy = none := by rw [← HOY.out, if_neg (by rintro ⟨_, _, _, h, _⟩; exact c5 h)]
                subst hoy
                have hr : r = false := HR.out.symm
                subst hr
                clear HOY HR HY
                go_wp2
                go_ret
                exact ⟨rfl, H7.out.below⟩
            · by_cases c4 : 57 < dn
              · have f1 : ((33 : Int) ≤ (dn : Int)) = True := eq_true (by omega)
                have f2 : ((dn : Int) ≤ 126) = True := eq_true (by omega)
                have f3 : ((dn : Int) < 48) = False := eq_false (by omega)
                have f4 : ((57 : Int) < (dn : Int)) = True := eq_true (by omega)
                by_cases c5 : 1 ≤ P
                · by_cases c6 : P ≤ 65535
                  · have f5 : ((1 : Int) ≤ (P : Int)) = True := eq_true (by omega)
                    have f6 : ((P : Int) ≤ 65535) = True := eq_true (by omega)
                    have hoy : oy = some (P : Int) := by rw [← HOY.out, if_pos ⟨by omega, by omega, by simp; omega, by omega, by omega⟩]
                    subst hoy
                    have hr : r = true := HR.out.symm
                    subst hr
                    have hy : y = ⟨0, 0, 0, 0, (P : Int)⟩ := HY.out.symm
                    subst hy
                    have A0 : AB _ v1.heap.size ⟨0, 0, 0, 0, (P : Int)⟩ := H7.out.ab (v1.heap.size, ⟨0, 0, 0, 0, (P : Int)⟩) (by simp)
                    have c0 := A0.c0
                    have c1 := A0.c1
                    have c2 := A0.c2
                    have c3 := A0.c3
                    have c4 := A0.c4
                    dsimp only at c0 c1 c2 c3 c4
                    have he : ∀ w, (Op.equalIn 10000 24 (.agg #[.int .i64 0, .int .i64 0, .int .i64 0, .int .i64 0, .int .i64 (P : Int)]) (.agg #[.int .i64 0, .int .i64 0, .int .i64 0, .int .i64 0, .int .i64 (P : Int)])).run Tryd.prog w = .ok true w := fun w => by
                      have := equalAd ⟨0, 0, 0, 0, (P : Int)⟩ ⟨0, 0, 0, 0, (P : Int)⟩ w
                      simpa [adv, adc] using this
                    clear A0 HOY HR HY
                    go_wp2
                    go_ret
                    exact ⟨rfl, H7.out.below⟩
                  · have f5 : ((1 : Int) ≤ (P : Int)) = True := eq_true (by omega)
                    have f6 : ((P : Int) ≤ 65535) = False := eq_false (by omega)
                    have hoy : oy = none := by rw [← HOY.out, if_neg (by rintro ⟨_, _, _, _, h⟩; exact c6 h)]
                    subst hoy
                    have hr : r = false := HR.out.symm
                    subst hr
                    clear HOY HR HY
                    go_wp2
                    go_ret
                    exact ⟨rfl, H7.out.below⟩
                · obtain rfl : P = 0 := by omega
                  have f5 : ((1 : Int) ≤ ((0 : Nat) : Int)) = False := eq_false (by omega)
                  have hoy : oy = none := by rw [← HOY.out, if_neg (by rintro ⟨_, _, _, h, _⟩; exact c5 h)]
                  subst hoy
                  have hr : r = false := HR.out.symm
                  subst hr
                  clear HOY HR HY
                  go_wp2
                  go_ret
                  exact ⟨rfl, H7.out.below⟩
              · have f1 : ((33 : Int) ≤ (dn : Int)) = True := eq_true (by omega)
                have f2 : ((dn : Int) ≤ 126) = True := eq_true (by omega)
                have f3 : ((dn : Int) < 48) = False := eq_false (by omega)
                have f4 : ((57 : Int) < (dn : Int)) = False := eq_false (by omega)
                have hoy : oy = none := by rw [← HOY.out, if_neg (by rintro ⟨_, _, h, _⟩; simp at h; omega)]
                subst hoy
                have hr : r = false := HR.out.symm
                subst hr
                clear HOY HR HY
                go_wp2
                go_ret
                exact ⟨rfl, H7.out.below⟩
          · have f1 : ((33 : Int) ≤ (dn : Int)) = True := eq_true (by omega)
            have f2 : ((dn : Int) ≤ 126) = False := eq_false (by omega)
            have hoy : oy = none := by rw [← HOY.out, if_neg (by rintro ⟨_, h, _⟩; exact c2 h)]
            subst hoy
            have hr : r = false := HR.out.symm
            subst hr
            clear HOY HR HY
            go_wp2
            go_ret
            exact ⟨rfl, H7.out.below⟩
        · have f1 : ((33 : Int) ≤ (dn : Int)) = False := eq_false (by omega)
          have hoy : oy = none := by rw [← HOY.out, if_neg (by rintro ⟨h, _⟩; exact c1 h)]
          subst hoy
          have hr : r = false := HR.out.symm
          subst hr
          clear HOY HR HY
          go_wp2
          go_ret
          exact ⟨rfl, H7.out.below⟩
end Go.Proofs.YtonophhhndhhhaaDoor
