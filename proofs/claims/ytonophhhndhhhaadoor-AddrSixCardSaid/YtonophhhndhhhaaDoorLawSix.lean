/- AddrSix walked (layer 13; by gen_asix.py). -/
import Derived.Test.YtonophhhndhhhaaDoorSixP
import Derived.Test.YtonophhhndhhhaaDoorALawP
import Derived.Test.YtonophhhndhhhaaDoorOpenRows
import Derived.Test.YtonophhhndhhhaaDoorHeld
namespace Go.Proofs.YtonophhhndhhhaaDoor
open Go.RowKit

theorem wraps_u16 (n : Int) (h₀ : 0 ≤ n) (h₁ : n < 2 ^ 16) : IntKind.u16.wrap n = n := by rw [IntKind.wrap_u16]; omega
theorem mask_u16 (i : Nat) (hi : i ≤ 16) {x : Int} (h₀ : 0 ≤ x) (h₁ : x < 2 ^ 16) : bits .and .u16 x (2 ^ i - 1) = x % 2 ^ i :=
  bits_mask .u16 16 (by decide) wraps_u16 i hi x h₀ h₁
theorem nought_more (j : Nat) (D : List UInt8) : (⟨#[48]⟩ : ByteArray) ++ ⟨(List.replicate j 48 ++ D).toArray⟩ = ⟨(List.replicate (j + 1) 48 ++ D).toArray⟩ := ByteArray.mk_append_mk [48] (List.replicate j 48 ++ D)

set_option maxHeartbeats 16000000 in
set_option maxRecDepth 20000 in
theorem lawSix (vl : Value) (ys : List Int) (vn : Value) (zs : List UInt8) (hly : ys.length ≤ maxLen) (hwf : ∀ y ∈ ys, (Lit.int .u16 y).wf = true) (hlz : zs.length ≤ maxLen) (w : World) (rl : RdN 1 w vl (ys.map fun y => [.int .u16 y])) (rn : Rd w vn (zs.map bv)) :
    Calls Tryd.prog 6 #[vl, vn] w fun e w' => e = .returned (.bool true) ∧ Below w.heap.size w w' := by
  have hrange : ∀ (i : Nat) x, ys[i]? = some x → 0 ≤ x ∧ x ≤ 65535 := by
    intro i x hx
    have h := hwf x (List.mem_of_getElem? hx)
    unfold Lit.wf at h
    rw [Bool.and_eq_true, decide_eq_true_eq, decide_eq_true_eq, show IntKind.min .u16 = 0 by decide, show IntKind.max .u16 = 65535 by decide] at h
    exact h
  obtain ⟨ao, cap, rfl, hc1, hlat⟩ := rl.form
  obtain ⟨bo, cap2, rfl, hc2, hnat⟩ := rn.form
  rw [List.length_map] at hc1 hlat ⊢
  have HLF := Lib.hid (show ∀ wx, Below w.heap.size w wx → ∀ (i : Nat) x, ys[i]? = some x → ∃ b o, ao = some ⟨b, o, none⟩ ∧ wx.cell? ⟨b, o + i, none⟩ = some (.int .u16 x) by
    intro wx hb i x hx
    obtain ⟨b, o, e, _, h⟩ := hlat (Nat.lt_of_le_of_lt (Nat.zero_le _) (List.getElem?_eq_some_iff.1 hx).1)
    refine ⟨b, o, e, ?_⟩
    have h2 : w.cell? ⟨b, o + i, none⟩ = some (.int .u16 x) := by
      have := h i [.int .u16 x] (by rw [List.getElem?_map, hx]; rfl) 0 (.int .u16 x) rfl
      simpa using this
    exact (hb.cell (World.block_lt_of_cell? w _ h2)).trans h2)
  have HNF := Lib.hid (show ∀ wx, Below w.heap.size w wx → ∀ (i : Nat) z, zs[i]? = some z → ∃ b o, bo = some ⟨b, o, none⟩ ∧ wx.cell? ⟨b, o + i, none⟩ = some (.int .u8 (z.toNat : Int)) by
    intro wx hb i z hz
    have hi := (List.getElem?_eq_some_iff.1 hz).1
    obtain ⟨b, o, e, _, h⟩ := hnat (Nat.lt_of_le_of_lt (Nat.zero_le _) hi)
    refine ⟨b, o, e, ?_⟩
    have h2 : w.cell? ⟨b, o + i, none⟩ = some (.int .u8 (z.toNat : Int)) := by
      have := h i hi
      rw [List.getD_eq_getElem?_getD, hz] at this
      exact this
    exact (hb.cell (World.block_lt_of_cell? w _ h2)).trans h2)
  obtain ⟨nl, hnl⟩ : ∃ n, ys.length = n := ⟨_, rfl⟩
  obtain ⟨nz, hnz⟩ : ∃ n, zs.length = n := ⟨_, rfl⟩
  rw [hnl] at hc1 ⊢
  rw [hnz] at hc2 ⊢
  unfold maxLen at hly hlz
  have hnl2 : nl ≤ 9223372036854775807 := by rw [← hnl]; exact hly
  have hnz2 : nz ≤ 9223372036854775807 := by rw [← hnz]; exact hlz
  have HGY := Lib.hid (show ∀ i, i < nl → ∃ x, ys[i]? = some x from fun i hi => ⟨_, List.getElem?_eq_getElem (by omega)⟩)
  have HGZ := Lib.hid (show ∀ i, i < nz → ∃ z, zs[i]? = some z from fun i hi => ⟨_, List.getElem?_eq_getElem (by omega)⟩)
  obtain ⟨v, hvd⟩ : ∃ v : Nat → Nat, v = fun k => (ys.getD k 0 % 1024).toNat := ⟨_, rfl⟩
  obtain ⟨c, hcd⟩ : ∃ c : Nat → Nat, c = fun k => match zs[k]? with | some z => z.toNat % 4 | none => 0 := ⟨_, rfl⟩
  have hv : ∀ k, v k ≤ 1023 := fun k => by rw [hvd]; show (_ : Int).toNat ≤ _; omega
  have hc : ∀ k, c k ≤ 3 := fun k => by
    rw [hcd]
    dsimp only
    split
    · exact Nat.le_of_lt_succ (Nat.mod_lt _ (by decide))
    · exact Nat.zero_le _
  have HVF := Lib.hid (show ∀ (i : Nat) x, ys[i]? = some x → x % 1024 = (v i : Int) by
    intro i x hx
    have e : v i = (ys.getD i 0 % 1024).toNat := by rw [hvd]
    rw [e, List.getD_eq_getElem?_getD, hx]
    simp only [Option.getD_some]
    omega)
  have HCF := Lib.hid (show ∀ (i : Nat) (z : UInt8), zs[i]? = some z → z.toNat % 4 = c i by
    intro i z hz
    have e : c i = (match zs[i]? with | some z => z.toNat % 4 | none => 0) := by rw [hcd]
    rw [e, hz])
  have HCN := Lib.hid (show ∀ i, ¬ i < nz → c i = 0 by
    intro i hi
    have e : c i = (match zs[i]? with | some z => z.toNat % 4 | none => 0) := by rw [hcd]
    rw [e, List.getElem?_eq_none (by omega)])
  have HRG := Lib.hid hrange
  have HV := Lib.hid hv
  have HC := Lib.hid hc
  have SW := Lib.hid (fun wx => shown_any wx)
  have DG := Lib.hid (fun n (hn : n ≤ 1048576) wx => ldigits_any n n (Nat.le_refl _) hn wx)
  have q2 := adHeld
  have q3 := adGuard
  clear hrange hv hc hvd hcd hnl hnz hly hlz hwf rl rn hlat hnat
  go_enter Tryd.func6, Tryd.ntmps6
  go_wp2_with fail
  refine (SW.out _).mono ?_
  rintro e wa ⟨rfl, hb⟩
  have HB := Lib.hid hb
  clear hb SW
  go_wp2_with fail
  go_loop [6, 7, 8, 9, 10, 11] (fun s6 s7 s8 s9 s10 s11 => ∃ i : Nat, i ≤ nl ∧ i ≤ 8 ∧ s6 = .string ⟨(Ad.joinS v c i).toArray⟩ ∧ s7 = .int .i64 i ∧ s8 = .bool (Ad.fineB v c i) ∧ s9 = .int .i64 (Ad.lastN v i : Int) ∧ s10 = .int .i64 (Ad.portN v i : Int) ∧ s11 = .int .i64 i) (fun _ _ _ _ _ s11 => 9 - (intOf s11).toNat)
  case atStart => exact ⟨0, by omega, by omega, rfl, rfl, rfl, rfl, rfl, rfl⟩
  case round =>
    obtain ⟨i, hi, hi8, rfl, rfl, rfl, rfl, rfl, rfl⟩ := hrel
    have hlast := Ad.lastN_le HV.out i
    have hport := Ad.portN_le HV.out i
    have hjl := Ad.joinS_len HV.out HC.out i
    by_cases h1 : i < nl ∧ i < 8
    · obtain ⟨h1, h2⟩ := h1
      have g1 : (i : Int) < (nl : Int) := by omega
      have g2 : (i : Int) < 8 := by omega
      obtain ⟨x, hx⟩ := HGY.out i h1
      obtain ⟨b, o, rfl, hcell⟩ := HLF.out wa HB.out i x hx
      obtain ⟨x0, x1⟩ := HRG.out i x hx
      have a0 := HVF.out i x hx
      have a1 : bits .and .i64 x 1023 = (v i : Int) := by rw [i64_1023]; exact a0
      have a2 : bits .and .u16 x 1023 = (v i : Int) := (mask_u16 10 (by decide) x0 (by omega)).trans a0
      have w1 : IntKind.i64.wrap x = x := IntWalk.i64_in _ ⟨by omega, by omega⟩
      have hvi := HV.out i
      have hci := HC.out i
      have hcz : i < nz → ∃ z b2 o2, bo = some ⟨b2, o2, none⟩ ∧ wa.cell? ⟨b2, o2 + i, none⟩ = some (.int .u8 (z : Int)) ∧ bits .and .u8 (z : Int) 3 = (c i : Int) := by
        intro h
        obtain ⟨z, hz⟩ := HGZ.out i h
        obtain ⟨b2, o2, e, hcl⟩ := HNF.out wa HB.out i z hz
        have hzl := UInt8.toNat_lt z
        refine ⟨z.toNat, b2, o2, e, hcl, (mask_u8 2 (by decide) (by omega) (by omega)).trans ?_⟩
        have := HCF.out i z hz
        show (z.toNat : Int) % 4 = _
        omega
      have hcn := HCN.out i
      have dg := fun wx => DG.out (v i) (by omega) wx
      have hdl := Ad.dec_four hvi
      have hgl := Ad.dgt_len HV.out HC.out i
      have HJ := Lib.hid (show Ad.joinS v c (i + 1) = Ad.joinS v c i ++ (if 0 < i then [44] else []) ++ Ad.dgt v c i from rfl)
      have HFN := Lib.hid (show Ad.fineB v c (i + 1) = if i < 6 then Ad.fineB v c i && decide ((Ad.dgt v c i).length ≤ 3) && decide (v i ≤ 255) else Ad.fineB v c i from rfl)
      have HLN := Lib.hid (show Ad.lastN v (i + 1) = if i < 6 then v i else Ad.lastN v i from rfl)
      have HPN := Lib.hid (show Ad.portN v (i + 1) = if i < 6 then Ad.lastN v i * 256 + v i else Ad.portN v i from rfl)
      have HG := Lib.hid (show List.replicate (c i) 48 ++ Lib.decDigits (v i) = Ad.dgt v c i from rfl)
      obtain ⟨A, hA⟩ : ∃ A, Ad.joinS v c i = A := ⟨_, rfl⟩
      obtain ⟨G, hG⟩ : ∃ G, Ad.dgt v c i = G := ⟨_, rfl⟩
      obtain ⟨D, hD⟩ : ∃ D, Lib.decDigits (v i) = D := ⟨_, rfl⟩
      obtain ⟨fi, hfi⟩ : ∃ fi, Ad.fineB v c i = fi := ⟨_, rfl⟩
      obtain ⟨la, hla⟩ : ∃ n, Ad.lastN v i = n := ⟨_, rfl⟩
      obtain ⟨po, hpo⟩ : ∃ n, Ad.portN v i = n := ⟨_, rfl⟩
      obtain ⟨vi, hvi2⟩ : ∃ n, v i = n := ⟨_, rfl⟩
      obtain ⟨C, hC⟩ : ∃ n, c i = n := ⟨_, rfl⟩
      rw [hA, hfi, hla, hpo]
      rw [hA] at hjl HJ
      rw [hG] at hgl HJ HFN HG
      rw [hD] at dg hdl HG
      rw [hfi] at HFN
      rw [hla] at hlast HPN HLN
      rw [hpo] at hport HPN
      rw [hvi2] at a0 a1 a2 hvi HFN HLN HPN
      simp only [hvi2] at dg
      rw [hC] at hci hcn HG
      simp only [hC] at hcz
      clear hA hG hD hfi hla hpo hvi2 hC hx
      go_wp2_with fail
      refine (dg _).mono ?_
      rintro e w' ⟨rfl, rfl⟩
      clear dg
      go_wp2_with fail
      by_cases hiz : i < nz
      · obtain ⟨z, b2, o2, rfl, hz2, hz3⟩ := hcz hiz
        have g3 : (i : Int) < (nz : Int) := by omega
        have hci8 : IntKind.i64.wrap (C : Int) = (C : Int) := wraps_i64 _ (by omega) (by omega)
        clear hcz hcn
        go_loop [12, 13] (fun s12 s13 => ∃ j : Nat, j ≤ C ∧ s12 = .string ⟨(List.replicate j 48 ++ D).toArray⟩ ∧ s13 = .int .i64 j) (fun _ s13 => C - (intOf s13).toNat)
        case atStart => exact ⟨0, by omega, by simp, rfl⟩
        case round =>
          obtain ⟨j, hj, rfl, rfl⟩ := hrel
          by_cases hjc : j < C
          · have g4 : (j : Int) < (C : Int) := by omega
            have e1 := nought_more j D
            have e2 : (⟨(List.replicate j 48 ++ D).toArray⟩ : ByteArray).size = j + D.length := by show (List.replicate j 48 ++ D).length = _; simp
            have e3 : (⟨#[48]⟩ : ByteArray).size = 1 := rfl
            generalize List.replicate j 48 ++ D = E at *
            generalize HE2 : List.replicate (j + 1) 48 ++ D = E2 at *
            go_wp2
            go_round
            case rel => exact ⟨j + 1, by omega, by rw [HE2], by go_num⟩
            case measure => simp [intOf]; omega
          · obtain rfl : j = C := by omega
            have g4 : ¬ (j : Int) < (j : Int) := by omega
            rw [HG.out]
            have zA : (⟨A.toArray⟩ : ByteArray).size = A.length := rfl
            have zG : (⟨G.toArray⟩ : ByteArray).size = G.length := rfl
            have z44 : (⟨#[44]⟩ : ByteArray).size = 1 := rfl
            have hvi8 : IntKind.i64.wrap (vi : Int) = (vi : Int) := wraps_i64 _ (by omega) (by omega)
            by_cases hi0 : 0 < i
            · have gi : ((0 : Int) < (i : Int)) = True := eq_true (by omega)
              have gi2 : (0 < i) = True := eq_true hi0
              have s1 := ba_comma A
              have zA1 : (⟨(A ++ [44]).toArray⟩ : ByteArray).size = A.length + 1 := by show (A ++ [44]).length = _; simp
              have s2 := ba_bytes (A ++ [44]) G
              have HJ2 := Lib.hid (show Ad.joinS v c (i + 1) = A ++ [44] ++ G by rw [HJ.out, if_pos hi0])
              generalize A ++ [44] ++ G = E2 at *
              generalize A ++ [44] = E1 at *
              by_cases h6 : i < 6
              · have h6f : ((i : Int) < 6) = True := eq_true (by omega)
                have HL2 := Lib.hid (show Ad.lastN v (i + 1) = vi by rw [HLN.out, if_pos h6])
                have HP2 := Lib.hid (show Ad.portN v (i + 1) = la * 256 + vi by rw [HPN.out, if_pos h6])
                cases fi
                · skip
                  have HF2 := Lib.hid (show Ad.fineB v c (i + 1) = false by rw [HFN.out, if_pos h6]; simp [*])
                  go_wp2
                  go_round
                  case rel => exact ⟨i + 1, by omega, by omega, by rw [HJ2.out], by go_num, by rw [HF2.out], by rw [HL2.out], by rw [HP2.out] <;> go_num, by go_num⟩
                  case measure => first | (simp [intOf]; done) | (simp [intOf]; omega)
                · by_cases c3 : G.length ≤ 3
                  · have c3f : ((G.length : Int) ≤ 3) = True := eq_true (by omega)
                    by_cases c4 : vi ≤ 255
                    · have c4f : ((vi : Int) ≤ 255) = True := eq_true (by omega)
                      have HF2 := Lib.hid (show Ad.fineB v c (i + 1) = true by rw [HFN.out, if_pos h6]; simp [*])
                      go_wp2
                      go_round
                      case rel => exact ⟨i + 1, by omega, by omega, by rw [HJ2.out], by go_num, by rw [HF2.out], by rw [HL2.out], by rw [HP2.out] <;> go_num, by go_num⟩
                      case measure => first | (simp [intOf]; done) | (simp [intOf]; omega)
                    · have c4f : ((vi : Int) ≤ 255) = False := eq_false (by omega)
                      have HF2 := Lib.hid (show Ad.fineB v c (i + 1) = false by rw [HFN.out, if_pos h6]; simp [*])
                      go_wp2
                      go_round
                      case rel => exact ⟨i + 1, by omega, by omega, by rw [HJ2.out], by go_num, by rw [HF2.out], by rw [HL2.out], by rw [HP2.out] <;> go_num, by go_num⟩
                      case measure => first | (simp [intOf]; done) | (simp [intOf]; omega)
                  · have c3f : ((G.length : Int) ≤ 3) = False := eq_false (by omega)
                    have HF2 := Lib.hid (show Ad.fineB v c (i + 1) = false by rw [HFN.out, if_pos h6]; simp [*])
                    go_wp2
                    go_round
                    case rel => exact ⟨i + 1, by omega, by omega, by rw [HJ2.out], by go_num, by rw [HF2.out], by rw [HL2.out], by rw [HP2.out] <;> go_num, by go_num⟩
                    case measure => first | (simp [intOf]; done) | (simp [intOf]; omega)
              · have h6f : ((i : Int) < 6) = False := eq_false (by omega)
                have HF2 := Lib.hid (show Ad.fineB v c (i + 1) = fi by rw [HFN.out, if_neg h6])
                have HL2 := Lib.hid (show Ad.lastN v (i + 1) = la by rw [HLN.out, if_neg h6])
                have HP2 := Lib.hid (show Ad.portN v (i + 1) = po by rw [HPN.out, if_neg h6])
                go_wp2
                go_round
                case rel => exact ⟨i + 1, by omega, by omega, by rw [HJ2.out], by go_num, by rw [HF2.out], by rw [HL2.out], by rw [HP2.out], by go_num⟩
                case measure => simp [intOf]; omega
            · obtain rfl : i = 0 := by omega
              rw [Nat.add_zero] at hcell
              try rw [Nat.add_zero] at hz2
              have s2 := ba_bytes A G
              have HJ2 := Lib.hid (show Ad.joinS v c (0 + 1) = A ++ G by rw [HJ.out, if_neg hi0, List.append_nil])
              generalize A ++ G = E2 at *
              have h6 : (0 : Nat) < 6 := by omega
              have HL2 := Lib.hid (show Ad.lastN v (0 + 1) = vi by rw [HLN.out, if_pos h6])
              have HP2 := Lib.hid (show Ad.portN v (0 + 1) = la * 256 + vi by rw [HPN.out, if_pos h6])
              cases fi
              · skip
                have HF2 := Lib.hid (show Ad.fineB v c (0 + 1) = false by rw [HFN.out, if_pos h6]; simp [*])
                go_wp2
                go_round
                case rel => exact ⟨0 + 1, by omega, by omega, by rw [HJ2.out], by go_num, by rw [HF2.out], by rw [HL2.out], by rw [HP2.out] <;> go_num, by go_num⟩
                case measure => first | (simp [intOf]; done) | (simp [intOf]; omega)
              · by_cases c3 : G.length ≤ 3
                · have c3f : ((G.length : Int) ≤ 3) = True := eq_true (by omega)
                  by_cases c4 : vi ≤ 255
                  · have c4f : ((vi : Int) ≤ 255) = True := eq_true (by omega)
                    have HF2 := Lib.hid (show Ad.fineB v c (0 + 1) = true by rw [HFN.out, if_pos h6]; simp [*])
                    go_wp2
                    go_round
                    case rel => exact ⟨0 + 1, by omega, by omega, by rw [HJ2.out], by go_num, by rw [HF2.out], by rw [HL2.out], by rw [HP2.out] <;> go_num, by go_num⟩
                    case measure => first | (simp [intOf]; done) | (simp [intOf]; omega)
                  · have c4f : ((vi : Int) ≤ 255) = False := eq_false (by omega)
                    have HF2 := Lib.hid (show Ad.fineB v c (0 + 1) = false by rw [HFN.out, if_pos h6]; simp [*])
                    go_wp2
                    go_round
                    case rel => exact ⟨0 + 1, by omega, by omega, by rw [HJ2.out], by go_num, by rw [HF2.out], by rw [HL2.out], by rw [HP2.out] <;> go_num, by go_num⟩
                    case measure => first | (simp [intOf]; done) | (simp [intOf]; omega)
                · have c3f : ((G.length : Int) ≤ 3) = False := eq_false (by omega)
                  have HF2 := Lib.hid (show Ad.fineB v c (0 + 1) = false by rw [HFN.out, if_pos h6]; simp [*])
                  go_wp2
                  go_round
                  case rel => exact ⟨0 + 1, by omega, by omega, by rw [HJ2.out], by go_num, by rw [HF2.out], by rw [HL2.out], by rw [HP2.out] <;> go_num, by go_num⟩
                  case measure => first | (simp [intOf]; done) | (simp [intOf]; omega)
      · have hC0 := hcn hiz
        subst hC0
        have g3 : ¬ (i : Int) < (nz : Int) := by omega
        clear hcz hcn
        go_loop [12, 13] (fun s12 s13 => s12 = .string ⟨G.toArray⟩ ∧ s13 = .int .i64 0) (fun _ _ => 0)
        case atStart => exact ⟨by rw [← HG.out]; simp, rfl⟩
        case round =>
          obtain ⟨rfl, rfl⟩ := hrel
          have zA : (⟨A.toArray⟩ : ByteArray).size = A.length := rfl
          have zG : (⟨G.toArray⟩ : ByteArray).size = G.length := rfl
          have z44 : (⟨#[44]⟩ : ByteArray).size = 1 := rfl
          have hvi8 : IntKind.i64.wrap (vi : Int) = (vi : Int) := wraps_i64 _ (by omega) (by omega)
          by_cases hi0 : 0 < i
          · have gi : ((0 : Int) < (i : Int)) = True := eq_true (by omega)
            have gi2 : (0 < i) = True := eq_true hi0
            have s1 := ba_comma A
            have zA1 : (⟨(A ++ [44]).toArray⟩ : ByteArray).size = A.length + 1 := by show (A ++ [44]).length = _; simp
            have s2 := ba_bytes (A ++ [44]) G
            have HJ2 := Lib.hid (show Ad.joinS v c (i + 1) = A ++ [44] ++ G by rw [HJ.out, if_pos hi0])
            generalize A ++ [44] ++ G = E2 at *
            generalize A ++ [44] = E1 at *
            by_cases h6 : i < 6
            · have h6f : ((i : Int) < 6) = True := eq_true (by omega)
              have HL2 := Lib.hid (show Ad.lastN v (i + 1) = vi by rw [HLN.out, if_pos h6])
              have HP2 := Lib.hid (show Ad.portN v (i + 1) = la * 256 + vi by rw [HPN.out, if_pos h6])
              cases fi
              · skip
                have HF2 := Lib.hid (show Ad.fineB v c (i + 1) = false by rw [HFN.out, if_pos h6]; simp [*])
                go_wp2
                go_round
                case rel => exact ⟨i + 1, by omega, by omega, by rw [HJ2.out], by go_num, by rw [HF2.out], by rw [HL2.out], by rw [HP2.out] <;> go_num, by go_num⟩
                case measure => first | (simp [intOf]; done) | (simp [intOf]; omega)
              · by_cases c3 : G.length ≤ 3
                · have c3f : ((G.length : Int) ≤ 3) = True := eq_true (by omega)
                  by_cases c4 : vi ≤ 255
                  · have c4f : ((vi : Int) ≤ 255) = True := eq_true (by omega)
                    have HF2 := Lib.hid (show Ad.fineB v c (i + 1) = true by rw [HFN.out, if_pos h6]; simp [*])
                    go_wp2
                    go_round
                    case rel => exact ⟨i + 1, by omega, by omega, by rw [HJ2.out], by go_num, by rw [HF2.out], by rw [HL2.out], by rw [HP2.out] <;> go_num, by go_num⟩
                    case measure => first | (simp [intOf]; done) | (simp [intOf]; omega)
                  · have c4f : ((vi : Int) ≤ 255) = False := eq_false (by omega)
                    have HF2 := Lib.hid (show Ad.fineB v c (i + 1) = false by rw [HFN.out, if_pos h6]; simp [*])
                    go_wp2
                    go_round
                    case rel => exact ⟨i + 1, by omega, by omega, by rw [HJ2.out], by go_num, by rw [HF2.out], by rw [HL2.out], by rw [HP2.out] <;> go_num, by go_num⟩
                    case measure => first | (simp [intOf]; done) | (simp [intOf]; omega)
                · have c3f : ((G.length : Int) ≤ 3) = False := eq_false (by omega)
                  have HF2 := Lib.hid (show Ad.fineB v c (i + 1) = false by rw [HFN.out, if_pos h6]; simp [*])
                  go_wp2
                  go_round
                  case rel => exact ⟨i + 1, by omega, by omega, by rw [HJ2.out], by go_num, by rw [HF2.out], by rw [HL2.out], by rw [HP2.out] <;> go_num, by go_num⟩
                  case measure => first | (simp [intOf]; done) | (simp [intOf]; omega)
            · have h6f : ((i : Int) < 6) = False := eq_false (by omega)
              have HF2 := Lib.hid (show Ad.fineB v c (i + 1) = fi by rw [HFN.out, if_neg h6])
              have HL2 := Lib.hid (show Ad.lastN v (i + 1) = la by rw [HLN.out, if_neg h6])
              have HP2 := Lib.hid (show Ad.portN v (i + 1) = po by rw [HPN.out, if_neg h6])
              go_wp2
              go_round
              case rel => exact ⟨i + 1, by omega, by omega, by rw [HJ2.out], by go_num, by rw [HF2.out], by rw [HL2.out], by rw [HP2.out], by go_num⟩
              case measure => simp [intOf]; omega
          · obtain rfl : i = 0 := by omega
            rw [Nat.add_zero] at hcell
            try rw [Nat.add_zero] at hz2
            have s2 := ba_bytes A G
            have HJ2 := Lib.hid (show Ad.joinS v c (0 + 1) = A ++ G by rw [HJ.out, if_neg hi0, List.append_nil])
            generalize A ++ G = E2 at *
            have h6 : (0 : Nat) < 6 := by omega
            have HL2 := Lib.hid (show Ad.lastN v (0 + 1) = vi by rw [HLN.out, if_pos h6])
            have HP2 := Lib.hid (show Ad.portN v (0 + 1) = la * 256 + vi by rw [HPN.out, if_pos h6])
            cases fi
            · skip
              have HF2 := Lib.hid (show Ad.fineB v c (0 + 1) = false by rw [HFN.out, if_pos h6]; simp [*])
              go_wp2
              go_round
              case rel => exact ⟨0 + 1, by omega, by omega, by rw [HJ2.out], by go_num, by rw [HF2.out], by rw [HL2.out], by rw [HP2.out] <;> go_num, by go_num⟩
              case measure => first | (simp [intOf]; done) | (simp [intOf]; omega)
            · by_cases c3 : G.length ≤ 3
              · have c3f : ((G.length : Int) ≤ 3) = True := eq_true (by omega)
                by_cases c4 : vi ≤ 255
                · have c4f : ((vi : Int) ≤ 255) = True := eq_true (by omega)
                  have HF2 := Lib.hid (show Ad.fineB v c (0 + 1) = true by rw [HFN.out, if_pos h6]; simp [*])
                  go_wp2
                  go_round
                  case rel => exact ⟨0 + 1, by omega, by omega, by rw [HJ2.out], by go_num, by rw [HF2.out], by rw [HL2.out], by rw [HP2.out] <;> go_num, by go_num⟩
                  case measure => first | (simp [intOf]; done) | (simp [intOf]; omega)
                · have c4f : ((vi : Int) ≤ 255) = False := eq_false (by omega)
                  have HF2 := Lib.hid (show Ad.fineB v c (0 + 1) = false by rw [HFN.out, if_pos h6]; simp [*])
                  go_wp2
                  go_round
                  case rel => exact ⟨0 + 1, by omega, by omega, by rw [HJ2.out], by go_num, by rw [HF2.out], by rw [HL2.out], by rw [HP2.out] <;> go_num, by go_num⟩
                  case measure => first | (simp [intOf]; done) | (simp [intOf]; omega)
              · have c3f : ((G.length : Int) ≤ 3) = False := eq_false (by omega)
                have HF2 := Lib.hid (show Ad.fineB v c (0 + 1) = false by rw [HFN.out, if_pos h6]; simp [*])
                go_wp2
                go_round
                case rel => exact ⟨0 + 1, by omega, by omega, by rw [HJ2.out], by go_num, by rw [HF2.out], by rw [HL2.out], by rw [HP2.out] <;> go_num, by go_num⟩
                case measure => first | (simp [intOf]; done) | (simp [intOf]; omega)
    · rcases (show ¬ i < nl ∨ (i < nl ∧ ¬ i < 8) by omega) with h | ⟨h, h2⟩
      · have g1 : ¬ (i : Int) < (nl : Int) := by omega
        have HPV := Lib.hid (fun wx => pasv_c ([97, 116, 32] ++ (Ad.joinS v c i ++ [46])) (by simp only [List.length_append, List.length_cons, List.length_nil]; omega) _ (Ad.six_law HV.out HC.out i hi8) wx)
        obtain ⟨A, hA⟩ : ∃ A, Ad.joinS v c i = A := ⟨_, rfl⟩
        obtain ⟨fi, hfi⟩ : ∃ fi, Ad.fineB v c i = fi := ⟨_, rfl⟩
        obtain ⟨po, hpo⟩ : ∃ n, Ad.portN v i = n := ⟨_, rfl⟩
        obtain ⟨la, hla⟩ : ∃ n, Ad.lastN v i = n := ⟨_, rfl⟩
        rw [hA, hfi, hpo, hla]
        rw [hA, hfi, hpo] at HPV
        rw [hA] at hjl
        rw [hpo] at hport
        have zA : (⟨A.toArray⟩ : ByteArray).size = A.length := rfl
        have z3 : (⟨#[97, 116, 32]⟩ : ByteArray).size = 3 := rfl
        have z1 : (⟨#[46]⟩ : ByteArray).size = 1 := rfl
        have s1 : (⟨#[97, 116, 32]⟩ : ByteArray) ++ ⟨A.toArray⟩ = ⟨([97, 116, 32] ++ A).toArray⟩ := ByteArray.mk_append_mk [97, 116, 32] A
        have s2 : (⟨([97, 116, 32] ++ A).toArray⟩ : ByteArray) ++ ⟨#[46]⟩ = ⟨([97, 116, 32] ++ (A ++ [46])).toArray⟩ := by rw [← List.append_assoc]; exact ByteArray.mk_append_mk ([97, 116, 32] ++ A) [46]
        have z4 : (⟨([97, 116, 32] ++ A).toArray⟩ : ByteArray).size = A.length + 3 := by show ([97, 116, 32] ++ A).length = _; simp
        generalize [97, 116, 32] ++ (A ++ [46]) = E2 at *
        generalize [97, 116, 32] ++ A = E1 at *
        have hAl : A.length ≤ 64 := by omega
        clear hA hfi hpo hla hlast hjl
        cases hf : fi
        · skip
          rw [hf, if_neg (by simp)] at HPV
          dsimp only [Option.getD_none, Option.isSome_none, Option.getD_some, Option.isSome_some, ad0] at HPV
          go_wp2_with fail
          refine (HPV.out _).mono ?_
          rintro e v1 ⟨rfl, hb⟩
          have H1 := Lib.hid (show LA w v1 [] from ⟨HB.out.trans (hb.mono HB.out.size), fun p hp => by cases hp⟩)
          have H2 := Lib.hid (H1.out.push 0 0 0 0 0)
          clear hb H1 HPV
          go_wp2_with fail
          generalize hv2 : v1.alloc (.cells #[.int .i64 0, .int .i64 0, .int .i64 0, .int .i64 0, .int .i64 0] 24) = v2 at *
          clear hv2
          refine wp_region_held_drew (S := fun _ => True) (by kernel_rfl) trivial (fun hH => ?_)
          generalize hv3 : v2.drew = v3 at *
          have HB3 := Lib.hid (show Below w.heap.size w v3 by rw [← hv3]; exact H2.out.below.drew)
          clear hv3
          refine heldTake (i := 0) (v := ?_) rfl (by kernel_rfl) (by kernel_rfl) (fun _ _ _ h => h) (by rfl) trivial (fun w hSw => ?_) ?_; rotate_left; focus ((try dsimp only at hSw); go_simp; try with_reducible rfl)
          try simp only [Act.put, List.setIfInBounds_toArray, List.set_cons_zero, List.set_cons_succ]
          refine heldTake (i := 1) (v := ?_) rfl (by kernel_rfl) (by kernel_rfl) (fun _ _ _ h => h) (by rfl) trivial (fun w hSw => ?_) ?_; rotate_left; focus ((try dsimp only at hSw); go_simp; try with_reducible rfl)
          try simp only [Act.put, List.setIfInBounds_toArray, List.set_cons_zero, List.set_cons_succ]
          refine heldTake (i := 2) (v := ?_) rfl (by kernel_rfl) (by kernel_rfl) (fun _ _ _ h => h) (by rfl) trivial (fun w hSw => ?_) ?_; rotate_left; focus ((try dsimp only at hSw); go_simp; try with_reducible rfl)
          try simp only [Act.put, List.setIfInBounds_toArray, List.set_cons_zero, List.set_cons_succ]
          refine heldTake (i := 3) (v := ?_) rfl (by kernel_rfl) (by kernel_rfl) (fun _ _ _ h => h) (by rfl) trivial (fun w hSw => ?_) ?_; rotate_left; focus ((try dsimp only at hSw); go_simp; try with_reducible rfl)
          try simp only [Act.put, List.setIfInBounds_toArray, List.set_cons_zero, List.set_cons_succ]
          refine heldTake (i := 4) (v := ?_) rfl (by kernel_rfl) (by kernel_rfl) (fun _ _ _ h => h) (by rfl) trivial (fun w hSw => ?_) ?_; rotate_left; focus ((try dsimp only at hSw); go_simp; try with_reducible rfl)
          try simp only [Act.put, List.setIfInBounds_toArray, List.set_cons_zero, List.set_cons_succ]
          refine heldSkip (i := 5) rfl (by kernel_rfl) (by kernel_rfl) (fun _ _ _ h => h) (by rfl) trivial ?_
          try simp only [Act.put, List.setIfInBounds_toArray, List.set_cons_zero, List.set_cons_succ]
          refine heldSkip (i := 6) rfl (by kernel_rfl) (by kernel_rfl) (fun _ _ _ h => h) (by rfl) trivial ?_
          try simp only [Act.put, List.setIfInBounds_toArray, List.set_cons_zero, List.set_cons_succ]
          refine heldSkip (i := 7) rfl (by kernel_rfl) (by kernel_rfl) (fun _ _ _ h => h) (by rfl) trivial ?_
          try simp only [Act.put, List.setIfInBounds_toArray, List.set_cons_zero, List.set_cons_succ]
          refine heldSkip (i := 8) rfl (by kernel_rfl) (by kernel_rfl) (fun _ _ _ h => h) (by rfl) trivial ?_
          try simp only [Act.put, List.setIfInBounds_toArray, List.set_cons_zero, List.set_cons_succ]
          refine heldSkip (i := 9) rfl (by kernel_rfl) (by kernel_rfl) (fun _ _ _ h => h) (by rfl) trivial ?_
          try simp only [Act.put, List.setIfInBounds_toArray, List.set_cons_zero, List.set_cons_succ]
          refine heldSkip (i := 10) rfl (by kernel_rfl) (by kernel_rfl) (fun _ _ _ h => h) (by rfl) trivial ?_
          try simp only [Act.put, List.setIfInBounds_toArray, List.set_cons_zero, List.set_cons_succ]
          refine heldSkip (i := 11) rfl (by kernel_rfl) (by kernel_rfl) (fun _ _ _ h => h) (by rfl) trivial ?_
          try simp only [Act.put, List.setIfInBounds_toArray, List.set_cons_zero, List.set_cons_succ]
          refine heldSkip (i := 12) rfl (by kernel_rfl) (by kernel_rfl) (fun _ _ _ h => h) (by rfl) trivial ?_
          try simp only [Act.put, List.setIfInBounds_toArray, List.set_cons_zero, List.set_cons_succ]
          refine heldSkip (i := 13) rfl (by kernel_rfl) (by kernel_rfl) (fun _ _ _ h => h) (by rfl) trivial ?_
          try simp only [Act.put, List.setIfInBounds_toArray, List.set_cons_zero, List.set_cons_succ]
          refine heldSkip (i := 14) rfl (by kernel_rfl) (by kernel_rfl) (fun _ _ _ h => h) (by rfl) trivial ?_
          try simp only [Act.put, List.setIfInBounds_toArray, List.set_cons_zero, List.set_cons_succ]
          refine heldSkip (i := 15) rfl (by kernel_rfl) (by kernel_rfl) (fun _ _ _ h => h) (by rfl) trivial ?_
          try simp only [Act.put, List.setIfInBounds_toArray, List.set_cons_zero, List.set_cons_succ]
          refine heldSkip (i := 16) rfl (by kernel_rfl) (by kernel_rfl) (fun _ _ _ h => h) (by rfl) trivial ?_
          try simp only [Act.put, List.setIfInBounds_toArray, List.set_cons_zero, List.set_cons_succ]
          refine heldSkip (i := 17) rfl (by kernel_rfl) (by kernel_rfl) (fun _ _ _ h => h) (by rfl) trivial ?_
          try simp only [Act.put, List.setIfInBounds_toArray, List.set_cons_zero, List.set_cons_succ]
          refine heldSkip (i := 18) rfl (by kernel_rfl) (by kernel_rfl) (fun _ _ _ h => h) (by rfl) trivial ?_
          try simp only [Act.put, List.setIfInBounds_toArray, List.set_cons_zero, List.set_cons_succ]
          refine heldSkip (i := 19) rfl (by kernel_rfl) (by kernel_rfl) (fun _ _ _ h => h) (by rfl) trivial ?_
          try simp only [Act.put, List.setIfInBounds_toArray, List.set_cons_zero, List.set_cons_succ]
          refine heldSkip (i := 20) rfl (by kernel_rfl) (by kernel_rfl) (fun _ _ _ h => h) (by rfl) trivial ?_
          try simp only [Act.put, List.setIfInBounds_toArray, List.set_cons_zero, List.set_cons_succ]
          refine heldSkip (i := 21) rfl (by kernel_rfl) (by kernel_rfl) (fun _ _ _ h => h) (by rfl) trivial ?_
          try simp only [Act.put, List.setIfInBounds_toArray, List.set_cons_zero, List.set_cons_succ]
          refine heldSkip (i := 22) rfl (by kernel_rfl) (by kernel_rfl) (fun _ _ _ h => h) (by rfl) trivial ?_
          try simp only [Act.put, List.setIfInBounds_toArray, List.set_cons_zero, List.set_cons_succ]
          refine heldSkip (i := 23) rfl (by kernel_rfl) (by kernel_rfl) (fun _ _ _ h => h) (by rfl) trivial ?_
          try simp only [Act.put, List.setIfInBounds_toArray, List.set_cons_zero, List.set_cons_succ]
          refine heldSkip (i := 24) rfl (by kernel_rfl) (by kernel_rfl) (fun _ _ _ h => h) (by rfl) trivial ?_
          try simp only [Act.put, List.setIfInBounds_toArray, List.set_cons_zero, List.set_cons_succ]
          refine heldSkip (i := 25) rfl (by kernel_rfl) (by kernel_rfl) (fun _ _ _ h => h) (by rfl) trivial ?_
          try simp only [Act.put, List.setIfInBounds_toArray, List.set_cons_zero, List.set_cons_succ]
          refine heldSkip (i := 26) rfl (by kernel_rfl) (by kernel_rfl) (fun _ _ _ h => h) (by rfl) trivial ?_
          try simp only [Act.put, List.setIfInBounds_toArray, List.set_cons_zero, List.set_cons_succ]
          refine heldSkip (i := 27) rfl (by kernel_rfl) (by kernel_rfl) (fun _ _ _ h => h) (by rfl) trivial ?_
          try simp only [Act.put, List.setIfInBounds_toArray, List.set_cons_zero, List.set_cons_succ]
          refine heldSkip (i := 28) rfl (by kernel_rfl) (by kernel_rfl) (fun _ _ _ h => h) (by rfl) trivial ?_
          try simp only [Act.put, List.setIfInBounds_toArray, List.set_cons_zero, List.set_cons_succ]
          refine heldSkip (i := 29) rfl (by kernel_rfl) (by kernel_rfl) (fun _ _ _ h => h) (by rfl) trivial ?_
          try simp only [Act.put, List.setIfInBounds_toArray, List.set_cons_zero, List.set_cons_succ]
          refine heldSkip (i := 30) rfl (by kernel_rfl) (by kernel_rfl) (fun _ _ _ h => h) (by rfl) trivial ?_
          try simp only [Act.put, List.setIfInBounds_toArray, List.set_cons_zero, List.set_cons_succ]
          refine heldTake (i := 31) (v := ?_) rfl (by kernel_rfl) (by kernel_rfl) (fun _ _ _ h => h) (by rfl) trivial (fun w hSw => ?_) ?_; rotate_left; focus ((try dsimp only at hSw); go_simp; try with_reducible rfl)
          try simp only [Act.put, List.setIfInBounds_toArray, List.set_cons_zero, List.set_cons_succ]
          refine heldTake (i := 32) (v := ?_) rfl (by kernel_rfl) (by kernel_rfl) (fun _ _ _ h => h) (by rfl) trivial (fun w hSw => ?_) ?_; rotate_left; focus ((try dsimp only at hSw); go_simp; try with_reducible rfl)
          try simp only [Act.put, List.setIfInBounds_toArray, List.set_cons_zero, List.set_cons_succ]
          refine heldTake (i := 33) (v := ?_) rfl (by kernel_rfl) (by kernel_rfl) (fun _ _ _ h => h) (by rfl) trivial (fun w hSw => ?_) ?_; rotate_left; focus ((try dsimp only at hSw); go_simp; try with_reducible rfl)
          try simp only [Act.put, List.setIfInBounds_toArray, List.set_cons_zero, List.set_cons_succ]
          refine wpAnyH_done (by kernel_rfl) ?_ _
          go_wp2
          go_ret
          exact ⟨rfl, HB3.out⟩
        · rw [hf] at HPV
          by_cases hN : 6 ≤ i
          · by_cases hp : 0 < po
            · have h0 : 0 < po := hp
              have h6f : ((6 : Int) ≤ (i : Int)) = True := eq_true (by omega)
              have h0f : ((0 : Int) < (po : Int)) = True := eq_true (by omega)
              have h0g : (0 < po) = True := eq_true h0
              rw [if_pos ⟨rfl, hN, hp⟩] at HPV
              dsimp only [Option.getD_none, Option.isSome_none, Option.getD_some, Option.isSome_some, ad0] at HPV
              go_wp2_with fail
              refine (HPV.out _).mono ?_
              rintro e v1 ⟨rfl, hb⟩
              have H1 := Lib.hid (show LA w v1 [] from ⟨HB.out.trans (hb.mono HB.out.size), fun p hp => by cases hp⟩)
              have H2 := Lib.hid (H1.out.push (v 0 : Int) (v 1 : Int) (v 2 : Int) (v 3 : Int) (po : Int))
              clear hb H1 HPV
              go_wp2_with fail
              generalize hv2 : v1.alloc (.cells #[.int .i64 (v 0 : Int), .int .i64 (v 1 : Int), .int .i64 (v 2 : Int), .int .i64 (v 3 : Int), .int .i64 (po : Int)] 24) = v2 at *
              clear hv2
              obtain ⟨y0, hy0⟩ := HGY.out 0 (by omega)
              obtain ⟨y3, hy3⟩ := HGY.out 3 (by omega)
              obtain ⟨b, o, rfl, hcell0⟩ := HLF.out v2 H2.out.below 0 y0 hy0
              obtain ⟨b', o', hbo, hcell3⟩ := HLF.out v2 H2.out.below 3 y3 hy3
              obtain ⟨rfl, rfl⟩ : b = b' ∧ o = o' := by simpa using hbo
              have x00 := HRG.out 0 y0 hy0
              have x30 := HRG.out 3 y3 hy3
              have a0 : bits .and .u16 y0 1023 = (v 0 : Int) := (mask_u16 10 (by decide) x00.1 (by omega)).trans (HVF.out 0 y0 hy0)
              have a3 : bits .and .u16 y3 1023 = (v 3 : Int) := (mask_u16 10 (by decide) x30.1 (by omega)).trans (HVF.out 3 y3 hy3)
              have hv0 := HV.out 0
              have hv3 := HV.out 3
              have k0 : IntKind.i64.wrap (v 0 : Int) = (v 0 : Int) := wraps_i64 _ (by omega) (by omega)
              have k3 : IntKind.i64.wrap (v 3 : Int) = (v 3 : Int) := wraps_i64 _ (by omega) (by omega)
              have n0 : (0 : Int) < (nl : Int) := by omega
              have n3 : (3 : Int) < (nl : Int) := by omega
              have n0n : 0 < nl := by omega
              have n3n : 3 < nl := by omega
              have A0 := H2.out.at0
              have s0 : v2.cell? ⟨v1.heap.size, 0, none⟩ = some (.int .i64 (v 0 : Int)) ∧ v2.cell? ⟨v1.heap.size, 3, none⟩ = some (.int .i64 (v 3 : Int)) ∧ v2.cell? ⟨v1.heap.size, 4, none⟩ = some (.int .i64 (po : Int)) ∧ v2.cell? ⟨b, o, none⟩ = some (.int .u16 y0) ∧ v2.cell? ⟨b, o + 3, none⟩ = some (.int .u16 y3) := ⟨A0.c0, A0.c3, A0.c4, by simpa using hcell0, hcell3⟩
              have s1 : v2.drew.cell? ⟨v1.heap.size, 0, none⟩ = some (.int .i64 (v 0 : Int)) ∧ v2.drew.cell? ⟨v1.heap.size, 3, none⟩ = some (.int .i64 (v 3 : Int)) ∧ v2.drew.cell? ⟨v1.heap.size, 4, none⟩ = some (.int .i64 (po : Int)) ∧ v2.drew.cell? ⟨b, o, none⟩ = some (.int .u16 y0) ∧ v2.drew.cell? ⟨b, o + 3, none⟩ = some (.int .u16 y3) := s0
              generalize hq0 : v 0 = u0 at *
              generalize hq3 : v 3 = u3 at *
              refine wp_region_held_drew (S := fun v2 => v2.cell? ⟨v1.heap.size, 0, none⟩ = some (.int .i64 (u0 : Int)) ∧ v2.cell? ⟨v1.heap.size, 3, none⟩ = some (.int .i64 (u3 : Int)) ∧ v2.cell? ⟨v1.heap.size, 4, none⟩ = some (.int .i64 (po : Int)) ∧ v2.cell? ⟨b, o, none⟩ = some (.int .u16 y0) ∧ v2.cell? ⟨b, o + 3, none⟩ = some (.int .u16 y3)) (by kernel_rfl) s1 (fun hH => ?_)
              generalize hv3 : v2.drew = wd at *
              have HB3 := Lib.hid (show Below w.heap.size w wd by rw [← hv3]; exact H2.out.below.drew)
              clear hv3 hq0 hq3 A0 hcell0 hcell3 s0 hbo
              refine heldTake (i := 0) (v := ?_) rfl (by kernel_rfl) (by kernel_rfl) (fun _ _ _ h => h) (by rfl) (by assumption) (fun w hSw => ?_) ?_; rotate_left; focus ((try dsimp only at hSw); go_simp; try with_reducible rfl)
              try simp only [Act.put, List.setIfInBounds_toArray, List.set_cons_zero, List.set_cons_succ]
              refine heldTake (i := 1) (v := ?_) rfl (by kernel_rfl) (by kernel_rfl) (fun _ _ _ h => h) (by rfl) (by assumption) (fun w hSw => ?_) ?_; rotate_left; focus ((try dsimp only at hSw); go_simp; try with_reducible rfl)
              try simp only [Act.put, List.setIfInBounds_toArray, List.set_cons_zero, List.set_cons_succ]
              refine heldTake (i := 2) (v := ?_) rfl (by kernel_rfl) (by kernel_rfl) (fun _ _ _ h => h) (by rfl) (by assumption) (fun w hSw => ?_) ?_; rotate_left; focus ((try dsimp only at hSw); go_simp; try with_reducible rfl)
              try simp only [Act.put, List.setIfInBounds_toArray, List.set_cons_zero, List.set_cons_succ]
              refine heldTake (i := 3) (v := ?_) rfl (by kernel_rfl) (by kernel_rfl) (fun _ _ _ h => h) (by rfl) (by assumption) (fun w hSw => ?_) ?_; rotate_left; focus ((try dsimp only at hSw); go_simp; try with_reducible rfl)
              try simp only [Act.put, List.setIfInBounds_toArray, List.set_cons_zero, List.set_cons_succ]
              refine heldTake (i := 4) (v := ?_) rfl (by kernel_rfl) (by kernel_rfl) (fun _ _ _ h => h) (by rfl) (by assumption) (fun w hSw => ?_) ?_; rotate_left; focus ((try dsimp only at hSw); go_simp; try with_reducible rfl)
              try simp only [Act.put, List.setIfInBounds_toArray, List.set_cons_zero, List.set_cons_succ]
              refine heldTake (i := 5) (v := ?_) rfl (by kernel_rfl) (by kernel_rfl) (fun _ _ _ h => h) (by rfl) (by assumption) (fun w hSw => ?_) ?_; rotate_left; focus ((try dsimp only at hSw); go_simp; try with_reducible rfl)
              try simp only [Act.put, List.setIfInBounds_toArray, List.set_cons_zero, List.set_cons_succ]
              refine heldTake (i := 6) (v := ?_) rfl (by kernel_rfl) (by kernel_rfl) (fun _ _ _ h => h) (by rfl) (by assumption) (fun w hSw => ?_) ?_; rotate_left; focus ((try dsimp only at hSw); go_simp; try with_reducible rfl)
              try simp only [Act.put, List.setIfInBounds_toArray, List.set_cons_zero, List.set_cons_succ]
              refine heldTake (i := 7) (v := ?_) rfl (by kernel_rfl) (by kernel_rfl) (fun _ _ _ h => h) (by rfl) (by assumption) (fun w hSw => ?_) ?_; rotate_left; focus ((try dsimp only at hSw); go_simp; try with_reducible rfl)
              try simp only [Act.put, List.setIfInBounds_toArray, List.set_cons_zero, List.set_cons_succ]
              refine heldTake (i := 8) (v := ?_) rfl (by kernel_rfl) (by kernel_rfl) (fun _ _ _ h => h) (by rfl) (by assumption) (fun w hSw => ?_) ?_; rotate_left; focus ((try dsimp only at hSw); go_simp; try with_reducible rfl)
              try simp only [Act.put, List.setIfInBounds_toArray, List.set_cons_zero, List.set_cons_succ]
              refine heldTake (i := 9) (v := ?_) rfl (by kernel_rfl) (by kernel_rfl) (fun _ _ _ h => h) (by rfl) (by assumption) (fun w hSw => ?_) ?_; rotate_left; focus ((try dsimp only at hSw); go_simp; try with_reducible rfl)
              try simp only [Act.put, List.setIfInBounds_toArray, List.set_cons_zero, List.set_cons_succ]
              refine heldTake (i := 10) (v := ?_) rfl (by kernel_rfl) (by kernel_rfl) (fun _ _ _ h => h) (by rfl) (by assumption) (fun w hSw => ?_) ?_; rotate_left; focus ((try dsimp only at hSw); go_simp; try with_reducible rfl)
              try simp only [Act.put, List.setIfInBounds_toArray, List.set_cons_zero, List.set_cons_succ]
              refine heldTake (i := 11) (v := ?_) rfl (by kernel_rfl) (by kernel_rfl) (fun _ _ _ h => h) (by rfl) (by assumption) (fun w hSw => ?_) ?_; rotate_left; focus ((try dsimp only at hSw); go_simp; try with_reducible rfl)
              try simp only [Act.put, List.setIfInBounds_toArray, List.set_cons_zero, List.set_cons_succ]
              refine heldTake (i := 12) (v := ?_) rfl (by kernel_rfl) (by kernel_rfl) (fun _ _ _ h => h) (by rfl) (by assumption) (fun w hSw => ?_) ?_; rotate_left; focus ((try dsimp only at hSw); go_simp; try with_reducible rfl)
              try simp only [Act.put, List.setIfInBounds_toArray, List.set_cons_zero, List.set_cons_succ]
              refine heldTake (i := 13) (v := ?_) rfl (by kernel_rfl) (by kernel_rfl) (fun _ _ _ h => h) (by rfl) (by assumption) (fun w hSw => ?_) ?_; rotate_left; focus ((try dsimp only at hSw); go_simp; try with_reducible rfl)
              try simp only [Act.put, List.setIfInBounds_toArray, List.set_cons_zero, List.set_cons_succ]
              refine heldTake (i := 14) (v := ?_) rfl (by kernel_rfl) (by kernel_rfl) (fun _ _ _ h => h) (by rfl) (by assumption) (fun w hSw => ?_) ?_; rotate_left; focus ((try dsimp only at hSw); go_simp; try with_reducible rfl)
              try simp only [Act.put, List.setIfInBounds_toArray, List.set_cons_zero, List.set_cons_succ]
              refine heldTake (i := 15) (v := ?_) rfl (by kernel_rfl) (by kernel_rfl) (fun _ _ _ h => h) (by rfl) (by assumption) (fun w hSw => ?_) ?_; rotate_left; focus ((try dsimp only at hSw); go_simp; try with_reducible rfl)
              try simp only [Act.put, List.setIfInBounds_toArray, List.set_cons_zero, List.set_cons_succ]
              refine heldTake (i := 16) (v := ?_) rfl (by kernel_rfl) (by kernel_rfl) (fun _ _ _ h => h) (by rfl) (by assumption) (fun w hSw => ?_) ?_; rotate_left; focus ((try dsimp only at hSw); go_simp; try with_reducible rfl)
              try simp only [Act.put, List.setIfInBounds_toArray, List.set_cons_zero, List.set_cons_succ]
              refine heldTake (i := 17) (v := ?_) rfl (by kernel_rfl) (by kernel_rfl) (fun _ _ _ h => h) (by rfl) (by assumption) (fun w hSw => ?_) ?_; rotate_left; focus ((try dsimp only at hSw); go_simp; try with_reducible rfl)
              try simp only [Act.put, List.setIfInBounds_toArray, List.set_cons_zero, List.set_cons_succ]
              refine heldTake (i := 18) (v := ?_) rfl (by kernel_rfl) (by kernel_rfl) (fun _ _ _ h => h) (by rfl) (by assumption) (fun w hSw => ?_) ?_; rotate_left; focus ((try dsimp only at hSw); go_simp; try with_reducible rfl)
              try simp only [Act.put, List.setIfInBounds_toArray, List.set_cons_zero, List.set_cons_succ]
              refine heldTake (i := 19) (v := ?_) rfl (by kernel_rfl) (by kernel_rfl) (fun _ _ _ h => h) (by rfl) (by assumption) (fun w hSw => ?_) ?_; rotate_left; focus ((try dsimp only at hSw); go_simp; try with_reducible rfl)
              try simp only [Act.put, List.setIfInBounds_toArray, List.set_cons_zero, List.set_cons_succ]
              refine heldTake (i := 20) (v := ?_) rfl (by kernel_rfl) (by kernel_rfl) (fun _ _ _ h => h) (by rfl) (by assumption) (fun w hSw => ?_) ?_; rotate_left; focus ((try dsimp only at hSw); go_simp; try with_reducible rfl)
              try simp only [Act.put, List.setIfInBounds_toArray, List.set_cons_zero, List.set_cons_succ]
              refine heldTake (i := 21) (v := ?_) rfl (by kernel_rfl) (by kernel_rfl) (fun _ _ _ h => h) (by rfl) (by assumption) (fun w hSw => ?_) ?_; rotate_left; focus ((try dsimp only at hSw); go_simp; try with_reducible rfl)
              try simp only [Act.put, List.setIfInBounds_toArray, List.set_cons_zero, List.set_cons_succ]
              refine heldTake (i := 22) (v := ?_) rfl (by kernel_rfl) (by kernel_rfl) (fun _ _ _ h => h) (by rfl) (by assumption) (fun w hSw => ?_) ?_; rotate_left; focus ((try dsimp only at hSw); go_simp; try with_reducible rfl)
              try simp only [Act.put, List.setIfInBounds_toArray, List.set_cons_zero, List.set_cons_succ]
              refine heldTake (i := 23) (v := ?_) rfl (by kernel_rfl) (by kernel_rfl) (fun _ _ _ h => h) (by rfl) (by assumption) (fun w hSw => ?_) ?_; rotate_left; focus ((try dsimp only at hSw); go_simp; try with_reducible rfl)
              try simp only [Act.put, List.setIfInBounds_toArray, List.set_cons_zero, List.set_cons_succ]
              refine heldTake (i := 24) (v := ?_) rfl (by kernel_rfl) (by kernel_rfl) (fun _ _ _ h => h) (by rfl) (by assumption) (fun w hSw => ?_) ?_; rotate_left; focus ((try dsimp only at hSw); go_simp; try with_reducible rfl)
              try simp only [Act.put, List.setIfInBounds_toArray, List.set_cons_zero, List.set_cons_succ]
              refine heldTake (i := 25) (v := ?_) rfl (by kernel_rfl) (by kernel_rfl) (fun _ _ _ h => h) (by rfl) (by assumption) (fun w hSw => ?_) ?_; rotate_left; focus ((try dsimp only at hSw); go_simp; try with_reducible rfl)
              try simp only [Act.put, List.setIfInBounds_toArray, List.set_cons_zero, List.set_cons_succ]
              refine heldTake (i := 26) (v := ?_) rfl (by kernel_rfl) (by kernel_rfl) (fun _ _ _ h => h) (by rfl) (by assumption) (fun w hSw => ?_) ?_; rotate_left; focus ((try dsimp only at hSw); go_simp; try with_reducible rfl)
              try simp only [Act.put, List.setIfInBounds_toArray, List.set_cons_zero, List.set_cons_succ]
              refine heldTake (i := 27) (v := ?_) rfl (by kernel_rfl) (by kernel_rfl) (fun _ _ _ h => h) (by rfl) (by assumption) (fun w hSw => ?_) ?_; rotate_left; focus ((try dsimp only at hSw); go_simp; try with_reducible rfl)
              try simp only [Act.put, List.setIfInBounds_toArray, List.set_cons_zero, List.set_cons_succ]
              refine heldTake (i := 28) (v := ?_) rfl (by kernel_rfl) (by kernel_rfl) (fun _ _ _ h => h) (by rfl) (by assumption) (fun w hSw => ?_) ?_; rotate_left; focus ((try dsimp only at hSw); go_simp; try with_reducible rfl)
              try simp only [Act.put, List.setIfInBounds_toArray, List.set_cons_zero, List.set_cons_succ]
              refine heldTake (i := 29) (v := ?_) rfl (by kernel_rfl) (by kernel_rfl) (fun _ _ _ h => h) (by rfl) (by assumption) (fun w hSw => ?_) ?_; rotate_left; focus ((try dsimp only at hSw); go_simp; try with_reducible rfl)
              try simp only [Act.put, List.setIfInBounds_toArray, List.set_cons_zero, List.set_cons_succ]
              refine heldTake (i := 30) (v := ?_) rfl (by kernel_rfl) (by kernel_rfl) (fun _ _ _ h => h) (by rfl) (by assumption) (fun w hSw => ?_) ?_; rotate_left; focus ((try dsimp only at hSw); go_simp; try with_reducible rfl)
              try simp only [Act.put, List.setIfInBounds_toArray, List.set_cons_zero, List.set_cons_succ]
              refine heldTake (i := 31) (v := ?_) rfl (by kernel_rfl) (by kernel_rfl) (fun _ _ _ h => h) (by rfl) (by assumption) (fun w hSw => ?_) ?_; rotate_left; focus ((try dsimp only at hSw); go_simp; try with_reducible rfl)
              try simp only [Act.put, List.setIfInBounds_toArray, List.set_cons_zero, List.set_cons_succ]
              refine heldTake (i := 32) (v := ?_) rfl (by kernel_rfl) (by kernel_rfl) (fun _ _ _ h => h) (by rfl) (by assumption) (fun w hSw => ?_) ?_; rotate_left; focus ((try dsimp only at hSw); go_simp; try with_reducible rfl)
              try simp only [Act.put, List.setIfInBounds_toArray, List.set_cons_zero, List.set_cons_succ]
              refine heldTake (i := 33) (v := ?_) rfl (by kernel_rfl) (by kernel_rfl) (fun _ _ _ h => h) (by rfl) (by assumption) (fun w hSw => ?_) ?_; rotate_left; focus ((try dsimp only at hSw); go_simp; try with_reducible rfl)
              try simp only [Act.put, List.setIfInBounds_toArray, List.set_cons_zero, List.set_cons_succ]
              refine wpAnyH_done (by kernel_rfl) ?_ _
              go_wp2
              go_ret
              exact ⟨rfl, HB3.out⟩
            · have h0 : ¬ 0 < po := hp
              obtain rfl : po = 0 := by omega
              have h6f : ((6 : Int) ≤ (i : Int)) = True := eq_true (by omega)
              rw [if_neg (fun q => h0 q.2.2)] at HPV
              dsimp only [Option.getD_none, Option.isSome_none, Option.getD_some, Option.isSome_some, ad0] at HPV
              go_wp2_with fail
              refine (HPV.out _).mono ?_
              rintro e v1 ⟨rfl, hb⟩
              have H1 := Lib.hid (show LA w v1 [] from ⟨HB.out.trans (hb.mono HB.out.size), fun p hp => by cases hp⟩)
              have H2 := Lib.hid (H1.out.push 0 0 0 0 0)
              clear hb H1 HPV
              go_wp2_with fail
              generalize hv2 : v1.alloc (.cells #[.int .i64 0, .int .i64 0, .int .i64 0, .int .i64 0, .int .i64 0] 24) = v2 at *
              clear hv2
              refine wp_region_held_drew (S := fun _ => True) (by kernel_rfl) trivial (fun hH => ?_)
              generalize hv3 : v2.drew = v3 at *
              have HB3 := Lib.hid (show Below w.heap.size w v3 by rw [← hv3]; exact H2.out.below.drew)
              clear hv3
              refine heldTake (i := 0) (v := ?_) rfl (by kernel_rfl) (by kernel_rfl) (fun _ _ _ h => h) (by rfl) trivial (fun w hSw => ?_) ?_; rotate_left; focus ((try dsimp only at hSw); go_simp; try with_reducible rfl)
              try simp only [Act.put, List.setIfInBounds_toArray, List.set_cons_zero, List.set_cons_succ]
              refine heldTake (i := 1) (v := ?_) rfl (by kernel_rfl) (by kernel_rfl) (fun _ _ _ h => h) (by rfl) trivial (fun w hSw => ?_) ?_; rotate_left; focus ((try dsimp only at hSw); go_simp; try with_reducible rfl)
              try simp only [Act.put, List.setIfInBounds_toArray, List.set_cons_zero, List.set_cons_succ]
              refine heldTake (i := 2) (v := ?_) rfl (by kernel_rfl) (by kernel_rfl) (fun _ _ _ h => h) (by rfl) trivial (fun w hSw => ?_) ?_; rotate_left; focus ((try dsimp only at hSw); go_simp; try with_reducible rfl)
              try simp only [Act.put, List.setIfInBounds_toArray, List.set_cons_zero, List.set_cons_succ]
              refine heldTake (i := 3) (v := ?_) rfl (by kernel_rfl) (by kernel_rfl) (fun _ _ _ h => h) (by rfl) trivial (fun w hSw => ?_) ?_; rotate_left; focus ((try dsimp only at hSw); go_simp; try with_reducible rfl)
              try simp only [Act.put, List.setIfInBounds_toArray, List.set_cons_zero, List.set_cons_succ]
              refine heldTake (i := 4) (v := ?_) rfl (by kernel_rfl) (by kernel_rfl) (fun _ _ _ h => h) (by rfl) trivial (fun w hSw => ?_) ?_; rotate_left; focus ((try dsimp only at hSw); go_simp; try with_reducible rfl)
              try simp only [Act.put, List.setIfInBounds_toArray, List.set_cons_zero, List.set_cons_succ]
              refine heldSkip (i := 5) rfl (by kernel_rfl) (by kernel_rfl) (fun _ _ _ h => h) (by rfl) trivial ?_
              try simp only [Act.put, List.setIfInBounds_toArray, List.set_cons_zero, List.set_cons_succ]
              refine heldSkip (i := 6) rfl (by kernel_rfl) (by kernel_rfl) (fun _ _ _ h => h) (by rfl) trivial ?_
              try simp only [Act.put, List.setIfInBounds_toArray, List.set_cons_zero, List.set_cons_succ]
              refine heldSkip (i := 7) rfl (by kernel_rfl) (by kernel_rfl) (fun _ _ _ h => h) (by rfl) trivial ?_
              try simp only [Act.put, List.setIfInBounds_toArray, List.set_cons_zero, List.set_cons_succ]
              refine heldSkip (i := 8) rfl (by kernel_rfl) (by kernel_rfl) (fun _ _ _ h => h) (by rfl) trivial ?_
              try simp only [Act.put, List.setIfInBounds_toArray, List.set_cons_zero, List.set_cons_succ]
              refine heldSkip (i := 9) rfl (by kernel_rfl) (by kernel_rfl) (fun _ _ _ h => h) (by rfl) trivial ?_
              try simp only [Act.put, List.setIfInBounds_toArray, List.set_cons_zero, List.set_cons_succ]
              refine heldSkip (i := 10) rfl (by kernel_rfl) (by kernel_rfl) (fun _ _ _ h => h) (by rfl) trivial ?_
              try simp only [Act.put, List.setIfInBounds_toArray, List.set_cons_zero, List.set_cons_succ]
              refine heldSkip (i := 11) rfl (by kernel_rfl) (by kernel_rfl) (fun _ _ _ h => h) (by rfl) trivial ?_
              try simp only [Act.put, List.setIfInBounds_toArray, List.set_cons_zero, List.set_cons_succ]
              refine heldSkip (i := 12) rfl (by kernel_rfl) (by kernel_rfl) (fun _ _ _ h => h) (by rfl) trivial ?_
              try simp only [Act.put, List.setIfInBounds_toArray, List.set_cons_zero, List.set_cons_succ]
              refine heldSkip (i := 13) rfl (by kernel_rfl) (by kernel_rfl) (fun _ _ _ h => h) (by rfl) trivial ?_
              try simp only [Act.put, List.setIfInBounds_toArray, List.set_cons_zero, List.set_cons_succ]
              refine heldSkip (i := 14) rfl (by kernel_rfl) (by kernel_rfl) (fun _ _ _ h => h) (by rfl) trivial ?_
              try simp only [Act.put, List.setIfInBounds_toArray, List.set_cons_zero, List.set_cons_succ]
              refine heldSkip (i := 15) rfl (by kernel_rfl) (by kernel_rfl) (fun _ _ _ h => h) (by rfl) trivial ?_
              try simp only [Act.put, List.setIfInBounds_toArray, List.set_cons_zero, List.set_cons_succ]
              refine heldSkip (i := 16) rfl (by kernel_rfl) (by kernel_rfl) (fun _ _ _ h => h) (by rfl) trivial ?_
              try simp only [Act.put, List.setIfInBounds_toArray, List.set_cons_zero, List.set_cons_succ]
              refine heldSkip (i := 17) rfl (by kernel_rfl) (by kernel_rfl) (fun _ _ _ h => h) (by rfl) trivial ?_
              try simp only [Act.put, List.setIfInBounds_toArray, List.set_cons_zero, List.set_cons_succ]
              refine heldSkip (i := 18) rfl (by kernel_rfl) (by kernel_rfl) (fun _ _ _ h => h) (by rfl) trivial ?_
              try simp only [Act.put, List.setIfInBounds_toArray, List.set_cons_zero, List.set_cons_succ]
              refine heldSkip (i := 19) rfl (by kernel_rfl) (by kernel_rfl) (fun _ _ _ h => h) (by rfl) trivial ?_
              try simp only [Act.put, List.setIfInBounds_toArray, List.set_cons_zero, List.set_cons_succ]
              refine heldSkip (i := 20) rfl (by kernel_rfl) (by kernel_rfl) (fun _ _ _ h => h) (by rfl) trivial ?_
              try simp only [Act.put, List.setIfInBounds_toArray, List.set_cons_zero, List.set_cons_succ]
              refine heldSkip (i := 21) rfl (by kernel_rfl) (by kernel_rfl) (fun _ _ _ h => h) (by rfl) trivial ?_
              try simp only [Act.put, List.setIfInBounds_toArray, List.set_cons_zero, List.set_cons_succ]
              refine heldSkip (i := 22) rfl (by kernel_rfl) (by kernel_rfl) (fun _ _ _ h => h) (by rfl) trivial ?_
              try simp only [Act.put, List.setIfInBounds_toArray, List.set_cons_zero, List.set_cons_succ]
              refine heldSkip (i := 23) rfl (by kernel_rfl) (by kernel_rfl) (fun _ _ _ h => h) (by rfl) trivial ?_
              try simp only [Act.put, List.setIfInBounds_toArray, List.set_cons_zero, List.set_cons_succ]
              refine heldSkip (i := 24) rfl (by kernel_rfl) (by kernel_rfl) (fun _ _ _ h => h) (by rfl) trivial ?_
              try simp only [Act.put, List.setIfInBounds_toArray, List.set_cons_zero, List.set_cons_succ]
              refine heldSkip (i := 25) rfl (by kernel_rfl) (by kernel_rfl) (fun _ _ _ h => h) (by rfl) trivial ?_
              try simp only [Act.put, List.setIfInBounds_toArray, List.set_cons_zero, List.set_cons_succ]
              refine heldSkip (i := 26) rfl (by kernel_rfl) (by kernel_rfl) (fun _ _ _ h => h) (by rfl) trivial ?_
              try simp only [Act.put, List.setIfInBounds_toArray, List.set_cons_zero, List.set_cons_succ]
              refine heldSkip (i := 27) rfl (by kernel_rfl) (by kernel_rfl) (fun _ _ _ h => h) (by rfl) trivial ?_
              try simp only [Act.put, List.setIfInBounds_toArray, List.set_cons_zero, List.set_cons_succ]
              refine heldSkip (i := 28) rfl (by kernel_rfl) (by kernel_rfl) (fun _ _ _ h => h) (by rfl) trivial ?_
              try simp only [Act.put, List.setIfInBounds_toArray, List.set_cons_zero, List.set_cons_succ]
              refine heldSkip (i := 29) rfl (by kernel_rfl) (by kernel_rfl) (fun _ _ _ h => h) (by rfl) trivial ?_
              try simp only [Act.put, List.setIfInBounds_toArray, List.set_cons_zero, List.set_cons_succ]
              refine heldSkip (i := 30) rfl (by kernel_rfl) (by kernel_rfl) (fun _ _ _ h => h) (by rfl) trivial ?_
              try simp only [Act.put, List.setIfInBounds_toArray, List.set_cons_zero, List.set_cons_succ]
              refine heldTake (i := 31) (v := ?_) rfl (by kernel_rfl) (by kernel_rfl) (fun _ _ _ h => h) (by rfl) trivial (fun w hSw => ?_) ?_; rotate_left; focus ((try dsimp only at hSw); go_simp; try with_reducible rfl)
              try simp only [Act.put, List.setIfInBounds_toArray, List.set_cons_zero, List.set_cons_succ]
              refine heldTake (i := 32) (v := ?_) rfl (by kernel_rfl) (by kernel_rfl) (fun _ _ _ h => h) (by rfl) trivial (fun w hSw => ?_) ?_; rotate_left; focus ((try dsimp only at hSw); go_simp; try with_reducible rfl)
              try simp only [Act.put, List.setIfInBounds_toArray, List.set_cons_zero, List.set_cons_succ]
              refine heldTake (i := 33) (v := ?_) rfl (by kernel_rfl) (by kernel_rfl) (fun _ _ _ h => h) (by rfl) trivial (fun w hSw => ?_) ?_; rotate_left; focus ((try dsimp only at hSw); go_simp; try with_reducible rfl)
              try simp only [Act.put, List.setIfInBounds_toArray, List.set_cons_zero, List.set_cons_succ]
              refine wpAnyH_done (by kernel_rfl) ?_ _
              go_wp2
              go_ret
              exact ⟨rfl, HB3.out⟩
          · have h6 : ¬ 6 ≤ i := hN
            have h6f : ((6 : Int) ≤ (i : Int)) = False := eq_false (by omega)
            rw [if_neg (fun q => h6 q.2.1)] at HPV
            dsimp only [Option.getD_none, Option.isSome_none, Option.getD_some, Option.isSome_some, ad0] at HPV
            go_wp2_with fail
            refine (HPV.out _).mono ?_
            rintro e v1 ⟨rfl, hb⟩
            have H1 := Lib.hid (show LA w v1 [] from ⟨HB.out.trans (hb.mono HB.out.size), fun p hp => by cases hp⟩)
            have H2 := Lib.hid (H1.out.push 0 0 0 0 0)
            clear hb H1 HPV
            go_wp2_with fail
            generalize hv2 : v1.alloc (.cells #[.int .i64 0, .int .i64 0, .int .i64 0, .int .i64 0, .int .i64 0] 24) = v2 at *
            clear hv2
            refine wp_region_held_drew (S := fun _ => True) (by kernel_rfl) trivial (fun hH => ?_)
            generalize hv3 : v2.drew = v3 at *
            have HB3 := Lib.hid (show Below w.heap.size w v3 by rw [← hv3]; exact H2.out.below.drew)
            clear hv3
            refine heldTake (i := 0) (v := ?_) rfl (by kernel_rfl) (by kernel_rfl) (fun _ _ _ h => h) (by rfl) trivial (fun w hSw => ?_) ?_; rotate_left; focus ((try dsimp only at hSw); go_simp; try with_reducible rfl)
            try simp only [Act.put, List.setIfInBounds_toArray, List.set_cons_zero, List.set_cons_succ]
            refine heldTake (i := 1) (v := ?_) rfl (by kernel_rfl) (by kernel_rfl) (fun _ _ _ h => h) (by rfl) trivial (fun w hSw => ?_) ?_; rotate_left; focus ((try dsimp only at hSw); go_simp; try with_reducible rfl)
            try simp only [Act.put, List.setIfInBounds_toArray, List.set_cons_zero, List.set_cons_succ]
            refine heldTake (i := 2) (v := ?_) rfl (by kernel_rfl) (by kernel_rfl) (fun _ _ _ h => h) (by rfl) trivial (fun w hSw => ?_) ?_; rotate_left; focus ((try dsimp only at hSw); go_simp; try with_reducible rfl)
            try simp only [Act.put, List.setIfInBounds_toArray, List.set_cons_zero, List.set_cons_succ]
            refine heldTake (i := 3) (v := ?_) rfl (by kernel_rfl) (by kernel_rfl) (fun _ _ _ h => h) (by rfl) trivial (fun w hSw => ?_) ?_; rotate_left; focus ((try dsimp only at hSw); go_simp; try with_reducible rfl)
            try simp only [Act.put, List.setIfInBounds_toArray, List.set_cons_zero, List.set_cons_succ]
            refine heldTake (i := 4) (v := ?_) rfl (by kernel_rfl) (by kernel_rfl) (fun _ _ _ h => h) (by rfl) trivial (fun w hSw => ?_) ?_; rotate_left; focus ((try dsimp only at hSw); go_simp; try with_reducible rfl)
            try simp only [Act.put, List.setIfInBounds_toArray, List.set_cons_zero, List.set_cons_succ]
            refine heldSkip (i := 5) rfl (by kernel_rfl) (by kernel_rfl) (fun _ _ _ h => h) (by rfl) trivial ?_
            try simp only [Act.put, List.setIfInBounds_toArray, List.set_cons_zero, List.set_cons_succ]
            refine heldSkip (i := 6) rfl (by kernel_rfl) (by kernel_rfl) (fun _ _ _ h => h) (by rfl) trivial ?_
            try simp only [Act.put, List.setIfInBounds_toArray, List.set_cons_zero, List.set_cons_succ]
            refine heldSkip (i := 7) rfl (by kernel_rfl) (by kernel_rfl) (fun _ _ _ h => h) (by rfl) trivial ?_
            try simp only [Act.put, List.setIfInBounds_toArray, List.set_cons_zero, List.set_cons_succ]
            refine heldSkip (i := 8) rfl (by kernel_rfl) (by kernel_rfl) (fun _ _ _ h => h) (by rfl) trivial ?_
            try simp only [Act.put, List.setIfInBounds_toArray, List.set_cons_zero, List.set_cons_succ]
            refine heldSkip (i := 9) rfl (by kernel_rfl) (by kernel_rfl) (fun _ _ _ h => h) (by rfl) trivial ?_
            try simp only [Act.put, List.setIfInBounds_toArray, List.set_cons_zero, List.set_cons_succ]
            refine heldSkip (i := 10) rfl (by kernel_rfl) (by kernel_rfl) (fun _ _ _ h => h) (by rfl) trivial ?_
            try simp only [Act.put, List.setIfInBounds_toArray, List.set_cons_zero, List.set_cons_succ]
            refine heldSkip (i := 11) rfl (by kernel_rfl) (by kernel_rfl) (fun _ _ _ h => h) (by rfl) trivial ?_
            try simp only [Act.put, List.setIfInBounds_toArray, List.set_cons_zero, List.set_cons_succ]
            refine heldSkip (i := 12) rfl (by kernel_rfl) (by kernel_rfl) (fun _ _ _ h => h) (by rfl) trivial ?_
            try simp only [Act.put, List.setIfInBounds_toArray, List.set_cons_zero, List.set_cons_succ]
            refine heldSkip (i := 13) rfl (by kernel_rfl) (by kernel_rfl) (fun _ _ _ h => h) (by rfl) trivial ?_
            try simp only [Act.put, List.setIfInBounds_toArray, List.set_cons_zero, List.set_cons_succ]
            refine heldSkip (i := 14) rfl (by kernel_rfl) (by kernel_rfl) (fun _ _ _ h => h) (by rfl) trivial ?_
            try simp only [Act.put, List.setIfInBounds_toArray, List.set_cons_zero, List.set_cons_succ]
            refine heldSkip (i := 15) rfl (by kernel_rfl) (by kernel_rfl) (fun _ _ _ h => h) (by rfl) trivial ?_
            try simp only [Act.put, List.setIfInBounds_toArray, List.set_cons_zero, List.set_cons_succ]
            refine heldSkip (i := 16) rfl (by kernel_rfl) (by kernel_rfl) (fun _ _ _ h => h) (by rfl) trivial ?_
            try simp only [Act.put, List.setIfInBounds_toArray, List.set_cons_zero, List.set_cons_succ]
            refine heldSkip (i := 17) rfl (by kernel_rfl) (by kernel_rfl) (fun _ _ _ h => h) (by rfl) trivial ?_
            try simp only [Act.put, List.setIfInBounds_toArray, List.set_cons_zero, List.set_cons_succ]
            refine heldSkip (i := 18) rfl (by kernel_rfl) (by kernel_rfl) (fun _ _ _ h => h) (by rfl) trivial ?_
            try simp only [Act.put, List.setIfInBounds_toArray, List.set_cons_zero, List.set_cons_succ]
            refine heldSkip (i := 19) rfl (by kernel_rfl) (by kernel_rfl) (fun _ _ _ h => h) (by rfl) trivial ?_
            try simp only [Act.put, List.setIfInBounds_toArray, List.set_cons_zero, List.set_cons_succ]
            refine heldSkip (i := 20) rfl (by kernel_rfl) (by kernel_rfl) (fun _ _ _ h => h) (by rfl) trivial ?_
            try simp only [Act.put, List.setIfInBounds_toArray, List.set_cons_zero, List.set_cons_succ]
            refine heldSkip (i := 21) rfl (by kernel_rfl) (by kernel_rfl) (fun _ _ _ h => h) (by rfl) trivial ?_
            try simp only [Act.put, List.setIfInBounds_toArray, List.set_cons_zero, List.set_cons_succ]
            refine heldSkip (i := 22) rfl (by kernel_rfl) (by kernel_rfl) (fun _ _ _ h => h) (by rfl) trivial ?_
            try simp only [Act.put, List.setIfInBounds_toArray, List.set_cons_zero, List.set_cons_succ]
            refine heldSkip (i := 23) rfl (by kernel_rfl) (by kernel_rfl) (fun _ _ _ h => h) (by rfl) trivial ?_
            try simp only [Act.put, List.setIfInBounds_toArray, List.set_cons_zero, List.set_cons_succ]
            refine heldSkip (i := 24) rfl (by kernel_rfl) (by kernel_rfl) (fun _ _ _ h => h) (by rfl) trivial ?_
            try simp only [Act.put, List.setIfInBounds_toArray, List.set_cons_zero, List.set_cons_succ]
            refine heldSkip (i := 25) rfl (by kernel_rfl) (by kernel_rfl) (fun _ _ _ h => h) (by rfl) trivial ?_
            try simp only [Act.put, List.setIfInBounds_toArray, List.set_cons_zero, List.set_cons_succ]
            refine heldSkip (i := 26) rfl (by kernel_rfl) (by kernel_rfl) (fun _ _ _ h => h) (by rfl) trivial ?_
            try simp only [Act.put, List.setIfInBounds_toArray, List.set_cons_zero, List.set_cons_succ]
            refine heldSkip (i := 27) rfl (by kernel_rfl) (by kernel_rfl) (fun _ _ _ h => h) (by rfl) trivial ?_
            try simp only [Act.put, List.setIfInBounds_toArray, List.set_cons_zero, List.set_cons_succ]
            refine heldSkip (i := 28) rfl (by kernel_rfl) (by kernel_rfl) (fun _ _ _ h => h) (by rfl) trivial ?_
            try simp only [Act.put, List.setIfInBounds_toArray, List.set_cons_zero, List.set_cons_succ]
            refine heldSkip (i := 29) rfl (by kernel_rfl) (by kernel_rfl) (fun _ _ _ h => h) (by rfl) trivial ?_
            try simp only [Act.put, List.setIfInBounds_toArray, List.set_cons_zero, List.set_cons_succ]
            refine heldSkip (i := 30) rfl (by kernel_rfl) (by kernel_rfl) (fun _ _ _ h => h) (by rfl) trivial ?_
            try simp only [Act.put, List.setIfInBounds_toArray, List.set_cons_zero, List.set_cons_succ]
            refine heldTake (i := 31) (v := ?_) rfl (by kernel_rfl) (by kernel_rfl) (fun _ _ _ h => h) (by rfl) trivial (fun w hSw => ?_) ?_; rotate_left; focus ((try dsimp only at hSw); go_simp; try with_reducible rfl)
            try simp only [Act.put, List.setIfInBounds_toArray, List.set_cons_zero, List.set_cons_succ]
            refine heldTake (i := 32) (v := ?_) rfl (by kernel_rfl) (by kernel_rfl) (fun _ _ _ h => h) (by rfl) trivial (fun w hSw => ?_) ?_; rotate_left; focus ((try dsimp only at hSw); go_simp; try with_reducible rfl)
            try simp only [Act.put, List.setIfInBounds_toArray, List.set_cons_zero, List.set_cons_succ]
            refine heldTake (i := 33) (v := ?_) rfl (by kernel_rfl) (by kernel_rfl) (fun _ _ _ h => h) (by rfl) trivial (fun w hSw => ?_) ?_; rotate_left; focus ((try dsimp only at hSw); go_simp; try with_reducible rfl)
            try simp only [Act.put, List.setIfInBounds_toArray, List.set_cons_zero, List.set_cons_succ]
            refine wpAnyH_done (by kernel_rfl) ?_ _
            go_wp2
            go_ret
            exact ⟨rfl, HB3.out⟩
      · have g1 : (i : Int) < (nl : Int) := by omega
        have g2 : ¬ (i : Int) < 8 := by omega
        have HPV := Lib.hid (fun wx => pasv_c ([97, 116, 32] ++ (Ad.joinS v c i ++ [46])) (by simp only [List.length_append, List.length_cons, List.length_nil]; omega) _ (Ad.six_law HV.out HC.out i hi8) wx)
        obtain ⟨A, hA⟩ : ∃ A, Ad.joinS v c i = A := ⟨_, rfl⟩
        obtain ⟨fi, hfi⟩ : ∃ fi, Ad.fineB v c i = fi := ⟨_, rfl⟩
        obtain ⟨po, hpo⟩ : ∃ n, Ad.portN v i = n := ⟨_, rfl⟩
        obtain ⟨la, hla⟩ : ∃ n, Ad.lastN v i = n := ⟨_, rfl⟩
        rw [hA, hfi, hpo, hla]
        rw [hA, hfi, hpo] at HPV
        rw [hA] at hjl
        rw [hpo] at hport
        have zA : (⟨A.toArray⟩ : ByteArray).size = A.length := rfl
        have z3 : (⟨#[97, 116, 32]⟩ : ByteArray).size = 3 := rfl
        have z1 : (⟨#[46]⟩ : ByteArray).size = 1 := rfl
        have s1 : (⟨#[97, 116, 32]⟩ : ByteArray) ++ ⟨A.toArray⟩ = ⟨([97, 116, 32] ++ A).toArray⟩ := ByteArray.mk_append_mk [97, 116, 32] A
        have s2 : (⟨([97, 116, 32] ++ A).toArray⟩ : ByteArray) ++ ⟨#[46]⟩ = ⟨([97, 116, 32] ++ (A ++ [46])).toArray⟩ := by rw [← List.append_assoc]; exact ByteArray.mk_append_mk ([97, 116, 32] ++ A) [46]
        have z4 : (⟨([97, 116, 32] ++ A).toArray⟩ : ByteArray).size = A.length + 3 := by show ([97, 116, 32] ++ A).length = _; simp
        generalize [97, 116, 32] ++ (A ++ [46]) = E2 at *
        generalize [97, 116, 32] ++ A = E1 at *
        have hAl : A.length ≤ 64 := by omega
        clear hA hfi hpo hla hlast hjl
        cases hf : fi
        · skip
          rw [hf, if_neg (by simp)] at HPV
          dsimp only [Option.getD_none, Option.isSome_none, Option.getD_some, Option.isSome_some, ad0] at HPV
          go_wp2_with fail
          refine (HPV.out _).mono ?_
          rintro e v1 ⟨rfl, hb⟩
          have H1 := Lib.hid (show LA w v1 [] from ⟨HB.out.trans (hb.mono HB.out.size), fun p hp => by cases hp⟩)
          have H2 := Lib.hid (H1.out.push 0 0 0 0 0)
          clear hb H1 HPV
          go_wp2_with fail
          generalize hv2 : v1.alloc (.cells #[.int .i64 0, .int .i64 0, .int .i64 0, .int .i64 0, .int .i64 0] 24) = v2 at *
          clear hv2
          refine wp_region_held_drew (S := fun _ => True) (by kernel_rfl) trivial (fun hH => ?_)
          generalize hv3 : v2.drew = v3 at *
          have HB3 := Lib.hid (show Below w.heap.size w v3 by rw [← hv3]; exact H2.out.below.drew)
          clear hv3
          refine heldTake (i := 0) (v := ?_) rfl (by kernel_rfl) (by kernel_rfl) (fun _ _ _ h => h) (by rfl) trivial (fun w hSw => ?_) ?_; rotate_left; focus ((try dsimp only at hSw); go_simp; try with_reducible rfl)
          try simp only [Act.put, List.setIfInBounds_toArray, List.set_cons_zero, List.set_cons_succ]
          refine heldTake (i := 1) (v := ?_) rfl (by kernel_rfl) (by kernel_rfl) (fun _ _ _ h => h) (by rfl) trivial (fun w hSw => ?_) ?_; rotate_left; focus ((try dsimp only at hSw); go_simp; try with_reducible rfl)
          try simp only [Act.put, List.setIfInBounds_toArray, List.set_cons_zero, List.set_cons_succ]
          refine heldTake (i := 2) (v := ?_) rfl (by kernel_rfl) (by kernel_rfl) (fun _ _ _ h => h) (by rfl) trivial (fun w hSw => ?_) ?_; rotate_left; focus ((try dsimp only at hSw); go_simp; try with_reducible rfl)
          try simp only [Act.put, List.setIfInBounds_toArray, List.set_cons_zero, List.set_cons_succ]
          refine heldTake (i := 3) (v := ?_) rfl (by kernel_rfl) (by kernel_rfl) (fun _ _ _ h => h) (by rfl) trivial (fun w hSw => ?_) ?_; rotate_left; focus ((try dsimp only at hSw); go_simp; try with_reducible rfl)
          try simp only [Act.put, List.setIfInBounds_toArray, List.set_cons_zero, List.set_cons_succ]
          refine heldTake (i := 4) (v := ?_) rfl (by kernel_rfl) (by kernel_rfl) (fun _ _ _ h => h) (by rfl) trivial (fun w hSw => ?_) ?_; rotate_left; focus ((try dsimp only at hSw); go_simp; try with_reducible rfl)
          try simp only [Act.put, List.setIfInBounds_toArray, List.set_cons_zero, List.set_cons_succ]
          refine heldSkip (i := 5) rfl (by kernel_rfl) (by kernel_rfl) (fun _ _ _ h => h) (by rfl) trivial ?_
          try simp only [Act.put, List.setIfInBounds_toArray, List.set_cons_zero, List.set_cons_succ]
          refine heldSkip (i := 6) rfl (by kernel_rfl) (by kernel_rfl) (fun _ _ _ h => h) (by rfl) trivial ?_
          try simp only [Act.put, List.setIfInBounds_toArray, List.set_cons_zero, List.set_cons_succ]
          refine heldSkip (i := 7) rfl (by kernel_rfl) (by kernel_rfl) (fun _ _ _ h => h) (by rfl) trivial ?_
          try simp only [Act.put, List.setIfInBounds_toArray, List.set_cons_zero, List.set_cons_succ]
          refine heldSkip (i := 8) rfl (by kernel_rfl) (by kernel_rfl) (fun _ _ _ h => h) (by rfl) trivial ?_
          try simp only [Act.put, List.setIfInBounds_toArray, List.set_cons_zero, List.set_cons_succ]
          refine heldSkip (i := 9) rfl (by kernel_rfl) (by kernel_rfl) (fun _ _ _ h => h) (by rfl) trivial ?_
          try simp only [Act.put, List.setIfInBounds_toArray, List.set_cons_zero, List.set_cons_succ]
          refine heldSkip (i := 10) rfl (by kernel_rfl) (by kernel_rfl) (fun _ _ _ h => h) (by rfl) trivial ?_
          try simp only [Act.put, List.setIfInBounds_toArray, List.set_cons_zero, List.set_cons_succ]
          refine heldSkip (i := 11) rfl (by kernel_rfl) (by kernel_rfl) (fun _ _ _ h => h) (by rfl) trivial ?_
          try simp only [Act.put, List.setIfInBounds_toArray, List.set_cons_zero, List.set_cons_succ]
          refine heldSkip (i := 12) rfl (by kernel_rfl) (by kernel_rfl) (fun _ _ _ h => h) (by rfl) trivial ?_
          try simp only [Act.put, List.setIfInBounds_toArray, List.set_cons_zero, List.set_cons_succ]
          refine heldSkip (i := 13) rfl (by kernel_rfl) (by kernel_rfl) (fun _ _ _ h => h) (by rfl) trivial ?_
          try simp only [Act.put, List.setIfInBounds_toArray, List.set_cons_zero, List.set_cons_succ]
          refine heldSkip (i := 14) rfl (by kernel_rfl) (by kernel_rfl) (fun _ _ _ h => h) (by rfl) trivial ?_
          try simp only [Act.put, List.setIfInBounds_toArray, List.set_cons_zero, List.set_cons_succ]
          refine heldSkip (i := 15) rfl (by kernel_rfl) (by kernel_rfl) (fun _ _ _ h => h) (by rfl) trivial ?_
          try simp only [Act.put, List.setIfInBounds_toArray, List.set_cons_zero, List.set_cons_succ]
          refine heldSkip (i := 16) rfl (by kernel_rfl) (by kernel_rfl) (fun _ _ _ h => h) (by rfl) trivial ?_
          try simp only [Act.put, List.setIfInBounds_toArray, List.set_cons_zero, List.set_cons_succ]
          refine heldSkip (i := 17) rfl (by kernel_rfl) (by kernel_rfl) (fun _ _ _ h => h) (by rfl) trivial ?_
          try simp only [Act.put, List.setIfInBounds_toArray, List.set_cons_zero, List.set_cons_succ]
          refine heldSkip (i := 18) rfl (by kernel_rfl) (by kernel_rfl) (fun _ _ _ h => h) (by rfl) trivial ?_
          try simp only [Act.put, List.setIfInBounds_toArray, List.set_cons_zero, List.set_cons_succ]
          refine heldSkip (i := 19) rfl (by kernel_rfl) (by kernel_rfl) (fun _ _ _ h => h) (by rfl) trivial ?_
          try simp only [Act.put, List.setIfInBounds_toArray, List.set_cons_zero, List.set_cons_succ]
          refine heldSkip (i := 20) rfl (by kernel_rfl) (by kernel_rfl) (fun _ _ _ h => h) (by rfl) trivial ?_
          try simp only [Act.put, List.setIfInBounds_toArray, List.set_cons_zero, List.set_cons_succ]
          refine heldSkip (i := 21) rfl (by kernel_rfl) (by kernel_rfl) (fun _ _ _ h => h) (by rfl) trivial ?_
          try simp only [Act.put, List.setIfInBounds_toArray, List.set_cons_zero, List.set_cons_succ]
          refine heldSkip (i := 22) rfl (by kernel_rfl) (by kernel_rfl) (fun _ _ _ h => h) (by rfl) trivial ?_
          try simp only [Act.put, List.setIfInBounds_toArray, List.set_cons_zero, List.set_cons_succ]
          refine heldSkip (i := 23) rfl (by kernel_rfl) (by kernel_rfl) (fun _ _ _ h => h) (by rfl) trivial ?_
          try simp only [Act.put, List.setIfInBounds_toArray, List.set_cons_zero, List.set_cons_succ]
          refine heldSkip (i := 24) rfl (by kernel_rfl) (by kernel_rfl) (fun _ _ _ h => h) (by rfl) trivial ?_
          try simp only [Act.put, List.setIfInBounds_toArray, List.set_cons_zero, List.set_cons_succ]
          refine heldSkip (i := 25) rfl (by kernel_rfl) (by kernel_rfl) (fun _ _ _ h => h) (by rfl) trivial ?_
          try simp only [Act.put, List.setIfInBounds_toArray, List.set_cons_zero, List.set_cons_succ]
          refine heldSkip (i := 26) rfl (by kernel_rfl) (by kernel_rfl) (fun _ _ _ h => h) (by rfl) trivial ?_
          try simp only [Act.put, List.setIfInBounds_toArray, List.set_cons_zero, List.set_cons_succ]
          refine heldSkip (i := 27) rfl (by kernel_rfl) (by kernel_rfl) (fun _ _ _ h => h) (by rfl) trivial ?_
          try simp only [Act.put, List.setIfInBounds_toArray, List.set_cons_zero, List.set_cons_succ]
          refine heldSkip (i := 28) rfl (by kernel_rfl) (by kernel_rfl) (fun _ _ _ h => h) (by rfl) trivial ?_
          try simp only [Act.put, List.setIfInBounds_toArray, List.set_cons_zero, List.set_cons_succ]
          refine heldSkip (i := 29) rfl (by kernel_rfl) (by kernel_rfl) (fun _ _ _ h => h) (by rfl) trivial ?_
          try simp only [Act.put, List.setIfInBounds_toArray, List.set_cons_zero, List.set_cons_succ]
          refine heldSkip (i := 30) rfl (by kernel_rfl) (by kernel_rfl) (fun _ _ _ h => h) (by rfl) trivial ?_
          try simp only [Act.put, List.setIfInBounds_toArray, List.set_cons_zero, List.set_cons_succ]
          refine heldTake (i := 31) (v := ?_) rfl (by kernel_rfl) (by kernel_rfl) (fun _ _ _ h => h) (by rfl) trivial (fun w hSw => ?_) ?_; rotate_left; focus ((try dsimp only at hSw); go_simp; try with_reducible rfl)
          try simp only [Act.put, List.setIfInBounds_toArray, List.set_cons_zero, List.set_cons_succ]
          refine heldTake (i := 32) (v := ?_) rfl (by kernel_rfl) (by kernel_rfl) (fun _ _ _ h => h) (by rfl) trivial (fun w hSw => ?_) ?_; rotate_left; focus ((try dsimp only at hSw); go_simp; try with_reducible rfl)
          try simp only [Act.put, List.setIfInBounds_toArray, List.set_cons_zero, List.set_cons_succ]
          refine heldTake (i := 33) (v := ?_) rfl (by kernel_rfl) (by kernel_rfl) (fun _ _ _ h => h) (by rfl) trivial (fun w hSw => ?_) ?_; rotate_left; focus ((try dsimp only at hSw); go_simp; try with_reducible rfl)
          try simp only [Act.put, List.setIfInBounds_toArray, List.set_cons_zero, List.set_cons_succ]
          refine wpAnyH_done (by kernel_rfl) ?_ _
          go_wp2
          go_ret
          exact ⟨rfl, HB3.out⟩
        · rw [hf] at HPV
          by_cases hN : 6 ≤ i
          · by_cases hp : 0 < po
            · have h0 : 0 < po := hp
              have h6f : ((6 : Int) ≤ (i : Int)) = True := eq_true (by omega)
              have h0f : ((0 : Int) < (po : Int)) = True := eq_true (by omega)
              have h0g : (0 < po) = True := eq_true h0
              rw [if_pos ⟨rfl, hN, hp⟩] at HPV
              dsimp only [Option.getD_none, Option.isSome_none, Option.getD_some, Option.isSome_some, ad0] at HPV
              go_wp2_with fail
              refine (HPV.out _).mono ?_
              rintro e v1 ⟨rfl, hb⟩
              have H1 := Lib.hid (show LA w v1 [] from ⟨HB.out.trans (hb.mono HB.out.size), fun p hp => by cases hp⟩)
              have H2 := Lib.hid (H1.out.push (v 0 : Int) (v 1 : Int) (v 2 : Int) (v 3 : Int) (po : Int))
              clear hb H1 HPV
              go_wp2_with fail
              generalize hv2 : v1.alloc (.cells #[.int .i64 (v 0 : Int), .int .i64 (v 1 : Int), .int .i64 (v 2 : Int), .int .i64 (v 3 : Int), .int .i64 (po : Int)] 24) = v2 at *
              clear hv2
              obtain ⟨y0, hy0⟩ := HGY.out 0 (by omega)
              obtain ⟨y3, hy3⟩ := HGY.out 3 (by omega)
              obtain ⟨b, o, rfl, hcell0⟩ := HLF.out v2 H2.out.below 0 y0 hy0
              obtain ⟨b', o', hbo, hcell3⟩ := HLF.out v2 H2.out.below 3 y3 hy3
              obtain ⟨rfl, rfl⟩ : b = b' ∧ o = o' := by simpa using hbo
              have x00 := HRG.out 0 y0 hy0
              have x30 := HRG.out 3 y3 hy3
              have a0 : bits .and .u16 y0 1023 = (v 0 : Int) := (mask_u16 10 (by decide) x00.1 (by omega)).trans (HVF.out 0 y0 hy0)
              have a3 : bits .and .u16 y3 1023 = (v 3 : Int) := (mask_u16 10 (by decide) x30.1 (by omega)).trans (HVF.out 3 y3 hy3)
              have hv0 := HV.out 0
              have hv3 := HV.out 3
              have k0 : IntKind.i64.wrap (v 0 : Int) = (v 0 : Int) := wraps_i64 _ (by omega) (by omega)
              have k3 : IntKind.i64.wrap (v 3 : Int) = (v 3 : Int) := wraps_i64 _ (by omega) (by omega)
              have n0 : (0 : Int) < (nl : Int) := by omega
              have n3 : (3 : Int) < (nl : Int) := by omega
              have n0n : 0 < nl := by omega
              have n3n : 3 < nl := by omega
              have A0 := H2.out.at0
              have s0 : v2.cell? ⟨v1.heap.size, 0, none⟩ = some (.int .i64 (v 0 : Int)) ∧ v2.cell? ⟨v1.heap.size, 3, none⟩ = some (.int .i64 (v 3 : Int)) ∧ v2.cell? ⟨v1.heap.size, 4, none⟩ = some (.int .i64 (po : Int)) ∧ v2.cell? ⟨b, o, none⟩ = some (.int .u16 y0) ∧ v2.cell? ⟨b, o + 3, none⟩ = some (.int .u16 y3) := ⟨A0.c0, A0.c3, A0.c4, by simpa using hcell0, hcell3⟩
              have s1 : v2.drew.cell? ⟨v1.heap.size, 0, none⟩ = some (.int .i64 (v 0 : Int)) ∧ v2.drew.cell? ⟨v1.heap.size, 3, none⟩ = some (.int .i64 (v 3 : Int)) ∧ v2.drew.cell? ⟨v1.heap.size, 4, none⟩ = some (.int .i64 (po : Int)) ∧ v2.drew.cell? ⟨b, o, none⟩ = some (.int .u16 y0) ∧ v2.drew.cell? ⟨b, o + 3, none⟩ = some (.int .u16 y3) := s0
              generalize hq0 : v 0 = u0 at *
              generalize hq3 : v 3 = u3 at *
              refine wp_region_held_drew (S := fun v2 => v2.cell? ⟨v1.heap.size, 0, none⟩ = some (.int .i64 (u0 : Int)) ∧ v2.cell? ⟨v1.heap.size, 3, none⟩ = some (.int .i64 (u3 : Int)) ∧ v2.cell? ⟨v1.heap.size, 4, none⟩ = some (.int .i64 (po : Int)) ∧ v2.cell? ⟨b, o, none⟩ = some (.int .u16 y0) ∧ v2.cell? ⟨b, o + 3, none⟩ = some (.int .u16 y3)) (by kernel_rfl) s1 (fun hH => ?_)
              generalize hv3 : v2.drew = wd at *
              have HB3 := Lib.hid (show Below w.heap.size w wd by rw [← hv3]; exact H2.out.below.drew)
              clear hv3 hq0 hq3 A0 hcell0 hcell3 s0 hbo
              refine heldTake (i := 0) (v := ?_) rfl (by kernel_rfl) (by kernel_rfl) (fun _ _ _ h => h) (by rfl) (by assumption) (fun w hSw => ?_) ?_; rotate_left; focus ((try dsimp only at hSw); go_simp; try with_reducible rfl)
              try simp only [Act.put, List.setIfInBounds_toArray, List.set_cons_zero, List.set_cons_succ]
              refine heldTake (i := 1) (v := ?_) rfl (by kernel_rfl) (by kernel_rfl) (fun _ _ _ h => h) (by rfl) (by assumption) (fun w hSw => ?_) ?_; rotate_left; focus ((try dsimp only at hSw); go_simp; try with_reducible rfl)
              try simp only [Act.put, List.setIfInBounds_toArray, List.set_cons_zero, List.set_cons_succ]
              refine heldTake (i := 2) (v := ?_) rfl (by kernel_rfl) (by kernel_rfl) (fun _ _ _ h => h) (by rfl) (by assumption) (fun w hSw => ?_) ?_; rotate_left; focus ((try dsimp only at hSw); go_simp; try with_reducible rfl)
              try simp only [Act.put, List.setIfInBounds_toArray, List.set_cons_zero, List.set_cons_succ]
              refine heldTake (i := 3) (v := ?_) rfl (by kernel_rfl) (by kernel_rfl) (fun _ _ _ h => h) (by rfl) (by assumption) (fun w hSw => ?_) ?_; rotate_left; focus ((try dsimp only at hSw); go_simp; try with_reducible rfl)
              try simp only [Act.put, List.setIfInBounds_toArray, List.set_cons_zero, List.set_cons_succ]
              refine heldTake (i := 4) (v := ?_) rfl (by kernel_rfl) (by kernel_rfl) (fun _ _ _ h => h) (by rfl) (by assumption) (fun w hSw => ?_) ?_; rotate_left; focus ((try dsimp only at hSw); go_simp; try with_reducible rfl)
              try simp only [Act.put, List.setIfInBounds_toArray, List.set_cons_zero, List.set_cons_succ]
              refine heldTake (i := 5) (v := ?_) rfl (by kernel_rfl) (by kernel_rfl) (fun _ _ _ h => h) (by rfl) (by assumption) (fun w hSw => ?_) ?_; rotate_left; focus ((try dsimp only at hSw); go_simp; try with_reducible rfl)
              try simp only [Act.put, List.setIfInBounds_toArray, List.set_cons_zero, List.set_cons_succ]
              refine heldTake (i := 6) (v := ?_) rfl (by kernel_rfl) (by kernel_rfl) (fun _ _ _ h => h) (by rfl) (by assumption) (fun w hSw => ?_) ?_; rotate_left; focus ((try dsimp only at hSw); go_simp; try with_reducible rfl)
              try simp only [Act.put, List.setIfInBounds_toArray, List.set_cons_zero, List.set_cons_succ]
              refine heldTake (i := 7) (v := ?_) rfl (by kernel_rfl) (by kernel_rfl) (fun _ _ _ h => h) (by rfl) (by assumption) (fun w hSw => ?_) ?_; rotate_left; focus ((try dsimp only at hSw); go_simp; try with_reducible rfl)
              try simp only [Act.put, List.setIfInBounds_toArray, List.set_cons_zero, List.set_cons_succ]
              refine heldTake (i := 8) (v := ?_) rfl (by kernel_rfl) (by kernel_rfl) (fun _ _ _ h => h) (by rfl) (by assumption) (fun w hSw => ?_) ?_; rotate_left; focus ((try dsimp only at hSw); go_simp; try with_reducible rfl)
              try simp only [Act.put, List.setIfInBounds_toArray, List.set_cons_zero, List.set_cons_succ]
              refine heldTake (i := 9) (v := ?_) rfl (by kernel_rfl) (by kernel_rfl) (fun _ _ _ h => h) (by rfl) (by assumption) (fun w hSw => ?_) ?_; rotate_left; focus ((try dsimp only at hSw); go_simp; try with_reducible rfl)
              try simp only [Act.put, List.setIfInBounds_toArray, List.set_cons_zero, List.set_cons_succ]
              refine heldTake (i := 10) (v := ?_) rfl (by kernel_rfl) (by kernel_rfl) (fun _ _ _ h => h) (by rfl) (by assumption) (fun w hSw => ?_) ?_; rotate_left; focus ((try dsimp only at hSw); go_simp; try with_reducible rfl)
              try simp only [Act.put, List.setIfInBounds_toArray, List.set_cons_zero, List.set_cons_succ]
              refine heldTake (i := 11) (v := ?_) rfl (by kernel_rfl) (by kernel_rfl) (fun _ _ _ h => h) (by rfl) (by assumption) (fun w hSw => ?_) ?_; rotate_left; focus ((try dsimp only at hSw); go_simp; try with_reducible rfl)
              try simp only [Act.put, List.setIfInBounds_toArray, List.set_cons_zero, List.set_cons_succ]
              refine heldTake (i := 12) (v := ?_) rfl (by kernel_rfl) (by kernel_rfl) (fun _ _ _ h => h) (by rfl) (by assumption) (fun w hSw => ?_) ?_; rotate_left; focus ((try dsimp only at hSw); go_simp; try with_reducible rfl)
              try simp only [Act.put, List.setIfInBounds_toArray, List.set_cons_zero, List.set_cons_succ]
              refine heldTake (i := 13) (v := ?_) rfl (by kernel_rfl) (by kernel_rfl) (fun _ _ _ h => h) (by rfl) (by assumption) (fun w hSw => ?_) ?_; rotate_left; focus ((try dsimp only at hSw); go_simp; try with_reducible rfl)
              try simp only [Act.put, List.setIfInBounds_toArray, List.set_cons_zero, List.set_cons_succ]
              refine heldTake (i := 14) (v := ?_) rfl (by kernel_rfl) (by kernel_rfl) (fun _ _ _ h => h) (by rfl) (by assumption) (fun w hSw => ?_) ?_; rotate_left; focus ((try dsimp only at hSw); go_simp; try with_reducible rfl)
              try simp only [Act.put, List.setIfInBounds_toArray, List.set_cons_zero, List.set_cons_succ]
              refine heldTake (i := 15) (v := ?_) rfl (by kernel_rfl) (by kernel_rfl) (fun _ _ _ h => h) (by rfl) (by assumption) (fun w hSw => ?_) ?_; rotate_left; focus ((try dsimp only at hSw); go_simp; try with_reducible rfl)
              try simp only [Act.put, List.setIfInBounds_toArray, List.set_cons_zero, List.set_cons_succ]
              refine heldTake (i := 16) (v := ?_) rfl (by kernel_rfl) (by kernel_rfl) (fun _ _ _ h => h) (by rfl) (by assumption) (fun w hSw => ?_) ?_; rotate_left; focus ((try dsimp only at hSw); go_simp; try with_reducible rfl)
              try simp only [Act.put, List.setIfInBounds_toArray, List.set_cons_zero, List.set_cons_succ]
              refine heldTake (i := 17) (v := ?_) rfl (by kernel_rfl) (by kernel_rfl) (fun _ _ _ h => h) (by rfl) (by assumption) (fun w hSw => ?_) ?_; rotate_left; focus ((try dsimp only at hSw); go_simp; try with_reducible rfl)
              try simp only [Act.put, List.setIfInBounds_toArray, List.set_cons_zero, List.set_cons_succ]
              refine heldTake (i := 18) (v := ?_) rfl (by kernel_rfl) (by kernel_rfl) (fun _ _ _ h => h) (by rfl) (by assumption) (fun w hSw => ?_) ?_; rotate_left; focus ((try dsimp only at hSw); go_simp; try with_reducible rfl)
              try simp only [Act.put, List.setIfInBounds_toArray, List.set_cons_zero, List.set_cons_succ]
              refine heldTake (i := 19) (v := ?_) rfl (by kernel_rfl) (by kernel_rfl) (fun _ _ _ h => h) (by rfl) (by assumption) (fun w hSw => ?_) ?_; rotate_left; focus ((try dsimp only at hSw); go_simp; try with_reducible rfl)
              try simp only [Act.put, List.setIfInBounds_toArray, List.set_cons_zero, List.set_cons_succ]
              refine heldTake (i := 20) (v := ?_) rfl (by kernel_rfl) (by kernel_rfl) (fun _ _ _ h => h) (by rfl) (by assumption) (fun w hSw => ?_) ?_; rotate_left; focus ((try dsimp only at hSw); go_simp; try with_reducible rfl)
              try simp only [Act.put, List.setIfInBounds_toArray, List.set_cons_zero, List.set_cons_succ]
              refine heldTake (i := 21) (v := ?_) rfl (by kernel_rfl) (by kernel_rfl) (fun _ _ _ h => h) (by rfl) (by assumption) (fun w hSw => ?_) ?_; rotate_left; focus ((try dsimp only at hSw); go_simp; try with_reducible rfl)
              try simp only [Act.put, List.setIfInBounds_toArray, List.set_cons_zero, List.set_cons_succ]
              refine heldTake (i := 22) (v := ?_) rfl (by kernel_rfl) (by kernel_rfl) (fun _ _ _ h => h) (by rfl) (by assumption) (fun w hSw => ?_) ?_; rotate_left; focus ((try dsimp only at hSw); go_simp; try with_reducible rfl)
              try simp only [Act.put, List.setIfInBounds_toArray, List.set_cons_zero, List.set_cons_succ]
              refine heldTake (i := 23) (v := ?_) rfl (by kernel_rfl) (by kernel_rfl) (fun _ _ _ h => h) (by rfl) (by assumption) (fun w hSw => ?_) ?_; rotate_left; focus ((try dsimp only at hSw); go_simp; try with_reducible rfl)
              try simp only [Act.put, List.setIfInBounds_toArray, List.set_cons_zero, List.set_cons_succ]
              refine heldTake (i := 24) (v := ?_) rfl (by kernel_rfl) (by kernel_rfl) (fun _ _ _ h => h) (by rfl) (by assumption) (fun w hSw => ?_) ?_; rotate_left; focus ((try dsimp only at hSw); go_simp; try with_reducible rfl)
              try simp only [Act.put, List.setIfInBounds_toArray, List.set_cons_zero, List.set_cons_succ]
              refine heldTake (i := 25) (v := ?_) rfl (by kernel_rfl) (by kernel_rfl) (fun _ _ _ h => h) (by rfl) (by assumption) (fun w hSw => ?_) ?_; rotate_left; focus ((try dsimp only at hSw); go_simp; try with_reducible rfl)
              try simp only [Act.put, List.setIfInBounds_toArray, List.set_cons_zero, List.set_cons_succ]
              refine heldTake (i := 26) (v := ?_) rfl (by kernel_rfl) (by kernel_rfl) (fun _ _ _ h => h) (by rfl) (by assumption) (fun w hSw => ?_) ?_; rotate_left; focus ((try dsimp only at hSw); go_simp; try with_reducible rfl)
              try simp only [Act.put, List.setIfInBounds_toArray, List.set_cons_zero, List.set_cons_succ]
              refine heldTake (i := 27) (v := ?_) rfl (by kernel_rfl) (by kernel_rfl) (fun _ _ _ h => h) (by rfl) (by assumption) (fun w hSw => ?_) ?_; rotate_left; focus ((try dsimp only at hSw); go_simp; try with_reducible rfl)
              try simp only [Act.put, List.setIfInBounds_toArray, List.set_cons_zero, List.set_cons_succ]
              refine heldTake (i := 28) (v := ?_) rfl (by kernel_rfl) (by kernel_rfl) (fun _ _ _ h => h) (by rfl) (by assumption) (fun w hSw => ?_) ?_; rotate_left; focus ((try dsimp only at hSw); go_simp; try with_reducible rfl)
              try simp only [Act.put, List.setIfInBounds_toArray, List.set_cons_zero, List.set_cons_succ]
              refine heldTake (i := 29) (v := ?_) rfl (by kernel_rfl) (by kernel_rfl) (fun _ _ _ h => h) (by rfl) (by assumption) (fun w hSw => ?_) ?_; rotate_left; focus ((try dsimp only at hSw); go_simp; try with_reducible rfl)
              try simp only [Act.put, List.setIfInBounds_toArray, List.set_cons_zero, List.set_cons_succ]
              refine heldTake (i := 30) (v := ?_) rfl (by kernel_rfl) (by kernel_rfl) (fun _ _ _ h => h) (by rfl) (by assumption) (fun w hSw => ?_) ?_; rotate_left; focus ((try dsimp only at hSw); go_simp; try with_reducible rfl)
              try simp only [Act.put, List.setIfInBounds_toArray, List.set_cons_zero, List.set_cons_succ]
              refine heldTake (i := 31) (v := ?_) rfl (by kernel_rfl) (by kernel_rfl) (fun _ _ _ h => h) (by rfl) (by assumption) (fun w hSw => ?_) ?_; rotate_left; focus ((try dsimp only at hSw); go_simp; try with_reducible rfl)
              try simp only [Act.put, List.setIfInBounds_toArray, List.set_cons_zero, List.set_cons_succ]
              refine heldTake (i := 32) (v := ?_) rfl (by kernel_rfl) (by kernel_rfl) (fun _ _ _ h => h) (by rfl) (by assumption) (fun w hSw => ?_) ?_; rotate_left; focus ((try dsimp only at hSw); go_simp; try with_reducible rfl)
              try simp only [Act.put, List.setIfInBounds_toArray, List.set_cons_zero, List.set_cons_succ]
              refine heldTake (i := 33) (v := ?_) rfl (by kernel_rfl) (by kernel_rfl) (fun _ _ _ h => h) (by rfl) (by assumption) (fun w hSw => ?_) ?_; rotate_left; focus ((try dsimp only at hSw); go_simp; try with_reducible rfl)
              try simp only [Act.put, List.setIfInBounds_toArray, List.set_cons_zero, List.set_cons_succ]
              refine wpAnyH_done (by kernel_rfl) ?_ _
              go_wp2
              go_ret
              exact ⟨rfl, HB3.out⟩
            · have h0 : ¬ 0 < po := hp
              obtain rfl : po = 0 := by omega
              have h6f : ((6 : Int) ≤ (i : Int)) = True := eq_true (by omega)
              rw [if_neg (fun q => h0 q.2.2)] at HPV
              dsimp only [Option.getD_none, Option.isSome_none, Option.getD_some, Option.isSome_some, ad0] at HPV
              go_wp2_with fail
              refine (HPV.out _).mono ?_
              rintro e v1 ⟨rfl, hb⟩
              have H1 := Lib.hid (show LA w v1 [] from ⟨HB.out.trans (hb.mono HB.out.size), fun p hp => by cases hp⟩)
              have H2 := Lib.hid (H1.out.push 0 0 0 0 0)
              clear hb H1 HPV
              go_wp2_with fail
              generalize hv2 : v1.alloc (.cells #[.int .i64 0, .int .i64 0, .int .i64 0, .int .i64 0, .int .i64 0] 24) = v2 at *
              clear hv2
              refine wp_region_held_drew (S := fun _ => True) (by kernel_rfl) trivial (fun hH => ?_)
              generalize hv3 : v2.drew = v3 at *
              have HB3 := Lib.hid (show Below w.heap.size w v3 by rw [← hv3]; exact H2.out.below.drew)
              clear hv3
              refine heldTake (i := 0) (v := ?_) rfl (by kernel_rfl) (by kernel_rfl) (fun _ _ _ h => h) (by rfl) trivial (fun w hSw => ?_) ?_; rotate_left; focus ((try dsimp only at hSw); go_simp; try with_reducible rfl)
              try simp only [Act.put, List.setIfInBounds_toArray, List.set_cons_zero, List.set_cons_succ]
              refine heldTake (i := 1) (v := ?_) rfl (by kernel_rfl) (by kernel_rfl) (fun _ _ _ h => h) (by rfl) trivial (fun w hSw => ?_) ?_; rotate_left; focus ((try dsimp only at hSw); go_simp; try with_reducible rfl)
              try simp only [Act.put, List.setIfInBounds_toArray, List.set_cons_zero, List.set_cons_succ]
              refine heldTake (i := 2) (v := ?_) rfl (by kernel_rfl) (by kernel_rfl) (fun _ _ _ h => h) (by rfl) trivial (fun w hSw => ?_) ?_; rotate_left; focus ((try dsimp only at hSw); go_simp; try with_reducible rfl)
              try simp only [Act.put, List.setIfInBounds_toArray, List.set_cons_zero, List.set_cons_succ]
              refine heldTake (i := 3) (v := ?_) rfl (by kernel_rfl) (by kernel_rfl) (fun _ _ _ h => h) (by rfl) trivial (fun w hSw => ?_) ?_; rotate_left; focus ((try dsimp only at hSw); go_simp; try with_reducible rfl)
              try simp only [Act.put, List.setIfInBounds_toArray, List.set_cons_zero, List.set_cons_succ]
              refine heldTake (i := 4) (v := ?_) rfl (by kernel_rfl) (by kernel_rfl) (fun _ _ _ h => h) (by rfl) trivial (fun w hSw => ?_) ?_; rotate_left; focus ((try dsimp only at hSw); go_simp; try with_reducible rfl)
              try simp only [Act.put, List.setIfInBounds_toArray, List.set_cons_zero, List.set_cons_succ]
              refine heldSkip (i := 5) rfl (by kernel_rfl) (by kernel_rfl) (fun _ _ _ h => h) (by rfl) trivial ?_
              try simp only [Act.put, List.setIfInBounds_toArray, List.set_cons_zero, List.set_cons_succ]
              refine heldSkip (i := 6) rfl (by kernel_rfl) (by kernel_rfl) (fun _ _ _ h => h) (by rfl) trivial ?_
              try simp only [Act.put, List.setIfInBounds_toArray, List.set_cons_zero, List.set_cons_succ]
              refine heldSkip (i := 7) rfl (by kernel_rfl) (by kernel_rfl) (fun _ _ _ h => h) (by rfl) trivial ?_
              try simp only [Act.put, List.setIfInBounds_toArray, List.set_cons_zero, List.set_cons_succ]
              refine heldSkip (i := 8) rfl (by kernel_rfl) (by kernel_rfl) (fun _ _ _ h => h) (by rfl) trivial ?_
              try simp only [Act.put, List.setIfInBounds_toArray, List.set_cons_zero, List.set_cons_succ]
              refine heldSkip (i := 9) rfl (by kernel_rfl) (by kernel_rfl) (fun _ _ _ h => h) (by rfl) trivial ?_
              try simp only [Act.put, List.setIfInBounds_toArray, List.set_cons_zero, List.set_cons_succ]
              refine heldSkip (i := 10) rfl (by kernel_rfl) (by kernel_rfl) (fun _ _ _ h => h) (by rfl) trivial ?_
              try simp only [Act.put, List.setIfInBounds_toArray, List.set_cons_zero, List.set_cons_succ]
              refine heldSkip (i := 11) rfl (by kernel_rfl) (by kernel_rfl) (fun _ _ _ h => h) (by rfl) trivial ?_
              try simp only [Act.put, List.setIfInBounds_toArray, List.set_cons_zero, List.set_cons_succ]
              refine heldSkip (i := 12) rfl (by kernel_rfl) (by kernel_rfl) (fun _ _ _ h => h) (by rfl) trivial ?_
              try simp only [Act.put, List.setIfInBounds_toArray, List.set_cons_zero, List.set_cons_succ]
              refine heldSkip (i := 13) rfl (by kernel_rfl) (by kernel_rfl) (fun _ _ _ h => h) (by rfl) trivial ?_
              try simp only [Act.put, List.setIfInBounds_toArray, List.set_cons_zero, List.set_cons_succ]
              refine heldSkip (i := 14) rfl (by kernel_rfl) (by kernel_rfl) (fun _ _ _ h => h) (by rfl) trivial ?_
              try simp only [Act.put, List.setIfInBounds_toArray, List.set_cons_zero, List.set_cons_succ]
              refine heldSkip (i := 15) rfl (by kernel_rfl) (by kernel_rfl) (fun _ _ _ h => h) (by rfl) trivial ?_
              try simp only [Act.put, List.setIfInBounds_toArray, List.set_cons_zero, List.set_cons_succ]
              refine heldSkip (i := 16) rfl (by kernel_rfl) (by kernel_rfl) (fun _ _ _ h => h) (by rfl) trivial ?_
              try simp only [Act.put, List.setIfInBounds_toArray, List.set_cons_zero, List.set_cons_succ]
              refine heldSkip (i := 17) rfl (by kernel_rfl) (by kernel_rfl) (fun _ _ _ h => h) (by rfl) trivial ?_
              try simp only [Act.put, List.setIfInBounds_toArray, List.set_cons_zero, List.set_cons_succ]
              refine heldSkip (i := 18) rfl (by kernel_rfl) (by kernel_rfl) (fun _ _ _ h => h) (by rfl) trivial ?_
              try simp only [Act.put, List.setIfInBounds_toArray, List.set_cons_zero, List.set_cons_succ]
              refine heldSkip (i := 19) rfl (by kernel_rfl) (by kernel_rfl) (fun _ _ _ h => h) (by rfl) trivial ?_
              try simp only [Act.put, List.setIfInBounds_toArray, List.set_cons_zero, List.set_cons_succ]
              refine heldSkip (i := 20) rfl (by kernel_rfl) (by kernel_rfl) (fun _ _ _ h => h) (by rfl) trivial ?_
              try simp only [Act.put, List.setIfInBounds_toArray, List.set_cons_zero, List.set_cons_succ]
              refine heldSkip (i := 21) rfl (by kernel_rfl) (by kernel_rfl) (fun _ _ _ h => h) (by rfl) trivial ?_
              try simp only [Act.put, List.setIfInBounds_toArray, List.set_cons_zero, List.set_cons_succ]
              refine heldSkip (i := 22) rfl (by kernel_rfl) (by kernel_rfl) (fun _ _ _ h => h) (by rfl) trivial ?_
              try simp only [Act.put, List.setIfInBounds_toArray, List.set_cons_zero, List.set_cons_succ]
              refine heldSkip (i := 23) rfl (by kernel_rfl) (by kernel_rfl) (fun _ _ _ h => h) (by rfl) trivial ?_
              try simp only [Act.put, List.setIfInBounds_toArray, List.set_cons_zero, List.set_cons_succ]
              refine heldSkip (i := 24) rfl (by kernel_rfl) (by kernel_rfl) (fun _ _ _ h => h) (by rfl) trivial ?_
              try simp only [Act.put, List.setIfInBounds_toArray, List.set_cons_zero, List.set_cons_succ]
              refine heldSkip (i := 25) rfl (by kernel_rfl) (by kernel_rfl) (fun _ _ _ h => h) (by rfl) trivial ?_
              try simp only [Act.put, List.setIfInBounds_toArray, List.set_cons_zero, List.set_cons_succ]
              refine heldSkip (i := 26) rfl (by kernel_rfl) (by kernel_rfl) (fun _ _ _ h => h) (by rfl) trivial ?_
              try simp only [Act.put, List.setIfInBounds_toArray, List.set_cons_zero, List.set_cons_succ]
              refine heldSkip (i := 27) rfl (by kernel_rfl) (by kernel_rfl) (fun _ _ _ h => h) (by rfl) trivial ?_
              try simp only [Act.put, List.setIfInBounds_toArray, List.set_cons_zero, List.set_cons_succ]
              refine heldSkip (i := 28) rfl (by kernel_rfl) (by kernel_rfl) (fun _ _ _ h => h) (by rfl) trivial ?_
              try simp only [Act.put, List.setIfInBounds_toArray, List.set_cons_zero, List.set_cons_succ]
              refine heldSkip (i := 29) rfl (by kernel_rfl) (by kernel_rfl) (fun _ _ _ h => h) (by rfl) trivial ?_
              try simp only [Act.put, List.setIfInBounds_toArray, List.set_cons_zero, List.set_cons_succ]
              refine heldSkip (i := 30) rfl (by kernel_rfl) (by kernel_rfl) (fun _ _ _ h => h) (by rfl) trivial ?_
              try simp only [Act.put, List.setIfInBounds_toArray, List.set_cons_zero, List.set_cons_succ]
              refine heldTake (i := 31) (v := ?_) rfl (by kernel_rfl) (by kernel_rfl) (fun _ _ _ h => h) (by rfl) trivial (fun w hSw => ?_) ?_; rotate_left; focus ((try dsimp only at hSw); go_simp; try with_reducible rfl)
              try simp only [Act.put, List.setIfInBounds_toArray, List.set_cons_zero, List.set_cons_succ]
              refine heldTake (i := 32) (v := ?_) rfl (by kernel_rfl) (by kernel_rfl) (fun _ _ _ h => h) (by rfl) trivial (fun w hSw => ?_) ?_; rotate_left; focus ((try dsimp only at hSw); go_simp; try with_reducible rfl)
              try simp only [Act.put, List.setIfInBounds_toArray, List.set_cons_zero, List.set_cons_succ]
              refine heldTake (i := 33) (v := ?_) rfl (by kernel_rfl) (by kernel_rfl) (fun _ _ _ h => h) (by rfl) trivial (fun w hSw => ?_) ?_; rotate_left; focus ((try dsimp only at hSw); go_simp; try with_reducible rfl)
              try simp only [Act.put, List.setIfInBounds_toArray, List.set_cons_zero, List.set_cons_succ]
              refine wpAnyH_done (by kernel_rfl) ?_ _
              go_wp2
              go_ret
              exact ⟨rfl, HB3.out⟩
          · exact absurd (show 6 ≤ i by omega) hN
end Go.Proofs.YtonophhhndhhhaaDoor
