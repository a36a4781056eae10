/- The law VarsSets walked (layer 16). Laid by wip/tools/gen_lsets.py. -/
import Derived.Test.YtkpahkcamgmlnaaDoorLawPlainV
namespace Go.Proofs.YtkpahkcamgmlnaaDoor
open Go.RowKit

namespace Va
def xyx : List UInt8 := [36, 120, 36, 121, 36, 120]
theorem parts_xyx : parts xyx = some [.n [120], .n [121], .n [120]] := by decide +kernel
theorem expand_xyx (σ : Env) (Y : List UInt8) (h : ∀ c ∈ Y, c ≠ 36) : expand σ (Y ++ xyx) = (fill σ [.n [120], .n [121], .n [120]]).map (Y ++ ·) := by
  unfold expand
  rw [parts_bare Y _ h, parts_xyx]
  show fill σ (Y.map Pt.b ++ _) = _
  rw [fill_bytes]
theorem early : expand [] [36, 120] = none := by decide +kernel
theorem sets_ok (σ : Env) (x v : List UInt8) (h : v.length ≤ 1000) (hn : look σ x ≠ none ∨ σ.length < 16) : set σ x v = (put σ x v, 0) := by
  unfold set
  rw [if_neg (by omega), if_neg]
  rintro ⟨h1, h2⟩
  rcases hn with hn | hn
  · exact hn h1
  · omega
theorem sets_no (σ : Env) (x v : List UInt8) (h : 1000 < v.length) : set σ x v = (σ, 71) := by
  unfold set
  rw [if_pos h]
theorem fill_xyx (v : List UInt8) : fill [([120], v), ([121], [119])] [.n [120], .n [121], .n [120]] = some (v ++ ([119] ++ v)) := by
  rw [fill, fill, fill, fill]
  show some (v ++ ([119] ++ (v ++ []))) = _
  rw [List.append_nil]
theorem fill_no : fill [([121], [119])] [.n [120], .n [121], .n [120]] = none := rfl
end Va

set_option maxRecDepth 20000 in
set_option maxHeartbeats 8000000 in
theorem lawSetsV (s0 s1 s2 : ByteArray) (hs0 : s0.size ≤ maxLen) (hs1 : s1.size ≤ maxLen) (hs2 : s2.size ≤ maxLen) (w : World) :
    Calls Tryd.prog 5 #[.string s0, .string s1, .string s2] w fun e w' => e = .returned (.bool true) ∧ Below w.heap.size w w' := by
  have hsh0 := short_any s0 hs0 1100 (by decide)
  have hsh1 := short_any s1 hs1 1100 (by decide)
  obtain ⟨A, hA⟩ : ∃ A, A = s0.data.toList.take 1100 := ⟨_, rfl⟩
  obtain ⟨B, hB⟩ : ∃ B, B = s1.data.toList.take 1100 := ⟨_, rfl⟩
  rw [← hA] at hsh0
  rw [← hB] at hsh1
  have hAl : A.length ≤ 1100 := by rw [hA, List.length_take]; omega
  have hBl : B.length ≤ 1100 := by rw [hB, List.length_take]; omega
  obtain ⟨t, rfl⟩ : ∃ t : List UInt8, s2 = ⟨t.toArray⟩ := ⟨s2.data.toList, rfl⟩
  obtain ⟨L, hL⟩ : ∃ L, L = t.length := ⟨_, rfl⟩
  have hz : (⟨t.toArray⟩ : ByteArray).size = L := hL.symm
  have hLm : L ≤ maxLen := by rw [← hz]; exact hs2
  unfold maxLen at hLm
  have hzA : (⟨A.toArray⟩ : ByteArray).size = A.length := rfl
  have hzB : (⟨B.toArray⟩ : ByteArray).size = B.length := rfl
  have HL := Lib.hid hL
  have HSH0 := Lib.hid hsh0
  have HSH1 := Lib.hid hsh1
  clear hsh0 hsh1 hA hB hL hs0 hs1 hs2
  go_enter Tryd.func5, Tryd.ntmps5
  go_wp2_with fail
  refine (shown_any w).mono ?_
  rintro e wa ⟨rfl, hba⟩
  have HBA := Lib.hid hba
  clear hba
  go_wp2_with fail
  refine (HSH0.out _).mono ?_
  rintro e wb ⟨rfl, rfl⟩
  go_wp2_with fail
  refine (HSH1.out _).mono ?_
  rintro e wb ⟨rfl, rfl⟩
  go_wp2
  go_loopw [8, 9] (fun s8 s9 wr => ∃ (k : Nat) (Y : List UInt8), s8 = .string ⟨Y.toArray⟩ ∧ s9 = .int .i64 k ∧ k ≤ L ∧ k ≤ 100 ∧ Y.length ≤ k ∧ wr = wa ∧ Hid (Y = Va.bare (t.take k))) (fun _ s9 _ => L - (intOf s9).toNat)
  case atStart => exact ⟨0, [], rfl, rfl, Nat.zero_le _, Nat.zero_le _, Nat.zero_le _, rfl, Lib.hid rfl⟩
  case round =>
    obtain ⟨k, Y, rfl, rfl, hk, hk100, hY, rfl, HY⟩ := hrel
    have hzY : (⟨Y.toArray⟩ : ByteArray).size = Y.length := rfl
    by_cases hlt : k < L ∧ k < 100
    · have hkt : k < t.length := by rw [← HL.out]; exact hlt.1
      have hx1 := ext_one t k hkt
      have hck : ∀ h, (⟨t.toArray⟩ : ByteArray)[k]'h = t.getD k 0 := fun h => byte_at _ _ _
      have hsn := take_snoc_at hkt
      generalize t.getD k 0 = c at hx1 hck hsn
      have hki : ((k : Int) < (L : Int)) := by omega
      have hki2 : ((k : Int) < 100) := by omega
      have hk1 : (k : Int) + 1 ≤ (L : Int) := by omega
      have hcatY : (⟨Y.toArray⟩ : ByteArray) ++ ⟨#[c]⟩ = ⟨(Y ++ [c]).toArray⟩ := ByteArray.mk_append_mk Y [c]
      have hz1 : (⟨#[c]⟩ : ByteArray).size = 1 := rfl
      have hovY : (9223372036854775807 < Y.length + 1) = False := eq_false (by omega)
      have HSN := Lib.hid hsn
      obtain ⟨hlt1, hlt2⟩ := hlt
      clear hsn hkt
      by_cases hc : c = 36
      · subst hc
        have h36 : ((36 : UInt8).toNat : Int) = 36 := rfl
        have HN : Hid (Y = Va.bare (t.take (k + 1))) := Lib.hid (by rw [HSN.out, Va.bare_snoc, if_pos rfl, List.append_nil]; exact HY.out)
        go_wp2
        go_roundw
        case rel => exact ⟨k + 1, Y, rfl, by go_num, by omega, by omega, by omega, trivial, HN⟩
        case measure => simp [intOf]; omega
      · have hc1 : ((c.toNat : Int) == 36) = false := beq_eq_false_iff_ne.2 (fun e => hc (UInt8.toNat_inj.1 (by show c.toNat = 36; omega)))
        have hc2 : ((c.toNat : Int) = 36) = False := eq_false (fun e => hc (UInt8.toNat_inj.1 (by show c.toNat = 36; omega)))
        have HN : Hid (Y ++ [c] = Va.bare (t.take (k + 1))) := Lib.hid (by rw [HSN.out, Va.bare_snoc, if_neg hc, ← HY.out])
        clear hc
        go_wp2
        go_roundw
        case rel => exact ⟨k + 1, Y ++ [c], by first | rfl | simp only [hcatY], by go_num, by omega, by omega, by simp; omega, trivial, HN⟩
        case measure => simp [intOf]; omega
    · have HNO := Lib.hid (show ∀ c ∈ Y, c ≠ 36 from by rw [HY.out]; exact Va.bare_no _)
      obtain ⟨T1, hT1⟩ : ∃ T1, T1 = Y ++ [36, 120, 36, 121] := ⟨_, rfl⟩
      have hcT1 : (⟨Y.toArray⟩ : ByteArray) ++ ⟨#[36, 120, 36, 121]⟩ = ⟨T1.toArray⟩ := by rw [hT1]; exact ByteArray.mk_append_mk Y [36, 120, 36, 121]
      obtain ⟨T2, hT2⟩ : ∃ T2, T2 = Y ++ Va.xyx := ⟨_, rfl⟩
      have hcT2 : (⟨T1.toArray⟩ : ByteArray) ++ ⟨#[36, 120]⟩ = ⟨T2.toArray⟩ := by
        rw [hT1, hT2]
        exact (ByteArray.mk_append_mk (Y ++ [36, 120, 36, 121]) [36, 120]).trans (by rw [List.append_assoc]; rfl)
      have hzT1 : (⟨T1.toArray⟩ : ByteArray).size = Y.length + 4 := by show T1.length = _; rw [hT1]; simp
      have hz4 : (⟨#[36, 120, 36, 121]⟩ : ByteArray).size = 4 := rfl
      have hz2 : (⟨#[36, 120]⟩ : ByteArray).size = 2 := rfl
      have hov1 : (9223372036854775807 < Y.length + 4) = False := eq_false (by omega)
      have hov2 : (9223372036854775807 < Y.length + 4 + 2) = False := eq_false (by omega)
      have hT2l : T2.length ≤ 10000 := by rw [hT2]; simp [Va.xyx]; omega
      have HT2 := Lib.hid hT2
      have hemp : ((⟨#[]⟩ : ByteArray).toList == (⟨#[]⟩ : ByteArray).toList) = true := beq_self_eq_true _
      have hse : ∀ V : List UInt8, ((⟨V.toArray⟩ : ByteArray).toList == (⟨V.toArray⟩ : ByteArray).toList) = true := fun V => beq_self_eq_true _
      have HEND : Hid ((k < L ∧ (k < 100) = False) ∨ (k < L) = False) := Lib.hid (by
        by_cases h1 : k < L
        · exact .inl ⟨h1, eq_false (fun h2 => hlt ⟨h1, h2⟩)⟩
        · exact .inr (eq_false h1))
      clear hT1 hT2 hlt hk HY
      by_cases hA1 : A.length ≤ 1000
      · by_cases hB1 : B.length ≤ 1000
        · skip
          have HSA := Lib.hid (show Va.set [] [120] A = ([([120], A)], 0) from Va.sets_ok _ _ _ hA1 (.inr (by decide)))
          have HSB := Lib.hid (show Va.set [([120], A)] [120] B = ([([120], B)], 0) from (Va.sets_ok _ _ _ hB1 (.inr (by show 1 < 16; decide))).trans (by rw [Va.put, if_pos rfl]))
          have HSY := Lib.hid (show Va.set [([120], B)] [121] [119] = ([([120], B), ([121], [119])], 0) from (Va.sets_ok _ _ _ (by decide) (.inr (by show 1 < 16; decide))).trans (by rfl))
          have HLK := Lib.hid (show Va.look [([120], B), ([121], [119])] [120] = some B from rfl)
          have HXP := Lib.hid (show Va.expand [([120], B), ([121], [119])] T2 = some (Y ++ (B ++ ([119] ++ B))) from by rw [HT2.out, Va.expand_xyx _ _ HNO.out, Va.fill_xyx]; rfl)
          obtain ⟨R1, hR1⟩ : ∃ R1, R1 = Y ++ B := ⟨_, rfl⟩
          have hcR1 : (⟨Y.toArray⟩ : ByteArray) ++ ⟨B.toArray⟩ = ⟨R1.toArray⟩ := by rw [hR1]; exact ByteArray.mk_append_mk Y B
          have hzR1 : (⟨R1.toArray⟩ : ByteArray).size = Y.length + B.length := by show R1.length = _; rw [hR1]; simp
          obtain ⟨R2, hR2⟩ : ∃ R2, R2 = R1 ++ [119] := ⟨_, rfl⟩
          have hcR2 : (⟨R1.toArray⟩ : ByteArray) ++ ⟨#[119]⟩ = ⟨R2.toArray⟩ := by rw [hR2]; exact ByteArray.mk_append_mk R1 [119]
          have hzR2 : (⟨R2.toArray⟩ : ByteArray).size = Y.length + B.length + 1 := by show R2.length = _; rw [hR2, hR1]; simp; omega
          obtain ⟨R, hR⟩ : ∃ R, R = Y ++ (B ++ ([119] ++ B)) := ⟨_, rfl⟩
          have hcR : (⟨R2.toArray⟩ : ByteArray) ++ ⟨B.toArray⟩ = ⟨R.toArray⟩ := by rw [hR, hR2, hR1]; exact (ByteArray.mk_append_mk (Y ++ B ++ [119]) B).trans (by simp [List.append_assoc])
          have hz119 : (⟨#[119]⟩ : ByteArray).size = 1 := rfl
          have hov3 : (9223372036854775807 < Y.length + B.length) = False := eq_false (by omega)
          have hov4 : (9223372036854775807 < Y.length + B.length + 1) = False := eq_false (by omega)
          have hov5 : (9223372036854775807 < Y.length + B.length + 1 + B.length) = False := eq_false (by omega)
          have heR := hse R
          have heV := hse B
          rw [← hR] at HXP
          clear hR hR1 hR2
          have hAi : (((A.length : Nat) : Int) ≤ 1000) = True := eq_true (by omega)
          have hBi : (((B.length : Nat) : Int) ≤ 1000) = True := eq_true (by omega)
          clear hse hA1 hB1 HNO HT2
          rcases HEND.out with ⟨hend1, hend2⟩ | hend
          case inl =>
            have hend1i : ((k : Int) < (L : Int)) = True := eq_true (by omega)
            have hend2i : ((k : Int) < 100) = False := eq_false (by rw [eq_iff_iff, iff_false] at hend2; omega)
            clear hend1 hend2 HEND
            go_wp2_with fail
            refine (vnew_own _).mono ?_
            rintro e w1 ⟨b, rfl, h1, _⟩
            have H1 := Lib.hid h1
            clear h1
            go_wp2_with fail
            have hex : Calls Tryd.prog 18 #[.pointer (some ⟨b, 0, none⟩), .string ⟨#[36, 120]⟩] w1 fun e w' => e = .returned (.tuple #[.string ⟨#[]⟩, .bool false]) ∧ Below w1.heap.size w1 w' := by
              have h9 := vexpand_any H1.out.vo [36, 120] (by decide)
              rw [Va.early] at h9
              exact h9
            refine hex.mono ?_
            rintro e w2 ⟨rfl, hb2⟩
            have H2 := Lib.hid (H1.out.later hb2)
            clear hb2 H1 hex
            go_wp2_with fail
            refine (vset_own H2.out [120] A (by decide) (by omega)).mono ?_
            rintro e w3 ⟨x3, rfl, h3⟩
            rw [HSA.out] at h3 ⊢
            have H3 := Lib.hid h3
            clear h3 H2
            go_wp2_with fail
            refine (vset_own H3.out [120] B (by decide) (by omega)).mono ?_
            rintro e w4 ⟨x4, rfl, h4⟩
            rw [HSB.out] at h4 ⊢
            have H4 := Lib.hid h4
            clear h4 H3
            go_wp2_with fail
            refine (vset_own H4.out [121] [119] (by decide) (by decide)).mono ?_
            rintro e w5 ⟨x5, rfl, h5⟩
            rw [HSY.out] at h5 ⊢
            have H5 := Lib.hid (show VN _ w5 b x5 [([120], B), ([121], [119])] from h5)
            clear h5 H4
            go_wp2_with fail
            have hgt : Calls Tryd.prog 16 #[.pointer (some ⟨b, 0, none⟩), .string ⟨#[120]⟩] w5 fun e w' => e = .returned (.tuple #[.string ⟨B.toArray⟩, .bool true]) ∧ Below w5.heap.size w5 w' := by
              have h9 := vget_any H5.out.vo [120] (by decide)
              rw [HLK.out] at h9
              exact h9
            refine hgt.mono ?_
            rintro e w6 ⟨rfl, hb6⟩
            have H6 := Lib.hid (H5.out.later hb6)
            clear hb6 H5 hgt
            go_wp2_with fail
            have hex : Calls Tryd.prog 18 #[.pointer (some ⟨b, 0, none⟩), .string ⟨T2.toArray⟩] w6 fun e w' => e = .returned (.tuple #[.string ⟨R.toArray⟩, .bool true]) ∧ Below w6.heap.size w6 w' := by
              have h9 := vexpand_any H6.out.vo T2 hT2l
              rw [HXP.out] at h9
              exact h9
            refine hex.mono ?_
            rintro e w7 ⟨rfl, hb7⟩
            have HB := Lib.hid (HBA.out.trans ((H6.out.later hb7).below.mono HBA.out.size))
            clear hb7 H6 hex
            go_wp2
            go_ret
            exact ⟨rfl, HB.out⟩
          case inr =>
            have hend2i : ((k : Int) < (L : Int)) = False := eq_false (by rw [eq_iff_iff, iff_false] at hend; omega)
            clear hend HEND
            go_wp2_with fail
            refine (vnew_own _).mono ?_
            rintro e w1 ⟨b, rfl, h1, _⟩
            have H1 := Lib.hid h1
            clear h1
            go_wp2_with fail
            have hex : Calls Tryd.prog 18 #[.pointer (some ⟨b, 0, none⟩), .string ⟨#[36, 120]⟩] w1 fun e w' => e = .returned (.tuple #[.string ⟨#[]⟩, .bool false]) ∧ Below w1.heap.size w1 w' := by
              have h9 := vexpand_any H1.out.vo [36, 120] (by decide)
              rw [Va.early] at h9
              exact h9
            refine hex.mono ?_
            rintro e w2 ⟨rfl, hb2⟩
            have H2 := Lib.hid (H1.out.later hb2)
            clear hb2 H1 hex
            go_wp2_with fail
            refine (vset_own H2.out [120] A (by decide) (by omega)).mono ?_
            rintro e w3 ⟨x3, rfl, h3⟩
            rw [HSA.out] at h3 ⊢
            have H3 := Lib.hid h3
            clear h3 H2
            go_wp2_with fail
            refine (vset_own H3.out [120] B (by decide) (by omega)).mono ?_
            rintro e w4 ⟨x4, rfl, h4⟩
            rw [HSB.out] at h4 ⊢
            have H4 := Lib.hid h4
            clear h4 H3
            go_wp2_with fail
            refine (vset_own H4.out [121] [119] (by decide) (by decide)).mono ?_
            rintro e w5 ⟨x5, rfl, h5⟩
            rw [HSY.out] at h5 ⊢
            have H5 := Lib.hid (show VN _ w5 b x5 [([120], B), ([121], [119])] from h5)
            clear h5 H4
            go_wp2_with fail
            have hgt : Calls Tryd.prog 16 #[.pointer (some ⟨b, 0, none⟩), .string ⟨#[120]⟩] w5 fun e w' => e = .returned (.tuple #[.string ⟨B.toArray⟩, .bool true]) ∧ Below w5.heap.size w5 w' := by
              have h9 := vget_any H5.out.vo [120] (by decide)
              rw [HLK.out] at h9
              exact h9
            refine hgt.mono ?_
            rintro e w6 ⟨rfl, hb6⟩
            have H6 := Lib.hid (H5.out.later hb6)
            clear hb6 H5 hgt
            go_wp2_with fail
            have hex : Calls Tryd.prog 18 #[.pointer (some ⟨b, 0, none⟩), .string ⟨T2.toArray⟩] w6 fun e w' => e = .returned (.tuple #[.string ⟨R.toArray⟩, .bool true]) ∧ Below w6.heap.size w6 w' := by
              have h9 := vexpand_any H6.out.vo T2 hT2l
              rw [HXP.out] at h9
              exact h9
            refine hex.mono ?_
            rintro e w7 ⟨rfl, hb7⟩
            have HB := Lib.hid (HBA.out.trans ((H6.out.later hb7).below.mono HBA.out.size))
            clear hb7 H6 hex
            go_wp2
            go_ret
            exact ⟨rfl, HB.out⟩
        · have hB1 : 1000 < B.length := by omega
          have HSA := Lib.hid (show Va.set [] [120] A = ([([120], A)], 0) from Va.sets_ok _ _ _ hA1 (.inr (by decide)))
          have HSB := Lib.hid (show Va.set [([120], A)] [120] B = ([([120], A)], 71) from Va.sets_no _ _ _ hB1)
          have HSY := Lib.hid (show Va.set [([120], A)] [121] [119] = ([([120], A), ([121], [119])], 0) from (Va.sets_ok _ _ _ (by decide) (.inr (by show 1 < 16; decide))).trans (by rfl))
          have HLK := Lib.hid (show Va.look [([120], A), ([121], [119])] [120] = some A from rfl)
          have HXP := Lib.hid (show Va.expand [([120], A), ([121], [119])] T2 = some (Y ++ (A ++ ([119] ++ A))) from by rw [HT2.out, Va.expand_xyx _ _ HNO.out, Va.fill_xyx]; rfl)
          obtain ⟨R1, hR1⟩ : ∃ R1, R1 = Y ++ A := ⟨_, rfl⟩
          have hcR1 : (⟨Y.toArray⟩ : ByteArray) ++ ⟨A.toArray⟩ = ⟨R1.toArray⟩ := by rw [hR1]; exact ByteArray.mk_append_mk Y A
          have hzR1 : (⟨R1.toArray⟩ : ByteArray).size = Y.length + A.length := by show R1.length = _; rw [hR1]; simp
          obtain ⟨R2, hR2⟩ : ∃ R2, R2 = R1 ++ [119] := ⟨_, rfl⟩
          have hcR2 : (⟨R1.toArray⟩ : ByteArray) ++ ⟨#[119]⟩ = ⟨R2.toArray⟩ := by rw [hR2]; exact ByteArray.mk_append_mk R1 [119]
          have hzR2 : (⟨R2.toArray⟩ : ByteArray).size = Y.length + A.length + 1 := by show R2.length = _; rw [hR2, hR1]; simp; omega
          obtain ⟨R, hR⟩ : ∃ R, R = Y ++ (A ++ ([119] ++ A)) := ⟨_, rfl⟩
          have hcR : (⟨R2.toArray⟩ : ByteArray) ++ ⟨A.toArray⟩ = ⟨R.toArray⟩ := by rw [hR, hR2, hR1]; exact (ByteArray.mk_append_mk (Y ++ A ++ [119]) A).trans (by simp [List.append_assoc])
          have hz119 : (⟨#[119]⟩ : ByteArray).size = 1 := rfl
          have hov3 : (9223372036854775807 < Y.length + A.length) = False := eq_false (by omega)
          have hov4 : (9223372036854775807 < Y.length + A.length + 1) = False := eq_false (by omega)
          have hov5 : (9223372036854775807 < Y.length + A.length + 1 + A.length) = False := eq_false (by omega)
          have heR := hse R
          have heV := hse A
          rw [← hR] at HXP
          clear hR hR1 hR2
          have hAi : (((A.length : Nat) : Int) ≤ 1000) = True := eq_true (by omega)
          have hBi : (((B.length : Nat) : Int) ≤ 1000) = False := eq_false (by omega)
          clear hse hA1 hB1 HNO HT2
          rcases HEND.out with ⟨hend1, hend2⟩ | hend
          case inl =>
            have hend1i : ((k : Int) < (L : Int)) = True := eq_true (by omega)
            have hend2i : ((k : Int) < 100) = False := eq_false (by rw [eq_iff_iff, iff_false] at hend2; omega)
            clear hend1 hend2 HEND
            go_wp2_with fail
            refine (vnew_own _).mono ?_
            rintro e w1 ⟨b, rfl, h1, _⟩
            have H1 := Lib.hid h1
            clear h1
            go_wp2_with fail
            have hex : Calls Tryd.prog 18 #[.pointer (some ⟨b, 0, none⟩), .string ⟨#[36, 120]⟩] w1 fun e w' => e = .returned (.tuple #[.string ⟨#[]⟩, .bool false]) ∧ Below w1.heap.size w1 w' := by
              have h9 := vexpand_any H1.out.vo [36, 120] (by decide)
              rw [Va.early] at h9
              exact h9
            refine hex.mono ?_
            rintro e w2 ⟨rfl, hb2⟩
            have H2 := Lib.hid (H1.out.later hb2)
            clear hb2 H1 hex
            go_wp2_with fail
            refine (vset_own H2.out [120] A (by decide) (by omega)).mono ?_
            rintro e w3 ⟨x3, rfl, h3⟩
            rw [HSA.out] at h3 ⊢
            have H3 := Lib.hid h3
            clear h3 H2
            go_wp2_with fail
            refine (vset_own H3.out [120] B (by decide) (by omega)).mono ?_
            rintro e w4 ⟨x4, rfl, h4⟩
            rw [HSB.out] at h4 ⊢
            have H4 := Lib.hid h4
            clear h4 H3
            go_wp2_with fail
            refine (vset_own H4.out [121] [119] (by decide) (by decide)).mono ?_
            rintro e w5 ⟨x5, rfl, h5⟩
            rw [HSY.out] at h5 ⊢
            have H5 := Lib.hid (show VN _ w5 b x5 [([120], A), ([121], [119])] from h5)
            clear h5 H4
            go_wp2_with fail
            have hgt : Calls Tryd.prog 16 #[.pointer (some ⟨b, 0, none⟩), .string ⟨#[120]⟩] w5 fun e w' => e = .returned (.tuple #[.string ⟨A.toArray⟩, .bool true]) ∧ Below w5.heap.size w5 w' := by
              have h9 := vget_any H5.out.vo [120] (by decide)
              rw [HLK.out] at h9
              exact h9
            refine hgt.mono ?_
            rintro e w6 ⟨rfl, hb6⟩
            have H6 := Lib.hid (H5.out.later hb6)
            clear hb6 H5 hgt
            go_wp2_with fail
            have hex : Calls Tryd.prog 18 #[.pointer (some ⟨b, 0, none⟩), .string ⟨T2.toArray⟩] w6 fun e w' => e = .returned (.tuple #[.string ⟨R.toArray⟩, .bool true]) ∧ Below w6.heap.size w6 w' := by
              have h9 := vexpand_any H6.out.vo T2 hT2l
              rw [HXP.out] at h9
              exact h9
            refine hex.mono ?_
            rintro e w7 ⟨rfl, hb7⟩
            have HB := Lib.hid (HBA.out.trans ((H6.out.later hb7).below.mono HBA.out.size))
            clear hb7 H6 hex
            go_wp2
            go_ret
            exact ⟨rfl, HB.out⟩
          case inr =>
            have hend2i : ((k : Int) < (L : Int)) = False := eq_false (by rw [eq_iff_iff, iff_false] at hend; omega)
            clear hend HEND
            go_wp2_with fail
            refine (vnew_own _).mono ?_
            rintro e w1 ⟨b, rfl, h1, _⟩
            have H1 := Lib.hid h1
            clear h1
            go_wp2_with fail
            have hex : Calls Tryd.prog 18 #[.pointer (some ⟨b, 0, none⟩), .string ⟨#[36, 120]⟩] w1 fun e w' => e = .returned (.tuple #[.string ⟨#[]⟩, .bool false]) ∧ Below w1.heap.size w1 w' := by
              have h9 := vexpand_any H1.out.vo [36, 120] (by decide)
              rw [Va.early] at h9
              exact h9
            refine hex.mono ?_
            rintro e w2 ⟨rfl, hb2⟩
            have H2 := Lib.hid (H1.out.later hb2)
            clear hb2 H1 hex
            go_wp2_with fail
            refine (vset_own H2.out [120] A (by decide) (by omega)).mono ?_
            rintro e w3 ⟨x3, rfl, h3⟩
            rw [HSA.out] at h3 ⊢
            have H3 := Lib.hid h3
            clear h3 H2
            go_wp2_with fail
            refine (vset_own H3.out [120] B (by decide) (by omega)).mono ?_
            rintro e w4 ⟨x4, rfl, h4⟩
            rw [HSB.out] at h4 ⊢
            have H4 := Lib.hid h4
            clear h4 H3
            go_wp2_with fail
            refine (vset_own H4.out [121] [119] (by decide) (by decide)).mono ?_
            rintro e w5 ⟨x5, rfl, h5⟩
            rw [HSY.out] at h5 ⊢
            have H5 := Lib.hid (show VN _ w5 b x5 [([120], A), ([121], [119])] from h5)
            clear h5 H4
            go_wp2_with fail
            have hgt : Calls Tryd.prog 16 #[.pointer (some ⟨b, 0, none⟩), .string ⟨#[120]⟩] w5 fun e w' => e = .returned (.tuple #[.string ⟨A.toArray⟩, .bool true]) ∧ Below w5.heap.size w5 w' := by
              have h9 := vget_any H5.out.vo [120] (by decide)
              rw [HLK.out] at h9
              exact h9
            refine hgt.mono ?_
            rintro e w6 ⟨rfl, hb6⟩
            have H6 := Lib.hid (H5.out.later hb6)
            clear hb6 H5 hgt
            go_wp2_with fail
            have hex : Calls Tryd.prog 18 #[.pointer (some ⟨b, 0, none⟩), .string ⟨T2.toArray⟩] w6 fun e w' => e = .returned (.tuple #[.string ⟨R.toArray⟩, .bool true]) ∧ Below w6.heap.size w6 w' := by
              have h9 := vexpand_any H6.out.vo T2 hT2l
              rw [HXP.out] at h9
              exact h9
            refine hex.mono ?_
            rintro e w7 ⟨rfl, hb7⟩
            have HB := Lib.hid (HBA.out.trans ((H6.out.later hb7).below.mono HBA.out.size))
            clear hb7 H6 hex
            go_wp2
            go_ret
            exact ⟨rfl, HB.out⟩
      · have hA1 : 1000 < A.length := by omega
        by_cases hB1 : B.length ≤ 1000
        · skip
          have HSA := Lib.hid (show Va.set [] [120] A = ([], 71) from Va.sets_no _ _ _ hA1)
          have HSB := Lib.hid (show Va.set [] [120] B = ([([120], B)], 0) from Va.sets_ok _ _ _ hB1 (.inr (by show 0 < 16; decide)))
          have HSY := Lib.hid (show Va.set [([120], B)] [121] [119] = ([([120], B), ([121], [119])], 0) from (Va.sets_ok _ _ _ (by decide) (.inr (by show 1 < 16; decide))).trans (by rfl))
          have HLK := Lib.hid (show Va.look [([120], B), ([121], [119])] [120] = some B from rfl)
          have HXP := Lib.hid (show Va.expand [([120], B), ([121], [119])] T2 = some (Y ++ (B ++ ([119] ++ B))) from by rw [HT2.out, Va.expand_xyx _ _ HNO.out, Va.fill_xyx]; rfl)
          obtain ⟨R1, hR1⟩ : ∃ R1, R1 = Y ++ B := ⟨_, rfl⟩
          have hcR1 : (⟨Y.toArray⟩ : ByteArray) ++ ⟨B.toArray⟩ = ⟨R1.toArray⟩ := by rw [hR1]; exact ByteArray.mk_append_mk Y B
          have hzR1 : (⟨R1.toArray⟩ : ByteArray).size = Y.length + B.length := by show R1.length = _; rw [hR1]; simp
          obtain ⟨R2, hR2⟩ : ∃ R2, R2 = R1 ++ [119] := ⟨_, rfl⟩
          have hcR2 : (⟨R1.toArray⟩ : ByteArray) ++ ⟨#[119]⟩ = ⟨R2.toArray⟩ := by rw [hR2]; exact ByteArray.mk_append_mk R1 [119]
          have hzR2 : (⟨R2.toArray⟩ : ByteArray).size = Y.length + B.length + 1 := by show R2.length = _; rw [hR2, hR1]; simp; omega
          obtain ⟨R, hR⟩ : ∃ R, R = Y ++ (B ++ ([119] ++ B)) := ⟨_, rfl⟩
          have hcR : (⟨R2.toArray⟩ : ByteArray) ++ ⟨B.toArray⟩ = ⟨R.toArray⟩ := by rw [hR, hR2, hR1]; exact (ByteArray.mk_append_mk (Y ++ B ++ [119]) B).trans (by simp [List.append_assoc])
          have hz119 : (⟨#[119]⟩ : ByteArray).size = 1 := rfl
          have hov3 : (9223372036854775807 < Y.length + B.length) = False := eq_false (by omega)
          have hov4 : (9223372036854775807 < Y.length + B.length + 1) = False := eq_false (by omega)
          have hov5 : (9223372036854775807 < Y.length + B.length + 1 + B.length) = False := eq_false (by omega)
          have heR := hse R
          have heV := hse B
          rw [← hR] at HXP
          clear hR hR1 hR2
          have hAi : (((A.length : Nat) : Int) ≤ 1000) = False := eq_false (by omega)
          have hBi : (((B.length : Nat) : Int) ≤ 1000) = True := eq_true (by omega)
          clear hse hA1 hB1 HNO HT2
          rcases HEND.out with ⟨hend1, hend2⟩ | hend
          case inl =>
            have hend1i : ((k : Int) < (L : Int)) = True := eq_true (by omega)
            have hend2i : ((k : Int) < 100) = False := eq_false (by rw [eq_iff_iff, iff_false] at hend2; omega)
            clear hend1 hend2 HEND
            go_wp2_with fail
            refine (vnew_own _).mono ?_
            rintro e w1 ⟨b, rfl, h1, _⟩
            have H1 := Lib.hid h1
            clear h1
            go_wp2_with fail
            have hex : Calls Tryd.prog 18 #[.pointer (some ⟨b, 0, none⟩), .string ⟨#[36, 120]⟩] w1 fun e w' => e = .returned (.tuple #[.string ⟨#[]⟩, .bool false]) ∧ Below w1.heap.size w1 w' := by
              have h9 := vexpand_any H1.out.vo [36, 120] (by decide)
              rw [Va.early] at h9
              exact h9
            refine hex.mono ?_
            rintro e w2 ⟨rfl, hb2⟩
            have H2 := Lib.hid (H1.out.later hb2)
            clear hb2 H1 hex
            go_wp2_with fail
            refine (vset_own H2.out [120] A (by decide) (by omega)).mono ?_
            rintro e w3 ⟨x3, rfl, h3⟩
            rw [HSA.out] at h3 ⊢
            have H3 := Lib.hid h3
            clear h3 H2
            go_wp2_with fail
            refine (vset_own H3.out [120] B (by decide) (by omega)).mono ?_
            rintro e w4 ⟨x4, rfl, h4⟩
            rw [HSB.out] at h4 ⊢
            have H4 := Lib.hid h4
            clear h4 H3
            go_wp2_with fail
            refine (vset_own H4.out [121] [119] (by decide) (by decide)).mono ?_
            rintro e w5 ⟨x5, rfl, h5⟩
            rw [HSY.out] at h5 ⊢
            have H5 := Lib.hid (show VN _ w5 b x5 [([120], B), ([121], [119])] from h5)
            clear h5 H4
            go_wp2_with fail
            have hgt : Calls Tryd.prog 16 #[.pointer (some ⟨b, 0, none⟩), .string ⟨#[120]⟩] w5 fun e w' => e = .returned (.tuple #[.string ⟨B.toArray⟩, .bool true]) ∧ Below w5.heap.size w5 w' := by
              have h9 := vget_any H5.out.vo [120] (by decide)
              rw [HLK.out] at h9
              exact h9
            refine hgt.mono ?_
            rintro e w6 ⟨rfl, hb6⟩
            have H6 := Lib.hid (H5.out.later hb6)
            clear hb6 H5 hgt
            go_wp2_with fail
            have hex : Calls Tryd.prog 18 #[.pointer (some ⟨b, 0, none⟩), .string ⟨T2.toArray⟩] w6 fun e w' => e = .returned (.tuple #[.string ⟨R.toArray⟩, .bool true]) ∧ Below w6.heap.size w6 w' := by
              have h9 := vexpand_any H6.out.vo T2 hT2l
              rw [HXP.out] at h9
              exact h9
            refine hex.mono ?_
            rintro e w7 ⟨rfl, hb7⟩
            have HB := Lib.hid (HBA.out.trans ((H6.out.later hb7).below.mono HBA.out.size))
            clear hb7 H6 hex
            go_wp2
            go_ret
            exact ⟨rfl, HB.out⟩
          case inr =>
            have hend2i : ((k : Int) < (L : Int)) = False := eq_false (by rw [eq_iff_iff, iff_false] at hend; omega)
            clear hend HEND
            go_wp2_with fail
            refine (vnew_own _).mono ?_
            rintro e w1 ⟨b, rfl, h1, _⟩
            have H1 := Lib.hid h1
            clear h1
            go_wp2_with fail
            have hex : Calls Tryd.prog 18 #[.pointer (some ⟨b, 0, none⟩), .string ⟨#[36, 120]⟩] w1 fun e w' => e = .returned (.tuple #[.string ⟨#[]⟩, .bool false]) ∧ Below w1.heap.size w1 w' := by
              have h9 := vexpand_any H1.out.vo [36, 120] (by decide)
              rw [Va.early] at h9
              exact h9
            refine hex.mono ?_
            rintro e w2 ⟨rfl, hb2⟩
            have H2 := Lib.hid (H1.out.later hb2)
            clear hb2 H1 hex
            go_wp2_with fail
            refine (vset_own H2.out [120] A (by decide) (by omega)).mono ?_
            rintro e w3 ⟨x3, rfl, h3⟩
            rw [HSA.out] at h3 ⊢
            have H3 := Lib.hid h3
            clear h3 H2
            go_wp2_with fail
            refine (vset_own H3.out [120] B (by decide) (by omega)).mono ?_
            rintro e w4 ⟨x4, rfl, h4⟩
            rw [HSB.out] at h4 ⊢
            have H4 := Lib.hid h4
            clear h4 H3
            go_wp2_with fail
            refine (vset_own H4.out [121] [119] (by decide) (by decide)).mono ?_
            rintro e w5 ⟨x5, rfl, h5⟩
            rw [HSY.out] at h5 ⊢
            have H5 := Lib.hid (show VN _ w5 b x5 [([120], B), ([121], [119])] from h5)
            clear h5 H4
            go_wp2_with fail
            have hgt : Calls Tryd.prog 16 #[.pointer (some ⟨b, 0, none⟩), .string ⟨#[120]⟩] w5 fun e w' => e = .returned (.tuple #[.string ⟨B.toArray⟩, .bool true]) ∧ Below w5.heap.size w5 w' := by
              have h9 := vget_any H5.out.vo [120] (by decide)
              rw [HLK.out] at h9
              exact h9
            refine hgt.mono ?_
            rintro e w6 ⟨rfl, hb6⟩
            have H6 := Lib.hid (H5.out.later hb6)
            clear hb6 H5 hgt
            go_wp2_with fail
            have hex : Calls Tryd.prog 18 #[.pointer (some ⟨b, 0, none⟩), .string ⟨T2.toArray⟩] w6 fun e w' => e = .returned (.tuple #[.string ⟨R.toArray⟩, .bool true]) ∧ Below w6.heap.size w6 w' := by
              have h9 := vexpand_any H6.out.vo T2 hT2l
              rw [HXP.out] at h9
              exact h9
            refine hex.mono ?_
            rintro e w7 ⟨rfl, hb7⟩
            have HB := Lib.hid (HBA.out.trans ((H6.out.later hb7).below.mono HBA.out.size))
            clear hb7 H6 hex
            go_wp2
            go_ret
            exact ⟨rfl, HB.out⟩
        · have hB1 : 1000 < B.length := by omega
          have HSA := Lib.hid (show Va.set [] [120] A = ([], 71) from Va.sets_no _ _ _ hA1)
          have HSB := Lib.hid (show Va.set [] [120] B = ([], 71) from Va.sets_no _ _ _ hB1)
          have HSY := Lib.hid (show Va.set [] [121] [119] = ([([121], [119])], 0) from (Va.sets_ok _ _ _ (by decide) (.inr (by show 0 < 16; decide))).trans (by rfl))
          have HLK := Lib.hid (show Va.look [([121], [119])] [120] = none from rfl)
          have HXP := Lib.hid (show Va.expand [([121], [119])] T2 = none from by rw [HT2.out, Va.expand_xyx _ _ HNO.out, Va.fill_no]; rfl)
          have hAi : (((A.length : Nat) : Int) ≤ 1000) = False := eq_false (by omega)
          have hBi : (((B.length : Nat) : Int) ≤ 1000) = False := eq_false (by omega)
          clear hse hA1 hB1 HNO HT2
          rcases HEND.out with ⟨hend1, hend2⟩ | hend
          case inl =>
            have hend1i : ((k : Int) < (L : Int)) = True := eq_true (by omega)
            have hend2i : ((k : Int) < 100) = False := eq_false (by rw [eq_iff_iff, iff_false] at hend2; omega)
            clear hend1 hend2 HEND
            go_wp2_with fail
            refine (vnew_own _).mono ?_
            rintro e w1 ⟨b, rfl, h1, _⟩
            have H1 := Lib.hid h1
            clear h1
            go_wp2_with fail
            have hex : Calls Tryd.prog 18 #[.pointer (some ⟨b, 0, none⟩), .string ⟨#[36, 120]⟩] w1 fun e w' => e = .returned (.tuple #[.string ⟨#[]⟩, .bool false]) ∧ Below w1.heap.size w1 w' := by
              have h9 := vexpand_any H1.out.vo [36, 120] (by decide)
              rw [Va.early] at h9
              exact h9
            refine hex.mono ?_
            rintro e w2 ⟨rfl, hb2⟩
            have H2 := Lib.hid (H1.out.later hb2)
            clear hb2 H1 hex
            go_wp2_with fail
            refine (vset_own H2.out [120] A (by decide) (by omega)).mono ?_
            rintro e w3 ⟨x3, rfl, h3⟩
            rw [HSA.out] at h3 ⊢
            have H3 := Lib.hid h3
            clear h3 H2
            go_wp2_with fail
            refine (vset_own H3.out [120] B (by decide) (by omega)).mono ?_
            rintro e w4 ⟨x4, rfl, h4⟩
            rw [HSB.out] at h4 ⊢
            have H4 := Lib.hid h4
            clear h4 H3
            go_wp2_with fail
            refine (vset_own H4.out [121] [119] (by decide) (by decide)).mono ?_
            rintro e w5 ⟨x5, rfl, h5⟩
            rw [HSY.out] at h5 ⊢
            have H5 := Lib.hid (show VN _ w5 b x5 [([121], [119])] from h5)
            clear h5 H4
            go_wp2_with fail
            have hgt : Calls Tryd.prog 16 #[.pointer (some ⟨b, 0, none⟩), .string ⟨#[120]⟩] w5 fun e w' => e = .returned (.tuple #[.string ⟨#[]⟩, .bool false]) ∧ Below w5.heap.size w5 w' := by
              have h9 := vget_any H5.out.vo [120] (by decide)
              rw [HLK.out] at h9
              exact h9
            refine hgt.mono ?_
            rintro e w6 ⟨rfl, hb6⟩
            have H6 := Lib.hid (H5.out.later hb6)
            clear hb6 H5 hgt
            go_wp2_with fail
            have hex : Calls Tryd.prog 18 #[.pointer (some ⟨b, 0, none⟩), .string ⟨T2.toArray⟩] w6 fun e w' => e = .returned (.tuple #[.string ⟨#[]⟩, .bool false]) ∧ Below w6.heap.size w6 w' := by
              have h9 := vexpand_any H6.out.vo T2 hT2l
              rw [HXP.out] at h9
              exact h9
            refine hex.mono ?_
            rintro e w7 ⟨rfl, hb7⟩
            have HB := Lib.hid (HBA.out.trans ((H6.out.later hb7).below.mono HBA.out.size))
            clear hb7 H6 hex
            go_wp2
            go_ret
            exact ⟨rfl, HB.out⟩
          case inr =>
            have hend2i : ((k : Int) < (L : Int)) = False := eq_false (by rw [eq_iff_iff, iff_false] at hend; omega)
            clear hend HEND
            go_wp2_with fail
            refine (vnew_own _).mono ?_
            rintro e w1 ⟨b, rfl, h1, _⟩
            have H1 := Lib.hid h1
            clear h1
            go_wp2_with fail
            have hex : Calls Tryd.prog 18 #[.pointer (some ⟨b, 0, none⟩), .string ⟨#[36, 120]⟩] w1 fun e w' => e = .returned (.tuple #[.string ⟨#[]⟩, .bool false]) ∧ Below w1.heap.size w1 w' := by
              have h9 := vexpand_any H1.out.vo [36, 120] (by decide)
              rw [Va.early] at h9
              exact h9
            refine hex.mono ?_
            rintro e w2 ⟨rfl, hb2⟩
            have H2 := Lib.hid (H1.out.later hb2)
            clear hb2 H1 hex
            go_wp2_with fail
            refine (vset_own H2.out [120] A (by decide) (by omega)).mono ?_
            rintro e w3 ⟨x3, rfl, h3⟩
            rw [HSA.out] at h3 ⊢
            have H3 := Lib.hid h3
            clear h3 H2
            go_wp2_with fail
            refine (vset_own H3.out [120] B (by decide) (by omega)).mono ?_
            rintro e w4 ⟨x4, rfl, h4⟩
            rw [HSB.out] at h4 ⊢
            have H4 := Lib.hid h4
            clear h4 H3
            go_wp2_with fail
            refine (vset_own H4.out [121] [119] (by decide) (by decide)).mono ?_
            rintro e w5 ⟨x5, rfl, h5⟩
            rw [HSY.out] at h5 ⊢
            have H5 := Lib.hid (show VN _ w5 b x5 [([121], [119])] from h5)
            clear h5 H4
            go_wp2_with fail
            have hgt : Calls Tryd.prog 16 #[.pointer (some ⟨b, 0, none⟩), .string ⟨#[120]⟩] w5 fun e w' => e = .returned (.tuple #[.string ⟨#[]⟩, .bool false]) ∧ Below w5.heap.size w5 w' := by
              have h9 := vget_any H5.out.vo [120] (by decide)
              rw [HLK.out] at h9
              exact h9
            refine hgt.mono ?_
            rintro e w6 ⟨rfl, hb6⟩
            have H6 := Lib.hid (H5.out.later hb6)
            clear hb6 H5 hgt
            go_wp2_with fail
            have hex : Calls Tryd.prog 18 #[.pointer (some ⟨b, 0, none⟩), .string ⟨T2.toArray⟩] w6 fun e w' => e = .returned (.tuple #[.string ⟨#[]⟩, .bool false]) ∧ Below w6.heap.size w6 w' := by
              have h9 := vexpand_any H6.out.vo T2 hT2l
              rw [HXP.out] at h9
              exact h9
            refine hex.mono ?_
            rintro e w7 ⟨rfl, hb7⟩
            have HB := Lib.hid (HBA.out.trans ((H6.out.later hb7).below.mono HBA.out.size))
            clear hb7 H6 hex
            go_wp2
            go_ret
            exact ⟨rfl, HB.out⟩
end Go.Proofs.YtkpahkcamgmlnaaDoor
