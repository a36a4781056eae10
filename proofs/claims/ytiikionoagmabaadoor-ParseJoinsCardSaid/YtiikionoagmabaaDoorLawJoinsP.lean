/- ParseJoins walked (layer 15). (Laid by wip/tools/gen_pjoins.py.) -/
import Derived.Test.YtiikionoagmabaaDoorParseLaw
import Derived.Test.YtiikionoagmabaaDoorPA
import Derived.Test.YtiikionoagmabaaDoorRefLexA
import Derived.Test.YtiikionoagmabaaDoorFrame
import Derived.Deep.CutRange
namespace Go.Proofs.YtiikionoagmabaaDoor
open Go.RowKit

theorem cut_toP (s : ByteArray) (m : Nat) : ∃ l : List UInt8, l.length ≤ m ∧ (m < s.size → s.extract 0 m = ⟨l.toArray⟩) ∧ (¬ m < s.size → s = ⟨l.toArray⟩) := by
  have hl := Lib.size_eq s
  refine ⟨s.data.toList.take m, by rw [List.length_take]; omega, fun h => ?_, fun h => ?_⟩
  · have := ba_extract s.data.toList 0 m
    simpa using this
  · rw [List.take_of_length_le (by rw [← hl]; omega)]
/-- A frame behind the cuts: the texts, the begin; whatever else. -/
abbrev FRJ (a : Act) (S T : List UInt8) (G : ByteArray) : Prop := ∃ f : Nat → Value, a = { tmps := #[.string ⟨S.toArray⟩, .string ⟨T.toArray⟩, f 2, f 3, f 4, f 5, .bool false, .bool true, .string G, f 9, f 10, f 11, f 12, f 13, f 14, f 15, f 16, f 17, f 18, f 19, f 20, f 21, f 22, f 23, f 24, f 25, f 26, f 27, f 28, f 29, f 30, f 31, f 32, f 33, f 34, f 35, f 36, f 37, f 38, f 39, f 40, f 41, f 42, f 43, f 44, f 45, f 46, f 47, f 48, f 49, f 50, f 51, f 52, f 53, f 54, f 55, f 56, f 57, f 58, f 59, f 60, f 61, f 62, f 63, f 64, f 65, f 66, f 67, f 68, f 69, f 70, f 71, f 72, f 73, f 74, f 75, f 76, f 77, f 78, f 79, f 80, f 81, f 82, f 83, f 84, f 85, f 86, f 87, f 88, f 89, f 90, f 91, f 92, f 93, f 94, f 95, f 96, f 97, f 98, f 99, f 100, f 101, f 102, f 103, f 104, f 105, f 106, f 107, f 108, f 109, f 110, f 111, f 112, f 113, f 114, f 115, f 116, f 117, f 118, f 119, f 120, f 121, f 122, f 123, f 124, f 125, f 126, f 127, f 128, f 129, f 130, f 131, f 132, f 133, f 134, f 135, f 136, f 137, f 138, f 139, f 140, f 141, f 142, f 143, f 144, f 145, f 146, f 147, f 148, f 149, f 150, f 151, f 152, f 153, f 154, f 155, f 156, f 157, f 158, f 159, f 160, f 161, f 162, f 163, f 164, f 165, f 166, f 167, f 168, f 169, f 170, f 171, f 172, f 173, f 174, f 175, f 176, f 177, f 178, f 179, f 180, f 181, f 182, f 183, f 184, f 185, f 186, f 187, f 188, f 189, f 190, f 191, f 192, f 193, f 194, f 195, f 196, f 197, f 198, f 199, f 200, f 201, f 202, f 203, f 204, f 205, f 206], defers := [] }
theorem FRJ.of (a : Act) (S T : List UInt8) (G : ByteArray) (h : a = { tmps := #[.string ⟨S.toArray⟩, .string ⟨T.toArray⟩, a.tmps.getD 2 undef, a.tmps.getD 3 undef, a.tmps.getD 4 undef, a.tmps.getD 5 undef, .bool false, .bool true, .string G, a.tmps.getD 9 undef, a.tmps.getD 10 undef, a.tmps.getD 11 undef, a.tmps.getD 12 undef, a.tmps.getD 13 undef, a.tmps.getD 14 undef, a.tmps.getD 15 undef, a.tmps.getD 16 undef, a.tmps.getD 17 undef, a.tmps.getD 18 undef, a.tmps.getD 19 undef, a.tmps.getD 20 undef, a.tmps.getD 21 undef, a.tmps.getD 22 undef, a.tmps.getD 23 undef, a.tmps.getD 24 undef, a.tmps.getD 25 undef, a.tmps.getD 26 undef, a.tmps.getD 27 undef, a.tmps.getD 28 undef, a.tmps.getD 29 undef, a.tmps.getD 30 undef, a.tmps.getD 31 undef, a.tmps.getD 32 undef, a.tmps.getD 33 undef, a.tmps.getD 34 undef, a.tmps.getD 35 undef, a.tmps.getD 36 undef, a.tmps.getD 37 undef, a.tmps.getD 38 undef, a.tmps.getD 39 undef, a.tmps.getD 40 undef, a.tmps.getD 41 undef, a.tmps.getD 42 undef, a.tmps.getD 43 undef, a.tmps.getD 44 undef, a.tmps.getD 45 undef, a.tmps.getD 46 undef, a.tmps.getD 47 undef, a.tmps.getD 48 undef, a.tmps.getD 49 undef, a.tmps.getD 50 undef, a.tmps.getD 51 undef, a.tmps.getD 52 undef, a.tmps.getD 53 undef, a.tmps.getD 54 undef, a.tmps.getD 55 undef, a.tmps.getD 56 undef, a.tmps.getD 57 undef, a.tmps.getD 58 undef, a.tmps.getD 59 undef, a.tmps.getD 60 undef, a.tmps.getD 61 undef, a.tmps.getD 62 undef, a.tmps.getD 63 undef, a.tmps.getD 64 undef, a.tmps.getD 65 undef, a.tmps.getD 66 undef, a.tmps.getD 67 undef, a.tmps.getD 68 undef, a.tmps.getD 69 undef, a.tmps.getD 70 undef, a.tmps.getD 71 undef, a.tmps.getD 72 undef, a.tmps.getD 73 undef, a.tmps.getD 74 undef, a.tmps.getD 75 undef, a.tmps.getD 76 undef, a.tmps.getD 77 undef, a.tmps.getD 78 undef, a.tmps.getD 79 undef, a.tmps.getD 80 undef, a.tmps.getD 81 undef, a.tmps.getD 82 undef, a.tmps.getD 83 undef, a.tmps.getD 84 undef, a.tmps.getD 85 undef, a.tmps.getD 86 undef, a.tmps.getD 87 undef, a.tmps.getD 88 undef, a.tmps.getD 89 undef, a.tmps.getD 90 undef, a.tmps.getD 91 undef, a.tmps.getD 92 undef, a.tmps.getD 93 undef, a.tmps.getD 94 undef, a.tmps.getD 95 undef, a.tmps.getD 96 undef, a.tmps.getD 97 undef, a.tmps.getD 98 undef, a.tmps.getD 99 undef, a.tmps.getD 100 undef, a.tmps.getD 101 undef, a.tmps.getD 102 undef, a.tmps.getD 103 undef, a.tmps.getD 104 undef, a.tmps.getD 105 undef, a.tmps.getD 106 undef, a.tmps.getD 107 undef, a.tmps.getD 108 undef, a.tmps.getD 109 undef, a.tmps.getD 110 undef, a.tmps.getD 111 undef, a.tmps.getD 112 undef, a.tmps.getD 113 undef, a.tmps.getD 114 undef, a.tmps.getD 115 undef, a.tmps.getD 116 undef, a.tmps.getD 117 undef, a.tmps.getD 118 undef, a.tmps.getD 119 undef, a.tmps.getD 120 undef, a.tmps.getD 121 undef, a.tmps.getD 122 undef, a.tmps.getD 123 undef, a.tmps.getD 124 undef, a.tmps.getD 125 undef, a.tmps.getD 126 undef, a.tmps.getD 127 undef, a.tmps.getD 128 undef, a.tmps.getD 129 undef, a.tmps.getD 130 undef, a.tmps.getD 131 undef, a.tmps.getD 132 undef, a.tmps.getD 133 undef, a.tmps.getD 134 undef, a.tmps.getD 135 undef, a.tmps.getD 136 undef, a.tmps.getD 137 undef, a.tmps.getD 138 undef, a.tmps.getD 139 undef, a.tmps.getD 140 undef, a.tmps.getD 141 undef, a.tmps.getD 142 undef, a.tmps.getD 143 undef, a.tmps.getD 144 undef, a.tmps.getD 145 undef, a.tmps.getD 146 undef, a.tmps.getD 147 undef, a.tmps.getD 148 undef, a.tmps.getD 149 undef, a.tmps.getD 150 undef, a.tmps.getD 151 undef, a.tmps.getD 152 undef, a.tmps.getD 153 undef, a.tmps.getD 154 undef, a.tmps.getD 155 undef, a.tmps.getD 156 undef, a.tmps.getD 157 undef, a.tmps.getD 158 undef, a.tmps.getD 159 undef, a.tmps.getD 160 undef, a.tmps.getD 161 undef, a.tmps.getD 162 undef, a.tmps.getD 163 undef, a.tmps.getD 164 undef, a.tmps.getD 165 undef, a.tmps.getD 166 undef, a.tmps.getD 167 undef, a.tmps.getD 168 undef, a.tmps.getD 169 undef, a.tmps.getD 170 undef, a.tmps.getD 171 undef, a.tmps.getD 172 undef, a.tmps.getD 173 undef, a.tmps.getD 174 undef, a.tmps.getD 175 undef, a.tmps.getD 176 undef, a.tmps.getD 177 undef, a.tmps.getD 178 undef, a.tmps.getD 179 undef, a.tmps.getD 180 undef, a.tmps.getD 181 undef, a.tmps.getD 182 undef, a.tmps.getD 183 undef, a.tmps.getD 184 undef, a.tmps.getD 185 undef, a.tmps.getD 186 undef, a.tmps.getD 187 undef, a.tmps.getD 188 undef, a.tmps.getD 189 undef, a.tmps.getD 190 undef, a.tmps.getD 191 undef, a.tmps.getD 192 undef, a.tmps.getD 193 undef, a.tmps.getD 194 undef, a.tmps.getD 195 undef, a.tmps.getD 196 undef, a.tmps.getD 197 undef, a.tmps.getD 198 undef, a.tmps.getD 199 undef, a.tmps.getD 200 undef, a.tmps.getD 201 undef, a.tmps.getD 202 undef, a.tmps.getD 203 undef, a.tmps.getD 204 undef, a.tmps.getD 205 undef, a.tmps.getD 206 undef], defers := [] }) : FRJ a S T G := ⟨fun i => a.tmps.getD i undef, h⟩
/-- What All answers, in one form. -/
def QAll (r : Ps.Res (Nat × List Ps.St × List Nat)) (B : Nat) (w' : World) (md : Nat) (sv' tv : Value) (sn tn c : Nat) : Prop := match r with
    | .error x => c = x.2 ∧ c ≠ 0
    | .ok (md', row, top) => c = 0 ∧ md = md' ∧ sn = row.length ∧ tn = top.length ∧ PR B w' sv' tv row top
theorem PAllP.form {r : Ps.Res (Nat × List Ps.St × List Nat)} {w w' : World} {e : Ending} (h : PAllP r w e w') : Below w.heap.size w w' ∧ ∃ (md : Nat) (so : Option Addr) (sn sc : Nat) (ta : Option Addr) (tn tc p c : Nat), e = .returned (.tuple #[.agg #[.int .i64 (md : Int), .slice so sn sc, .slice ta tn tc], .int .i64 (p : Int), .int .i64 (c : Int)]) ∧ QAll r w.heap.size w' md (.slice so sn sc) (.slice ta tn tc) sn tn c := by
  obtain ⟨h1, h2⟩ := h
  cases r with
  | error x => obtain ⟨p, c⟩ := x; exact ⟨h1, 0, none, 0, 0, none, 0, 0, p, c, h2.1, rfl, h2.2⟩
  | ok y =>
    obtain ⟨md, row, top⟩ := y
    obtain ⟨sv', tv, e1, hr⟩ := h2
    obtain ⟨so, sc, rfl, _⟩ := hr.at
    obtain ⟨ta, tc, rfl, _⟩ := hr.top.formV
    rw [List.length_map] at hr e1
    exact ⟨h1, md, so, row.length, sc, ta, top.length, tc, 0, 0, e1, rfl, rfl, rfl, rfl, hr⟩
/-- A goal that several ways come to, once. -/
theorem by_one {G : Prop} (h : ∃ A : Prop, (Hid A → G) ∧ A) : G := h.elim fun _ h => h.1 (Lib.hid h.2)

set_option maxRecDepth 40000 in
set_option maxHeartbeats 40000000 in
theorem lawJoinsP (s0 t0 : ByteArray) (a0 : Int) (hs0 : s0.size ≤ maxLen) (ht0 : t0.size ≤ maxLen) (h0 : (Lit.int .u8 a0).wf = true) (w : World) (hS : SHP w) :
    Calls Tryd.prog 5 #[.string s0, .string t0, .int .u8 a0] w fun e w' => e = .returned (.bool true) ∧ Below w.heap.size w w' := by
  obtain ⟨S, hSl, hx1, hx2⟩ := cut_toP s0 900
  obtain ⟨T, hTl, hy1, hy2⟩ := cut_toP t0 900
  obtain ⟨S0, hS0⟩ : ∃ S, s0.size = S := ⟨_, rfl⟩
  obtain ⟨T0, hT0⟩ : ∃ S, t0.size = S := ⟨_, rfl⟩
  rw [hS0] at hs0 hx1 hx2
  rw [hT0] at ht0 hy1 hy2
  unfold maxLen at hs0 ht0
  have hcaseS : (900 < S0 ∧ s0.extract 0 900 = ⟨S.toArray⟩) ∨ (¬ 900 < S0 ∧ s0 = ⟨S.toArray⟩) := by
    by_cases h : 900 < S0
    · exact .inl ⟨h, hx1 h⟩
    · exact .inr ⟨h, hx2 h⟩
  have hcaseT : (900 < T0 ∧ t0.extract 0 900 = ⟨T.toArray⟩) ∨ (¬ 900 < T0 ∧ t0 = ⟨T.toArray⟩) := by
    by_cases h : 900 < T0
    · exact .inl ⟨h, hy1 h⟩
    · exact .inr ⟨h, hy2 h⟩
  have hb0 := bounds_u8 h0
  obtain ⟨A, rfl⟩ := Int.eq_ofNat_of_zero_le hb0.1
  have hA : A < 256 := by omega
  obtain ⟨L, hL⟩ : ∃ L, S.length = L := ⟨_, rfl⟩
  obtain ⟨M, hM⟩ : ∃ M, T.length = M := ⟨_, rfl⟩
  have hzS : (⟨S.toArray⟩ : ByteArray).size = L := hL
  have hzT : (⟨T.toArray⟩ : ByteArray).size = M := hM
  rw [hL] at hSl
  rw [hM] at hTl
  have hcaseA : A % 3 = 0 ∨ A % 3 = 1 ∨ A % 3 = 2 := by omega
  have HS := Lib.hid hS
  have SW := shown_any w hS
  have HL := Lib.hid hL
  have HM := Lib.hid hM
  clear hx1 hx2 hy1 hy2 h0 hb0 hS hL hM
  go_enter Tryd.func5, Tryd.ntmps5
  go_wp2_with fail
  refine SW.mono ?_
  rintro e wa ⟨rfl, hba⟩
  have HBA := Lib.hid hba
  clear hba SW
  refine' by_one (Exists.intro _ (And.intro (fun key => ?ways) ?rest))
  case ways =>
    rcases hcaseS with ⟨hxlt, hxs⟩ | ⟨hxlt, hxs⟩
    · rcases hcaseT with ⟨hylt, hys⟩ | ⟨hylt, hys⟩
      · rcases hcaseA with hm | hm | hm
        · have e1 : ((900 : Int) < (S0 : Int)) = True := eq_true (by omega)
          have e1b : (900 : Int) ≤ (S0 : Int) := by omega
          have e1c : (900 : Int) < (S0 : Int) := by omega
          have e2 : ((900 : Int) < (T0 : Int)) = True := eq_true (by omega)
          have e2b : (900 : Int) ≤ (T0 : Int) := by omega
          have e2c : (900 : Int) < (T0 : Int) := by omega
          have n1 : (A : Int) % 3 = 0 := by omega
          have n2 : (A : Int).tmod 3 = 0 := by rw [Int.tmod_eq_emod_of_nonneg (by omega)]; exact n1
          go_upto_region 7 with fail
          rename_i K hK
          have hG : ((⟨#[109, 111, 100, 101, 32]⟩ : ByteArray) ++ ⟨#[115, 109, 116, 112]⟩ ++ ⟨#[59]⟩) = ⟨(Ps.begins [115, 109, 116, 112]).toArray⟩ := ((congrArg (· ++ _) (ByteArray.mk_append_mk [109, 111, 100, 101, 32] [115, 109, 116, 112])).trans (ByteArray.mk_append_mk _ [59]))
          rw [hG]
          refine (show ∀ (G : ByteArray), (∃ x, Ps.mode x ≠ 0 ∧ x.length ≤ 4 ∧ G = ⟨(Ps.begins x).toArray⟩) → ∀ a wx, FRJ a S T G → Below wa.heap.size wa wx → Code.wp _ _ _ a wx from ?_) ⟨(Ps.begins [115, 109, 116, 112]).toArray⟩ ⟨[115, 109, 116, 112], by decide, by decide, rfl⟩ _ _ (FRJ.of _ _ _ _ rfl) ((Below.refl _ _).alloc (Nat.le_refl _) _)
          revert hK
          revert K
          exact key.out
        · have e1 : ((900 : Int) < (S0 : Int)) = True := eq_true (by omega)
          have e1b : (900 : Int) ≤ (S0 : Int) := by omega
          have e1c : (900 : Int) < (S0 : Int) := by omega
          have e2 : ((900 : Int) < (T0 : Int)) = True := eq_true (by omega)
          have e2b : (900 : Int) ≤ (T0 : Int) := by omega
          have e2c : (900 : Int) < (T0 : Int) := by omega
          have n1 : (A : Int) % 3 = 1 := by omega
          have n2 : (A : Int).tmod 3 = 1 := by rw [Int.tmod_eq_emod_of_nonneg (by omega)]; exact n1
          go_upto_region 7 with fail
          rename_i K hK
          have hG : ((⟨#[109, 111, 100, 101, 32]⟩ : ByteArray) ++ ⟨#[112, 111, 112, 51]⟩ ++ ⟨#[59]⟩) = ⟨(Ps.begins [112, 111, 112, 51]).toArray⟩ := ((congrArg (· ++ _) (ByteArray.mk_append_mk [109, 111, 100, 101, 32] [112, 111, 112, 51])).trans (ByteArray.mk_append_mk _ [59]))
          rw [hG]
          refine (show ∀ (G : ByteArray), (∃ x, Ps.mode x ≠ 0 ∧ x.length ≤ 4 ∧ G = ⟨(Ps.begins x).toArray⟩) → ∀ a wx, FRJ a S T G → Below wa.heap.size wa wx → Code.wp _ _ _ a wx from ?_) ⟨(Ps.begins [112, 111, 112, 51]).toArray⟩ ⟨[112, 111, 112, 51], by decide, by decide, rfl⟩ _ _ (FRJ.of _ _ _ _ rfl) ((Below.refl _ _).alloc (Nat.le_refl _) _)
          revert hK
          revert K
          exact key.out
        · have e1 : ((900 : Int) < (S0 : Int)) = True := eq_true (by omega)
          have e1b : (900 : Int) ≤ (S0 : Int) := by omega
          have e1c : (900 : Int) < (S0 : Int) := by omega
          have e2 : ((900 : Int) < (T0 : Int)) = True := eq_true (by omega)
          have e2b : (900 : Int) ≤ (T0 : Int) := by omega
          have e2c : (900 : Int) < (T0 : Int) := by omega
          have n1 : (A : Int) % 3 = 2 := by omega
          have n2 : (A : Int).tmod 3 = 2 := by rw [Int.tmod_eq_emod_of_nonneg (by omega)]; exact n1
          go_upto_region 7 with fail
          rename_i K hK
          have hG : ((⟨#[109, 111, 100, 101, 32]⟩ : ByteArray) ++ ⟨#[102, 116, 112]⟩ ++ ⟨#[59]⟩) = ⟨(Ps.begins [102, 116, 112]).toArray⟩ := ((congrArg (· ++ _) (ByteArray.mk_append_mk [109, 111, 100, 101, 32] [102, 116, 112])).trans (ByteArray.mk_append_mk _ [59]))
          rw [hG]
          refine (show ∀ (G : ByteArray), (∃ x, Ps.mode x ≠ 0 ∧ x.length ≤ 4 ∧ G = ⟨(Ps.begins x).toArray⟩) → ∀ a wx, FRJ a S T G → Below wa.heap.size wa wx → Code.wp _ _ _ a wx from ?_) ⟨(Ps.begins [102, 116, 112]).toArray⟩ ⟨[102, 116, 112], by decide, by decide, rfl⟩ _ _ (FRJ.of _ _ _ _ rfl) ((Below.refl _ _).alloc (Nat.le_refl _) _)
          revert hK
          revert K
          exact key.out
      · rcases hcaseA with hm | hm | hm
        · have e1 : ((900 : Int) < (S0 : Int)) = True := eq_true (by omega)
          have e1b : (900 : Int) ≤ (S0 : Int) := by omega
          have e1c : (900 : Int) < (S0 : Int) := by omega
          have e2 : ((900 : Int) < (M : Int)) = False := eq_false (by omega)
          subst hys
          have n1 : (A : Int) % 3 = 0 := by omega
          have n2 : (A : Int).tmod 3 = 0 := by rw [Int.tmod_eq_emod_of_nonneg (by omega)]; exact n1
          go_upto_region 7 with fail
          rename_i K hK
          have hG : ((⟨#[109, 111, 100, 101, 32]⟩ : ByteArray) ++ ⟨#[115, 109, 116, 112]⟩ ++ ⟨#[59]⟩) = ⟨(Ps.begins [115, 109, 116, 112]).toArray⟩ := ((congrArg (· ++ _) (ByteArray.mk_append_mk [109, 111, 100, 101, 32] [115, 109, 116, 112])).trans (ByteArray.mk_append_mk _ [59]))
          rw [hG]
          refine (show ∀ (G : ByteArray), (∃ x, Ps.mode x ≠ 0 ∧ x.length ≤ 4 ∧ G = ⟨(Ps.begins x).toArray⟩) → ∀ a wx, FRJ a S T G → Below wa.heap.size wa wx → Code.wp _ _ _ a wx from ?_) ⟨(Ps.begins [115, 109, 116, 112]).toArray⟩ ⟨[115, 109, 116, 112], by decide, by decide, rfl⟩ _ _ (FRJ.of _ _ _ _ rfl) ((Below.refl _ _).alloc (Nat.le_refl _) _)
          revert hK
          revert K
          exact key.out
        · have e1 : ((900 : Int) < (S0 : Int)) = True := eq_true (by omega)
          have e1b : (900 : Int) ≤ (S0 : Int) := by omega
          have e1c : (900 : Int) < (S0 : Int) := by omega
          have e2 : ((900 : Int) < (M : Int)) = False := eq_false (by omega)
          subst hys
          have n1 : (A : Int) % 3 = 1 := by omega
          have n2 : (A : Int).tmod 3 = 1 := by rw [Int.tmod_eq_emod_of_nonneg (by omega)]; exact n1
          go_upto_region 7 with fail
          rename_i K hK
          have hG : ((⟨#[109, 111, 100, 101, 32]⟩ : ByteArray) ++ ⟨#[112, 111, 112, 51]⟩ ++ ⟨#[59]⟩) = ⟨(Ps.begins [112, 111, 112, 51]).toArray⟩ := ((congrArg (· ++ _) (ByteArray.mk_append_mk [109, 111, 100, 101, 32] [112, 111, 112, 51])).trans (ByteArray.mk_append_mk _ [59]))
          rw [hG]
          refine (show ∀ (G : ByteArray), (∃ x, Ps.mode x ≠ 0 ∧ x.length ≤ 4 ∧ G = ⟨(Ps.begins x).toArray⟩) → ∀ a wx, FRJ a S T G → Below wa.heap.size wa wx → Code.wp _ _ _ a wx from ?_) ⟨(Ps.begins [112, 111, 112, 51]).toArray⟩ ⟨[112, 111, 112, 51], by decide, by decide, rfl⟩ _ _ (FRJ.of _ _ _ _ rfl) ((Below.refl _ _).alloc (Nat.le_refl _) _)
          revert hK
          revert K
          exact key.out
        · have e1 : ((900 : Int) < (S0 : Int)) = True := eq_true (by omega)
          have e1b : (900 : Int) ≤ (S0 : Int) := by omega
          have e1c : (900 : Int) < (S0 : Int) := by omega
          have e2 : ((900 : Int) < (M : Int)) = False := eq_false (by omega)
          subst hys
          have n1 : (A : Int) % 3 = 2 := by omega
          have n2 : (A : Int).tmod 3 = 2 := by rw [Int.tmod_eq_emod_of_nonneg (by omega)]; exact n1
          go_upto_region 7 with fail
          rename_i K hK
          have hG : ((⟨#[109, 111, 100, 101, 32]⟩ : ByteArray) ++ ⟨#[102, 116, 112]⟩ ++ ⟨#[59]⟩) = ⟨(Ps.begins [102, 116, 112]).toArray⟩ := ((congrArg (· ++ _) (ByteArray.mk_append_mk [109, 111, 100, 101, 32] [102, 116, 112])).trans (ByteArray.mk_append_mk _ [59]))
          rw [hG]
          refine (show ∀ (G : ByteArray), (∃ x, Ps.mode x ≠ 0 ∧ x.length ≤ 4 ∧ G = ⟨(Ps.begins x).toArray⟩) → ∀ a wx, FRJ a S T G → Below wa.heap.size wa wx → Code.wp _ _ _ a wx from ?_) ⟨(Ps.begins [102, 116, 112]).toArray⟩ ⟨[102, 116, 112], by decide, by decide, rfl⟩ _ _ (FRJ.of _ _ _ _ rfl) ((Below.refl _ _).alloc (Nat.le_refl _) _)
          revert hK
          revert K
          exact key.out
    · rcases hcaseT with ⟨hylt, hys⟩ | ⟨hylt, hys⟩
      · rcases hcaseA with hm | hm | hm
        · have e1 : ((900 : Int) < (L : Int)) = False := eq_false (by omega)
          subst hxs
          have e2 : ((900 : Int) < (T0 : Int)) = True := eq_true (by omega)
          have e2b : (900 : Int) ≤ (T0 : Int) := by omega
          have e2c : (900 : Int) < (T0 : Int) := by omega
          have n1 : (A : Int) % 3 = 0 := by omega
          have n2 : (A : Int).tmod 3 = 0 := by rw [Int.tmod_eq_emod_of_nonneg (by omega)]; exact n1
          go_upto_region 7 with fail
          rename_i K hK
          have hG : ((⟨#[109, 111, 100, 101, 32]⟩ : ByteArray) ++ ⟨#[115, 109, 116, 112]⟩ ++ ⟨#[59]⟩) = ⟨(Ps.begins [115, 109, 116, 112]).toArray⟩ := ((congrArg (· ++ _) (ByteArray.mk_append_mk [109, 111, 100, 101, 32] [115, 109, 116, 112])).trans (ByteArray.mk_append_mk _ [59]))
          rw [hG]
          refine (show ∀ (G : ByteArray), (∃ x, Ps.mode x ≠ 0 ∧ x.length ≤ 4 ∧ G = ⟨(Ps.begins x).toArray⟩) → ∀ a wx, FRJ a S T G → Below wa.heap.size wa wx → Code.wp _ _ _ a wx from ?_) ⟨(Ps.begins [115, 109, 116, 112]).toArray⟩ ⟨[115, 109, 116, 112], by decide, by decide, rfl⟩ _ _ (FRJ.of _ _ _ _ rfl) ((Below.refl _ _).alloc (Nat.le_refl _) _)
          revert hK
          revert K
          exact key.out
        · have e1 : ((900 : Int) < (L : Int)) = False := eq_false (by omega)
          subst hxs
          have e2 : ((900 : Int) < (T0 : Int)) = True := eq_true (by omega)
          have e2b : (900 : Int) ≤ (T0 : Int) := by omega
          have e2c : (900 : Int) < (T0 : Int) := by omega
          have n1 : (A : Int) % 3 = 1 := by omega
          have n2 : (A : Int).tmod 3 = 1 := by rw [Int.tmod_eq_emod_of_nonneg (by omega)]; exact n1
          go_upto_region 7 with fail
          rename_i K hK
          have hG : ((⟨#[109, 111, 100, 101, 32]⟩ : ByteArray) ++ ⟨#[112, 111, 112, 51]⟩ ++ ⟨#[59]⟩) = ⟨(Ps.begins [112, 111, 112, 51]).toArray⟩ := ((congrArg (· ++ _) (ByteArray.mk_append_mk [109, 111, 100, 101, 32] [112, 111, 112, 51])).trans (ByteArray.mk_append_mk _ [59]))
          rw [hG]
          refine (show ∀ (G : ByteArray), (∃ x, Ps.mode x ≠ 0 ∧ x.length ≤ 4 ∧ G = ⟨(Ps.begins x).toArray⟩) → ∀ a wx, FRJ a S T G → Below wa.heap.size wa wx → Code.wp _ _ _ a wx from ?_) ⟨(Ps.begins [112, 111, 112, 51]).toArray⟩ ⟨[112, 111, 112, 51], by decide, by decide, rfl⟩ _ _ (FRJ.of _ _ _ _ rfl) ((Below.refl _ _).alloc (Nat.le_refl _) _)
          revert hK
          revert K
          exact key.out
        · have e1 : ((900 : Int) < (L : Int)) = False := eq_false (by omega)
          subst hxs
          have e2 : ((900 : Int) < (T0 : Int)) = True := eq_true (by omega)
          have e2b : (900 : Int) ≤ (T0 : Int) := by omega
          have e2c : (900 : Int) < (T0 : Int) := by omega
          have n1 : (A : Int) % 3 = 2 := by omega
          have n2 : (A : Int).tmod 3 = 2 := by rw [Int.tmod_eq_emod_of_nonneg (by omega)]; exact n1
          go_upto_region 7 with fail
          rename_i K hK
          have hG : ((⟨#[109, 111, 100, 101, 32]⟩ : ByteArray) ++ ⟨#[102, 116, 112]⟩ ++ ⟨#[59]⟩) = ⟨(Ps.begins [102, 116, 112]).toArray⟩ := ((congrArg (· ++ _) (ByteArray.mk_append_mk [109, 111, 100, 101, 32] [102, 116, 112])).trans (ByteArray.mk_append_mk _ [59]))
          rw [hG]
          refine (show ∀ (G : ByteArray), (∃ x, Ps.mode x ≠ 0 ∧ x.length ≤ 4 ∧ G = ⟨(Ps.begins x).toArray⟩) → ∀ a wx, FRJ a S T G → Below wa.heap.size wa wx → Code.wp _ _ _ a wx from ?_) ⟨(Ps.begins [102, 116, 112]).toArray⟩ ⟨[102, 116, 112], by decide, by decide, rfl⟩ _ _ (FRJ.of _ _ _ _ rfl) ((Below.refl _ _).alloc (Nat.le_refl _) _)
          revert hK
          revert K
          exact key.out
      · rcases hcaseA with hm | hm | hm
        · have e1 : ((900 : Int) < (L : Int)) = False := eq_false (by omega)
          subst hxs
          have e2 : ((900 : Int) < (M : Int)) = False := eq_false (by omega)
          subst hys
          have n1 : (A : Int) % 3 = 0 := by omega
          have n2 : (A : Int).tmod 3 = 0 := by rw [Int.tmod_eq_emod_of_nonneg (by omega)]; exact n1
          go_upto_region 7 with fail
          rename_i K hK
          have hG : ((⟨#[109, 111, 100, 101, 32]⟩ : ByteArray) ++ ⟨#[115, 109, 116, 112]⟩ ++ ⟨#[59]⟩) = ⟨(Ps.begins [115, 109, 116, 112]).toArray⟩ := ((congrArg (· ++ _) (ByteArray.mk_append_mk [109, 111, 100, 101, 32] [115, 109, 116, 112])).trans (ByteArray.mk_append_mk _ [59]))
          rw [hG]
          refine (show ∀ (G : ByteArray), (∃ x, Ps.mode x ≠ 0 ∧ x.length ≤ 4 ∧ G = ⟨(Ps.begins x).toArray⟩) → ∀ a wx, FRJ a S T G → Below wa.heap.size wa wx → Code.wp _ _ _ a wx from ?_) ⟨(Ps.begins [115, 109, 116, 112]).toArray⟩ ⟨[115, 109, 116, 112], by decide, by decide, rfl⟩ _ _ (FRJ.of _ _ _ _ rfl) ((Below.refl _ _).alloc (Nat.le_refl _) _)
          revert hK
          revert K
          exact key.out
        · have e1 : ((900 : Int) < (L : Int)) = False := eq_false (by omega)
          subst hxs
          have e2 : ((900 : Int) < (M : Int)) = False := eq_false (by omega)
          subst hys
          have n1 : (A : Int) % 3 = 1 := by omega
          have n2 : (A : Int).tmod 3 = 1 := by rw [Int.tmod_eq_emod_of_nonneg (by omega)]; exact n1
          go_upto_region 7 with fail
          rename_i K hK
          have hG : ((⟨#[109, 111, 100, 101, 32]⟩ : ByteArray) ++ ⟨#[112, 111, 112, 51]⟩ ++ ⟨#[59]⟩) = ⟨(Ps.begins [112, 111, 112, 51]).toArray⟩ := ((congrArg (· ++ _) (ByteArray.mk_append_mk [109, 111, 100, 101, 32] [112, 111, 112, 51])).trans (ByteArray.mk_append_mk _ [59]))
          rw [hG]
          refine (show ∀ (G : ByteArray), (∃ x, Ps.mode x ≠ 0 ∧ x.length ≤ 4 ∧ G = ⟨(Ps.begins x).toArray⟩) → ∀ a wx, FRJ a S T G → Below wa.heap.size wa wx → Code.wp _ _ _ a wx from ?_) ⟨(Ps.begins [112, 111, 112, 51]).toArray⟩ ⟨[112, 111, 112, 51], by decide, by decide, rfl⟩ _ _ (FRJ.of _ _ _ _ rfl) ((Below.refl _ _).alloc (Nat.le_refl _) _)
          revert hK
          revert K
          exact key.out
        · have e1 : ((900 : Int) < (L : Int)) = False := eq_false (by omega)
          subst hxs
          have e2 : ((900 : Int) < (M : Int)) = False := eq_false (by omega)
          subst hys
          have n1 : (A : Int) % 3 = 2 := by omega
          have n2 : (A : Int).tmod 3 = 2 := by rw [Int.tmod_eq_emod_of_nonneg (by omega)]; exact n1
          go_upto_region 7 with fail
          rename_i K hK
          have hG : ((⟨#[109, 111, 100, 101, 32]⟩ : ByteArray) ++ ⟨#[102, 116, 112]⟩ ++ ⟨#[59]⟩) = ⟨(Ps.begins [102, 116, 112]).toArray⟩ := ((congrArg (· ++ _) (ByteArray.mk_append_mk [109, 111, 100, 101, 32] [102, 116, 112])).trans (ByteArray.mk_append_mk _ [59]))
          rw [hG]
          refine (show ∀ (G : ByteArray), (∃ x, Ps.mode x ≠ 0 ∧ x.length ≤ 4 ∧ G = ⟨(Ps.begins x).toArray⟩) → ∀ a wx, FRJ a S T G → Below wa.heap.size wa wx → Code.wp _ _ _ a wx from ?_) ⟨(Ps.begins [102, 116, 112]).toArray⟩ ⟨[102, 116, 112], by decide, by decide, rfl⟩ _ _ (FRJ.of _ _ _ _ rfl) ((Below.refl _ _).alloc (Nat.le_refl _) _)
          revert hK
          revert K
          exact key.out
  case rest =>
    intro K hK G hG a wx hfr hbx
    obtain ⟨f, rfl⟩ := hfr
    obtain ⟨x, hm, hxl, rfl⟩ := hG
    obtain ⟨BL, hBL⟩ : ∃ BL, (Ps.begins x).length = BL := ⟨_, rfl⟩
    have hB10 : BL ≤ 10 := by rw [← hBL, Ps.begins_len]; omega
    have hzB : (⟨(Ps.begins x).toArray⟩ : ByteArray).size = BL := hBL
    obtain ⟨V1, hV1⟩ : ∃ V1, Ps.begins x ++ S = V1 := ⟨_, rfl⟩
    obtain ⟨V2, hV2⟩ : ∃ V2, Ps.begins x ++ T = V2 := ⟨_, rfl⟩
    obtain ⟨Z, hZ⟩ : ∃ Z, V1 ++ [10] = Z := ⟨_, rfl⟩
    obtain ⟨V3, hV3⟩ : ∃ V3, Z ++ T = V3 := ⟨_, rfl⟩
    have j1 : (⟨(Ps.begins x).toArray⟩ : ByteArray) ++ ⟨S.toArray⟩ = ⟨V1.toArray⟩ := by rw [← hV1]; exact ByteArray.mk_append_mk _ _
    have j2 : (⟨(Ps.begins x).toArray⟩ : ByteArray) ++ ⟨T.toArray⟩ = ⟨V2.toArray⟩ := by rw [← hV2]; exact ByteArray.mk_append_mk _ _
    have j3 : (⟨V1.toArray⟩ : ByteArray) ++ ⟨#[10]⟩ = ⟨Z.toArray⟩ := by rw [← hZ]; exact ByteArray.mk_append_mk _ _
    have j4 : (⟨Z.toArray⟩ : ByteArray) ++ ⟨T.toArray⟩ = ⟨V3.toArray⟩ := by rw [← hV3]; exact ByteArray.mk_append_mk _ _
    have l1 : V1.length = BL + L := by rw [← hV1, List.length_append, hBL, HL.out]
    have l2 : V2.length = BL + M := by rw [← hV2, List.length_append, hBL, HM.out]
    have l3 : Z.length = BL + L + 1 := by rw [← hZ, List.length_append, l1]; rfl
    have l4 : V3.length = BL + L + 1 + M := by rw [← hV3, List.length_append, l3, HM.out]
    have z1 : (⟨V1.toArray⟩ : ByteArray).size = BL + L := l1
    have z2 : (⟨V2.toArray⟩ : ByteArray).size = BL + M := l2
    have z3 : (⟨Z.toArray⟩ : ByteArray).size = BL + L + 1 := l3
    have z4 : (⟨V3.toArray⟩ : ByteArray).size = BL + L + 1 + M := l4
    have z5 : (⟨#[10]⟩ : ByteArray).size = 1 := rfl
    have hsm1 : (9223372036854775807 < BL + L) = False := eq_false (by omega)
    have hsm2 : (9223372036854775807 < BL + M) = False := eq_false (by omega)
    have hsm3 : (9223372036854775807 < BL + L + 1) = False := eq_false (by omega)
    have hsm4 : (9223372036854775807 < BL + L + 1 + M) = False := eq_false (by omega)
    have P1 := Lib.hid (fun wy hy => pall_any V1 (by omega) wy hy)
    have P2 := Lib.hid (fun wy hy => pall_any V2 (by omega) wy hy)
    have P3 := Lib.hid (fun wy hy => pall_any V3 (by omega) wy hy)
    have R3 := Lib.hid (fun wy => rall_any V3 (by omega) wy)
    have e3 : V3 = Ps.begins x ++ S ++ 10 :: T := by rw [← hV3, ← hZ, ← hV1]; simp
    have HJ : Hid (∀ (md md2 : Nat) (row1 row2 : List Ps.St) (t1 t2 : List Nat), Ps.all V1 = .ok (md, row1, t1) → Ps.all V2 = .ok (md2, row2, t2) → (Lx.all V3 = .error (0, 4) ∨ ((∃ ts, Lx.all V3 = .ok ts) ∧ 100 < row1.length + row2.length ∧ Ps.all V3 = .error (0, 4)) ∨ Ps.all V3 = .ok (Ps.mode x, row1 ++ row2.map (Ps.mv row1.length (S.length + 1)), t1 ++ t2.map (· + row1.length)))) := Lib.hid (fun md md2 row1 row2 t1 t2 h1 h2 => by
      rw [← hV1] at h1
      rw [← hV2] at h2
      rw [e3]
      exact Ps.join_law hm (by rw [← e3, l4]; omega) (by rw [hV2, l2]; omega) h1 h2)
    have HBX := Lib.hid (HBA.out.trans (hbx.mono HBA.out.size))
    have HSX := Lib.hid (HS.out.below HBX.out)
    clear hbx hV1 hV2 hZ hV3 l1 l2 l3 l4 e3 hBL
    clear hcaseS hcaseT hcaseA hA
    go_wp2_with fail
    refine (P1.out _ HSX.out).mono ?_
    rintro e w1 hP1
    obtain ⟨hb1, md1, so1, n1, sc1, ta1, tn1, tc1, p1, c1, rfl, q1⟩ := hP1.form
    have HB1 := Lib.hid ((HBX.out.trans (hb1.mono HBX.out.size)).alloc (Nat.le_trans HBX.out.size hb1.size) (.cells #[.int .i64 (md1 : Int), .slice so1 n1 sc1, .slice ta1 tn1 tc1] 27))
    have HQ1 := Lib.hid q1
    have hbA1 := (Below.refl w1.heap.size w1).alloc (Nat.le_refl _) (.cells #[.int .i64 (md1 : Int), .slice so1 n1 sc1, .slice ta1 tn1 tc1] 27)
    have h31 : H3 (w1.alloc (.cells #[.int .i64 (md1 : Int), .slice so1 n1 sc1, .slice ta1 tn1 tc1] 27)) w1.heap.size [.int .i64 (md1 : Int), .slice so1 n1 sc1, .slice ta1 tn1 tc1] := heap_alloc_new _ _
    have HA1 := Lib.hid hbA1
    have H31 := Lib.hid h31
    clear hP1 q1 hb1 hbA1 h31
    go_wp2_with fail
    refine (P2.out _ (HS.out.below HB1.out)).mono ?_
    rintro e w2 hP2
    obtain ⟨hb2, md2, so2, n2, sc2, ta2, tn2, tc2, p2, c2, rfl, q2⟩ := hP2.form
    have HB2 := Lib.hid ((HB1.out.trans (hb2.mono HB1.out.size)).alloc (Nat.le_trans HB1.out.size hb2.size) (.cells #[.int .i64 (md2 : Int), .slice so2 n2 sc2, .slice ta2 tn2 tc2] 27))
    have HQ2 := Lib.hid q2
    have hbA2 := (Below.refl w2.heap.size w2).alloc (Nat.le_refl _) (.cells #[.int .i64 (md2 : Int), .slice so2 n2 sc2, .slice ta2 tn2 tc2] 27)
    have h32 : H3 (w2.alloc (.cells #[.int .i64 (md2 : Int), .slice so2 n2 sc2, .slice ta2 tn2 tc2] 27)) w2.heap.size [.int .i64 (md2 : Int), .slice so2 n2 sc2, .slice ta2 tn2 tc2] := heap_alloc_new _ _
    have HA2 := Lib.hid hbA2
    have H32 := Lib.hid h32
    have HB12 := Lib.hid hb2
    clear hP2 q2 hb2 hbA2 h32
    go_wp2_with fail
    refine (P3.out _ (HS.out.below HB2.out)).mono ?_
    rintro e w3 hP3
    obtain ⟨hb3, md3, so3, n3, sc3, ta3, tn3, tc3, p3, c3, rfl, q3⟩ := hP3.form
    obtain ⟨W, hW⟩ : ∃ W, w3.alloc (.cells #[.int .i64 (md3 : Int), .slice so3 n3 sc3, .slice ta3 tn3 tc3] 27) = W := ⟨_, rfl⟩
    have hbA3 : Below w3.heap.size w3 W := by rw [← hW]; exact (Below.refl w3.heap.size w3).alloc (Nat.le_refl _) _
    have h33 : H3 W w3.heap.size [.int .i64 (md3 : Int), .slice so3 n3 sc3, .slice ta3 tn3 tc3] := by rw [← hW]; exact heap_alloc_new _ _
    have y3 : Below (w2.alloc (.cells #[.int .i64 (md2 : Int), .slice so2 n2 sc2, .slice ta2 tn2 tc2] 27)).heap.size (w2.alloc (.cells #[.int .i64 (md2 : Int), .slice so2 n2 sc2, .slice ta2 tn2 tc2] 27)) W := hb3.trans (hbA3.mono hb3.size)
    have y2 : Below w2.heap.size w2 W := HA2.out.trans (y3.mono HA2.out.size)
    have y1 : Below (w1.alloc (.cells #[.int .i64 (md1 : Int), .slice so1 n1 sc1, .slice ta1 tn1 tc1] 27)).heap.size (w1.alloc (.cells #[.int .i64 (md1 : Int), .slice so1 n1 sc1, .slice ta1 tn1 tc1] 27)) W := HB12.out.trans (y2.mono HB12.out.size)
    have y0 : Below w1.heap.size w1 W := HA1.out.trans (y1.mono HA1.out.size)
    have HG1 := Lib.hid (H31.out.below y1 (by simp))
    have HG2 := Lib.hid (H32.out.below y3 (by simp))
    have HG3 := Lib.hid h33
    have HBW := Lib.hid (HB2.out.trans (y3.mono HB2.out.size))
    have HY0 := Lib.hid y0
    have HY2 := Lib.hid y2
    have HA3 := Lib.hid hbA3
    obtain ⟨g1, hg1⟩ : ∃ g1, w1.heap.size = g1 := ⟨_, rfl⟩
    obtain ⟨g2, hg2⟩ : ∃ g2, w2.heap.size = g2 := ⟨_, rfl⟩
    obtain ⟨g3, hg3⟩ : ∃ g3, w3.heap.size = g3 := ⟨_, rfl⟩
    rw [hg1] at HG1 ⊢
    rw [hg2] at HG2 ⊢
    rw [hg3] at HG3
    have k1 := HG1.out.lt
    have k2 := HG2.out.lt
    have k3 := HG3.out.lt
    have p11 := HG1.out.cell (i := 1) rfl
    have p12 := HG1.out.cell (i := 2) rfl
    have p21 := HG2.out.cell (i := 1) rfl
    have p22 := HG2.out.cell (i := 2) rfl
    have p31 := HG3.out.cell (i := 1) rfl
    have p32 := HG3.out.cell (i := 2) rfl
    have HQ3 := Lib.hid q3
    clear hP3 hb3 hbA3 h33 y0 y1 y2 y3 q3 hg1 hg2
    cases hr1 : Ps.all V1 with
    | error x1 =>
      have q1 := HQ1.out
      rw [hr1] at q1
      obtain ⟨_, hc⟩ := q1
      have f1 : ((c1 : Int) != 0) = true := by rw [bne_iff_ne]; omega
      have f2 : ((c1 : Int) == 0) = false := beq_eq_false_iff_ne.2 (by omega)
      have f3 : ((c1 : Int) = 0) = False := eq_false (by omega)
      have f4 : (c1 = 0) = False := eq_false hc
      clear hc
      go_wp2
      go_ret
      exact ⟨rfl, HBW.out⟩
    | ok y1 =>
      obtain ⟨md1', row1, t1⟩ := y1
      have q1 := HQ1.out
      rw [hr1] at q1
      obtain ⟨rfl, rfl, hn1, ht1, hp1⟩ := q1
      cases hr2 : Ps.all V2 with
      | error x2 =>
        have q2 := HQ2.out
        rw [hr2] at q2
        obtain ⟨_, hc⟩ := q2
        have f1 : ((c2 : Int) != 0) = true := by rw [bne_iff_ne]; omega
        have f2 : ((c2 : Int) == 0) = false := beq_eq_false_iff_ne.2 (by omega)
        have f3 : ((c2 : Int) = 0) = False := eq_false (by omega)
        have f4 : (c2 = 0) = False := eq_false hc
        clear hc hn1 ht1 hp1
        go_wp2
        go_ret
        exact ⟨rfl, HBW.out⟩
      | ok y2 =>
        obtain ⟨md2', row2, t2⟩ := y2
        have q2 := HQ2.out
        rw [hr2] at q2
        obtain ⟨rfl, rfl, hn2, ht2, hp2⟩ := q2
        rcases HJ.out _ _ _ _ _ _ hr1 hr2 with hA | ⟨⟨ts, hts⟩, h100, hB⟩ | hC
        · have q3 := HQ3.out
          rw [show Ps.all V3 = .error (0, 4) by rw [Ps.all_of, hA]] at q3
          obtain ⟨hc3, _⟩ := q3
          obtain rfl : c3 = 4 := hc3
          clear hn1 ht1 hp1 hn2 ht2 hp2
          go_wp2_with fail
          refine (R3.out _).mono ?_
          rintro e w4 ⟨hb4, h4⟩
          rw [hA] at h4
          obtain rfl := h4
          have HB4 := Lib.hid (HBW.out.trans (hb4.mono HBW.out.size))
          clear hb4
          go_wp2
          go_ret
          exact ⟨rfl, HB4.out⟩
        · have q3 := HQ3.out
          rw [hB] at q3
          obtain ⟨hc3, _⟩ := q3
          obtain rfl : c3 = 4 := hc3
          have hsum : ((100 : Int) < (n1 : Int) + (n2 : Int)) = True := eq_true (by omega)
          have hx := hr1
          have hn1b : n1 ≤ 100 := by rw [hn1]; exact (Ps.all_in hr1).2.1
          have hn2b : n2 ≤ 100 := by rw [hn2]; exact (Ps.all_in hr2).2.1
          clear hn1 ht1 hp1 hn2 ht2 hp2 h100 hx
          go_wp2_with fail
          refine (R3.out _).mono ?_
          rintro e w4 ⟨hb4, h4⟩
          rw [hts] at h4
          obtain ⟨v, rfl, ho⟩ := h4
          obtain ⟨vo, vc, rfl, _⟩ := ho.form
          obtain ⟨u, r, hne, _⟩ := (Ps.all_ends hts).ne
          obtain ⟨TL, hTL⟩ : ∃ TL, ts.length = TL := ⟨_, rfl⟩
          have hTLp : 0 < TL := by rw [← hTL, hne]; simp
          rw [hTL]
          have t1 : ((TL : Int) == 0) = false := beq_eq_false_iff_ne.2 (by omega)
          have t2 : ((TL : Int) = 0) = False := eq_false (by omega)
          have t3 : (TL = 0) = False := eq_false (by omega)
          have HB4 := Lib.hid (HBW.out.trans (hb4.mono HBW.out.size))
          have p11' := (hb4.cell (show g1 < W.heap.size from k1)).trans p11
          have p21' := (hb4.cell (show g2 < W.heap.size from k2)).trans p21
          clear hb4 ho hne hTL p11 p12 p21 p22 p31 p32 hTLp
          go_wp2
          go_ret
          exact ⟨by first | rfl | simp, HB4.out⟩
        · have q3 := HQ3.out
          rw [hC] at q3
          obtain ⟨rfl, rfl, hn3, ht3, hp3⟩ := q3
          rw [List.length_append, List.length_map, ← hn1, ← hn2] at hn3
          rw [List.length_append, List.length_map, ← ht1, ← ht2] at ht3
          have hn1b : n1 ≤ 100 := by rw [hn1]; exact (Ps.all_in hr1).2.1
          have hn2b : n2 ≤ 100 := by rw [hn2]; exact (Ps.all_in hr2).2.1
          have htb : ∀ {V md row t}, Ps.all V = .ok (md, row, t) → t.length ≤ 100 := fun h => by
            obtain ⟨_, hb, _, _, _, hper⟩ := Ps.all_in h
            have := hper.length_eq
            rw [List.length_append, List.length_range] at this
            omega
          have ht1b : tn1 ≤ 100 := by rw [ht1]; exact htb hr1
          have ht2b : tn2 ≤ 100 := by rw [ht2]; exact htb hr2
          rw [← hg3] at HG3 p31 p32 k3
          have HP := Lib.hid (⟨p11, p21, p31⟩ : _ ∧ _ ∧ _)
          have hm3 := hp3.below HA3.out
          have hm2 := hp2.below HY2.out
          have HM3 := Lib.hid hm3
          have HM2 := Lib.hid hm2
          have HN1 := Lib.hid hn1
          have HN2 := Lib.hid hn2
          clear hm3 hm2 hn1 ht1 hp1 hn2 ht2 hp2 hp3 htb hr1 hr2 hC hg3
          have HN3 := Lib.hid hn3
          have b1 : ((n3 : Int) != (n1 : Int) + (n2 : Int)) = false := by rw [bne_eq_false_iff_eq]; omega
          have b2 : ((n3 : Int) == (n1 : Int) + (n2 : Int)) = true := by rw [beq_iff_eq]; omega
          have b3 : ((n3 : Int) = (n1 : Int) + (n2 : Int)) = True := eq_true (by omega)
          have b4 : ((tn3 : Int) != (tn1 : Int) + (tn2 : Int)) = false := by rw [bne_eq_false_iff_eq]; omega
          have b5 : ((tn3 : Int) == (tn1 : Int) + (tn2 : Int)) = true := by rw [beq_iff_eq]; omega
          have b6 : ((tn3 : Int) = (tn1 : Int) + (tn2 : Int)) = True := eq_true (by omega)
          clear hn3 ht3
          go_wp2
          go_loopw [21, 22, 23] (fun s21 s22 s23 wr => ∃ i : Nat, i ≤ n2 ∧ s21 = .int .i64 i ∧ Hid (Below W.heap.size W wr)) (fun s21 s22 s23 _ => n2 - (intOf s21).toNat)
          case atStart => exact ⟨0, Nat.zero_le _, rfl, Lib.hid (Below.refl _ _)⟩
          case round =>
            obtain ⟨i, hi, rfl, HR⟩ := hrel
            clear p11 p12 p21 p22 p31 p32 b1 b2 b3 b4 b5 b6
            have e11 := (HR.out.cell (show g1 < W.heap.size from k1)).trans HP.out.1
            have e21 := (HR.out.cell (show g2 < W.heap.size from k2)).trans HP.out.2.1
            have e31 := (HR.out.cell (show w3.heap.size < W.heap.size from k3)).trans HP.out.2.2
            by_cases hlt : i < n2
            · obtain ⟨st, hst⟩ : ∃ st, row2[i]? = some st := ⟨_, List.getElem?_eq_getElem (by rw [← HN2.out]; exact hlt)⟩
              have hst3 : (row1 ++ row2.map (Ps.mv row1.length (S.length + 1)))[n1 + i]? = some (Ps.mv row1.length (S.length + 1) st) := by
                rw [List.getElem?_append_right (by rw [← HN1.out]; omega), ← HN1.out, Nat.add_sub_cancel_left, List.getElem?_map, hst]
                rfl
              obtain ⟨ao3, cp3, e3, _, at3⟩ := HM3.out.at
              obtain ⟨ao2, cp2, e2, _, at2⟩ := HM2.out.at
              simp only [Value.slice.injEq] at e3 e2
              obtain ⟨rfl, hh3, rfl⟩ := e3
              obtain ⟨rfl, hh2, rfl⟩ := e2
              clear hh3 hh2
              obtain ⟨q3, u3, v3, rfl, ru3, rv3, cc3⟩ := at3 _ _ hst3
              obtain ⟨q2, u2, v2, rfl, ru2, rv2, cc2⟩ := at2 _ _ hst
              obtain ⟨u3o, u3c, rfl, _⟩ := ru3.formV
              obtain ⟨v3o, v3c, rfl, _⟩ := rv3.formV
              obtain ⟨u2o, u2c, rfl, _⟩ := ru2.formV
              obtain ⟨v2o, v2c, rfl, _⟩ := rv2.formV
              have d3 := fun (j : Nat) (u : Value) (hu : (stCells ⟨Ps.mv row1.length (S.length + 1) st, .slice u3o ((Ps.mv row1.length (S.length + 1) st).l.map nv).length u3c, .slice v3o ((Ps.mv row1.length (S.length + 1) st).m.map nv).length v3c⟩)[j]? = some u) => (HR.out.cell (World.block_lt_of_cell? W _ (cc3 j u hu))).trans (cc3 j u hu)
              have d2 := fun (j : Nat) (u : Value) (hu : (stCells ⟨st, .slice u2o (st.l.map nv).length u2c, .slice v2o (st.m.map nv).length v2c⟩)[j]? = some u) => (HR.out.cell (World.block_lt_of_cell? W _ (cc2 j u hu))).trans (cc2 j u hu)
              obtain ⟨kd, sS, sT, sU, nn, pp, ll, mm⟩ := st
              unfold Ps.mv at d3
              dsimp only at d3 d2
              rw [List.length_map, List.length_map, List.length_map, List.length_map] at d3
              rw [List.length_map, List.length_map] at d2
              obtain ⟨LL, hLL⟩ : ∃ LL, ll.length = LL := ⟨_, rfl⟩
              obtain ⟨LM, hLM⟩ : ∃ LM, mm.length = LM := ⟨_, rfl⟩
              rw [hLL, hLM] at d3 d2
              obtain ⟨PP, hPP⟩ : ∃ PP, pp + (S.length + 1) = PP := ⟨_, rfl⟩
              rw [hPP] at d3
              have kp : ∀ (o : Obj) (k i : Nat) v, wr.cell? ⟨k, i, none⟩ = some v → (wr.alloc o).cell? ⟨k, i, none⟩ = some v := fun o k i v hv => (World.cell?_of_block (a := ⟨k, i, none⟩) (Below.heap_alloc _ _ _ (World.block_lt_of_cell? wr _ hv))).trans hv
              have e21' := fun o => kp o _ _ _ e21
              have a0 := d3 0 _ rfl
              have a1 := d3 1 _ rfl
              have a2 := d3 2 _ rfl
              have a3 := d3 3 _ rfl
              have a4 := d3 4 _ rfl
              have a5 := d3 5 _ rfl
              have a6 := d3 6 _ rfl
              have a7 := d3 7 _ rfl
              have b0 : wr.cell? ⟨q2, i * 8, none⟩ = some _ := d2 0 _ rfl
              have c0 := fun o => kp o _ _ _ b0
              have b1 : wr.cell? ⟨q2, i * 8 + 1, none⟩ = some _ := d2 1 _ rfl
              have c1 := fun o => kp o _ _ _ b1
              have b2 : wr.cell? ⟨q2, i * 8 + 2, none⟩ = some _ := d2 2 _ rfl
              have c2 := fun o => kp o _ _ _ b2
              have b3 : wr.cell? ⟨q2, i * 8 + 3, none⟩ = some _ := d2 3 _ rfl
              have c3 := fun o => kp o _ _ _ b3
              have b4 : wr.cell? ⟨q2, i * 8 + 4, none⟩ = some _ := d2 4 _ rfl
              have c4 := fun o => kp o _ _ _ b4
              have b5 : wr.cell? ⟨q2, i * 8 + 5, none⟩ = some _ := d2 5 _ rfl
              have c5 := fun o => kp o _ _ _ b5
              have b6 : wr.cell? ⟨q2, i * 8 + 6, none⟩ = some _ := d2 6 _ rfl
              have c6 := fun o => kp o _ _ _ b6
              have b7 : wr.cell? ⟨q2, i * 8 + 7, none⟩ = some _ := d2 7 _ rfl
              have c7 := fun o => kp o _ _ _ b7
              simp only [Nat.add_zero] at a0
              dsimp only at a0 a1 a2 a3 a4 a5 a6 a7
              have HR2 := Lib.hid (fun o o' => (HR.out.alloc HR.out.size o).alloc (Nat.le_trans HR.out.size (by simp)) o')
              clear b0 b1 b2 b3 b4 b5 b6 b7 kp
              have b7 : (n1 : Int) + (i : Int) < (n3 : Int) := by have := HN3.out; omega
              clear d3 d2 cc3 cc2 ru3 rv3 ru2 rv2 at3 at2 hst hst3 hLL hLM hPP
              go_wp2
              go_roundw
              case rel => exact ⟨i + 1, by omega, by first | rfl | go_num, Lib.hid (HR2.out _ _)⟩
              case measure => simp [intOf]; omega
            · have HB5 := Lib.hid (HBW.out.trans (HR.out.mono HBW.out.size))
              obtain rfl : i = n2 := by omega
              clear hlt hi
              go_wp2
              go_ret
              exact ⟨rfl, HB5.out⟩
end Go.Proofs.YtiikionoagmabaaDoor
