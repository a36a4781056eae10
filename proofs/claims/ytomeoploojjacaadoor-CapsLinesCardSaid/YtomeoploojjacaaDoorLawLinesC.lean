/- CapsLines walked. (Laid by wip/tools/gen_clines.py.) -/
import Derived.Test.YtomeoploojjacaaDoorLawAllC
import Derived.Test.YtomeoploojjacaaDoorToBytes
namespace Go.Proofs.YtomeoploojjacaaDoor
open Go.RowKit

theorem lines_body {b c : List UInt8} (hb : ∀ x ∈ b, x ≠ 13 ∧ x ≠ 10) (hc : ∀ x ∈ c, x ≠ 13 ∧ x ≠ 10) (ls : List (List UInt8)) : Cp.of 2 ls (b ++ [13, 10] ++ c ++ [13, 10]) = Cp.ofLines [b, c] := by
  unfold Cp.of Cp.count
  rw [if_neg (by decide), if_neg (by decide), if_pos rfl, Cp.lines_two (fun x hx => (hb x hx).1) (fun x hx => (hc x hx).1)]
  exact Cp.ofLines_nil [b, c]
theorem one_line (b : List UInt8) : (Cp.ofLines [b]).length = if (Tx.words b).isEmpty then 0 else 1 := by
  have h := Cp.capOf_some (l := b)
  unfold Cp.ofLines
  cases hx : Cp.capOf b with
  | none =>
    rw [hx] at h
    have hw : (Tx.words b).isEmpty = true := by simpa using h.symm
    simp [hx, hw]
  | some k =>
    rw [hx] at h
    have hw : (Tx.words b).isEmpty = false := by simpa using h.symm
    simp [hx, hw]
theorem rcap_words (s : ByteArray) (hs : s.size ≤ 1048576) (w : World) : Calls Tryd.prog 18 #[.string s] w fun e w' => ∃ ao cap, e = .returned (.slice ao (Tx.words s.data.toList).length cap) ∧ Below w.heap.size w w' := by
  refine (ref_words s w hs).mono ?_
  rintro e w' ⟨v, rfl, ho, hb⟩
  obtain ⟨ao, cap, rfl⟩ := own_form ho
  exact ⟨ao, cap, rfl, hb⟩
/-- A slice of caps whose number is known. -/
theorem CL.len {w : World} {v : Value} {cs : List Cp.Cap} (h : CL w v cs) {n : Nat} (hn : cs.length = n) : ∃ ao cap, v = .slice ao n cap := by
  obtain ⟨ao, cap, e, _⟩ := h.form
  exact ⟨ao, cap, by rw [e, hn]⟩

set_option maxRecDepth 20000 in
set_option maxHeartbeats 4000000 in
theorem lawLinesC (a b c : ByteArray) (_ha : a.size ≤ maxLen) (_hb : b.size ≤ maxLen) (_hc : c.size ≤ maxLen) (w : World) (hm : MX w) :
    Calls Tryd.prog 5 #[.string a, .string b, .string c] w fun e w' => e = .returned (.bool true) ∧ Below w.heap.size w w' := by
  have CS := Lib.hid (cshown_any w hm)
  have BA := Lib.hid (fun wx => bare_any a wx)
  have BB := Lib.hid (fun wx => bare_any b wx)
  have BC := Lib.hid (fun wx => bare_any c wx)
  have HM := Lib.hid hm
  unfold sv at BA BB BC
  clear hm _ha _hb _hc
  go_enter Tryd.func5, Tryd.ntmps5
  go_wp2_with fail
  refine CS.out.mono ?_
  rintro e w1 ⟨rfl, hb1⟩
  have HB1 := Lib.hid hb1
  clear hb1
  go_wp2_with fail
  refine (BA.out _).mono ?_
  rintro e w9 ⟨xa, rfl, la, ca, h9⟩
  obtain rfl := h9.symm
  go_wp2_with fail
  refine (BB.out _).mono ?_
  rintro e w9 ⟨xb, rfl, lb, cb, h9⟩
  obtain rfl := h9.symm
  go_wp2_with fail
  refine (BC.out _).mono ?_
  rintro e w9 ⟨xc, rfl, lc, cc, h9⟩
  obtain rfl := h9.symm
  obtain ⟨A, hA⟩ : ∃ A : ByteArray, A = ⟨xa.toArray⟩ := ⟨_, rfl⟩
  obtain ⟨B, hB⟩ : ∃ B : ByteArray, B = ⟨xb.toArray⟩ := ⟨_, rfl⟩
  obtain ⟨C, hC⟩ : ∃ C : ByteArray, C = ⟨xc.toArray⟩ := ⟨_, rfl⟩
  rw [← hA, ← hB, ← hC]
  have hBl : B.data.toList = xb := by rw [hB]
  have hCl : C.data.toList = xc := by rw [hC]
  obtain ⟨P, hP⟩ : ∃ P, B.size = P := ⟨_, rfl⟩
  obtain ⟨Q, hQ⟩ : ∃ Q, C.size = Q := ⟨_, rfl⟩
  have lP : P ≤ 200 := by rw [← hP, Lib.size_eq, hBl]; exact lb
  have lQ : Q ≤ 200 := by rw [← hQ, Lib.size_eq, hCl]; exact lc
  obtain ⟨T1, hT1⟩ : ∃ T1, B ++ (⟨#[13, 10]⟩ : ByteArray) = T1 := ⟨_, rfl⟩
  have hs1 : T1.size = P + 2 := by rw [← hT1, ByteArray.size_append, hP]; rfl
  obtain ⟨T2, hT2⟩ : ∃ T2, T1 ++ C = T2 := ⟨_, rfl⟩
  have hs2 : T2.size = P + 2 + Q := by rw [← hT2, ByteArray.size_append, hs1, hQ]
  obtain ⟨T3, hT3⟩ : ∃ T3, T2 ++ (⟨#[13, 10]⟩ : ByteArray) = T3 := ⟨_, rfl⟩
  obtain ⟨E, hE⟩ : ∃ E, E = P + 2 + Q + 2 := ⟨_, rfl⟩
  have hs3 : T3.size = E := by rw [← hT3, ByteArray.size_append, hs2, hE]; rfl
  have hl3 : T3.data.toList = xb ++ [13, 10] ++ xc ++ [13, 10] := by rw [← hT3, ← hT2, ← hT1, Go.Joins.data_append, Go.Joins.data_append, Go.Joins.data_append, hBl, hCl]
  have y1 : (⟨#[13, 10]⟩ : ByteArray).size = 2 := rfl
  obtain ⟨wr, hwr⟩ : ∃ wr, wr = w1.alloc (.cells #[.string A, .string B, .string C] 9 (0, 0)) := ⟨_, rfl⟩
  have hal : Below w1.heap.size w1 wr := by rw [hwr]; exact (Below.refl _ _).alloc (Nat.le_refl _) _
  have hszr : wr.heap.size = w1.heap.size + 1 := by rw [hwr]; simp
  obtain ⟨w2, cap, hcv, hrb, hb2⟩ := to_bytes wr T3 (by rw [hs3]; unfold maxLen; omega)
  have hrow : Rd wr (.slice (some ⟨w1.heap.size, 0, none⟩) 3 3) ([xa, xb, xc].map sv) := by
    have := Rd.rowOf w1 [xa, xb, xc] (0, 0) 9 (by simp)
    rw [show [xa, xb, xc].map sv = [.string A, .string B, .string C] by rw [hA, hB, hC]; rfl] at this ⊢
    rw [hwr]
    exact this
  rw [hl3, hs3] at hrb
  rw [hs3] at hcv
  obtain ⟨w3, hw3⟩ : ∃ w3, w3 = w2.alloc (.cells #[.string ⟨#[]⟩, .slice (some ⟨w1.heap.size, 0, none⟩) 3 3, .slice (some ⟨wr.heap.size, 0, none⟩) E cap] 25 (0, 0)) := ⟨_, rfl⟩
  have hal3 : Below w2.heap.size w2 w3 := by rw [hw3]; exact (Below.refl _ _).alloc (Nat.le_refl _) _
  have hb3 : Below w.heap.size w w3 := ((HB1.out.trans (hal.mono HB1.out.size)).trans (hb2.mono (Nat.le_trans HB1.out.size hal.size))).trans (hal3.mono (Nat.le_trans HB1.out.size (Nat.le_trans hal.size hb2.size)))
  have hr3 : RB w3 w2.heap.size ⟨#[]⟩ (.slice (some ⟨w1.heap.size, 0, none⟩) 3 3) (.slice (some ⟨wr.heap.size, 0, none⟩) E cap) := by rw [hw3]; exact heap_alloc_new w2 _
  have hrow3 := (hrow.below hb2).below hal3
  have hrb3 := hrb.below hal3
  have hle : ∀ x ∈ [xa, xb, xc], x.length ≤ 1000 := by
    intro x hx
    simp only [List.mem_cons, List.not_mem_nil, or_false] at hx
    rcases hx with rfl | rfl | rfl <;> omega
  have CO := Lib.hid (fun (p : Int) wx (h : Below w3.heap.size w3 wx) => of_any p ⟨#[]⟩ _ _ [xa, xb, xc] (xb ++ [13, 10] ++ xc ++ [13, 10]) wx (hrow3.below h) (hrb3.below h) (by simp) (by simp; omega) hle (HM.out.below (hb3.trans (h.mono hb3.size))))
  rw [hszr] at hr3 CO hw3 hcv
  have HR3 := Lib.hid hr3
  have HW3 := Lib.hid hw3
  have HB3 := Lib.hid hb3
  have o1 : Cp.of 1 [xa, xb, xc] (xb ++ [13, 10] ++ xc ++ [13, 10]) = Cp.ofLines [xb, xc] := rfl
  have o3 : Cp.of 3 [xa, xb, xc] (xb ++ [13, 10] ++ xc ++ [13, 10]) = Cp.ofLines [xb] := rfl
  have o2 := lines_body cb cc [xa, xb, xc]
  have o4 : Cp.of 4 [xa, xb, xc] (xb ++ [13, 10] ++ xc ++ [13, 10]) = [] := rfl
  have CO1 := fun wx h => CO.out 1 wx h
  have CO2 := fun wx h => CO.out 2 wx h
  have CO3 := fun wx h => CO.out 3 wx h
  have CO4 := fun wx h => CO.out 4 wx h
  rw [o1] at CO1
  rw [o2] at CO2
  rw [o3] at CO3
  rw [o4] at CO4
  have CO1 := Lib.hid CO1
  have CO2 := Lib.hid CO2
  have CO3 := Lib.hid CO3
  have CO4 := Lib.hid CO4
  have c5 := fun wx (h : Below w3.heap.size w3 wx) => of_any 1 ⟨#[]⟩ (.slice none 0 0) (.slice none 0 0) [] [] wx (.inl ⟨rfl, _, _, fun _ => rfl, rfl⟩) (.inl ⟨rfl, _, _, fun _ => rfl, rfl⟩) (by decide) (by decide) (fun x hx => by cases hx) (HM.out.below (hb3.trans (h.mono hb3.size)))
  rw [show Cp.of 1 [] [] = [] from rfl] at c5
  have CO5 := Lib.hid c5
  have c6 := fun wx (h : Below w3.heap.size w3 wx) => of_row 3 [xa, xb] wx (by simp) (fun x hx => hle x (by simp at hx ⊢; rcases hx with rfl | rfl <;> simp)) (HM.out.below (hb3.trans (h.mono hb3.size)))
  rw [show Cp.of 3 [xa, xb] [] = [] from rfl, show [xa, xb].map sv = [.string A, .string B] by rw [hA, hB]; rfl] at c6
  have CO6 := Lib.hid c6
  have WB := Lib.hid (fun wx => (rcap_words B (by omega) wx))
  have WC := Lib.hid (fun wx => (rcap_words C (by omega) wx))
  rw [hBl] at WB
  rw [hCl] at WC
  obtain ⟨M, hM⟩ : ∃ M, M = (Cp.ofLines [xb, xc]).length := ⟨_, rfl⟩
  obtain ⟨F, hF⟩ : ∃ F, F = (Cp.ofLines [xb]).length := ⟨_, rfl⟩
  have hM2 := Cp.ofLines_two xb xc
  have hF2 := one_line xb
  rw [← hM] at hM2
  rw [← hF] at hF2
  obtain ⟨nb, hnb⟩ : ∃ nb, nb = (Tx.words xb).length := ⟨_, rfl⟩
  obtain ⟨nc, hnc⟩ : ∃ nc, nc = (Tx.words xc).length := ⟨_, rfl⟩
  rw [← hnb] at WB
  rw [← hnc] at WC
  have eb : (Tx.words xb).isEmpty = decide (nb = 0) := by rw [hnb]; cases Tx.words xb <;> rfl
  have ec : (Tx.words xc).isEmpty = decide (nc = 0) := by rw [hnc]; cases Tx.words xc <;> rfl
  rw [eb, ec] at hM2
  rw [eb] at hF2
  have HMM := Lib.hid hM
  have HFF := Lib.hid hF
  have HM2 := Lib.hid hM2
  have HF2 := Lib.hid hF2
  have HCL : (Cp.ofLines [xb, xc]).length ≤ 1048576 := Nat.le_trans (Cp.ofLines_len _) (by simp)
  have HCL := Lib.hid HCL
  have hdw : wr = w1.alloc (.cells #[.string A, .string B, .string C] 9 (0, 0)) := hwr
  rw [hdw] at hcv
  clear hE hwr hdw hal hszr hrb hb2 hrow hal3 hb3 hr3 hrow3 hrb3 hle hw3 CO c5 c6 hM hF hM2 hF2 hnb hnc eb ec hA hB hC hBl hCl hl3 la lb lc ca cb cc o1 o2 o3 o4
  go_wp2_with fail
  rw [← HW3.out]
  refine (CO1.out _ (Below.refl _ _)).mono ?_
  rintro e w4 ⟨v1, rfl, hv1, hb4⟩
  have HV1 := Lib.hid hv1
  have HB4 := Lib.hid hb4
  obtain ⟨p0, p1, p2, _⟩ := (HR3.out.below hb4).k
  clear hv1 hb4
  go_wp2_with fail
  refine (CO3.out _ HB4.out).mono ?_
  rintro e w5 ⟨v3, rfl, hv3, hb5⟩
  have HV1 := Lib.hid (HV1.out.below hb5)
  have HB5 := Lib.hid (HB4.out.trans (hb5.mono HB4.out.size))
  obtain ⟨ao3, cp3, rfl⟩ := hv3.len HFF.out.symm
  obtain ⟨p0, p1, p2, _⟩ := (HR3.out.below HB5.out).k
  clear hv3 hb5
  go_wp2_with fail
  refine (CO2.out _ HB5.out).mono ?_
  rintro e w6 ⟨v2, rfl, hv2, hb6⟩
  have HV1 := Lib.hid (HV1.out.below hb6)
  have HV2 := Lib.hid hv2
  have HB6 := Lib.hid (HB5.out.trans (hb6.mono HB5.out.size))
  clear hv2 hb6 p0 p1 p2
  go_wp2_with fail
  refine (WB.out _).mono ?_
  rintro e w7 ⟨ob, cb, rfl, hb7⟩
  have HB7 := Lib.hid (HB6.out.trans (hb7.mono HB6.out.size))
  have HV1 := Lib.hid (HV1.out.below hb7)
  have HV2 := Lib.hid (HV2.out.below hb7)
  clear hb7
  go_wp2_with fail
  refine (WC.out _).mono ?_
  rintro e w8 ⟨oc, cc, rfl, hb8⟩
  have HB8 := Lib.hid (HB7.out.trans (hb8.mono HB7.out.size))
  have HV1 := Lib.hid (HV1.out.below hb8)
  have HV2 := Lib.hid (HV2.out.below hb8)
  clear hb8
  have SM := Lib.hid (csame_any v1 v2 _ w8 HV1.out HV2.out HCL.out)
  obtain ⟨ao1, cp1, rfl⟩ := HV1.out.len HMM.out.symm
  go_wp2_with fail
  refine SM.out.mono ?_
  rintro e w10 ⟨rfl, hb10⟩
  have HB10 := Lib.hid (HB8.out.trans (hb10.mono HB8.out.size))
  obtain ⟨p0, p1, p2, _⟩ := (HR3.out.below HB10.out).k
  clear hb10
  by_cases hb0 : nb = 0
  · by_cases hc0 : nc = 0
    · have n1 : M = 0 := by rw [HM2.out]; simp [hb0, hc0]
      have n2 : F = 0 := by rw [HF2.out]; simp [hb0]
      have t1 : ((0 : Int) < (nb : Int)) = False := eq_false (by omega)
      have t2 : ((0 : Int) < (nc : Int)) = False := eq_false (by omega)
      have t3 : decide (0 < nb) = false := decide_eq_false (by omega)
      have t4 : decide (0 < nc) = false := decide_eq_false (by omega)
      have t5 : (0 < nb) = False := eq_false (by omega)
      have t6 : (0 < nc) = False := eq_false (by omega)
      subst n1
      subst n2
      clear hb0 hc0
      go_wp2_with fail
      refine (CO4.out _ HB10.out).mono ?_
      rintro e w11 ⟨v4, rfl, hv4, hb11⟩
      obtain ⟨ao4, cp4, rfl⟩ := hv4.len (n := 0) rfl
      have HB11 := Lib.hid (HB10.out.trans (hb11.mono HB10.out.size))
      clear hv4 hb11
      go_wp2_with fail
      refine (CO5.out _ HB11.out).mono ?_
      rintro e w12 ⟨v5, rfl, hv5, hb12⟩
      obtain ⟨ao5, cp5, rfl⟩ := hv5.len (n := 0) rfl
      have HB12 := Lib.hid (HB11.out.trans (hb12.mono HB11.out.size))
      clear hv5 hb12
      go_wp2_with fail
      refine (CO6.out _ HB12.out).mono ?_
      rintro e w13 ⟨v6, rfl, hv6, hb13⟩
      obtain ⟨ao6, cp6, rfl⟩ := hv6.len (n := 0) rfl
      have HB13 := Lib.hid (HB3.out.trans ((HB12.out.trans (hb13.mono HB12.out.size)).mono HB3.out.size))
      clear hv6 hb13
      go_wp2
      go_ret
      exact ⟨ret_b (by simp), HB13.out⟩
    · have n1 : M = 1 := by rw [HM2.out]; simp [hb0, hc0]
      have n2 : F = 0 := by rw [HF2.out]; simp [hb0]
      have t1 : ((0 : Int) < (nb : Int)) = False := eq_false (by omega)
      have t2 : ((0 : Int) < (nc : Int)) = True := eq_true (by omega)
      have t3 : decide (0 < nb) = false := decide_eq_false (by omega)
      have t4 : decide (0 < nc) = true := decide_eq_true (by omega)
      have t5 : (0 < nb) = False := eq_false (by omega)
      have t6 : (0 < nc) = True := eq_true (by omega)
      subst n1
      subst n2
      clear hb0 hc0
      go_wp2_with fail
      refine (CO4.out _ HB10.out).mono ?_
      rintro e w11 ⟨v4, rfl, hv4, hb11⟩
      obtain ⟨ao4, cp4, rfl⟩ := hv4.len (n := 0) rfl
      have HB11 := Lib.hid (HB10.out.trans (hb11.mono HB10.out.size))
      clear hv4 hb11
      go_wp2_with fail
      refine (CO5.out _ HB11.out).mono ?_
      rintro e w12 ⟨v5, rfl, hv5, hb12⟩
      obtain ⟨ao5, cp5, rfl⟩ := hv5.len (n := 0) rfl
      have HB12 := Lib.hid (HB11.out.trans (hb12.mono HB11.out.size))
      clear hv5 hb12
      go_wp2_with fail
      refine (CO6.out _ HB12.out).mono ?_
      rintro e w13 ⟨v6, rfl, hv6, hb13⟩
      obtain ⟨ao6, cp6, rfl⟩ := hv6.len (n := 0) rfl
      have HB13 := Lib.hid (HB3.out.trans ((HB12.out.trans (hb13.mono HB12.out.size)).mono HB3.out.size))
      clear hv6 hb13
      go_wp2
      go_ret
      exact ⟨ret_b (by simp), HB13.out⟩
  · by_cases hc0 : nc = 0
    · have n1 : M = 1 := by rw [HM2.out]; simp [hb0, hc0]
      have n2 : F = 1 := by rw [HF2.out]; simp [hb0]
      have t1 : ((0 : Int) < (nb : Int)) = True := eq_true (by omega)
      have t2 : ((0 : Int) < (nc : Int)) = False := eq_false (by omega)
      have t3 : decide (0 < nb) = true := decide_eq_true (by omega)
      have t4 : decide (0 < nc) = false := decide_eq_false (by omega)
      have t5 : (0 < nb) = True := eq_true (by omega)
      have t6 : (0 < nc) = False := eq_false (by omega)
      subst n1
      subst n2
      clear hb0 hc0
      go_wp2_with fail
      refine (CO4.out _ HB10.out).mono ?_
      rintro e w11 ⟨v4, rfl, hv4, hb11⟩
      obtain ⟨ao4, cp4, rfl⟩ := hv4.len (n := 0) rfl
      have HB11 := Lib.hid (HB10.out.trans (hb11.mono HB10.out.size))
      clear hv4 hb11
      go_wp2_with fail
      refine (CO5.out _ HB11.out).mono ?_
      rintro e w12 ⟨v5, rfl, hv5, hb12⟩
      obtain ⟨ao5, cp5, rfl⟩ := hv5.len (n := 0) rfl
      have HB12 := Lib.hid (HB11.out.trans (hb12.mono HB11.out.size))
      clear hv5 hb12
      go_wp2_with fail
      refine (CO6.out _ HB12.out).mono ?_
      rintro e w13 ⟨v6, rfl, hv6, hb13⟩
      obtain ⟨ao6, cp6, rfl⟩ := hv6.len (n := 0) rfl
      have HB13 := Lib.hid (HB3.out.trans ((HB12.out.trans (hb13.mono HB12.out.size)).mono HB3.out.size))
      clear hv6 hb13
      go_wp2
      go_ret
      exact ⟨ret_b (by simp), HB13.out⟩
    · have n1 : M = 2 := by rw [HM2.out]; simp [hb0, hc0]
      have n2 : F = 1 := by rw [HF2.out]; simp [hb0]
      have t1 : ((0 : Int) < (nb : Int)) = True := eq_true (by omega)
      have t2 : ((0 : Int) < (nc : Int)) = True := eq_true (by omega)
      have t3 : decide (0 < nb) = true := decide_eq_true (by omega)
      have t4 : decide (0 < nc) = true := decide_eq_true (by omega)
      have t5 : (0 < nb) = True := eq_true (by omega)
      have t6 : (0 < nc) = True := eq_true (by omega)
      subst n1
      subst n2
      clear hb0 hc0
      go_wp2_with fail
      refine (CO4.out _ HB10.out).mono ?_
      rintro e w11 ⟨v4, rfl, hv4, hb11⟩
      obtain ⟨ao4, cp4, rfl⟩ := hv4.len (n := 0) rfl
      have HB11 := Lib.hid (HB10.out.trans (hb11.mono HB10.out.size))
      clear hv4 hb11
      go_wp2_with fail
      refine (CO5.out _ HB11.out).mono ?_
      rintro e w12 ⟨v5, rfl, hv5, hb12⟩
      obtain ⟨ao5, cp5, rfl⟩ := hv5.len (n := 0) rfl
      have HB12 := Lib.hid (HB11.out.trans (hb12.mono HB11.out.size))
      clear hv5 hb12
      go_wp2_with fail
      refine (CO6.out _ HB12.out).mono ?_
      rintro e w13 ⟨v6, rfl, hv6, hb13⟩
      obtain ⟨ao6, cp6, rfl⟩ := hv6.len (n := 0) rfl
      have HB13 := Lib.hid (HB3.out.trans ((HB12.out.trans (hb13.mono HB12.out.size)).mono HB3.out.size))
      clear hv6 hb13
      go_wp2
      go_ret
      exact ⟨ret_b (by simp), HB13.out⟩
end Go.Proofs.YtomeoploojjacaaDoor
