/- CapsTurns walked. -/
import Derived.Test.YtomeoploojjacaaDoorLawAllC
namespace Go.Proofs.YtomeoploojjacaaDoor
open Go.RowKit

/-- Of, of a reply whose second line alone counts. -/
theorem of_two (l : List UInt8) (L : ByteArray) (hL : L.data.toList = l) (w : World) (h : l.length ≤ 1000) (hm : MX w) :
    Calls Tryd.prog 11 #[.int .i64 1, .agg #[.string ⟨#[]⟩, .slice (some ⟨w.heap.size, 0, none⟩) 2 2, .slice none 0 0]] (w.alloc (.cells #[.string ⟨#[]⟩, .string L] 9 (0, 0))) fun e w' => ∃ v, e = .returned v ∧ CL w' v (Cp.ofLines [l]) ∧ Below w.heap.size w w' := by
  have c := of_row 1 [[], l] w (by simp) (fun x hx => by
    simp only [List.mem_cons, List.not_mem_nil, or_false] at hx
    rcases hx with rfl | rfl
    · exact Nat.zero_le _
    · exact h) hm
  have e : [[], l].map sv = [.string ⟨#[]⟩, .string L] := by
    rw [← hL]
    rfl
  rw [e] at c
  exact c

set_option maxRecDepth 20000 in
set_option maxHeartbeats 2000000 in
theorem lawTurnsC (s want : ByteArray) (_hs : s.size ≤ maxLen) (_hw : want.size ≤ maxLen) (w : World) (hm : MX w) :
    Calls Tryd.prog 6 #[.string s, .string want] w fun e w' => e = .returned (.bool true) ∧ Below w.heap.size w w' := by
  have CS := Lib.hid (cshown_any w hm)
  have BA := Lib.hid (fun wx => bare_any s wx)
  have BW := Lib.hid (fun wx => cshort_any want wx)
  have HM := Lib.hid hm
  unfold sv at BA BW
  clear hm _hs _hw
  go_enter Tryd.func6, Tryd.ntmps6
  go_wp2_with fail
  refine CS.out.mono ?_
  rintro e w1 ⟨rfl, hb1⟩
  have HB1 := Lib.hid hb1
  clear hb1
  go_wp2_with fail
  refine (BA.out _).mono ?_
  rintro e w9 ⟨x, rfl, lx, cx, h9⟩
  obtain rfl := h9.symm
  go_wp2_with fail
  refine (BW.out _).mono ?_
  rintro e w9 ⟨y, rfl, ly, h9⟩
  obtain rfl := h9.symm
  obtain ⟨S, hS⟩ : ∃ S : ByteArray, S = ⟨x.toArray⟩ := ⟨_, rfl⟩
  obtain ⟨W, hW⟩ : ∃ W : ByteArray, W = ⟨y.toArray⟩ := ⟨_, rfl⟩
  rw [← hS, ← hW]
  have hSl : S.data.toList = x := by rw [hS]
  have hWl : W.data.toList = y := by rw [hW]
  have hSz : S.size ≤ 200 := by rw [Lib.size_eq, hSl]; exact lx
  have hWz : W.size ≤ 200 := by rw [Lib.size_eq, hWl]; exact ly
  -- capitals
  obtain ⟨U, hU⟩ : ∃ U : ByteArray, U = ⟨(Tx.up x).toArray⟩ := ⟨_, rfl⟩
  obtain ⟨V, hV⟩ : ∃ V : ByteArray, V = ⟨(Tx.up y).toArray⟩ := ⟨_, rfl⟩
  have hUl : U.data.toList = Tx.up x := by rw [hU]
  have hVl : V.data.toList = Tx.up y := by rw [hV]
  have cu := fun wx => ref_upper S wx (by omega)
  have cv := fun wx => ref_upper W wx (by omega)
  rw [hSl, sv, ← hU] at cu
  rw [hWl, sv, ← hV] at cv
  have CU := Lib.hid cu
  have CV := Lib.hid cv
  obtain ⟨P, hP⟩ : ∃ P, U.size = P := ⟨_, rfl⟩
  obtain ⟨Q, hQ⟩ : ∃ Q, V.size = Q := ⟨_, rfl⟩
  have lP : P ≤ 200 := by rw [← hP, Lib.size_eq, hUl, Tx.up_len]; exact lx
  have lQ : Q ≤ 200 := by rw [← hQ, Lib.size_eq, hVl, Tx.up_len]; exact ly
  obtain ⟨T1, hT1⟩ : ∃ T1, (⟨#[32]⟩ : ByteArray) ++ U = T1 := ⟨_, rfl⟩
  have hs1 : T1.size = P + 1 := by rw [← hT1, ByteArray.size_append, hP]; show 1 + P = _; omega
  obtain ⟨T2, hT2⟩ : ∃ T2, T1 ++ (⟨#[9]⟩ : ByteArray) = T2 := ⟨_, rfl⟩
  have hl2 : T2.data.toList = 32 :: Tx.up x ++ [9] := by rw [← hT2, ← hT1, Go.Joins.data_append, Go.Joins.data_append, hUl]; simp
  obtain ⟨T3, hT3⟩ : ∃ T3, (⟨#[32, 32]⟩ : ByteArray) ++ V = T3 := ⟨_, rfl⟩
  have hs3 : T3.size ≤ 1000 := by rw [← hT3, ByteArray.size_append, hQ]; show 2 + Q ≤ _; omega
  have hl3 : T3.data.toList = 32 :: 32 :: Tx.up y := by rw [← hT3, Go.Joins.data_append, hVl]; rfl
  have y0 : (⟨#[32]⟩ : ByteArray).size = 1 := rfl
  have y1 : (⟨#[9]⟩ : ByteArray).size = 1 := rfl
  have y2 : (⟨#[32, 32]⟩ : ByteArray).size = 2 := rfl
  obtain ⟨cs, hcs⟩ : ∃ cs, cs = Cp.ofLines [x] := ⟨_, rfl⟩
  have OA := fun wx (h : Below w1.heap.size w1 wx) => of_two x S hSl wx (by omega) (HM.out.below (HB1.out.trans (h.mono HB1.out.size)))
  have OB := fun wx (h : Below w1.heap.size w1 wx) => of_two (32 :: Tx.up x ++ [9]) T2 hl2 wx (by simp [Tx.up_len]; omega) (HM.out.below (HB1.out.trans (h.mono HB1.out.size)))
  rw [← hcs] at OA
  rw [Cp.turn_line, ← hcs] at OB
  have OA := Lib.hid OA
  have OB := Lib.hid OB
  have hcl : cs.length ≤ 1048576 := by rw [hcs]; exact Nat.le_trans (Cp.ofLines_len _) (by simp)
  have hca : ∀ c ∈ cs, c.args.length ≤ 1048576 := by
    rw [hcs]
    exact Cp.args_len (fun z hz => by rw [List.mem_singleton.1 hz]; omega)
  have HCL := Lib.hid hcl
  have HW := Lib.hid (fun v wx (h : CL wx v cs) => chas_any v cs W wx h hcl hca (by omega))
  have HT := fun v wx (h : CL wx v cs) => chas_any v cs T3 wx h hcl hca (by omega)
  have HS := fun v wx (h : CL wx v cs) => chas_any v cs S wx h hcl hca (by omega)
  rw [hWl] at HW
  rw [hl3, Cp.turn_want] at HT
  obtain ⟨M, hM⟩ : ∃ M, M = cs.length := ⟨_, rfl⟩
  have ho : Cp.has cs x = decide (0 < M) := by rw [hM, hcs]; exact Cp.own_line x
  rw [hSl, ho] at HS
  obtain ⟨H, hH⟩ : ∃ H, H = Cp.has cs y := ⟨_, rfl⟩
  rw [← hH] at HW HT
  have HT := Lib.hid HT
  have HS := Lib.hid HS
  have HMM := Lib.hid hM
  have p1 : (9223372036854775807 < 1 + P) = False := eq_false (by omega)
  have p2 : (9223372036854775807 < P + 1 + 1) = False := eq_false (by omega)
  have p3 : (9223372036854775807 < P + 2) = False := eq_false (by omega)
  have p4 : (9223372036854775807 < 2 + Q) = False := eq_false (by omega)
  clear hS hW hU hV hSl hWl hUl hVl cu cv hl2 hs3 hl3 hcs hcl hca ho hM hH lx ly cx
  have OA1 := Lib.hid (OA.out _ (Below.refl _ _))
  go_wp2_with fail
  refine OA1.out.mono ?_
  rintro e w2 ⟨va, rfl, hva, hb2⟩
  have HVA := Lib.hid hva
  have HB2 := Lib.hid hb2
  clear hva hb2
  go_wp2_with fail
  refine (CU.out _).mono ?_
  rintro e w3 ⟨rfl, hb3⟩
  have HB3 := Lib.hid (HB2.out.trans (hb3.mono HB2.out.size))
  have HVA := Lib.hid (HVA.out.below hb3)
  have OB1 := Lib.hid (OB.out _ HB3.out)
  clear hb3
  go_wp2_with fail
  refine OB1.out.mono ?_
  rintro e w4 ⟨vb, rfl, hvb, hb4⟩
  have HB4 := Lib.hid (HB3.out.trans (hb4.mono HB3.out.size))
  have HVA := Lib.hid (HVA.out.below hb4)
  have HVB := Lib.hid hvb
  have SM := Lib.hid (csame_any va vb _ w4 HVA.out HVB.out HCL.out)
  obtain ⟨ao, cp, e, _⟩ := HVA.out.form
  rw [← HMM.out] at e
  subst e
  clear hb4 hvb
  go_wp2_with fail
  refine SM.out.mono ?_
  rintro e w5 ⟨rfl, hb5⟩
  have HB5 := Lib.hid (HB4.out.trans (hb5.mono HB4.out.size))
  have HVA := Lib.hid (HVA.out.below hb5)
  have HVB := Lib.hid (HVB.out.below hb5)
  have HW1 := Lib.hid (HW.out _ _ HVA.out)
  clear hb5
  go_wp2_with fail
  refine HW1.out.mono ?_
  rintro e w6 ⟨rfl, hb6⟩
  have HB6 := Lib.hid (HB5.out.trans (hb6.mono HB5.out.size))
  have HVA := Lib.hid (HVA.out.below hb6)
  have HVB := Lib.hid (HVB.out.below hb6)
  clear hb6
  go_wp2_with fail
  refine (CV.out _).mono ?_
  rintro e w7 ⟨rfl, hb7⟩
  have HB7 := Lib.hid (HB6.out.trans (hb7.mono HB6.out.size))
  have HVA := Lib.hid (HVA.out.below hb7)
  have HVB := Lib.hid (HVB.out.below hb7)
  have HT1 := Lib.hid (HT.out _ _ HVB.out)
  clear hb7
  go_wp2_with fail
  refine HT1.out.mono ?_
  rintro e w8 ⟨rfl, hb8⟩
  have HB8 := Lib.hid (HB7.out.trans (hb8.mono HB7.out.size))
  have HVA := Lib.hid (HVA.out.below hb8)
  have HS1 := Lib.hid (HS.out _ _ HVA.out)
  clear hb8
  go_wp2_with fail
  refine HS1.out.mono ?_
  rintro e w9 ⟨rfl, hb9⟩
  have HB9 := Lib.hid (HB1.out.trans ((HB8.out.trans (hb9.mono HB8.out.size)).mono HB1.out.size))
  clear hb9
  go_wp2
  go_ret
  exact ⟨ret_b (by simp), HB9.out⟩
end Go.Proofs.YtomeoploojjacaaDoor
