/- CapsEach walked. -/
import Derived.Test.YtomeoploojjacaaDoorLawAllC
namespace Go.Proofs.YtomeoploojjacaaDoor
open Go.RowKit
namespace Cp
open Tx
theorem word_letters {x : List UInt8} (h : ∀ b ∈ x, 65 ≤ b.toNat ∧ b.toNat ≤ 90) (hne : x ≠ []) : Word x := by
  refine ⟨hne, fun b hb => ?_, ?_⟩
  · have := h b hb
    unfold blk
    rw [show (b.toNat == 32) = false from beq_eq_false_iff_ne.2 (by omega), show (b.toNat == 9) = false from beq_eq_false_iff_ne.2 (by omega)]
    rfl
  · unfold up
    have : ∀ b ∈ x, upB b = b := fun b hb => upB_other (by have := h b hb; omega)
    rw [List.map_congr_left this, List.map_id'']
    exact fun _ => rfl
/-- Letters with one more behind. -/
theorem word_more {x : List UInt8} (h : ∀ b ∈ x, 65 ≤ b.toNat ∧ b.toNat ≤ 90) (c : UInt8) (hc : 65 ≤ c.toNat ∧ c.toNat ≤ 90) : Word (x ++ [c]) :=
  word_letters (fun b hb => by
    rcases List.mem_append.1 hb with hb | hb
    · exact h b hb
    · rw [List.mem_singleton.1 hb]; exact hc) (by simp)
def each (a b : List UInt8) : List Cap := [⟨[65, 85, 84, 72], [a]⟩, ⟨[65, 85, 84, 72], [b]⟩, ⟨[88], []⟩]
theorem each_of {a b : List UInt8} (ha : Word a) (hb : Word b) : of 1 [[], [65, 85, 84, 72, 32] ++ a, [65, 85, 84, 72, 32] ++ b, [32], [88]] [] = each a b := by
  show List.filterMap capOf [[65, 85, 84, 72, 32] ++ a, [65, 85, 84, 72, 32] ++ b, [32], [88]] = _
  rw [List.filterMap_cons, auth_line ha, List.filterMap_cons, auth_line hb]
  rfl
theorem each_auth {a : List UInt8} (ha : Word a) (cs : List Cap) : has cs ([65, 85, 84, 72, 32] ++ a) = hasW cs [[65, 85, 84, 72], a] := by
  unfold has
  rw [cap_words (auth_line ha)]
theorem each_both {a b : List UInt8} (ha : Word a) (hb : Word b) (cs : List Cap) : has cs ([97, 117, 116, 104, 32] ++ a ++ [32] ++ b) = hasW cs [[65, 85, 84, 72], a, b] := by
  unfold has
  have e : up ([97, 117, 116, 104, 32] ++ a ++ [32] ++ b) = [65, 85, 84, 72] ++ 32 :: (a ++ 32 :: b) := by
    rw [up_app, up_app, up_app, ha.2.2, hb.2.2]
    simp [up, upB]
  have h1 := words_one ha
  have h2 := words_one hb
  rw [ha.2.2] at h1
  rw [hb.2.2] at h2
  rw [e, words_joins 32 rfl, words_joins 32 rfl, h1, h2]
  rfl
theorem each_one {a : List UInt8} (ha : Word a) (cs : List Cap) : has cs a = hasW cs [a] := by
  unfold has
  rw [words_one ha]
theorem each_x (a b : List UInt8) : has (each a b) [120] = true := by
  unfold has
  rw [show words (up [120]) = [[88]] from by decide +kernel]
  simp [hasW, each, hasOne]
/-- What CapsEach asks. -/
theorem each_facts {a b : List UInt8} (ha : Word a) (hb : Word b) (hab : a ≠ b) (h1 : a ≠ [65, 85, 84, 72]) (h2 : a ≠ [88]) :
    has (each a b) ([65, 85, 84, 72, 32] ++ a) = true ∧ has (each a b) ([65, 85, 84, 72, 32] ++ b) = true ∧ has (each a b) ([97, 117, 116, 104, 32] ++ a ++ [32] ++ b) = false ∧ has (each a b) [120] = true ∧ has (each a b) a = false := by
  refine ⟨?_, ?_, ?_, each_x a b, ?_⟩
  · rw [each_auth ha]
    simp [hasW, each, hasOne]
  · rw [each_auth hb]
    simp [hasW, each, hasOne]
  · rw [each_both ha hb]
    simp [hasW, each, hasOne, hab, Ne.symm hab]
  · rw [each_one ha]
    have e1 : (([65, 85, 84, 72] : List UInt8) == a) = false := beq_eq_false_iff_ne.2 (Ne.symm h1)
    have e2 : (([88] : List UInt8) == a) = false := beq_eq_false_iff_ne.2 (Ne.symm h2)
    simp only [hasW, each, hasOne, List.any_cons, List.any_nil, e1, e2, Bool.false_and, Bool.or_false]
theorem last_ne {x y : List UInt8} {c d : UInt8} (h : c ≠ d) : x ++ [c] ≠ y ++ [d] := fun e => h (by
  have := congrArg List.getLast? e
  simpa using this)
end Cp

set_option maxRecDepth 20000 in
set_option maxHeartbeats 2000000 in
theorem lawEachC (s t : ByteArray) (hs : s.size ≤ maxLen) (ht : t.size ≤ maxLen) (w : World) (hm : MX w) :
    Calls Tryd.prog 7 #[.string s, .string t] w fun e w' => e = .returned (.bool true) ∧ Below w.heap.size w w' := by
  have CS := Lib.hid (cshown_any w hm)
  have BA := Lib.hid (fun wx => letters_any s wx hs)
  have BB := Lib.hid (fun wx => letters_any t wx ht)
  have HM := Lib.hid hm
  unfold sv at BA BB
  clear hm hs ht
  go_enter Tryd.func7, Tryd.ntmps7
  go_wp2_with fail
  refine CS.out.mono ?_
  rintro e w1 ⟨rfl, hb1⟩
  have HB1 := Lib.hid hb1
  clear hb1
  go_wp2_with fail
  refine (BA.out _).mono ?_
  rintro e w9 ⟨x, rfl, lx, cx, h9⟩
  obtain rfl := h9.symm
  obtain ⟨X, hX⟩ : ∃ X : ByteArray, X = ⟨x.toArray⟩ := ⟨_, rfl⟩
  rw [← hX]
  have hXl : X.data.toList = x := by rw [hX]
  obtain ⟨P, hP⟩ : ∃ P, X.size = P := ⟨_, rfl⟩
  have lP : P ≤ 12 := by rw [← hP, Lib.size_eq, hXl]; exact lx
  obtain ⟨A, hA⟩ : ∃ A, X ++ (⟨#[65]⟩ : ByteArray) = A := ⟨_, rfl⟩
  have hAs : A.size = P + 1 := by rw [← hA, ByteArray.size_append, hP]; rfl
  have hAl : A.data.toList = x ++ [65] := by rw [← hA, Go.Joins.data_append, hXl]
  have y0 : (⟨#[65]⟩ : ByteArray).size = 1 := rfl
  have y1 : (⟨#[66]⟩ : ByteArray).size = 1 := rfl
  have y2 : (⟨#[65, 85, 84, 72, 32]⟩ : ByteArray).size = 5 := rfl
  have y3 : (⟨#[97, 117, 116, 104, 32]⟩ : ByteArray).size = 5 := rfl
  have y4 : (⟨#[32]⟩ : ByteArray).size = 1 := rfl
  clear hX
  go_wp2_with fail
  refine (BB.out _).mono ?_
  rintro e w9 ⟨z, rfl, lz, cz, h9⟩
  obtain rfl := h9.symm
  obtain ⟨Z, hZ⟩ : ∃ Z : ByteArray, Z = ⟨z.toArray⟩ := ⟨_, rfl⟩
  rw [← hZ]
  have hZl : Z.data.toList = z := by rw [hZ]
  obtain ⟨Q, hQ⟩ : ∃ Q, Z.size = Q := ⟨_, rfl⟩
  have lQ : Q ≤ 12 := by rw [← hQ, Lib.size_eq, hZl]; exact lz
  obtain ⟨B, hB⟩ : ∃ B, Z ++ (⟨#[66]⟩ : ByteArray) = B := ⟨_, rfl⟩
  have hBs : B.size = Q + 1 := by rw [← hB, ByteArray.size_append, hQ]; rfl
  have hBl : B.data.toList = z ++ [66] := by rw [← hB, Go.Joins.data_append, hZl]
  clear hZ
  obtain ⟨a, ha⟩ : ∃ a, a = x ++ [65] := ⟨_, rfl⟩
  obtain ⟨b, hb⟩ : ∃ b, b = z ++ [66] := ⟨_, rfl⟩
  have wa : Cp.Word a := by rw [ha]; exact Cp.word_more cx 65 (by decide)
  have wb : Cp.Word b := by rw [hb]; exact Cp.word_more cz 66 (by decide)
  have nab : a ≠ b := by rw [ha, hb]; exact Cp.last_ne (by decide)
  have nX : a ≠ [88] := by rw [ha]; exact Cp.last_ne (x := x) (y := []) (by decide)
  have nA : a ≠ [65, 85, 84, 72] := by rw [ha]; exact Cp.last_ne (x := x) (y := [65, 85, 84]) (by decide)
  rw [← ha] at hAl
  rw [← hb] at hBl
  have lna : a.length ≤ 13 := by rw [ha, List.length_append]; show x.length + 1 ≤ 13; omega
  have lnb : b.length ≤ 13 := by rw [hb, List.length_append]; show z.length + 1 ≤ 13; omega
  obtain ⟨f1, f2, f3, f4, f5⟩ := Cp.each_facts wa wb nab nA nX
  have hof := Cp.each_of wa wb
  obtain ⟨cs, hcs⟩ : ∃ cs, cs = Cp.each a b := ⟨_, rfl⟩
  rw [← hcs] at f1 f2 f3 f4 f5 hof
  have hcl : cs.length = 3 := by rw [hcs]; rfl
  have hcl2 : cs.length ≤ 1048576 := by omega
  have hca : ∀ c ∈ cs, c.args.length ≤ 1048576 := by
    rw [hcs]
    intro c hc
    simp only [Cp.each, List.mem_cons, List.not_mem_nil, or_false] at hc
    rcases hc with rfl | rfl | rfl <;> simp
  obtain ⟨T1, hT1⟩ : ∃ T1, (⟨#[65, 85, 84, 72, 32]⟩ : ByteArray) ++ A = T1 := ⟨_, rfl⟩
  obtain ⟨T2, hT2⟩ : ∃ T2, (⟨#[65, 85, 84, 72, 32]⟩ : ByteArray) ++ B = T2 := ⟨_, rfl⟩
  have l1 : T1.data.toList = [65, 85, 84, 72, 32] ++ a := by rw [← hT1, Go.Joins.data_append, hAl]
  have l2 : T2.data.toList = [65, 85, 84, 72, 32] ++ b := by rw [← hT2, Go.Joins.data_append, hBl]
  have s1 : T1.size ≤ 1000 := by rw [← hT1, ByteArray.size_append, hAs]; show 5 + (P + 1) ≤ _; omega
  have s2 : T2.size ≤ 1000 := by rw [← hT2, ByteArray.size_append, hBs]; show 5 + (Q + 1) ≤ _; omega
  obtain ⟨V1, hV1⟩ : ∃ V1, (⟨#[97, 117, 116, 104, 32]⟩ : ByteArray) ++ A = V1 := ⟨_, rfl⟩
  have v1 : V1.size = P + 6 := by rw [← hV1, ByteArray.size_append, hAs]; show 5 + (P + 1) = _; omega
  obtain ⟨V2, hV2⟩ : ∃ V2, V1 ++ (⟨#[32]⟩ : ByteArray) = V2 := ⟨_, rfl⟩
  have v2 : V2.size = P + 7 := by rw [← hV2, ByteArray.size_append, v1]; rfl
  obtain ⟨V3, hV3⟩ : ∃ V3, V2 ++ B = V3 := ⟨_, rfl⟩
  have v3 : V3.size ≤ 1000 := by rw [← hV3, ByteArray.size_append, v2, hBs]; omega
  have l3 : V3.data.toList = [97, 117, 116, 104, 32] ++ a ++ [32] ++ b := by rw [← hV3, ← hV2, ← hV1, Go.Joins.data_append, Go.Joins.data_append, Go.Joins.data_append, hAl, hBl]
  have hrow : [[], [65, 85, 84, 72, 32] ++ a, [65, 85, 84, 72, 32] ++ b, [32], [88]].map sv = [.string ⟨#[]⟩, .string T1, .string T2, .string ⟨#[32]⟩, .string ⟨#[88]⟩] := by
    rw [← l1, ← l2]
    rfl
  have OA := fun wx (h : Below w1.heap.size w1 wx) => of_row 1 [[], [65, 85, 84, 72, 32] ++ a, [65, 85, 84, 72, 32] ++ b, [32], [88]] wx (by simp) (fun y hy => by
    simp only [List.mem_cons, List.not_mem_nil, or_false] at hy
    rcases hy with rfl | rfl | rfl | rfl | rfl
    · exact Nat.zero_le _
    · rw [List.length_append]; show 5 + a.length ≤ _; omega
    · rw [List.length_append]; show 5 + b.length ≤ _; omega
    · decide
    · decide) (HM.out.below (HB1.out.trans (h.mono HB1.out.size)))
  rw [hof, hrow] at OA
  have OA := Lib.hid OA
  have H1 := fun v wx (h : CL wx v cs) => chas_any v cs T1 wx h hcl2 hca (by omega)
  have H2 := fun v wx (h : CL wx v cs) => chas_any v cs T2 wx h hcl2 hca (by omega)
  have H3 := fun v wx (h : CL wx v cs) => chas_any v cs V3 wx h hcl2 hca (by omega)
  have H4 := fun v wx (h : CL wx v cs) => chas_any v cs ⟨#[120]⟩ wx h hcl2 hca (by decide)
  have H5 := fun v wx (h : CL wx v cs) => chas_any v cs A wx h hcl2 hca (by omega)
  rw [l1, f1] at H1
  rw [l2, f2] at H2
  rw [l3, f3] at H3
  rw [show (⟨#[120]⟩ : ByteArray).data.toList = [120] from rfl, f4] at H4
  rw [hAl, f5] at H5
  have H1 := Lib.hid H1
  have H2 := Lib.hid H2
  have H3 := Lib.hid H3
  have H4 := Lib.hid H4
  have H5 := Lib.hid H5
  have HC3 := Lib.hid hcl
  have z1 : (A.toList == [88]) = false := by rw [Lib.toList_data, hAl]; exact beq_eq_false_iff_ne.2 nX
  have z2 : (A.toList == [65, 85, 84, 72]) = false := by rw [Lib.toList_data, hAl]; exact beq_eq_false_iff_ne.2 nA
  have p1 : (9223372036854775807 < 5 + (P + 1)) = False := eq_false (by omega)
  have p2 : (9223372036854775807 < 5 + (Q + 1)) = False := eq_false (by omega)
  have p3 : (9223372036854775807 < P + 6 + 1) = False := eq_false (by omega)
  have p4 : (9223372036854775807 < P + 7 + (Q + 1)) = False := eq_false (by omega)
  have p5 : (9223372036854775807 < P + 7) = False := eq_false (by omega)
  clear wa wb nab nX nA lna lnb f1 f2 f3 f4 f5 hof hcs hcl hcl2 hca l1 l2 s1 s2 v3 l3 hrow ha hb hAl hBl hXl hZl lx lz cx cz
  have OA1 := Lib.hid (OA.out _ (Below.refl _ _))
  go_wp2_with fail
  refine OA1.out.mono ?_
  rintro e w2 ⟨va, rfl, hva, hb2⟩
  have HVA := Lib.hid hva
  have HB2 := Lib.hid hb2
  obtain ⟨ao, cp, e, _⟩ := hva.form
  rw [HC3.out] at e
  subst e
  have C3 := Lib.hid (H3.out _ _ HVA.out)
  clear hva hb2
  go_wp2_with fail
  refine C3.out.mono ?_
  rintro e w3 ⟨rfl, hb3⟩
  have HB3 := Lib.hid (HB2.out.trans (hb3.mono HB2.out.size))
  have HVA := Lib.hid (HVA.out.below hb3)
  have C1 := Lib.hid (H1.out _ _ HVA.out)
  clear hb3
  go_wp2_with fail
  refine C1.out.mono ?_
  rintro e w4 ⟨rfl, hb4⟩
  have HB4 := Lib.hid (HB3.out.trans (hb4.mono HB3.out.size))
  have HVA := Lib.hid (HVA.out.below hb4)
  have C2 := Lib.hid (H2.out _ _ HVA.out)
  clear hb4
  go_wp2_with fail
  refine C2.out.mono ?_
  rintro e w5 ⟨rfl, hb5⟩
  have HB5 := Lib.hid (HB4.out.trans (hb5.mono HB4.out.size))
  have HVA := Lib.hid (HVA.out.below hb5)
  have C4 := Lib.hid (H4.out _ _ HVA.out)
  clear hb5
  go_wp2_with fail
  refine C4.out.mono ?_
  rintro e w6 ⟨rfl, hb6⟩
  have HB6 := Lib.hid (HB5.out.trans (hb6.mono HB5.out.size))
  have HVA := Lib.hid (HVA.out.below hb6)
  have C5 := Lib.hid (H5.out _ _ HVA.out)
  clear hb6
  go_wp2_with fail
  refine C5.out.mono ?_
  rintro e w7 ⟨rfl, hb7⟩
  have HB7 := Lib.hid (HB1.out.trans ((HB6.out.trans (hb7.mono HB6.out.size)).mono HB1.out.size))
  clear hb7
  go_wp2
  go_ret
  exact ⟨ret_b (by simp), HB7.out⟩
end Go.Proofs.YtomeoploojjacaaDoor
