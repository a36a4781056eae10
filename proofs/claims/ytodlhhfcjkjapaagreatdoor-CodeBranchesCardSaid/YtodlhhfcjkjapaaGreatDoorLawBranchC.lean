/- CodeBranches walked (layer 18). Laid by wip/tools/gen_cbr.py. -/
import Derived.Test.YtodlhhfcjkjapaaGreatDoorCodeMany
import Derived.Test.YtodlhhfcjkjapaaGreatDoorPJ
namespace Go.Proofs.YtodlhhfcjkjapaaGreatDoor
open Go.RowKit
theorem branch_of {a b c : Nat} (ha : a < 10) (hb : b < 10) (hc : c < 10) : ∃ L md, Cd.source (Cd.branchT a b c) = .ok (L, md) ∧ L.length = a + 1 + b + (if c = 0 then 0 else 1) + c + 1 ∧ (∃ o, L[a]? = some o ∧ o.kind = 5 ∧ o.to = ((a + 1 + b + (if c = 0 then 0 else 1) : Nat) : Int)) ∧ (c ≠ 0 → ∃ o, L[a + 1 + b]? = some o ∧ o.kind = 18 ∧ o.to = ((a + 2 + b + c : Nat) : Int)) := by
 have h := Cd.branch_law ha hb hc
 unfold Cd.branchOk at h
 cases hs : Cd.source (Cd.branchT a b c) with
 | error e => rw [hs] at h; cases h
 | ok p =>
  rw [hs] at h
  obtain ⟨L, md⟩ := p
  simp only [Bool.and_eq_true, decide_eq_true_eq, Bool.or_eq_true] at h
  obtain ⟨⟨h1, h2⟩, h3⟩ := h
  exact ⟨L, md, rfl, h1, isOp_at h2, fun hne => isOp_at (h3.resolve_left hne)⟩
set_option maxRecDepth 20000 in
set_option maxHeartbeats 8000000 in
theorem lawBranchC (x y z : Int) (hx : (Lit.int .u8 x).wf = true) (hy : (Lit.int .u8 y).wf = true) (hz : (Lit.int .u8 z).wf = true) (w : World) (hS : SHP w) :
  Calls Tryz.prog 6 #[.agg #[.int .u8 x, .int .u8 y, .int .u8 z]] w fun e w' => e = .returned (.bool true) ∧ Below w.heap.size w w' := by
 have b1 := bounds_u8 hx
 have b2 := bounds_u8 hy
 have b3 := bounds_u8 hz
 obtain ⟨X, rfl⟩ := Int.eq_ofNat_of_zero_le b1.1
 obtain ⟨Y, rfl⟩ := Int.eq_ofNat_of_zero_le b2.1
 obtain ⟨Z, rfl⟩ := Int.eq_ofNat_of_zero_le b3.1
 obtain ⟨a, ha⟩ : ∃ a, X % 10 = a := ⟨_, rfl⟩
 obtain ⟨b, hb⟩ : ∃ b, Y % 10 = b := ⟨_, rfl⟩
 obtain ⟨c, hc⟩ : ∃ c, Z % 10 = c := ⟨_, rfl⟩
 obtain ⟨n1, m1⟩ := tmod_c X 10 a ha
 obtain ⟨n2, m2⟩ := tmod_c Y 10 b hb
 obtain ⟨n3, m3⟩ := tmod_c Z 10 c hc
 have ha1 : a < 10 := by omega
 have hb1 : b < 10 := by omega
 have hc1 : c < 10 := by omega
 have hX1 : X < 256 := by omega
 have hY1 : Y < 256 := by omega
 have hZ1 : Z < 256 := by omega
 replace n1 : (X : Int) % 10 = (a : Int) := n1
 replace n2 : (Y : Int) % 10 = (b : Int) := n2
 replace n3 : (Z : Int) % 10 = (c : Int) := n3
 replace m1 : (X : Int).tmod 10 = (a : Int) := m1
 replace m2 : (Y : Int).tmod 10 = (b : Int) := m2
 replace m3 : (Z : Int).tmod 10 = (c : Int) := m3
 have HBR := Lib.hid (branch_of ha1 hb1 hc1)
 have MA := Lib.hid (fun wx => many_any a ha1 wx)
 have MB := Lib.hid (fun wx => many_any b hb1 wx)
 have MC := Lib.hid (fun wx => many_any c hc1 wx)
 obtain ⟨A1, hA1⟩ : ∃ A1, Cd.manyW a = A1 := ⟨_, rfl⟩
 obtain ⟨B1, hB1⟩ : ∃ B1, Cd.manyW b = B1 := ⟨_, rfl⟩
 obtain ⟨C1, hC1⟩ : ∃ C1, Cd.manyW c = C1 := ⟨_, rfl⟩
 have lA : A1.length = a * 5 := by rw [← hA1, many_len]
 have lB : B1.length = b * 5 := by rw [← hB1, many_len]
 have lC : C1.length = c * 5 := by rw [← hC1, many_len]
 rw [hA1] at MA
 rw [hB1] at MB
 rw [hC1] at MC
 obtain ⟨ka, hka⟩ : ∃ k, A1.length = k := ⟨_, rfl⟩
 obtain ⟨kb, hkb⟩ : ∃ k, B1.length = k := ⟨_, rfl⟩
 obtain ⟨kc, hkc⟩ : ∃ k, C1.length = k := ⟨_, rfl⟩
 have za : (⟨A1.toArray⟩ : ByteArray).size = ka := hka
 have zb : (⟨B1.toArray⟩ : ByteArray).size = kb := hkb
 have zc : (⟨C1.toArray⟩ : ByteArray).size = kc := hkc
 have q10 : (⟨#[109, 111, 100, 101, 32, 115, 109, 116, 112, 59]⟩ : ByteArray).size = 10 := rfl
 have q12 : (⟨#[105, 102, 32, 99, 97, 112, 32, 34, 120, 34, 32, 123]⟩ : ByteArray).size = 12 := rfl
 have q8 : (⟨#[125, 32, 101, 108, 115, 101, 32, 123]⟩ : ByteArray).size = 8 := rfl
 have q1 : (⟨#[125]⟩ : ByteArray).size = 1 := rfl
 obtain ⟨T1, e1, l1, i1⟩ := ba_joinC [109, 111, 100, 101, 32, 115, 109, 116, 112, 59] A1
 replace l1 : T1.length = 10 + ka := by rw [l1, hka]; rfl
 obtain ⟨t1, ht1⟩ : ∃ k, T1.length = k := ⟨_, rfl⟩
 rw [ht1] at l1
 have z1 : (⟨T1.toArray⟩ : ByteArray).size = t1 := ht1
 have s1 : (9223372036854775807 < 10 + ka) = False := eq_false (by omega)
 obtain ⟨T2, e2, l2, i2⟩ := ba_joinC T1 [105, 102, 32, 99, 97, 112, 32, 34, 120, 34, 32, 123]
 replace l2 : T2.length = t1 + 12 := by rw [l2, ht1]; rfl
 obtain ⟨t2, ht2⟩ : ∃ k, T2.length = k := ⟨_, rfl⟩
 rw [ht2] at l2
 have z2 : (⟨T2.toArray⟩ : ByteArray).size = t2 := ht2
 have s2 : (9223372036854775807 < t1 + 12) = False := eq_false (by omega)
 obtain ⟨T3, e3, l3, i3⟩ := ba_joinC T2 B1
 replace l3 : T3.length = t2 + kb := by rw [l3, ht2, hkb]
 obtain ⟨t3, ht3⟩ : ∃ k, T3.length = k := ⟨_, rfl⟩
 rw [ht3] at l3
 have z3 : (⟨T3.toArray⟩ : ByteArray).size = t3 := ht3
 have s3 : (9223372036854775807 < t2 + kb) = False := eq_false (by omega)
 obtain ⟨T4, e4, l4, i4⟩ := ba_joinC T3 [125, 32, 101, 108, 115, 101, 32, 123]
 replace l4 : T4.length = t3 + 8 := by rw [l4, ht3]; rfl
 obtain ⟨t4, ht4⟩ : ∃ k, T4.length = k := ⟨_, rfl⟩
 rw [ht4] at l4
 have z4 : (⟨T4.toArray⟩ : ByteArray).size = t4 := ht4
 have s4 : (9223372036854775807 < t3 + 8) = False := eq_false (by omega)
 obtain ⟨T5, e5, l5, i5⟩ := ba_joinC T4 C1
 replace l5 : T5.length = t4 + kc := by rw [l5, ht4, hkc]
 obtain ⟨t5, ht5⟩ : ∃ k, T5.length = k := ⟨_, rfl⟩
 rw [ht5] at l5
 have z5 : (⟨T5.toArray⟩ : ByteArray).size = t5 := ht5
 have s5 : (9223372036854775807 < t4 + kc) = False := eq_false (by omega)
 obtain ⟨T6, e6, l6, i6⟩ := ba_joinC T5 [125]
 replace l6 : T6.length = t5 + 1 := by rw [l6, ht5]; rfl
 obtain ⟨t6, ht6⟩ : ∃ k, T6.length = k := ⟨_, rfl⟩
 rw [ht6] at l6
 have z6 : (⟨T6.toArray⟩ : ByteArray).size = t6 := ht6
 have s6 : (9223372036854775807 < t5 + 1) = False := eq_false (by omega)
 have hT : Cd.branchT a b c = T6 := by unfold Cd.branchT; rw [hA1, hB1, hC1, i6, i5, i4, i3, i2, i1]
 have hTl : T6.length ≤ 1048576 := by omega
 have SRC := Lib.hid (fun wx hx => csource_any T6 hTl wx hx)
 rw [hT] at HBR
 obtain ⟨W0, hW0⟩ : ∃ W0, w.alloc (.cells #[.int .u8 (X : Int), .int .u8 (Y : Int), .int .u8 (Z : Int)] 42) = W0 := ⟨_, rfl⟩
 obtain ⟨bq, hbq⟩ : ∃ bq, w.heap.size = bq := ⟨_, rfl⟩
 have hb0 : Below w.heap.size w W0 := by rw [← hW0]; exact (Below.refl _ _).alloc (Nat.le_refl _) _
 have hn0 : W0.heap[bq]? = some (.cells #[.int .u8 (X : Int), .int .u8 (Y : Int), .int .u8 (Z : Int)] 42 (0, 0)) := by rw [← hW0, ← hbq]; exact heap_alloc_new _ _
 have SW := shown_any W0 (hS.below hb0)
 have HS := Lib.hid hS
 have HB0 := Lib.hid hb0
 have HN0 := Lib.hid hn0
 have HBQ := Lib.hid hbq
 clear hb0 hn0 hbq
 clear hx hy hz b1 b2 b3 ha hb hc hA1 hB1 hC1 hT hTl i1 i2 i3 i4 i5 i6 l1 l2 l3 l4 l5 l6 hka hkb hkc lA lB lC hS ht1 ht2 ht3 ht4 ht5 ht6
 go_enter Tryz.func6, Tryz.ntmps6
 go_wp2_with fail
 refine SW.mono ?_
 rintro e wa ⟨rfl, hba⟩
 have hna := (hba.block _ (Array.getElem?_eq_some_iff.1 HN0.out).1).trans HN0.out
 have g0 : wa.cell? ⟨bq, 0, none⟩ = some (.int .u8 (X : Int)) := cell_of_row _ _ _ _ _ _ hna
 have g1 : wa.cell? ⟨bq, 1, none⟩ = some (.int .u8 (Y : Int)) := cell_of_row _ _ _ _ _ _ hna
 have g2 : wa.cell? ⟨bq, 2, none⟩ = some (.int .u8 (Z : Int)) := cell_of_row _ _ _ _ _ _ hna
 have HBA := Lib.hid (HB0.out.trans (hba.mono HB0.out.size))
 rw [HBQ.out]
 clear SW hba hna hW0
 go_wp2_with fail
 refine (MA.out _).mono ?_
 rintro e w1 ⟨rfl, rfl⟩
 clear MA
 go_wp2_with fail
 refine (MB.out _).mono ?_
 rintro e w2 ⟨rfl, rfl⟩
 clear MB
 go_wp2_with fail
 refine (MC.out _).mono ?_
 rintro e w3 ⟨rfl, rfl⟩
 clear MC
 go_wp2_with fail
 refine (SRC.out _ (HS.out.below HBA.out)).mono ?_
 rintro e w4 hP
 obtain ⟨hb4, hP⟩ := hP
 have HB := Lib.hid (HBA.out.trans (hb4.mono HBA.out.size))
 obtain ⟨L, md, hsr, hLn, hif, hju⟩ := HBR.out
 rw [hsr] at hP
 obtain ⟨ov, rfl, ho⟩ := hP
 have hor := OR.of ho rfl
 obtain ⟨ao, cap, rfl⟩ := hor.form
 obtain ⟨J, hJ⟩ : ∃ J : Nat, a + 1 + b = J := ⟨_, rfl⟩
 obtain ⟨E, hE⟩ : ∃ E : Nat, a + 2 + b + c = E := ⟨_, rfl⟩
 obtain ⟨N, hN⟩ : ∃ N, L.length = N := ⟨_, rfl⟩
 rw [hN] at hor hLn ⊢
 have iJ : (a : Int) + 1 + (b : Int) = (J : Int) := by omega
 have iE : (a : Int) + 2 + (b : Int) + (c : Int) = (E : Int) := by omega
 rw [hJ] at hLn hif hju
 rw [hE] at hju
 clear SRC HBA hb4 hsr ho
 by_cases hc0 : c = 0
 ·subst hc0
  rw [if_pos rfl] at hLn hif
  obtain ⟨q, rfl, c0, c5⟩ := or_at hor hif
  replace c0 : w4.cell? ⟨q, a * 6, none⟩ = some (.int .i64 5) := c0
  replace c5 : w4.cell? ⟨q, a * 6 + 5, none⟩ = some (.int .i64 (J : Int)) := c5
  have x1 : ((N : Int) != (J : Int) + 1) = false := by rw [bne_eq_false_iff_eq]; omega
  have x2 : ((N : Int) == (J : Int) + 1) = true := by rw [beq_iff_eq]; omega
  have x3 : ((N : Int) = (J : Int) + 1) = True := eq_true (by omega)
  have x4 : (a : Int) < (N : Int) := by omega
  clear hju hif hor hLn hJ hE hN iE
  go_wp2
  go_ret
  exact ⟨rfl, HB.out⟩
 ·rw [if_neg hc0] at hLn hif
  obtain ⟨q, rfl, c0, c5⟩ := or_at hor hif
  obtain ⟨q', e, d0, d5⟩ := or_at hor (hju hc0)
  cases e
  replace c0 : w4.cell? ⟨q, a * 6, none⟩ = some (.int .i64 5) := c0
  replace c5 : w4.cell? ⟨q, a * 6 + 5, none⟩ = some (.int .i64 ((J : Int) + 1)) := c5
  replace d0 : w4.cell? ⟨q, J * 6, none⟩ = some (.int .i64 18) := d0
  have x1 : ((N : Int) != (J : Int) + 1 + (c : Int) + 1) = false := by rw [bne_eq_false_iff_eq]; omega
  have x2 : ((N : Int) == (J : Int) + 1 + (c : Int) + 1) = true := by rw [beq_iff_eq]; omega
  have x3 : ((N : Int) = (J : Int) + 1 + (c : Int) + 1) = True := eq_true (by omega)
  have x4 : (a : Int) < (N : Int) := by omega
  have x5 : (J : Int) < (N : Int) := by omega
  have x6 : (0 : Int) < (c : Int) := by omega
  have x7 : ((c : Int) == 0) = false := beq_eq_false_iff_ne.2 (by omega)
  have x8 : ((c : Int) = 0) = False := eq_false (by omega)
  have x9 : J < 100 := by omega
  clear hju hif hor hLn hJ hE hN
  go_wp2
  go_ret
  exact ⟨rfl, HB.out⟩
end Go.Proofs.YtodlhhfcjkjapaaGreatDoor
