/- CodeJumps walked (layer 18). Laid by wip/tools/gen_cju.py. -/
import Derived.Test.YtodlhhfcjkjapaaGreatDoorCodeMany
import Derived.Test.YtodlhhfcjkjapaaGreatDoorBR
import Derived.Test.YtodlhhfcjkjapaaGreatDoorPJ
namespace Go.Proofs.YtodlhhfcjkjapaaGreatDoor
open Go.RowKit
theorem jump_of {n m r : Nat} (hn : n < 10) (hm : m < 10) (hr : r < 6) : ∃ L md, Cd.source (Cd.jumpT n m r) = .ok (L, md) ∧ L.length = n + m + 3 ∧ (∃ o, L[0]? = some o ∧ o.kind = 15 ∧ o.to = ((1 + n : Nat) : Int)) ∧ (∃ o, L[1 + n + m]? = some o ∧ o.kind = 18 ∧ o.to = ((1 + n : Nat) : Int)) := by
 have h := Cd.jump_law hn hm hr
 unfold Cd.jumpOk at h
 cases hs : Cd.source (Cd.jumpT n m r) with
 | error e => rw [hs] at h; cases h
 | ok p =>
  rw [hs] at h
  obtain ⟨L, md⟩ := p
  simp only [Bool.and_eq_true, decide_eq_true_eq] at h
  exact ⟨L, md, rfl, h.1.1, isOp_at h.1.2, isOp_at h.2⟩
theorem side_at (k : Nat) (hk : k < 5) : (#[.string ⟨#[97]⟩, .string ⟨#[98]⟩, .string ⟨#[99]⟩, .string ⟨#[100]⟩, .string ⟨#[101]⟩] : Array Value)[k]? = some (.string ⟨#[UInt8.ofNat (97 + k)]⟩) := by
 rcases (by omega : k = 0 ∨ k = 1 ∨ k = 2 ∨ k = 3 ∨ k = 4) with rfl | rfl | rfl | rfl | rfl <;> rfl
set_option maxRecDepth 20000 in
set_option maxHeartbeats 8000000 in
theorem lawJumpsC (x y z : Int) (hx : (Lit.int .u8 x).wf = true) (hy : (Lit.int .u8 y).wf = true) (hz : (Lit.int .u8 z).wf = true) (w : World) (hS : SHP w) :
  Calls Tryz.prog 7 #[.int .u8 x, .int .u8 y, .int .u8 z] w fun e w' => e = .returned (.bool true) ∧ Below w.heap.size w w' := by
 have b1 := bounds_u8 hx
 have b2 := bounds_u8 hy
 have b3 := bounds_u8 hz
 obtain ⟨X, rfl⟩ := Int.eq_ofNat_of_zero_le b1.1
 obtain ⟨Y, rfl⟩ := Int.eq_ofNat_of_zero_le b2.1
 obtain ⟨Z, rfl⟩ := Int.eq_ofNat_of_zero_le b3.1
 obtain ⟨n, hn⟩ : ∃ a, X % 10 = a := ⟨_, rfl⟩
 obtain ⟨m, hm⟩ : ∃ b, Y % 10 = b := ⟨_, rfl⟩
 obtain ⟨r, hr⟩ : ∃ c, Z % 6 = c := ⟨_, rfl⟩
 obtain ⟨n1, m1⟩ := tmod_c X 10 n hn
 obtain ⟨n2, m2⟩ := tmod_c Y 10 m hm
 obtain ⟨n3, m3⟩ := tmod_c Z 6 r hr
 have hn1 : n < 10 := by omega
 have hm1 : m < 10 := by omega
 have hr1 : r < 6 := by omega
 have hX1 : X < 256 := by omega
 have hY1 : Y < 256 := by omega
 have hZ1 : Z < 256 := by omega
 replace n1 : (X : Int) % 10 = (n : Int) := n1
 replace n2 : (Y : Int) % 10 = (m : Int) := n2
 replace n3 : (Z : Int) % 6 = (r : Int) := n3
 replace m1 : (X : Int).tmod 10 = (n : Int) := m1
 replace m2 : (Y : Int).tmod 10 = (m : Int) := m2
 replace m3 : (Z : Int).tmod 6 = (r : Int) := m3
 have HJU := Lib.hid (jump_of hn1 hm1 hr1)
 have MN := Lib.hid (fun wx => many_any n hn1 wx)
 have MM := Lib.hid (fun wx => many_any m hm1 wx)
 obtain ⟨A1, hA1⟩ : ∃ A1, Cd.manyW n = A1 := ⟨_, rfl⟩
 obtain ⟨B1, hB1⟩ : ∃ B1, Cd.manyW m = B1 := ⟨_, rfl⟩
 have lA : A1.length = n * 5 := by rw [← hA1, many_len]
 have lB : B1.length = m * 5 := by rw [← hB1, many_len]
 rw [hA1] at MN
 rw [hB1] at MM
 obtain ⟨ka, hka⟩ : ∃ k, A1.length = k := ⟨_, rfl⟩
 obtain ⟨kb, hkb⟩ : ∃ k, B1.length = k := ⟨_, rfl⟩
 have za : (⟨A1.toArray⟩ : ByteArray).size = ka := hka
 have zb : (⟨B1.toArray⟩ : ByteArray).size = kb := hkb
 obtain ⟨T1, e1, l1, i1⟩ := ba_joinC [109, 111, 100, 101, 32, 112, 111, 112, 51, 59, 111, 110, 32, 108, 59] A1
 replace l1 : T1.length = 15 + ka := by rw [l1, hka]; rfl
 obtain ⟨t1, ht1⟩ : ∃ k, T1.length = k := ⟨_, rfl⟩
 rw [ht1] at l1
 have z1 : (⟨T1.toArray⟩ : ByteArray).size = t1 := ht1
 have q15 : (⟨#[109, 111, 100, 101, 32, 112, 111, 112, 51, 59, 111, 110, 32, 108, 59]⟩ : ByteArray).size = 15 := rfl
 have s1 : (9223372036854775807 < 15 + ka) = False := eq_false (by omega)
 have SW := shown_any w hS
 have HS := Lib.hid hS
 have HA1 := Lib.hid hA1
 have HB1 := Lib.hid hB1
 have HT1 := Lib.hid (And.intro i1 ht1)
 have HLN := Lib.hid (show t1 ≤ 60 ∧ kb ≤ 45 by omega)
 have HKB := Lib.hid hkb
 clear hx hy hz b1 b2 b3 hn hm hr hA1 hB1 lA lB hka hkb hS i1 ht1 l1
 go_enter Tryz.func7, Tryz.ntmps7
 go_wp2_with fail
 refine SW.mono ?_
 rintro e wa ⟨rfl, hba⟩
 have HBA := Lib.hid hba
 clear SW hba
 go_wp2_with fail
 refine (MN.out _).mono ?_
 rintro e w1 ⟨rfl, rfl⟩
 clear MN
 go_wp2
 clear s1 e1 q15
 go_loopw [10, 11] (fun s10 s11 wr => ∃ (k : Nat) (V : List UInt8), k ≤ r ∧ s11 = .int .i64 k ∧ s10 = .string ⟨V.toArray⟩ ∧ Hid (V = T1 ++ Cd.sideW k) ∧ Hid (V.length = t1 + k * 9) ∧ Hid (Below w.heap.size w wr)) (fun _ s11 _ => r - (intOf s11).toNat)
 case atStart => exact ⟨0, T1, Nat.zero_le _, rfl, rfl, by show _ = _; simp [Cd.sideW], by show _ = _; rw [HT1.out.2]; simp, HBA⟩
 case round =>
  obtain ⟨k, V, hk, rfl, rfl, HV, HVL, HB⟩ := hrel
  obtain ⟨LV, hLV⟩ : ∃ LV, V.length = LV := ⟨_, rfl⟩
  have zv : (⟨V.toArray⟩ : ByteArray).size = LV := hLV
  have hb5 : LV ≤ 200 := by have h1 := HVL.out; have h2 := HLN.out; omega
  by_cases hlt : k < r
  ·obtain ⟨ch, hch⟩ : ∃ ch, UInt8.ofNat (97 + k) = ch := ⟨_, rfl⟩
   obtain ⟨V2, e2, l2, i2⟩ := ba_joinC V [108, 97, 98, 101, 108, 32, 120]
   replace l2 : V2.length = LV + 7 := by rw [l2, hLV]; rfl
   obtain ⟨v2, hv2⟩ : ∃ x, V2.length = x := ⟨_, rfl⟩
   rw [hv2] at l2
   have z2 : (⟨V2.toArray⟩ : ByteArray).size = v2 := hv2
   obtain ⟨V3, e3, l3, i3⟩ := ba_joinC V2 [ch]
   replace l3 : V3.length = v2 + 1 := by rw [l3, hv2]; rfl
   obtain ⟨v3, hv3⟩ : ∃ x, V3.length = x := ⟨_, rfl⟩
   rw [hv3] at l3
   have z3 : (⟨V3.toArray⟩ : ByteArray).size = v3 := hv3
   obtain ⟨V4, e4, l4, i4⟩ := ba_joinC V3 [59]
   have q7 : (⟨#[108, 97, 98, 101, 108, 32, 120]⟩ : ByteArray).size = 7 := rfl
   have q1 : (⟨#[59]⟩ : ByteArray).size = 1 := rfl
   have qc : (⟨#[ch]⟩ : ByteArray).size = 1 := rfl
   replace e3 : (⟨V2.toArray⟩ ++ ⟨#[ch]⟩ : ByteArray) = ⟨V3.toArray⟩ := e3
   replace l4 : V4.length = v3 + 1 := by rw [l4, hv3]; rfl
   have s2 : (9223372036854775807 < LV + 7) = False := eq_false (by omega)
   have s3 : (9223372036854775807 < v2 + 1) = False := eq_false (by omega)
   have s4 : (9223372036854775807 < v3 + 1) = False := eq_false (by omega)
   obtain ⟨b, hbb⟩ : ∃ b, wr.heap.size = b := ⟨_, rfl⟩
   obtain ⟨W, hW⟩ : ∃ W, wr.alloc (.cells #[.string ⟨#[97]⟩, .string ⟨#[98]⟩, .string ⟨#[99]⟩, .string ⟨#[100]⟩, .string ⟨#[101]⟩] 9) = W := ⟨_, rfl⟩
   have hbW : Below wr.heap.size wr W := by rw [← hW]; exact (Below.refl _ _).alloc (Nat.le_refl _) _
   have hnW : W.heap[b]? = some (.cells #[.string ⟨#[97]⟩, .string ⟨#[98]⟩, .string ⟨#[99]⟩, .string ⟨#[100]⟩, .string ⟨#[101]⟩] 9 (0, 0)) := by rw [← hW, ← hbb]; exact heap_alloc_new _ _
   have c0 : W.cell? ⟨b, k, none⟩ = some (.string ⟨#[ch]⟩) := (cell_of_row _ _ _ _ _ _ hnW).trans (by rw [← hch]; exact side_at k (by omega))
   have HV4 : Hid (V4 = T1 ++ Cd.sideW (k + 1)) := Lib.hid (by rw [i4, i3, i2, HV.out, Cd.sideW, hch]; simp)
   have HVL4 : Hid (V4.length = t1 + (k + 1) * 9) := Lib.hid (by have := HVL.out; omega)
   have HBW : Hid (Below w.heap.size w W) := Lib.hid (HB.out.trans (hbW.mono HB.out.size))
   have x5 : (k : Int) < 5 := by omega
   have x6 : k < 5 := by omega
   clear hch i2 i3 i4 l2 l3 l4 hv2 hv3 hLV hbW hnW
   go_wp2
   go_roundw
   case rel => exact ⟨k + 1, V4, by omega, by go_num, rfl, HV4, HVL4, HBW⟩
   case measure => simp [intOf]; omega
  ·obtain rfl : k = r := by omega
   obtain ⟨T2, e2, l2, i2⟩ := ba_joinC V [108, 97, 98, 101, 108, 32, 108, 59]
   replace l2 : T2.length = LV + 8 := by rw [l2, hLV]; rfl
   obtain ⟨t2, ht2⟩ : ∃ x, T2.length = x := ⟨_, rfl⟩
   rw [ht2] at l2
   have z2 : (⟨T2.toArray⟩ : ByteArray).size = t2 := ht2
   obtain ⟨T3, e3, l3, i3⟩ := ba_joinC T2 B1
   replace l3 : T3.length = t2 + kb := by rw [l3, ht2, HKB.out]
   obtain ⟨t3, ht3⟩ : ∃ x, T3.length = x := ⟨_, rfl⟩
   rw [ht3] at l3
   have z3 : (⟨T3.toArray⟩ : ByteArray).size = t3 := ht3
   obtain ⟨T4, e4, l4, i4⟩ := ba_joinC T3 [103, 111, 116, 111, 32, 108, 59]
   replace l4 : T4.length = t3 + 7 := by rw [l4, ht3]; rfl
   have q8 : (⟨#[108, 97, 98, 101, 108, 32, 108, 59]⟩ : ByteArray).size = 8 := rfl
   have q7 : (⟨#[103, 111, 116, 111, 32, 108, 59]⟩ : ByteArray).size = 7 := rfl
   have hkb45 : kb ≤ 45 := HLN.out.2
   have s2 : (9223372036854775807 < LV + 8) = False := eq_false (by omega)
   have s3 : (9223372036854775807 < t2 + kb) = False := eq_false (by omega)
   have s4 : (9223372036854775807 < t3 + 7) = False := eq_false (by omega)
   have hT : Cd.jumpT n m k = T4 := by unfold Cd.jumpT; rw [HA1.out, HB1.out, i4, i3, i2, HV.out, HT1.out.1]
   have SRC := Lib.hid (fun wx hx => csource_any T4 (by omega) wx hx)
   have hju := HJU.out
   rw [hT] at hju
   have HJ := Lib.hid hju
   clear hju hT i2 i3 i4 l2 l3 l4 ht2 ht3 hLV
   go_wp2_with fail
   refine (MM.out _).mono ?_
   rintro e w2 ⟨rfl, rfl⟩
   go_wp2_with fail
   refine (SRC.out _ (HS.out.below HB.out)).mono ?_
   rintro e w4 hP
   obtain ⟨hb4, hP⟩ := hP
   have HB4 := Lib.hid (HB.out.trans (hb4.mono HB.out.size))
   obtain ⟨L, md, hsr, hLn, h0, hg⟩ := HJ.out
   rw [hsr] at hP
   obtain ⟨ov, rfl, ho⟩ := hP
   have hor := OR.of ho rfl
   obtain ⟨ao, cap, rfl⟩ := hor.form
   obtain ⟨J, hJ⟩ : ∃ J : Nat, 1 + n + m = J := ⟨_, rfl⟩
   obtain ⟨N, hN⟩ : ∃ N, L.length = N := ⟨_, rfl⟩
   rw [hN] at hor hLn ⊢
   have iJ : (1 : Int) + (n : Int) + (m : Int) = (J : Int) := by omega
   rw [hJ] at hg
   obtain ⟨q, rfl, c0, c5⟩ := or_at hor h0
   obtain ⟨q', e, d0, d5⟩ := or_at hor hg
   cases e
   replace c0 : w4.cell? ⟨q, 0, none⟩ = some (.int .i64 15) := by have := c0; rwa [Nat.zero_mul] at this
   replace c5 : w4.cell? ⟨q, 5, none⟩ = some (.int .i64 (1 + (n : Int))) := by have := c5; rw [Nat.zero_mul, Nat.zero_add, show ((1 + n : Nat) : Int) = 1 + (n : Int) by omega] at this; exact this
   replace d0 : w4.cell? ⟨q, J * 6, none⟩ = some (.int .i64 18) := d0
   replace d5 : w4.cell? ⟨q, J * 6 + 5, none⟩ = some (.int .i64 (1 + (n : Int))) := by have := d5; rw [show ((1 + n : Nat) : Int) = 1 + (n : Int) by omega] at this; exact this
   have x2 : ((N : Int) == (n : Int) + (m : Int) + 3) = true := by rw [beq_iff_eq]; omega
   have x3 : ((N : Int) = (n : Int) + (m : Int) + 3) = True := eq_true (by omega)
   have x4 : (0 : Int) < (N : Int) := by omega
   have x6 : 0 < N := by omega
   have x5 : (J : Int) < (N : Int) := by omega
   have x9 : J < 100 := by omega
   clear SRC hb4 hsr ho hor h0 hg hLn hJ hN s2 s3 s4 e2 e3 e4
   go_wp2
   go_ret
   exact ⟨rfl, HB4.out⟩
end Go.Proofs.YtodlhhfcjkjapaaGreatDoor
