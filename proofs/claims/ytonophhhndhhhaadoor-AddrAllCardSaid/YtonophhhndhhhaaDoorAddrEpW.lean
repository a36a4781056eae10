/- addr.extended, addr.Epsv walked: memory (layer 13). -/
import Derived.Test.YtonophhhndhhhaaDoorAddrEps
namespace Go.Proofs.YtonophhhndhhhaaDoor
open Go.RowKit

set_option maxHeartbeats 4000000 in
theorem extended_any (b : List UInt8) (hl : b.length ≤ 1048576) (w : World) :
    Calls Tryd.prog 25 #[.string ⟨b.toArray⟩] w fun e w' => e = .returned (adv (Ad.ext b)) ∧ Below w.heap.size w w' := by
  have HA0 := Lib.hid (show AB (w.alloc (.cells #[.int .i64 0, .int .i64 0, .int .i64 0, .int .i64 0, .int .i64 0] 24)) w.heap.size ad0 from ⟨heap_alloc_new _ _⟩)
  have HB0 := Lib.hid (show Below w.heap.size w (w.alloc (.cells #[.int .i64 0, .int .i64 0, .int .i64 0, .int .i64 0, .int .i64 0] 24)) from (Below.refl _ _).alloc (Nat.le_refl _) _)
  cases b with
  | nil =>
    have hz : (⟨([] : List UInt8).toArray⟩ : ByteArray).toList.isEmpty = true := by rw [Lib.toList_data]; rfl
    have HF := Lib.hid (show adv (Ad.ext []) = .agg #[.int .i64 0, .int .i64 0, .int .i64 0, .int .i64 0, .int .i64 0] from rfl)
    go_enter Tryd.func25, Tryd.ntmps25
    go_wp2
    refine bodyPost_ret (v := .agg #[.int .i64 0, .int .i64 0, .int .i64 0, .int .i64 0, .int .i64 0]) (by simp [results, Tryd.results25, go_sem]) rfl ⟨by rw [HF.out], HB0.out⟩
  | cons d t =>
    obtain ⟨b, hb⟩ : ∃ b, b = d :: t := ⟨_, rfl⟩
    rw [← hb]
    have hz : (⟨b.toArray⟩ : ByteArray).toList.isEmpty = false := by rw [Lib.toList_data, hb]; rfl
    have hz0 : b.isEmpty = false := by rw [hb]; rfl
    have hz1 : (⟨b.toArray⟩ : ByteArray).size = t.length + 1 := by rw [hb]; rfl
    have hx : ∀ h, (⟨b.toArray⟩ : ByteArray)[0]'h = d := fun h => by rw [byte_at]; simp [hb]
    have hx1 : (⟨b.toArray⟩ : ByteArray).extract 0 1 = ⟨#[d]⟩ := by rw [ba_extract, hb]; rfl
    have hd1 : (⟨#[d]⟩ : ByteArray).size = 1 := rfl
    have hd2 : (⟨#[d]⟩ : ByteArray) ++ ⟨#[d]⟩ = ⟨#[d, d]⟩ := ByteArray.mk_append_mk [d] [d]
    have hd3 : (⟨#[d, d]⟩ : ByteArray).size = 2 := rfl
    have hd4 : (⟨#[d, d]⟩ : ByteArray) ++ ⟨#[d]⟩ = ⟨#[d, d, d]⟩ := ByteArray.mk_append_mk [d, d] [d]
    have hd5 : (⟨#[d]⟩ : ByteArray) ++ ⟨#[41]⟩ = ⟨#[d, 41]⟩ := ByteArray.mk_append_mk [d] [41]
    have hd6 : (⟨#[41]⟩ : ByteArray).size = 1 := rfl
    have MK := fun wx => mark_any d wx
    rw [show (decide (33 ≤ d.toNat) && decide (d.toNat ≤ 126) && !Tx.dig d) = Ad.sign d from rfl] at MK
    have CP := fun wx => Tryd.strings_CutPrefix ⟨b.toArray⟩ ⟨#[d, d, d]⟩ wx
    rw [show (⟨b.toArray⟩ : ByteArray).data.toList = b from rfl, show (⟨#[d, d, d]⟩ : ByteArray).data.toList = [d, d, d] from rfl] at CP
    have hext : Ad.ext b = if Ad.sign d = true ∧ Lib.hasPrefix b [d, d, d] = true ∧ (Ad.numb 65535 5 (Lib.trimPrefix b [d, d, d])).2.2 = true ∧ Lib.hasPrefix (Ad.numb 65535 5 (Lib.trimPrefix b [d, d, d])).2.1 [d, 41] = true
      then Ad.mk (Ad.numb 65535 5 (Lib.trimPrefix b [d, d, d])).1 else ad0 := by rw [hb, Ad.ext]
    have htl : (Lib.trimPrefix b [d, d, d]).length ≤ 1048576 := by
      unfold Lib.trimPrefix
      split
      · rw [List.length_drop]; rw [← hb] at hl; omega
      · rw [← hb] at hl; exact hl
    obtain ⟨s, hs⟩ : ∃ s, Lib.trimPrefix b [d, d, d] = s := ⟨_, rfl⟩
    rw [hs] at CP hext htl
    have NU := fun wx => anum_any s htl 5 65535 wx
    obtain ⟨nb, hnb⟩ : ∃ nb, Ad.numb 65535 5 s = nb := ⟨_, rfl⟩
    rw [hnb] at NU hext
    obtain ⟨n, q, ok⟩ := nb
    dsimp only at NU hext
    have HP := fun wx => Tryd.strings_HasPrefix ⟨q.toArray⟩ ⟨#[d, 41]⟩ wx
    rw [show (⟨q.toArray⟩ : ByteArray).data.toList = q from rfl, show (⟨#[d, 41]⟩ : ByteArray).data.toList = [d, 41] from rfl] at HP
    obtain ⟨sg, hsg⟩ : ∃ sg, Ad.sign d = sg := ⟨_, rfl⟩
    obtain ⟨mk, hmk⟩ : ∃ mk, Lib.hasPrefix b [d, d, d] = mk := ⟨_, rfl⟩
    obtain ⟨fi, hfi⟩ : ∃ fi, Lib.hasPrefix q [d, 41] = fi := ⟨_, rfl⟩
    rw [hsg] at MK hext
    rw [hmk] at CP hext
    rw [hfi] at HP hext
    have hsum : (9223372036854775807 < 1 + 1) = False := by simp
    clear hb hl hs htl hnb hsg hmk hfi
    generalize Ad.ext b = X at *
    cases sg
    · have HF := Lib.hid (show adv X = .agg #[.int .i64 0, .int .i64 0, .int .i64 0, .int .i64 0, .int .i64 0] by rw [hext, if_neg (by simp)]; rfl)
      clear hext CP NU HP
      go_enter Tryd.func25, Tryd.ntmps25
      go_wp2_with fail
      refine (MK _).mono ?_
      rintro e w' ⟨rfl, rfl⟩
      go_wp2
      refine bodyPost_ret (v := .agg #[.int .i64 0, .int .i64 0, .int .i64 0, .int .i64 0, .int .i64 0]) (by simp [results, Tryd.results25, go_sem]) rfl ⟨by rw [HF.out], HB0.out⟩
    · go_enter Tryd.func25, Tryd.ntmps25
      go_wp2_with fail
      refine (MK _).mono ?_
      rintro e w' ⟨rfl, rfl⟩
      clear MK
      go_wp2_with fail
      refine (CP _).mono ?_
      rintro e w' ⟨rfl, hw⟩
      rw [hw]
      clear CP hw w'
      go_wp2_with fail
      refine (NU _).mono ?_
      rintro e w1 ⟨rfl, hb1⟩
      have HA := HA0.out.below hb1 (by simp)
      have HB := Lib.hid (HB0.out.trans (hb1.mono (by simp)))
      clear NU hb1
      cases mk
      · have HF := Lib.hid (show adv X = .agg #[.int .i64 0, .int .i64 0, .int .i64 0, .int .i64 0, .int .i64 0] by rw [hext, if_neg (by simp)]; rfl)
        clear hext HP
        have r0 := HA.c0
        have r1 := HA.c1
        have r2 := HA.c2
        have r3 := HA.c3
        have r4 := HA.c4
        have rf := HA.froz
        have HZ := Lib.hid (HA.put ⟨0, 0, 0, 0, 0⟩)
        have HBZ := Lib.hid (below_set5 HB.out (Nat.le_refl _) (.int .i64 0) (.int .i64 0) (.int .i64 0) (.int .i64 0) (.int .i64 0))
        clear HA
        go_wp2
        generalize ((((w1.setCell ⟨w.heap.size, 0, none⟩ (.int .i64 0)).setCell ⟨w.heap.size, 1, none⟩ (.int .i64 0)).setCell ⟨w.heap.size, 2, none⟩ (.int .i64 0)).setCell ⟨w.heap.size, 3, none⟩ (.int .i64 0)).setCell ⟨w.heap.size, 4, none⟩ (.int .i64 0) = wz at *
        have HA := HZ.out
        clear r0 r1 r2 r3 r4
        refine bodyPost_ret (v := .agg #[.int .i64 0, .int .i64 0, .int .i64 0, .int .i64 0, .int .i64 0]) (by have d0 := HA.c0; have d1 := HA.c1; have d2 := HA.c2; have d3 := HA.c3; have d4 := HA.c4; simp [results, Tryd.results25, go_sem, d0, d1, d2, d3, d4]) rfl ⟨by rw [HF.out], HBZ.out⟩
      · cases ok
        · have HF := Lib.hid (show adv X = .agg #[.int .i64 0, .int .i64 0, .int .i64 0, .int .i64 0, .int .i64 0] by rw [hext, if_neg (by simp)]; rfl)
          clear hext HP
          have r0 := HA.c0
          have r1 := HA.c1
          have r2 := HA.c2
          have r3 := HA.c3
          have r4 := HA.c4
          have rf := HA.froz
          have HZ := Lib.hid (HA.put ⟨0, 0, 0, 0, 0⟩)
          have HBZ := Lib.hid (below_set5 HB.out (Nat.le_refl _) (.int .i64 0) (.int .i64 0) (.int .i64 0) (.int .i64 0) (.int .i64 0))
          clear HA
          go_wp2
          generalize ((((w1.setCell ⟨w.heap.size, 0, none⟩ (.int .i64 0)).setCell ⟨w.heap.size, 1, none⟩ (.int .i64 0)).setCell ⟨w.heap.size, 2, none⟩ (.int .i64 0)).setCell ⟨w.heap.size, 3, none⟩ (.int .i64 0)).setCell ⟨w.heap.size, 4, none⟩ (.int .i64 0) = wz at *
          have HA := HZ.out
          clear r0 r1 r2 r3 r4
          refine bodyPost_ret (v := .agg #[.int .i64 0, .int .i64 0, .int .i64 0, .int .i64 0, .int .i64 0]) (by have d0 := HA.c0; have d1 := HA.c1; have d2 := HA.c2; have d3 := HA.c3; have d4 := HA.c4; simp [results, Tryd.results25, go_sem, d0, d1, d2, d3, d4]) rfl ⟨by rw [HF.out], HBZ.out⟩
        · go_wp2_with fail
          refine (HP _).mono ?_
          rintro e w' ⟨rfl, hw⟩
          rw [hw]
          clear HP hw w'
          cases fi
          · have HF := Lib.hid (show adv X = .agg #[.int .i64 0, .int .i64 0, .int .i64 0, .int .i64 0, .int .i64 0] by rw [hext, if_neg (by simp)]; rfl)
            clear hext
            have r0 := HA.c0
            have r1 := HA.c1
            have r2 := HA.c2
            have r3 := HA.c3
            have r4 := HA.c4
            have rf := HA.froz
            have HZ := Lib.hid (HA.put ⟨0, 0, 0, 0, 0⟩)
            have HBZ := Lib.hid (below_set5 HB.out (Nat.le_refl _) (.int .i64 0) (.int .i64 0) (.int .i64 0) (.int .i64 0) (.int .i64 0))
            clear HA
            go_wp2
            generalize ((((w1.setCell ⟨w.heap.size, 0, none⟩ (.int .i64 0)).setCell ⟨w.heap.size, 1, none⟩ (.int .i64 0)).setCell ⟨w.heap.size, 2, none⟩ (.int .i64 0)).setCell ⟨w.heap.size, 3, none⟩ (.int .i64 0)).setCell ⟨w.heap.size, 4, none⟩ (.int .i64 0) = wz at *
            have HA := HZ.out
            clear r0 r1 r2 r3 r4
            refine bodyPost_ret (v := .agg #[.int .i64 0, .int .i64 0, .int .i64 0, .int .i64 0, .int .i64 0]) (by have d0 := HA.c0; have d1 := HA.c1; have d2 := HA.c2; have d3 := HA.c3; have d4 := HA.c4; simp [results, Tryd.results25, go_sem, d0, d1, d2, d3, d4]) rfl ⟨by rw [HF.out], HBZ.out⟩
          · have HF := Lib.hid (show adv X = .agg #[.int .i64 0, .int .i64 0, .int .i64 0, .int .i64 0, .int .i64 n] by rw [hext, if_pos (by simp)]; rfl)
            clear hext
            have r0 := HA.c0
            have r1 := HA.c1
            have r2 := HA.c2
            have r3 := HA.c3
            have r4 := HA.c4
            have rf := HA.froz
            have HZ := Lib.hid (HA.put ⟨0, 0, 0, 0, n⟩)
            have HBZ := Lib.hid (below_set5 HB.out (Nat.le_refl _) (.int .i64 0) (.int .i64 0) (.int .i64 0) (.int .i64 0) (.int .i64 n))
            clear HA
            go_wp2
            generalize ((((w1.setCell ⟨w.heap.size, 0, none⟩ (.int .i64 0)).setCell ⟨w.heap.size, 1, none⟩ (.int .i64 0)).setCell ⟨w.heap.size, 2, none⟩ (.int .i64 0)).setCell ⟨w.heap.size, 3, none⟩ (.int .i64 0)).setCell ⟨w.heap.size, 4, none⟩ (.int .i64 n) = wz at *
            have HA := HZ.out
            clear r0 r1 r2 r3 r4
            refine bodyPost_ret (v := .agg #[.int .i64 0, .int .i64 0, .int .i64 0, .int .i64 0, .int .i64 n]) (by have d0 := HA.c0; have d1 := HA.c1; have d2 := HA.c2; have d3 := HA.c3; have d4 := HA.c4; simp [results, Tryd.results25, go_sem, d0, d1, d2, d3, d4]) rfl ⟨by rw [HF.out], HBZ.out⟩
end Go.Proofs.YtonophhhndhhhaaDoor
