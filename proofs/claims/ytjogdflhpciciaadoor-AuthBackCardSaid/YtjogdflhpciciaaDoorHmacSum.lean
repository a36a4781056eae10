/- hmac.Sum and hmac.Hex walked. -/
import Derived.Test.YtjogdflhpciciaaDoorHmacBehind
import Derived.Test.YtjogdflhpciciaaDoorDigestHex
namespace Go.Proofs.YtjogdflhpciciaaDoor
open Go.RowKit

set_option maxRecDepth 20000 in
set_option maxHeartbeats 1000000 in
theorem hsum_any (vk : Value) (xk : List UInt8) (vb : Value) (xb : List UInt8) (w : World) (hk : Rd w vk (xk.map bv)) (hb : Rd w vb (xb.map bv)) (lk : xk.length ≤ 1000000) (lb : xb.length ≤ 1000000) (ht : TBL w) :
    Calls Tryd.prog 33 #[vk, vb] w fun e w' => e = .returned (av (Hm.sum xk xb)) ∧ Below w.heap.size w w' := by
  have hmf : ∀ (fn : Fn) (first cap : Array Value) (w : World), (Instr.makeFunc fn first cap).run Tryd.prog w = .ok (.func fn first cap) w := fun _ _ _ _ => rfl
  have HK := Lib.hid hk
  have HB := Lib.hid hb
  have HTB := Lib.hid ht
  clear hk hb ht
  obtain ⟨K, hK⟩ : ∃ K, K = Hm.pad xk := ⟨_, rfl⟩
  have hKl : K.length = 64 := by rw [hK, Hm.pad_len]
  obtain ⟨P, hP⟩ : ∃ P, P = K.map bv := ⟨_, rfl⟩
  have hPl : P.length = 64 := by rw [hP, List.length_map, hKl]
  have hpv : av (Hm.pad xk) = .agg P.toArray := by rw [hP, hK]
  have HPV := Lib.hid hpv
  have HIP := Lib.hid (info64 hPl)
  have HONEP := Lib.hid (show ∀ v ∈ P, v.oneCell' = true by rw [hP]; exact bv_cell _)
  have HPL := Lib.hid hPl
  have HP := Lib.hid hP
  have HKL := Lib.hid hKl
  have HKK := Lib.hid hK
  obtain ⟨I, hI⟩ : ∃ I, I = Hm.inner xk xb := ⟨_, rfl⟩
  have hI2 : Md5.sum (Hm.xor 54 K ++ xb) = I := by rw [hI, hK]; rfl
  have hIl : I.length = 16 := by rw [hI, Hm.inner_len]
  obtain ⟨T, hT⟩ : ∃ T, T = I.map bv := ⟨_, rfl⟩
  have hTl : T.length = 16 := by rw [hT, List.length_map, hIl]
  have htv : av I = .agg T.toArray := by rw [hT]
  have HTV := Lib.hid htv
  have HIT := Lib.hid (info16 hTl)
  have HONET := Lib.hid (show ∀ v ∈ T, v.oneCell' = true by rw [hT]; exact bv_cell _)
  have HTL := Lib.hid hTl
  have HT := Lib.hid hT
  have HI2 := Lib.hid hI2
  have HILN := Lib.hid hIl
  obtain ⟨S, hS⟩ : ∃ S, S = (Hm.sum xk xb).map bv := ⟨_, rfl⟩
  have hS2 : Md5.sum (Hm.xor 92 K ++ I) = Hm.sum xk xb := by rw [hI, hK]; rfl
  have hSl : S.length = 16 := by rw [hS, List.length_map, Hm.sum_len]
  have hsv : av (Hm.sum xk xb) = .agg S.toArray := by rw [hS]
  have HSV := Lib.hid hsv
  have HIS := Lib.hid (info16 hSl)
  have HIA := Lib.hid (info16a hSl)
  have HONES := Lib.hid (show ∀ v ∈ S, v.oneCell' = true by rw [hS]; exact bv_cell _)
  have HSL := Lib.hid hSl
  have HS2 := Lib.hid hS2
  clear hK hKl hP hPl hpv hI hI2 hIl hT hTl htv hS hS2 hSl hsv
  go_enter Tryd.func33, Tryd.ntmps33
  go_wp2_with fail
  show Calls _ _ _ (w.alloc (.cells #[.int .u8 0, .int .u8 0, .int .u8 0, .int .u8 0, .int .u8 0, .int .u8 0, .int .u8 0, .int .u8 0, .int .u8 0, .int .u8 0, .int .u8 0, .int .u8 0, .int .u8 0, .int .u8 0, .int .u8 0, .int .u8 0] 37)) _
  have hA := heap_alloc_new w (.cells #[.int .u8 0, .int .u8 0, .int .u8 0, .int .u8 0, .int .u8 0, .int .u8 0, .int .u8 0, .int .u8 0, .int .u8 0, .int .u8 0, .int .u8 0, .int .u8 0, .int .u8 0, .int .u8 0, .int .u8 0, .int .u8 0] 37)
  have hBa : Below w.heap.size w (w.alloc (.cells #[.int .u8 0, .int .u8 0, .int .u8 0, .int .u8 0, .int .u8 0, .int .u8 0, .int .u8 0, .int .u8 0, .int .u8 0, .int .u8 0, .int .u8 0, .int .u8 0, .int .u8 0, .int .u8 0, .int .u8 0, .int .u8 0] 37)) := (Below.refl _ _).alloc (Nat.le_refl _) _
  generalize w.alloc (.cells #[.int .u8 0, .int .u8 0, .int .u8 0, .int .u8 0, .int .u8 0, .int .u8 0, .int .u8 0, .int .u8 0, .int .u8 0, .int .u8 0, .int .u8 0, .int .u8 0, .int .u8 0, .int .u8 0, .int .u8 0, .int .u8 0] 37) = wa at hA hBa ⊢
  refine (blockOf_any vk xk wa (HK.out.below hBa) (by omega) (HTB.out.below hBa)).mono ?_
  rintro e w1 ⟨rfl, hb1⟩
  rw [HPV.out]
  have hlA : w.heap.size < wa.heap.size := (Array.getElem?_eq_some_iff.1 hA).1
  have HA1 := Lib.hid ((hb1.block _ hlA).trans hA)
  have HB1 := Lib.hid (hBa.trans (hb1.mono hBa.size))
  clear hA hBa hb1 hlA
  go_wp2_with (refine wpList_store_at rfl 62 _ _ rfl w1.heap.size P rfl rfl 62 _ (heap_alloc_new w1 _) ?cb HIP.out HONEP.out ?_)
  case cb => rw [HPL.out]; rfl
  intro w2 hg2 hgr2
  have b2 : Below w1.heap.size w1 w2 := ((Below.refl _ _).alloc (Nat.le_refl _) _).grown hgr2 (by simp) (fun k hk => by cases hk; exact Nat.le_refl _)
  have hlA : w.heap.size < w1.heap.size := (Array.getElem?_eq_some_iff.1 HA1.out).1
  have HA2 := Lib.hid ((b2.block _ hlA).trans HA1.out)
  have HB2 := Lib.hid (HB1.out.trans (b2.mono HB1.out.size))
  obtain ⟨g5, hg5⟩ : ∃ g, g = w1.heap.size := ⟨_, rfl⟩
  rw [← hg5] at hg2 ⊢
  rw [HP.out] at hg2
  clear hgr2 b2 hlA hg5
  go_wp2_with fail
  have hc := behind_any 54 K HKL.out vb xb g5 w2 (HB.out.below HB2.out) lb hg2.out (HTB.out.below HB2.out)
  rw [HI2.out, HTV.out] at hc
  refine Calls.mono (show Calls Tryd.prog 48 #[.int .u8 54, vb, .pointer (some ⟨g5, 0, none⟩)] w2 _ from hc) ?_
  clear hc
  rintro e w3 ⟨rfl, hb3⟩
  have hlA : w.heap.size < w2.heap.size := (Array.getElem?_eq_some_iff.1 HA2.out).1
  have hlG : g5 < w2.heap.size := (Array.getElem?_eq_some_iff.1 hg2.out).1
  have HA3 := Lib.hid ((hb3.block _ hlA).trans HA2.out)
  have HG3 := Lib.hid ((hb3.block _ hlG).trans hg2.out)
  have HB3 := Lib.hid (HB2.out.trans (hb3.mono HB2.out.size))
  clear hlA hlG hb3 hg2
  go_wp2_with (refine wpList_store_at rfl 37 _ _ rfl w3.heap.size T rfl rfl 37 _ (heap_alloc_new w3 _) ?cb HIT.out HONET.out ?_)
  case cb => rw [HTL.out]; rfl
  intro w4 hg4 hgr4
  have b4 : Below w3.heap.size w3 w4 := ((Below.refl _ _).alloc (Nat.le_refl _) _).grown hgr4 (by simp) (fun k hk => by cases hk; exact Nat.le_refl _)
  have hlA : w.heap.size < w3.heap.size := (Array.getElem?_eq_some_iff.1 HA3.out).1
  have hlG : g5 < w3.heap.size := (Array.getElem?_eq_some_iff.1 HG3.out).1
  have HA4 := Lib.hid ((b4.block _ hlA).trans HA3.out)
  have HG4 := Lib.hid ((b4.block _ hlG).trans HG3.out)
  have HB4 := Lib.hid (HB3.out.trans (b4.mono HB3.out.size))
  have hr4 : Rd w4 (.slice (some ⟨w3.heap.size, 0, none⟩) 16 16) (I.map bv) := Rd.row (by rw [← HT.out]; exact hg4.out) (by rw [HILN.out]) (by decide)
  obtain ⟨g7, hg7⟩ : ∃ g, g = w3.heap.size := ⟨_, rfl⟩
  rw [← hg7] at hr4 ⊢
  have HR4 := Lib.hid hr4
  clear hg4 hgr4 b4 hlA hlG hr4 hg7
  go_wp2_with fail
  have hc := behind_any 92 K HKL.out _ I g5 w4 HR4.out (by rw [HILN.out]; decide) HG4.out (HTB.out.below HB4.out)
  rw [HS2.out, HSV.out] at hc
  refine Calls.mono (show Calls Tryd.prog 48 #[.int .u8 92, .slice (some ⟨g7, 0, none⟩) 16 16, .pointer (some ⟨g5, 0, none⟩)] w4 _ from hc) ?_
  clear hc
  rintro e w5 ⟨rfl, hb5⟩
  have hlA : w.heap.size < w4.heap.size := (Array.getElem?_eq_some_iff.1 HA4.out).1
  have HA5 := Lib.hid ((hb5.block _ hlA).trans HA4.out)
  have HB5 := Lib.hid (HB4.out.trans (hb5.mono HB4.out.size))
  clear hlA hb5
  go_wp2_with (refine wpList_store_at rfl 37 _ _ rfl w.heap.size S rfl rfl 37 _ HA5.out ?ce HIS.out HONES.out ?_)
  case ce => rw [HSL.out]; rfl
  intro w9 hg9 hgr9
  have hB9 := HB5.out.grown hgr9 HB5.out.size (fun k hk => by cases hk; exact Nat.le_refl _)
  clear hgr9
  go_wp2
  exact bodyPost_ret (v := .agg S.toArray) (results_cell_row Tryd.results33 _ _ w.heap.size 37 _ (0, 0) _ rfl hg9.out Tryd.underlying37 rfl HIA.out) rfl ⟨by rw [HSV.out], hB9⟩

theorem hhex_any (vk : Value) (xk : List UInt8) (vb : Value) (xb : List UInt8) (w : World) (hk : Rd w vk (xk.map bv)) (hb : Rd w vb (xb.map bv)) (lk : xk.length ≤ 1000000) (lb : xb.length ≤ 1000000) (ht : TBL w) :
    Calls Tryd.prog 21 #[vk, vb] w fun e w' => e = .returned (sv (Md5.hex (Hm.sum xk xb))) ∧ Below w.heap.size w w' := by
  have HK := Lib.hid hk
  have HB := Lib.hid hb
  have HTB := Lib.hid ht
  clear hk hb ht
  obtain ⟨I, hI⟩ : ∃ I, I = Hm.sum xk xb := ⟨_, rfl⟩
  have hIl : I.length = 16 := by rw [hI, Hm.sum_len]
  obtain ⟨T, hT⟩ : ∃ T, T = I.map bv := ⟨_, rfl⟩
  have hTl : T.length = 16 := by rw [hT, List.length_map, hIl]
  have htv : av (Hm.sum xk xb) = .agg T.toArray := by rw [hT, hI]
  have HTV := Lib.hid htv
  have HIT := Lib.hid (info16 hTl)
  have HONET := Lib.hid (show ∀ v ∈ T, v.oneCell' = true by rw [hT]; exact bv_cell _)
  have HTL := Lib.hid hTl
  have HT := Lib.hid hT
  have HI := Lib.hid hI
  have HILN := Lib.hid hIl
  clear hI hIl hT hTl htv
  go_enter Tryd.func21, Tryd.ntmps21
  go_wp2_with fail
  refine (hsum_any vk xk vb xb w HK.out HB.out lk lb HTB.out).mono ?_
  rintro e w1 ⟨rfl, hb1⟩
  rw [HTV.out]
  go_wp2_with (refine wpList_store_at rfl 37 _ _ rfl w1.heap.size T rfl rfl 37 _ (heap_alloc_new w1 _) ?cb HIT.out HONET.out ?_)
  case cb => rw [HTL.out]; rfl
  intro w4 hg4 hgr4
  have b4 : Below w1.heap.size w1 w4 := ((Below.refl _ _).alloc (Nat.le_refl _) _).grown hgr4 (by simp) (fun k hk => by cases hk; exact Nat.le_refl _)
  have HB4 := Lib.hid (hb1.trans (b4.mono hb1.size))
  have hr4 : Rd w4 (.slice (some ⟨w1.heap.size, 0, none⟩) 16 16) (I.map bv) := Rd.row (by rw [← HT.out]; exact hg4.out) (by rw [HILN.out]) (by decide)
  obtain ⟨g7, hg7⟩ : ∃ g, g = w1.heap.size := ⟨_, rfl⟩
  rw [← hg7] at hr4 ⊢
  have HR4 := Lib.hid hr4
  clear hg4 hgr4 b4 hr4 hg7 hb1
  go_wp2_with fail
  refine (hexb_any _ I w4 HR4.out (by rw [HILN.out]; decide)).mono ?_
  rintro e w5 ⟨rfl, hb5⟩
  have c5 := HB4.out.trans (hb5.mono HB4.out.size)
  clear hb5
  go_wp2
  go_ret
  exact ⟨congrArg (fun x => Ending.returned (sv (Md5.hex x))) HI.out, c5⟩
end Go.Proofs.YtjogdflhpciciaaDoor
