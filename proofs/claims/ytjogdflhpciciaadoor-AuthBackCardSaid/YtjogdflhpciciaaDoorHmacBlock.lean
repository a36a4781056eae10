/- hmac.blockOf walked. -/
import Derived.Test.YtjogdflhpciciaaDoorDigestSum
import Derived.Test.YtjogdflhpciciaaDoorRow64
import Derived.Test.YtjogdflhpciciaaDoorHmac
namespace Go.Proofs.YtjogdflhpciciaaDoor
open Go.RowKit

theorem splice_pad64 {ks : List UInt8} (_h : ks.length ≤ 64) : splice (List.replicate 64 (Value.int .u8 0)) 0 (ks.map bv) = (ks ++ List.replicate (64 - ks.length) 0).map bv := by
  simp only [splice, List.take_zero, List.nil_append, Nat.zero_add, List.length_map, List.drop_replicate, List.map_append, List.map_replicate]
  rfl

set_option maxRecDepth 20000 in
set_option maxHeartbeats 1000000 in
theorem blockOf_any (v : Value) (xs : List UInt8) (w : World) (h : Rd w v (xs.map bv)) (hl : xs.length ≤ 1048576) (ht : TBL w) :
    Calls Tryd.prog 47 #[v] w fun e w' => e = .returned (av (Hm.pad xs)) ∧ Below w.heap.size w w' := by
  have HRD := Lib.hid h
  obtain ⟨ao, cap, rfl, hcap, hc⟩ := h.form
  obtain ⟨L, hL⟩ : ∃ L, L = xs.length := ⟨_, rfl⟩
  rw [← hL] at hl hcap HRD ⊢
  obtain ⟨R, hR⟩ : ∃ R, R = (Hm.pad xs).map bv := ⟨_, rfl⟩
  have hRl : R.length = 64 := by rw [hR, List.length_map, Hm.pad_len]
  have hav : av (Hm.pad xs) = .agg R.toArray := by rw [hR]
  rw [hav]
  have HI := Lib.hid (info64a hRl)
  have HIL := Lib.hid (info64 hRl)
  have HONE := Lib.hid (show ∀ v ∈ R, v.oneCell' = true by rw [hR]; exact bv_cell _)
  have HRL := Lib.hid hRl
  have HR := Lib.hid hR
  have HL := Lib.hid hL
  have HTB := Lib.hid ht
  clear hR hRl hav hc h hL ht
  obtain ⟨Z, hZ⟩ : ∃ Z, Z = List.replicate 64 (Value.int .u8 0) := ⟨_, rfl⟩
  have hZl : Z.length = 64 := by rw [hZ, List.length_replicate]
  have HZ := Lib.hid hZ
  have HZl := Lib.hid hZl
  clear hZ hZl
  by_cases h64 : 64 < L
  · obtain ⟨T, hT⟩ : ∃ T, T = (Md5.sum xs).map bv := ⟨_, rfl⟩
    have hTl : T.length = 16 := by rw [hT, List.length_map, Md5.sum_len]
    have hav : av (Md5.sum xs) = .agg T.toArray := by rw [hT]
    have HIT := Lib.hid (info16 hTl)
    have HONET := Lib.hid (show ∀ v ∈ T, v.oneCell' = true by rw [hT]; exact bv_cell _)
    have HTL := Lib.hid hTl
    have HT := Lib.hid hT
    have HAV := Lib.hid hav
    clear hT hTl hav
    go_enter Tryd.func47, Tryd.ntmps47
    go_wp2_with fail
    show Calls _ _ _ (w.alloc (.cells (List.replicate 64 (Value.int .u8 0)).toArray 62)) _
    rw [← HZ.out]
    have hA := heap_alloc_new w (.cells Z.toArray 62)
    have hBa : Below w.heap.size w (w.alloc (.cells Z.toArray 62)) := (Below.refl _ _).alloc (Nat.le_refl _) _
    generalize w.alloc (.cells Z.toArray 62) = wa at hA hBa ⊢
    have HB := Lib.hid hBa
    refine (sum_any (.slice ao L cap) xs wa (HRD.out.below hBa) (by rw [← HL.out]; exact hl) (HTB.out.below hBa)).mono ?_
    rintro e w1 ⟨rfl, hb1⟩
    rw [HAV.out]
    have hlA : w.heap.size < wa.heap.size := (Array.getElem?_eq_some_iff.1 hA).1
    have hA1 := (hb1.block _ hlA).trans hA
    have hB1 : Below w.heap.size w w1 := HB.out.trans (hb1.mono HB.out.size)
    have HA1 := Lib.hid hA1
    have HB1 := Lib.hid hB1
    clear hA hBa hb1 hlA hA1 hB1
    go_wp2_with (refine wpList_store_at rfl 37 _ _ rfl w1.heap.size T rfl rfl 37 _ (heap_alloc_new w1 _) ?cb HIT.out HONET.out ?_)
    case cb => rw [HTL.out]; rfl
    intro w2 hg2 hgr2
    have b2 : Below w1.heap.size w1 w2 := ((Below.refl _ _).alloc (Nat.le_refl _) _).grown hgr2 (by simp) (fun k hk => by cases hk; exact Nat.le_refl _)
    have hlA : w.heap.size < w1.heap.size := (Array.getElem?_eq_some_iff.1 HA1.out).1
    have HA2 := Lib.hid ((b2.block _ hlA).trans HA1.out)
    have HB2 := Lib.hid (HB1.out.trans (b2.mono HB1.out.size))
    have hr2 : Rd w2 (.slice (some ⟨w1.heap.size, 0, none⟩) 16 16) ((Md5.sum xs).map bv) := Rd.row (by rw [← HT.out]; exact hg2.out) (by rw [Md5.sum_len]) (by decide)
    obtain ⟨g5, hg5⟩ : ∃ g, g = w1.heap.size := ⟨_, rfl⟩
    rw [← hg5] at hr2 ⊢
    have HR2 := Lib.hid hr2
    clear hg2 hgr2 b2 hlA hr2 hg5
    go_wp2_with (with_reducible refine wpList_copy_rd rfl (.tmp 11) (.tmp 12) rfl (some ⟨w2.heap.size, 0, none⟩) 64 64 rfl (.slice (some ⟨g5, 0, none⟩) 16 16) (Md5.sum xs) rfl ?cx ?cy w2.heap.size 0 Z 62 ?ca (fun _ => rfl) ?cd w2.heap.size _ (Below.refl _ _) (Nat.le_refl _) ?_)
    case cx => exact HR2.out.below ((Below.refl _ _).alloc (Nat.le_refl _) _)
    case cy => rw [Md5.sum_len]; decide
    case ca => rw [HZ.out]; exact heap_alloc_new w2 _
    case cd => rw [HZl.out, Md5.sum_len]; decide
    intro w3 hg3 hb3
    have hs : splice Z 0 ((Md5.sum xs).map bv) = R := by
      rw [HZ.out, splice_pad64 (by rw [Md5.sum_len]; decide), HR.out, Hm.pad, Hm.key_long (by rw [← HL.out]; exact h64)]
    rw [hs] at hg3
    have hlA : w.heap.size < w2.heap.size := (Array.getElem?_eq_some_iff.1 HA2.out).1
    have b3 : Below w2.heap.size w2 w3 := ((Below.refl _ _).alloc (Nat.le_refl _) _).trans hb3
    have HA3 := Lib.hid ((b3.block _ hlA).trans HA2.out)
    have HB3 := Lib.hid (HB2.out.trans (b3.mono HB2.out.size))
    clear hs hb3 hlA b3
    go_wp2_with (first | (refine wpList_load_row rfl 62 _ rfl w2.heap.size rfl 62 R.toArray (0, 0) _ hg3.out Tryd.underlying62 rfl HI.out ?_) | (refine wpList_store_at rfl 62 _ _ rfl w.heap.size R rfl rfl 62 _ HA3.out ?ce HIL.out HONE.out ?_))
    case ce => rw [HRL.out, List.size_toArray, HZl.out]
    intro w9 hg9 hgr9
    have hB9 := HB3.out.grown hgr9 HB3.out.size (fun k hk => by cases hk; exact Nat.le_refl _)
    clear hgr9
    go_wp2
    exact bodyPost_ret (v := .agg R.toArray) (results_cell_row Tryd.results47 _ _ w.heap.size 62 _ (0, 0) _ rfl hg9.out Tryd.underlying62 rfl HI.out) rfl ⟨rfl, hB9⟩
  · go_enter Tryd.func47, Tryd.ntmps47
    go_wp2_with (with_reducible refine wpList_copy_rd rfl (.tmp 11) (.tmp 12) rfl (some ⟨w.heap.size + 1, 0, none⟩) 64 64 rfl (.slice ao L cap) xs rfl ?cx ?cy (w.heap.size + 1) 0 Z 62 ?ca (fun _ => rfl) ?cd (w.heap.size + 1) _ (Below.refl _ _) (Nat.le_refl _) ?_)
    case cx => exact HRD.out.below (((Below.refl _ _).alloc (Nat.le_refl _) _).alloc (by simp) _)
    case cy => rw [← HL.out]; omega
    case ca => rw [HZ.out]; exact heap_alloc2_new w _ _
    case cd => rw [HZl.out, ← HL.out]; omega
    intro w2 hg2 hb2
    have hs : splice Z 0 (xs.map bv) = R := by
      rw [HZ.out, splice_pad64 (by rw [← HL.out]; omega), HR.out, Hm.pad, Hm.key_short (by rw [← HL.out]; omega)]
    rw [hs] at hg2
    have hA : w2.heap[w.heap.size]? = some (.cells Z.toArray 62) := by
      rw [HZ.out]
      exact (hb2.block _ (Nat.lt_succ_self _)).trans (heap_alloc2_old w _ _)
    have HA := Lib.hid hA
    have HB := Lib.hid ((((Below.refl w.heap.size w).alloc (Nat.le_refl _) _).alloc (by simp) _).trans (hb2.mono (Nat.le_succ _)))
    clear hs hb2 hA
    go_wp2_with (first | (refine wpList_load_row rfl 62 _ rfl (w.heap.size + 1) rfl 62 R.toArray (0, 0) _ hg2.out Tryd.underlying62 rfl HI.out ?_) | (refine wpList_store_at rfl 62 _ _ rfl w.heap.size R rfl rfl 62 _ HA.out ?ce HIL.out HONE.out ?_))
    case ce => rw [HRL.out, List.size_toArray, HZl.out]
    intro w9 hg9 hgr9
    have hB9 := HB.out.grown hgr9 HB.out.size (fun k hk => by cases hk; exact Nat.le_refl _)
    clear hgr9
    go_wp2
    exact bodyPost_ret (v := .agg R.toArray) (results_cell_row Tryd.results47 _ _ w.heap.size 62 _ (0, 0) _ rfl hg9.out Tryd.underlying62 rfl HI.out) rfl ⟨rfl, hB9⟩
end Go.Proofs.YtjogdflhpciciaaDoor
