/- hmac.Sum's closure walked: a mark on the key's block, the rest behind it, summed. -/
import Derived.Test.YtjogdflhpciciaaDoorHmacBlock
namespace Go.Proofs.YtjogdflhpciciaaDoor
open Go.RowKit

/-- The first k bytes of the key marked, the others of the row noughts yet. -/
def behB (m : UInt8) (ks : List UInt8) (k j : Nat) : UInt8 := if j < k then ks.getD j 0 ^^^ m else 0

theorem behB_all {D : Nat} (m : UInt8) {ks xs : List UInt8} (hk : ks.length = 64) (hD : D = 64 + xs.length) : splice (rowF D (behB m ks 64)) 64 (xs.map bv) = (Hm.xor m ks ++ xs).map bv := by
  have hl : (rowF D (behB m ks 64)).length = D := rowF_len _ _
  have e : (rowF D (behB m ks 64)).take 64 = (Hm.xor m ks).map bv := by
    apply List.ext_getElem?
    intro j
    by_cases hj : j < 64
    · rw [List.getElem?_take_of_lt hj]
      simp only [rowF, Hm.xor, List.getElem?_map]
      rw [List.getElem?_range (by omega), List.getElem?_eq_getElem (by omega)]
      simp only [Option.map_some, behB]
      rw [if_pos hj, List.getD_eq_getElem?_getD, List.getElem?_eq_getElem (by omega)]
      rfl
    · rw [List.getElem?_eq_none (by simp; omega), List.getElem?_eq_none (by simp [Hm.xor]; omega)]
  rw [splice, e, List.drop_of_length_le (by rw [hl, List.length_map]; omega), List.append_nil, List.map_append]
theorem behB_zero (m : UInt8) (ks : List UInt8) (D : Nat) : rowF D (behB m ks 0) = List.replicate D (.int .u8 0) := by
  refine (rowF_ext (by simp) fun j hj => ?_).symm
  rw [List.getElem?_replicate, if_pos hj]
  rfl

set_option maxRecDepth 20000 in
set_option maxHeartbeats 1000000 in
theorem behind_any (m : UInt8) (ks : List UInt8) (hk : ks.length = 64) (v : Value) (xs : List UInt8) (b : Nat) (w : World) (h : Rd w v (xs.map bv)) (hl : xs.length ≤ 1000000)
    (hb : w.heap[b]? = some (.cells (ks.map bv).toArray 62 (0, 0))) (ht : TBL w) :
    Calls Tryd.prog 48 #[.int .u8 (m.toNat : Int), v, .pointer (some ⟨b, 0, none⟩)] w fun e w' => e = .returned (av (Md5.sum (Hm.xor m ks ++ xs))) ∧ Below w.heap.size w w' := by
  have HRD := Lib.hid h
  obtain ⟨ao, cap, rfl, hcap, hc⟩ := h.form
  obtain ⟨L, hL⟩ : ∃ L, L = xs.length := ⟨_, rfl⟩
  rw [← hL] at hl hcap HRD ⊢
  obtain ⟨D, hD⟩ : ∃ D, D = 64 + L := ⟨_, rfl⟩
  have iD : (64 : Int) + (L : Int) = (D : Int) := by omega
  obtain ⟨R, hR⟩ : ∃ R, R = ks.map bv := ⟨_, rfl⟩
  rw [← hR] at hb
  have hRl : R.length = 64 := by rw [hR, List.length_map, hk]
  have HB := Lib.hid hb
  have HL := Lib.hid hL
  have HD := Lib.hid hD
  have HR := Lib.hid hR
  have HTB := Lib.hid ht
  clear hc h hL ht hb hD hR
  obtain ⟨S, hS⟩ : ∃ S, S = (Md5.sum (Hm.xor m ks ++ xs)).map bv := ⟨_, rfl⟩
  have hSl : S.length = 16 := by rw [hS, List.length_map, Md5.sum_len]
  have hav : av (Md5.sum (Hm.xor m ks ++ xs)) = .agg S.toArray := by rw [hS]
  have HIA := Lib.hid (info64a hRl)
  have HI := Lib.hid (info16a hSl)
  have HIL := Lib.hid (info16 hSl)
  have HONE := Lib.hid (show ∀ v ∈ S, v.oneCell' = true by rw [hS]; exact bv_cell _)
  have HSL := Lib.hid hSl
  have HAV := Lib.hid hav
  have HK := Lib.hid hk
  clear hS hSl hav hk hRl
  obtain ⟨wm, hmk, hg0, hbm⟩ := make_u8n (w.alloc (.cells #[.int .u8 0, .int .u8 0, .int .u8 0, .int .u8 0, .int .u8 0, .int .u8 0, .int .u8 0, .int .u8 0, .int .u8 0, .int .u8 0, .int .u8 0, .int .u8 0, .int .u8 0, .int .u8 0, .int .u8 0, .int .u8 0] 37)) D (by have := HD.out; omega)
  have hsz : (w.alloc (.cells #[.int .u8 0, .int .u8 0, .int .u8 0, .int .u8 0, .int .u8 0, .int .u8 0, .int .u8 0, .int .u8 0, .int .u8 0, .int .u8 0, .int .u8 0, .int .u8 0, .int .u8 0, .int .u8 0, .int .u8 0, .int .u8 0] 37)).heap.size = w.heap.size + 1 := by simp
  have hA : wm.heap[w.heap.size]? = some (.cells #[.int .u8 0, .int .u8 0, .int .u8 0, .int .u8 0, .int .u8 0, .int .u8 0, .int .u8 0, .int .u8 0, .int .u8 0, .int .u8 0, .int .u8 0, .int .u8 0, .int .u8 0, .int .u8 0, .int .u8 0, .int .u8 0] 37) := (hbm.block _ (by rw [hsz]; exact Nat.lt_succ_self _)).trans (heap_alloc_new w _)
  have hBm : Below w.heap.size w wm := ((Below.refl _ _).alloc (Nat.le_refl _) _).trans (hbm.mono (by rw [hsz]; exact Nat.le_succ _))
  rw [hsz] at hmk hg0
  have HG0 := Lib.hid hg0
  have HA := Lib.hid hA
  have HBM := Lib.hid hBm
  have hlb : b < w.heap.size := (Array.getElem?_eq_some_iff.1 HB.out).1
  have HBR := Lib.hid ((hBm.block _ hlb).trans HB.out)
  have HLB := Lib.hid hlb
  clear hg0 hA hBm hbm hsz hlb
  go_enter Tryd.func48, Tryd.ntmps48
  go_wp2_with (refine wpList_load_row rfl 62 _ rfl b rfl 62 R.toArray (0, 0) _ HBR.out Tryd.underlying62 rfl HIA.out ?_)
  go_loopw [14] (fun i wr => ∃ k : Nat, k ≤ 64 ∧ i = .int .i64 k ∧ wr.heap[w.heap.size]? = some (.cells #[.int .u8 0, .int .u8 0, .int .u8 0, .int .u8 0, .int .u8 0, .int .u8 0, .int .u8 0, .int .u8 0, .int .u8 0, .int .u8 0, .int .u8 0, .int .u8 0, .int .u8 0, .int .u8 0, .int .u8 0, .int .u8 0] 37) ∧ wr.heap[w.heap.size + 1]? = some (.cells (rowF D (behB m ks k)).toArray 5) ∧ Below w.heap.size w wr) (fun i _ => 64 - (intOf i).toNat)
  case atStart => exact ⟨0, by omega, rfl, HA.out, by rw [behB_zero]; exact HG0.out, HBM.out⟩
  case round =>
    obtain ⟨k, hk, rfl, hz, hg, hb⟩ := hrel
    by_cases hlt : k < 64
    · obtain ⟨c, hc⟩ : ∃ c, c = ks.getD k 0 := ⟨_, rfl⟩
      have hRk : R[k]? = some (.int .u8 (c.toNat : Int)) := by
        rw [HR.out, List.getElem?_map, List.getElem?_eq_getElem (by rw [HK.out]; exact hlt), hc, List.getD_eq_getElem?_getD, List.getElem?_eq_getElem (by rw [HK.out]; exact hlt)]
        rfl
      have hix := fun w => index64 hRk hlt w
      have hxo := xor_bv c m
      have e1 : wr.cell? ⟨w.heap.size + 1, k, none⟩ = some (.int .u8 ((behB m ks k k).toNat : Int)) := (cell_of_row _ _ _ _ _ _ hg).trans (rowF_at (by have := HD.out; omega))
      have f1 : wr.frozen? ⟨w.heap.size + 1, k, none⟩ = false := frozen_of_row _ _ _ _ _ hg
      have i1 : (k : Int) < (D : Int) := by have := HD.out; omega
      have HZ := Lib.hid hz
      have HG := Lib.hid hg
      have HBB := Lib.hid hb
      have HC := Lib.hid hc
      clear hz hg hb hc hRk
      go_wp2
      go_roundw
      case rel =>
        refine ⟨k + 1, by omega, by go_num, ?_, ?_, HBB.out.setCell (by show w.heap.size ≤ w.heap.size + 1; omega) _⟩
        · rw [Below.heap_setCell _ _ _ _ (by show w.heap.size ≠ w.heap.size + 1; omega)]; exact HZ.out
        · refine (setCell_row HG.out).trans ?_
          rw [rowF_set (g := behB m ks (k + 1)) (by have := HD.out; omega) (fun j hj => by unfold behB; by_cases hjk : j < k; { rw [if_pos hjk, if_pos (by omega)] }; { rw [if_neg hjk, if_neg (by omega)] })]
          unfold behB
          rw [if_pos (Nat.lt_succ_self _), ← HC.out]
          rfl
      case measure => simp [intOf]; omega
    · obtain rfl : k = 64 := by omega
      have hrd := HRD.out.below hb
      have HZ := Lib.hid hz
      have HG := Lib.hid hg
      have HBB := Lib.hid hb
      have i1 : (64 : Int) ≤ (D : Int) := by have := HD.out; omega
      have HX := Lib.hid hrd
      clear hz hg hb hrd
      rcases Classical.em (D = 64) with h0 | h0
      · have HD0 := Lib.hid h0
        have h1 := eq_true h0
        clear h0
        go_wp2_with (with_reducible refine wpList_copy_rd rfl (.tmp 26) (.tmp 27) rfl (some ⟨w.heap.size + 1, 0, none⟩) (D - 64) (D - 64) rfl (.slice ao L cap) xs rfl HX.out ?cy (w.heap.size + 1) 64 (rowF D (behB m ks 64)) 5 HG.out ?cz ?cd (w.heap.size + 1) _ (Below.refl _ _) (Nat.le_refl _) ?_)
        case cy => rw [← HL.out]; have := HD.out; omega
        case cz => rw [← HL.out]; have := HD.out; have := HD0.out; omega
        case cd => rw [rowF_len, ← HL.out]; have := HD.out; omega
        intro w2 hg2 hb2
        rw [behB_all m HK.out (by have := HD.out; have := HL.out; omega)] at hg2
        have hz2 := (hb2.block _ (Nat.lt_succ_self _)).trans HZ.out
        have hB2 : Below w.heap.size w w2 := HBB.out.trans (hb2.mono (Nat.le_succ _))
        have hr2 : Rd w2 (.slice (some ⟨w.heap.size + 1, 0, none⟩) D D) ((Hm.xor m ks ++ xs).map bv) := Rd.row hg2.out (by rw [List.length_append, Hm.xor_len, HK.out, HD.out, HL.out]) (by have := HD.out; omega)
        have HZ2 := Lib.hid hz2
        have HB2 := Lib.hid hB2
        have HR2 := Lib.hid hr2
        clear hg2 hb2 hz2 hB2 hr2
        go_wp2_with fail
        have hc := sum_any _ (Hm.xor m ks ++ xs) w2 HR2.out (by rw [List.length_append, Hm.xor_len, HK.out, ← HL.out]; omega) (HTB.out.below HB2.out)
        rw [HAV.out] at hc
        refine hc.mono ?_
        clear hc
        rintro e w3 ⟨rfl, hb3⟩
        have hlz : w.heap.size < w2.heap.size := (Array.getElem?_eq_some_iff.1 HZ2.out).1
        have HZ3 := Lib.hid ((hb3.block _ hlz).trans HZ2.out)
        have HB3 := Lib.hid (HB2.out.trans (hb3.mono HB2.out.size))
        clear hlz hb3
        go_wp2_with (refine wpList_store_at rfl 37 _ _ rfl w.heap.size S rfl rfl 37 _ HZ3.out ?ce HIL.out HONE.out ?_)
        case ce => rw [HSL.out]; rfl
        intro w9 hg9 hgr9
        have hB9 := HB3.out.grown hgr9 HB3.out.size (fun k hk => by cases hk; exact Nat.le_refl _)
        clear hgr9
        go_wp2
        exact bodyPost_ret (v := .agg S.toArray) (results_cell_row Tryd.results48 _ _ w.heap.size 37 _ (0, 0) _ rfl hg9.out Tryd.underlying37 rfl HI.out) rfl ⟨by rw [HAV.out], hB9⟩
      · go_wp2_with (with_reducible refine wpList_copy_rd rfl (.tmp 26) (.tmp 27) rfl (some ⟨w.heap.size + 1, 64, none⟩) (D - 64) (D - 64) rfl (.slice ao L cap) xs rfl HX.out ?cy (w.heap.size + 1) 64 (rowF D (behB m ks 64)) 5 HG.out (fun _ => rfl) ?cd (w.heap.size + 1) _ (Below.refl _ _) (Nat.le_refl _) ?_)
        case cy => rw [← HL.out]; have := HD.out; omega
        case cd => rw [rowF_len, ← HL.out]; have := HD.out; omega
        intro w2 hg2 hb2
        rw [behB_all m HK.out (by have := HD.out; have := HL.out; omega)] at hg2
        have hz2 := (hb2.block _ (Nat.lt_succ_self _)).trans HZ.out
        have hB2 : Below w.heap.size w w2 := HBB.out.trans (hb2.mono (Nat.le_succ _))
        have hr2 : Rd w2 (.slice (some ⟨w.heap.size + 1, 0, none⟩) D D) ((Hm.xor m ks ++ xs).map bv) := Rd.row hg2.out (by rw [List.length_append, Hm.xor_len, HK.out, HD.out, HL.out]) (by have := HD.out; omega)
        have HZ2 := Lib.hid hz2
        have HB2 := Lib.hid hB2
        have HR2 := Lib.hid hr2
        clear hg2 hb2 hz2 hB2 hr2
        go_wp2_with fail
        have hc := sum_any _ (Hm.xor m ks ++ xs) w2 HR2.out (by rw [List.length_append, Hm.xor_len, HK.out, ← HL.out]; omega) (HTB.out.below HB2.out)
        rw [HAV.out] at hc
        refine hc.mono ?_
        clear hc
        rintro e w3 ⟨rfl, hb3⟩
        have hlz : w.heap.size < w2.heap.size := (Array.getElem?_eq_some_iff.1 HZ2.out).1
        have HZ3 := Lib.hid ((hb3.block _ hlz).trans HZ2.out)
        have HB3 := Lib.hid (HB2.out.trans (hb3.mono HB2.out.size))
        clear hlz hb3
        go_wp2_with (refine wpList_store_at rfl 37 _ _ rfl w.heap.size S rfl rfl 37 _ HZ3.out ?ce HIL.out HONE.out ?_)
        case ce => rw [HSL.out]; rfl
        intro w9 hg9 hgr9
        have hB9 := HB3.out.grown hgr9 HB3.out.size (fun k hk => by cases hk; exact Nat.le_refl _)
        clear hgr9
        go_wp2
        exact bodyPost_ret (v := .agg S.toArray) (results_cell_row Tryd.results48 _ _ w.heap.size 37 _ (0, 0) _ rfl hg9.out Tryd.underlying37 rfl HI.out) rfl ⟨by rw [HAV.out], hB9⟩
end Go.Proofs.YtjogdflhpciciaaDoor
