/- The reference of layer 4: padded walked. -/
import Derived.Test.YtjogdflhpciciaaDoorDigestRefSum
import Derived.Test.YtjogdflhpciciaaDoorRow64
import Derived.Test.YtjogdflhpciciaaDoorOwnRow
import Derived.Test.YtjogdflhpciciaaDoorHmac
namespace Go.Proofs.YtjogdflhpciciaaDoor
open Go.RowKit

/-- The padded key, its first k bytes marked. -/
def padB (x : UInt8) (P : List UInt8) (k j : Nat) : UInt8 := if j < k then P.getD j 0 ^^^ x else P.getD j 0
theorem padB_zero (x : UInt8) {P : List UInt8} (h : P.length = 64) : P.map bv = rowF 64 (padB x P 0) := by
  refine rowF_ext (by simp [h]) fun j hj => ?_
  rw [List.getElem?_map, List.getElem?_eq_getElem (by omega)]
  simp only [Option.map_some, padB]
  rw [if_neg (by omega), List.getD_eq_getElem?_getD, List.getElem?_eq_getElem (by omega)]
  rfl
theorem padB_all (x : UInt8) {P : List UInt8} (h : P.length = 64) : rowF 64 (padB x P 64) = (Hm.xor x P).map bv := by
  refine (rowF_ext (by simp [Hm.xor, h]) fun j hj => ?_).symm
  rw [List.getElem?_map, Hm.xor, List.getElem?_map, List.getElem?_eq_getElem (by omega)]
  simp only [Option.map_some, padB]
  rw [if_pos hj, List.getD_eq_getElem?_getD, List.getElem?_eq_getElem (by omega)]
  rfl
theorem padB_other {x : UInt8} {P : List UInt8} {k j : Nat} (h : j ≠ k) : padB x P k j = padB x P (k + 1) j := by
  unfold padB
  by_cases hj : j < k
  · rw [if_pos hj, if_pos (by omega)]
  · rw [if_neg hj, if_neg (by omega)]

set_option maxRecDepth 20000 in
set_option maxHeartbeats 2000000 in
theorem rpadded_any (v : Value) (xs : List UInt8) (x : UInt8) (w : World) (h : Rd w v (xs.map bv)) (hs : xs.length ≤ 60000) :
    Calls Tryd.prog 49 #[v, .int .u8 (x.toNat : Int)] w fun e w' => ∃ v', e = .returned v' ∧ w'.ownsRow w.heap.size 5 1 v' 64 ((Hm.xor x (Hm.pad xs)).map bv) ∧ Below w.heap.size w w' := by
  obtain ⟨ao, cap, rfl, hcap, _⟩ := h.form
  obtain ⟨L, hL⟩ : ∃ L, L = xs.length := ⟨_, rfl⟩
  rw [← hL] at hs hcap h ⊢
  have HL := Lib.hid hL
  clear hL
  have hbn : Below w.heap.size w (w.alloc (.cells #[] 5)) := (Below.refl _ _).alloc (Nat.le_refl _) _
  have hrn := h.below hbn
  obtain ⟨K, hK⟩ : ∃ K, K = Hm.key xs := ⟨_, rfl⟩
  have hKl : K.length ≤ 64 := by rw [hK]; exact Hm.key_le _
  obtain ⟨M, hM⟩ : ∃ M, M = K.length := ⟨_, rfl⟩
  rw [← hM] at hKl
  obtain ⟨P, hP⟩ : ∃ P, P = Hm.pad xs := ⟨_, rfl⟩
  have hPl : P.length = 64 := by rw [hP, Hm.pad_len]
  have hPK : P = K ++ List.replicate (64 - M) 0 := by rw [hP, hM, hK, Hm.pad]
  rw [← hP]
  have HK := Lib.hid hK
  have HM := Lib.hid hM
  have HPL := Lib.hid hPl
  have HPK := Lib.hid hPK
  clear h hK hM hPl hPK hP
  by_cases h64 : 64 < L
  · go_enter Tryd.func49, Tryd.ntmps49
    go_wp2_with (at_builtin; refine append_u8s rfl (.tmp 8) (.tmp 9) rfl rfl (World.ownsRow_made (base := w.heap.size) w #[] 0 (Nat.le_refl _) (Nat.zero_le _) rfl) (xs.map bv) hrn (bv_cell _) ?ca ?cb ?_)
    case ca => rw [List.length_map, ← HL.out]; omega
    case cb => simp
    intro v4 w4 hown4 hg4
    have hb4 : Below w.heap.size w w4 := hbn.grown hg4 (by simp) (fun k hk => by cases hk; exact Nat.le_refl _)
    rw [← HL.out] at hown4
    obtain ⟨a4, c4, rfl⟩ := own_form hown4
    have HR4 := Lib.hid (Rd.of_own hown4)
    have HB4 := Lib.hid hb4
    clear hg4 hrn hbn hown4 hb4
    obtain ⟨T, hT⟩ : ∃ T, T = (Md5.sum xs).map bv := ⟨_, rfl⟩
    have hTl : T.length = 16 := by rw [hT, List.length_map, Md5.sum_len]
    have hav : av (Md5.sum xs) = .agg T.toArray := by rw [hT]
    have HIT := Lib.hid (info16 hTl)
    have HONET := Lib.hid (show ∀ v ∈ T, v.oneCell' = true by rw [hT]; exact bv_cell _)
    have HTL := Lib.hid hTl
    have HT := Lib.hid hT
    have HAV := Lib.hid hav
    clear hT hTl hav
    go_wp2_with fail
    refine (refSum_any _ xs w4 HR4.out (by rw [← HL.out]; omega)).mono ?_
    rintro e w5 ⟨rfl, hb5⟩
    rw [HAV.out]
    have HB5 := Lib.hid (HB4.out.trans (hb5.mono HB4.out.size))
    clear hb5
    go_wp2_with (refine wpList_store_at rfl 37 _ _ rfl w5.heap.size T rfl rfl 37 _ (heap_alloc_new w5 _) ?cb HIT.out HONET.out ?_)
    case cb => rw [HTL.out]; rfl
    intro w6 hg6 hgr6
    have b6 : Below w5.heap.size w5 w6 := ((Below.refl _ _).alloc (Nat.le_refl _) _).grown hgr6 (by simp) (fun k hk => by cases hk; exact Nat.le_refl _)
    have HB6 := Lib.hid (HB5.out.trans (b6.mono HB5.out.size))
    have hr6 : Rd w6 (.slice (some ⟨w5.heap.size, 0, none⟩) 16 16) ((Md5.sum xs).map bv) := Rd.row (by rw [← HT.out]; exact hg6.out) (by rw [Md5.sum_len]) (by decide)
    obtain ⟨g6, hg6⟩ : ∃ g, g = w5.heap.size := ⟨_, rfl⟩
    rw [← hg6] at hr6 ⊢
    have hbn : Below w6.heap.size w6 (w6.alloc (.cells #[] 5)) := (Below.refl _ _).alloc (Nat.le_refl _) _
    have HRN := Lib.hid (hr6.below hbn)
    clear hg6 hgr6 b6 hr6
    go_wp2_with (at_builtin; refine append_u8s rfl (.tmp 16) (.tmp 17) rfl rfl (World.ownsRow_made (base := w.heap.size) w6 #[] 0 HB6.out.size (Nat.zero_le _) rfl) ((Md5.sum xs).map bv) HRN.out (bv_cell _) ?ca ?cb ?_)
    case ca => rw [List.length_map, Md5.sum_len]; decide
    case cb => have := HB6.out.size; simp; omega
    intro v7 w7 hown7 hg7
    have hb7 : Below w.heap.size w w7 := (HB6.out.alloc HB6.out.size _).grown hg7 (by have := HB6.out.size; simp; omega) (fun k hk => by cases hk; exact HB6.out.size)
    have hkl : K = Md5.sum xs := by rw [HK.out, Hm.key_long (by rw [← HL.out]; exact h64)]
    have hown7 : w7.ownsRow w.heap.size 5 1 v7 M (K.map bv) := by
      rw [HM.out, hkl]
      simpa using hown7
    have HO := Lib.hid hown7
    have HBB := Lib.hid hb7
    clear hg7 hown7 hb7 hkl hbn
    go_wp2
    go_loopw [5] (fun o wr => ∃ z : Nat, M + z ≤ 64 ∧ Hid (wr.ownsRow w.heap.size 5 1 o (M + z) ((K ++ List.replicate z 0).map bv)) ∧ Below w.heap.size w wr) (fun o _ => match o with | .slice _ n _ => 100 - n | _ => 0)
    case atStart => exact ⟨0, by omega, Lib.hid (by simpa using HO.out), HBB.out⟩
    case round =>
      obtain ⟨z, hz, ho, hb⟩ := hrel
      obtain ⟨a8, c8, rfl⟩ := own_form ho.out
      by_cases hlt : M + z < 64
      · have i1 : (M : Int) + (z : Int) < 64 := by omega
        go_wp2_with (at_builtin; refine append_u8s rfl (.tmp 22) (.tmp 23) rfl rfl (ho.out.alloc _) ([(0 : UInt8)].map bv) (Rd.made wr [0] _ _ 1 rfl (by decide)) (bv_cell _) ?ca ?cb ?_)
        case ca => simp; omega
        case cb => have := hb.size; simp; omega
        intro v9 w9 hown9 hg9
        have hb9 : Below w.heap.size w w9 := (hb.alloc hb.size _).grown hg9 (by have := hb.size; simp; omega) (fun k hk => (ho.out.lt k hk).1)
        have ho9 : Hid (w9.ownsRow w.heap.size 5 1 v9 (M + (z + 1)) ((K ++ List.replicate (z + 1) 0).map bv)) := Lib.hid (by
          rw [List.replicate_succ']
          simpa [Nat.add_assoc] using hown9)
        obtain ⟨a9, c9, rfl⟩ := own_form ho9.out
        clear hg9 hown9
        go_wp2
        go_roundw
        case rel => exact ⟨z + 1, by omega, ho9, hb9⟩
        case measure => show 100 - (M + (z + 1)) < 100 - (M + z); omega
      · have hz64 : M + z = 64 := by omega
        have hpk : K ++ List.replicate z 0 = P := by rw [HPK.out, show 64 - M = z by omega]
        have i1 : ¬ ((M : Int) + (z : Int) < 64) := by omega
        obtain ⟨g, cp, rest, e, hgl, hcp1, hcp2, hg, hrl⟩ := own_open ho.out (by omega)
        simp only [Value.slice.injEq] at e
        obtain ⟨rfl, _, rfl⟩ := e
        rw [hpk] at hg hrl
        rw [padB_zero x HPL.out] at hg hrl
        obtain ⟨N, hN⟩ : ∃ N, N = M + z := ⟨_, rfl⟩
        have iN : (M : Int) + (z : Int) = (N : Int) := by omega
        have hN64 : N = 64 := by omega
        rw [← hN] at hcp1 ⊢
        have HG := Lib.hid hg
        have HBX := Lib.hid hb
        have HN := Lib.hid hN
        have HPKK := Lib.hid hpk
        clear hz64 hpk hg ho hb hz i1 iN hN
        subst hN64
        go_wp2
        go_loopw [7] (fun i wr2 => ∃ k : Nat, k ≤ 64 ∧ i = .int .i64 k ∧ wr2.heap[g]? = some (.cells (rowF 64 (padB x P k) ++ rest).toArray 5 (0, 0)) ∧ Below w.heap.size w wr2) (fun i _ => 64 - (intOf i).toNat)
        case atStart => exact ⟨0, by omega, rfl, HG.out, HBX.out⟩
        case round =>
          obtain ⟨k, hk, rfl, hg, hb⟩ := hrel
          by_cases hlt2 : k < 64
          · obtain ⟨c, hc⟩ : ∃ c, c = P.getD k 0 := ⟨_, rfl⟩
            have hv : padB x P k k = c := by unfold padB; rw [if_neg (by omega), hc]
            have e1 : wr.cell? ⟨g, k, none⟩ = some (.int .u8 (c.toNat : Int)) := by
              rw [← hv]
              exact (cell_of_row _ _ _ _ _ _ hg).trans (rowF_at_rest hlt2)
            have f1 : wr.frozen? ⟨g, k, none⟩ = false := frozen_of_row _ _ _ _ _ hg
            have hxo := xor_bv c x
            have HGG := Lib.hid hg
            have HBB2 := Lib.hid hb
            have HC := Lib.hid hc
            clear hg hb hc hv
            go_wp2
            go_roundw
            case rel =>
              refine ⟨k + 1, by omega, by go_num, ?_, HBB2.out.setCell hgl _⟩
              refine (setCell_row HGG.out).trans ?_
              rw [rowF_set_rest (g := padB x P (k + 1)) hlt2 (fun j hj => padB_other hj)]
              unfold padB
              rw [if_pos (Nat.lt_succ_self _), ← HC.out]
              rfl
            case measure => simp [intOf]; omega
          · obtain rfl : k = 64 := by omega
            rw [padB_all x HPL.out] at hg
            have ho := own_shut (n := 64) hgl hcp1 hcp2 hg (by rw [← padB_all x HPL.out, ← hrl, List.length_append, List.length_append, rowF_len, rowF_len]) (by rw [List.length_map, Hm.xor_len, HPL.out])
            have HO2 := Lib.hid ho
            clear hg ho
            go_wp2
            go_ret
            exact ⟨_, rfl, HO2.out, hb⟩
  · go_enter Tryd.func49, Tryd.ntmps49
    go_wp2_with (at_builtin; refine append_u8s rfl (.tmp 8) (.tmp 9) rfl rfl (World.ownsRow_made (base := w.heap.size) w #[] 0 (Nat.le_refl _) (Nat.zero_le _) rfl) (xs.map bv) hrn (bv_cell _) ?ca ?cb ?_)
    case ca => rw [List.length_map, ← HL.out]; omega
    case cb => simp
    intro v4 w4 hown4 hg4
    have hb4 : Below w.heap.size w w4 := hbn.grown hg4 (by simp) (fun k hk => by cases hk; exact Nat.le_refl _)
    have hkl : K = xs := by rw [HK.out, Hm.key_short (by rw [← HL.out]; omega)]
    have hLM : L = M := by rw [HM.out, hkl, HL.out]
    rw [← HL.out] at hown4
    obtain ⟨a4, c4, rfl⟩ := own_form hown4
    have hown4 : w4.ownsRow w.heap.size 5 1 (.slice a4 L c4) M (K.map bv) := by
      rw [← hLM, hkl]
      simpa using hown4
    have HO := Lib.hid hown4
    have HBB := Lib.hid hb4
    clear hg4 hrn hbn hown4 hb4 hkl hLM
    go_wp2
    go_loopw [5] (fun o wr => ∃ z : Nat, M + z ≤ 64 ∧ Hid (wr.ownsRow w.heap.size 5 1 o (M + z) ((K ++ List.replicate z 0).map bv)) ∧ Below w.heap.size w wr) (fun o _ => match o with | .slice _ n _ => 100 - n | _ => 0)
    case atStart => exact ⟨0, by omega, Lib.hid (by simpa using HO.out), HBB.out⟩
    case round =>
      obtain ⟨z, hz, ho, hb⟩ := hrel
      obtain ⟨a8, c8, rfl⟩ := own_form ho.out
      by_cases hlt : M + z < 64
      · have i1 : (M : Int) + (z : Int) < 64 := by omega
        go_wp2_with (at_builtin; refine append_u8s rfl (.tmp 22) (.tmp 23) rfl rfl (ho.out.alloc _) ([(0 : UInt8)].map bv) (Rd.made wr [0] _ _ 1 rfl (by decide)) (bv_cell _) ?ca ?cb ?_)
        case ca => simp; omega
        case cb => have := hb.size; simp; omega
        intro v9 w9 hown9 hg9
        have hb9 : Below w.heap.size w w9 := (hb.alloc hb.size _).grown hg9 (by have := hb.size; simp; omega) (fun k hk => (ho.out.lt k hk).1)
        have ho9 : Hid (w9.ownsRow w.heap.size 5 1 v9 (M + (z + 1)) ((K ++ List.replicate (z + 1) 0).map bv)) := Lib.hid (by
          rw [List.replicate_succ']
          simpa [Nat.add_assoc] using hown9)
        obtain ⟨a9, c9, rfl⟩ := own_form ho9.out
        clear hg9 hown9
        go_wp2
        go_roundw
        case rel => exact ⟨z + 1, by omega, ho9, hb9⟩
        case measure => show 100 - (M + (z + 1)) < 100 - (M + z); omega
      · have hz64 : M + z = 64 := by omega
        have hpk : K ++ List.replicate z 0 = P := by rw [HPK.out, show 64 - M = z by omega]
        have i1 : ¬ ((M : Int) + (z : Int) < 64) := by omega
        obtain ⟨g, cp, rest, e, hgl, hcp1, hcp2, hg, hrl⟩ := own_open ho.out (by omega)
        simp only [Value.slice.injEq] at e
        obtain ⟨rfl, _, rfl⟩ := e
        rw [hpk] at hg hrl
        rw [padB_zero x HPL.out] at hg hrl
        obtain ⟨N, hN⟩ : ∃ N, N = M + z := ⟨_, rfl⟩
        have iN : (M : Int) + (z : Int) = (N : Int) := by omega
        have hN64 : N = 64 := by omega
        rw [← hN] at hcp1 ⊢
        have HG := Lib.hid hg
        have HBX := Lib.hid hb
        have HN := Lib.hid hN
        have HPKK := Lib.hid hpk
        clear hz64 hpk hg ho hb hz i1 iN hN
        subst hN64
        go_wp2
        go_loopw [7] (fun i wr2 => ∃ k : Nat, k ≤ 64 ∧ i = .int .i64 k ∧ wr2.heap[g]? = some (.cells (rowF 64 (padB x P k) ++ rest).toArray 5 (0, 0)) ∧ Below w.heap.size w wr2) (fun i _ => 64 - (intOf i).toNat)
        case atStart => exact ⟨0, by omega, rfl, HG.out, HBX.out⟩
        case round =>
          obtain ⟨k, hk, rfl, hg, hb⟩ := hrel
          by_cases hlt2 : k < 64
          · obtain ⟨c, hc⟩ : ∃ c, c = P.getD k 0 := ⟨_, rfl⟩
            have hv : padB x P k k = c := by unfold padB; rw [if_neg (by omega), hc]
            have e1 : wr.cell? ⟨g, k, none⟩ = some (.int .u8 (c.toNat : Int)) := by
              rw [← hv]
              exact (cell_of_row _ _ _ _ _ _ hg).trans (rowF_at_rest hlt2)
            have f1 : wr.frozen? ⟨g, k, none⟩ = false := frozen_of_row _ _ _ _ _ hg
            have hxo := xor_bv c x
            have HGG := Lib.hid hg
            have HBB2 := Lib.hid hb
            have HC := Lib.hid hc
            clear hg hb hc hv
            go_wp2
            go_roundw
            case rel =>
              refine ⟨k + 1, by omega, by go_num, ?_, HBB2.out.setCell hgl _⟩
              refine (setCell_row HGG.out).trans ?_
              rw [rowF_set_rest (g := padB x P (k + 1)) hlt2 (fun j hj => padB_other hj)]
              unfold padB
              rw [if_pos (Nat.lt_succ_self _), ← HC.out]
              rfl
            case measure => simp [intOf]; omega
          · obtain rfl : k = 64 := by omega
            rw [padB_all x HPL.out] at hg
            have ho := own_shut (n := 64) hgl hcp1 hcp2 hg (by rw [← padB_all x HPL.out, ← hrl, List.length_append, List.length_append, rowF_len, rowF_len]) (by rw [List.length_map, Hm.xor_len, HPL.out])
            have HO2 := Lib.hid ho
            clear hg ho
            go_wp2
            go_ret
            exact ⟨_, rfl, HO2.out, hb⟩
end Go.Proofs.YtjogdflhpciciaaDoor
