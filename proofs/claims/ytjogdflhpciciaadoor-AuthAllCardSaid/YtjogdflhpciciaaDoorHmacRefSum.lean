/- The reference of layer 4: Sum and Hex walked. -/
import Derived.Test.YtjogdflhpciciaaDoorHmacRef
import Derived.Test.YtjogdflhpciciaaDoorStep
import Derived.Test.YtjogdflhpciciaaDoorDigestRefHx
namespace Go.Proofs.YtjogdflhpciciaaDoor
open Go.RowKit

/-- What stands in the reference's Sum. -/
structure HS (w : World) (B g : Nat) (Z : Array Value) (T : List Value) (vk : Value) (xk : List UInt8) (wr : World) : Prop where
  z : wr.heap[B]? = some (.cells Z 37)
  h : wr.heap[g]? = some (.cells T.toArray 37)
  r : Rd wr vk (xk.map bv)
  below : Below w.heap.size w wr
section
variable {w : World} {B g : Nat} {Z : Array Value} {T : List Value} {vk : Value} {xk : List UInt8} {wr w' : World}
theorem HS.next (h : HS w B g Z T vk xk wr) (hb : Below wr.heap.size wr w') : HS w B g Z T vk xk w' :=
  ⟨(hb.block _ (Array.getElem?_eq_some_iff.1 h.z).1).trans h.z, (hb.block _ (Array.getElem?_eq_some_iff.1 h.h).1).trans h.h, h.r.below hb, h.below.trans (hb.mono h.below.size)⟩
theorem HS.inner (h : HS w B g Z T vk xk wr) {I : List UInt8} (hT : T = I.map bv) (hI : I.length = 16) : Rd wr (.slice (some ⟨g, 0, none⟩) 16 16) (I.map bv) :=
  Rd.row (by rw [← hT]; exact h.h) hI.symm (by decide)
theorem HS.there (h : HS w B g Z T vk xk wr) (hZ : 16 ≤ Z.size) : wr.there B 0 16 := there_of_row h.z hZ
theorem HS.pad (h : HS w B g Z T vk xk wr) (hl : xk.length ≤ 60000) {X : List UInt8} (hX : X = Hm.xor 92 (Hm.pad xk)) : Calls Tryd.prog 49 #[vk, .int .u8 92] wr fun e w' => ∃ v', e = .returned v' ∧ w'.ownsRow wr.heap.size 5 1 v' 64 (X.map bv) ∧ Below wr.heap.size wr w' := by
  subst hX
  exact rpadded_any vk xk 92 wr h.r hl
theorem HS.sum (h : HS w B g Z T vk xk wr) {v : Value} {l : List UInt8} {S : List Value} (hv : Rd wr v (l.map bv)) (hl : l.length ≤ 65536) (hS : S = (Md5.sum l).map bv) : Calls Tryd.prog 29 #[v] wr fun e w' => e = .returned (.agg S.toArray) ∧ HS w B g Z T vk xk w' := by
  subst hS
  refine (refSum_any v l wr hv hl).mono ?_
  rintro e w' ⟨rfl, hb⟩
  exact ⟨rfl, h.next hb⟩
end

set_option maxRecDepth 20000 in
set_option maxHeartbeats 1000000 in
theorem rsum4_any (vk : Value) (xk : List UInt8) (vb : Value) (xb : List UInt8) (w : World) (hk : Rd w vk (xk.map bv)) (hb : Rd w vb (xb.map bv)) (lk : xk.length ≤ 60000) (lb : xb.length ≤ 60000) :
    Calls Tryd.prog 36 #[vk, vb] w fun e w' => e = .returned (av (Hm.sum xk xb)) ∧ Below w.heap.size w w' := by
  have HK := Lib.hid hk
  have HB := Lib.hid hb
  clear hk hb
  obtain ⟨K, hK⟩ : ∃ K, K = Hm.xor 54 (Hm.pad xk) := ⟨_, rfl⟩
  have hKl : K.length = 64 := by rw [hK, Hm.xor_len, Hm.pad_len]
  obtain ⟨X, hX⟩ : ∃ X, X = Hm.xor 92 (Hm.pad xk) := ⟨_, rfl⟩
  have hXl : X.length = 64 := by rw [hX, Hm.xor_len, Hm.pad_len]
  obtain ⟨I, hI⟩ : ∃ I, I = Hm.inner xk xb := ⟨_, rfl⟩
  have hI2 : Md5.sum (K ++ xb) = I := by rw [hI, hK]; rfl
  have hIl : I.length = 16 := by rw [hI, Hm.inner_len]
  obtain ⟨T, hT⟩ : ∃ T, T = I.map bv := ⟨_, rfl⟩
  have hTl : T.length = 16 := by rw [hT, List.length_map, hIl]
  have htv : av I = .agg T.toArray := by rw [hT]
  have HTV := Lib.hid htv
  have HIT := Lib.hid (info16 hTl)
  have HONET := Lib.hid (show ∀ v ∈ T, v.oneCell' = true by rw [hT]; exact bv_cell _)
  have HTL := Lib.hid hTl
  have HT := Lib.hid hT
  have HI2 := Lib.hid hI2
  have HILN := Lib.hid hIl
  obtain ⟨S, hS⟩ : ∃ S, S = (Md5.sum (X ++ I)).map bv := ⟨_, rfl⟩
  have hS2 : Md5.sum (X ++ I) = Hm.sum xk xb := by rw [hI, hX]; rfl
  have hSl : S.length = 16 := by rw [hS, List.length_map, Md5.sum_len]
  have hsv : av (Hm.sum xk xb) = .agg S.toArray := by rw [hS, hS2]
  have HSV := Lib.hid hsv
  have HSL := Lib.hid hSl
  have HS1 := Lib.hid hS
  have HKL := Lib.hid hKl
  have HKK := Lib.hid hK
  have HXL := Lib.hid hXl
  have HXX := Lib.hid hX
  have HONES := Lib.hid (show ∀ v ∈ S, v.oneCell' = true by rw [hS]; exact bv_cell _)
  clear hK hKl hI hI2 hIl hT hTl htv hS hS2 hSl hsv hX hXl
  go_enter Tryd.func36, Tryd.ntmps36
  go_wp2_with fail
  show Calls _ _ _ (w.alloc (.cells #[.int .u8 0, .int .u8 0, .int .u8 0, .int .u8 0, .int .u8 0, .int .u8 0, .int .u8 0, .int .u8 0, .int .u8 0, .int .u8 0, .int .u8 0, .int .u8 0, .int .u8 0, .int .u8 0, .int .u8 0, .int .u8 0] 37)) _
  have hA := heap_alloc_new w (.cells #[.int .u8 0, .int .u8 0, .int .u8 0, .int .u8 0, .int .u8 0, .int .u8 0, .int .u8 0, .int .u8 0, .int .u8 0, .int .u8 0, .int .u8 0, .int .u8 0, .int .u8 0, .int .u8 0, .int .u8 0, .int .u8 0] 37)
  have hBa : Below w.heap.size w (w.alloc (.cells #[.int .u8 0, .int .u8 0, .int .u8 0, .int .u8 0, .int .u8 0, .int .u8 0, .int .u8 0, .int .u8 0, .int .u8 0, .int .u8 0, .int .u8 0, .int .u8 0, .int .u8 0, .int .u8 0, .int .u8 0, .int .u8 0] 37)) := (Below.refl _ _).alloc (Nat.le_refl _) _
  have hsz : (w.alloc (.cells #[.int .u8 0, .int .u8 0, .int .u8 0, .int .u8 0, .int .u8 0, .int .u8 0, .int .u8 0, .int .u8 0, .int .u8 0, .int .u8 0, .int .u8 0, .int .u8 0, .int .u8 0, .int .u8 0, .int .u8 0, .int .u8 0] 37)).heap.size = w.heap.size + 1 := by simp
  obtain ⟨ZA, hZA⟩ : ∃ ZA : Array Value, ZA = #[.int .u8 0, .int .u8 0, .int .u8 0, .int .u8 0, .int .u8 0, .int .u8 0, .int .u8 0, .int .u8 0, .int .u8 0, .int .u8 0, .int .u8 0, .int .u8 0, .int .u8 0, .int .u8 0, .int .u8 0, .int .u8 0] := ⟨_, rfl⟩
  have HZA := Lib.hid hZA
  generalize w.alloc (.cells #[.int .u8 0, .int .u8 0, .int .u8 0, .int .u8 0, .int .u8 0, .int .u8 0, .int .u8 0, .int .u8 0, .int .u8 0, .int .u8 0, .int .u8 0, .int .u8 0, .int .u8 0, .int .u8 0, .int .u8 0, .int .u8 0] 37) = wa at hA hBa hsz ⊢
  rw [← hZA] at hA
  have hc := rpadded_any vk xk 54 wa (HK.out.below hBa) lk
  rw [← HKK.out] at hc
  refine Calls.mono (show Calls Tryd.prog 49 #[vk, .int .u8 54] wa _ from hc) ?_
  clear hc hZA
  rintro e w1 ⟨v1, rfl, ho1, hb1⟩
  have hlA : w.heap.size < wa.heap.size := by omega
  have HA1 := Lib.hid ((hb1.block _ hlA).trans hA)
  have HB1 := Lib.hid (hBa.trans (hb1.mono hBa.size))
  have HO1 := Lib.hid ho1
  have HR1 := Lib.hid (HB.out.below (hBa.trans (hb1.mono hBa.size)))
  have HS1' := Lib.hid hb1.size
  clear hA hBa hb1 ho1
  go_wp2_with (at_builtin; refine append_u8s rfl (.tmp 7) (.tmp 8) rfl rfl HO1.out (xb.map bv) HR1.out (bv_cell _) ?ca ?cb ?_)
  case ca => rw [List.length_map]; omega
  case cb => exact HS1'.out
  intro v2 w2 ho2 hg2
  have b2 : Below wa.heap.size w1 w2 := (Below.refl _ _).grown hg2 HS1'.out (fun k hk => (HO1.out.lt k hk).1)
  have HA2 := Lib.hid ((b2.block _ hlA).trans HA1.out)
  have HB2 := Lib.hid (HB1.out.trans (b2.mono (by omega)))
  have hr2 : Rd w2 v2 ((K ++ xb).map bv) := by
    rw [List.map_append]
    exact Rd.of_own ho2
  have HR2 := Lib.hid hr2
  clear hg2 ho2 b2 hr2 hlA hsz
  go_wp2_with fail
  have hc := refSum_any v2 (K ++ xb) w2 HR2.out (by rw [List.length_append, HKL.out]; omega)
  rw [HI2.out, HTV.out] at hc
  refine hc.mono ?_
  clear hc
  rintro e w3 ⟨rfl, hb3⟩
  have hlA : w.heap.size < w2.heap.size := (Array.getElem?_eq_some_iff.1 HA2.out).1
  have HA3 := Lib.hid ((hb3.block _ hlA).trans HA2.out)
  have HB3 := Lib.hid (HB2.out.trans (hb3.mono HB2.out.size))
  clear hb3 hlA
  go_wp2_with (refine wpList_store_at rfl 37 _ _ rfl w3.heap.size T rfl rfl 37 _ (heap_alloc_new w3 _) ?cc HIT.out HONET.out ?_)
  case cc => rw [HTL.out]; rfl
  intro w4 hg4 hgr4
  have b4 : Below w3.heap.size w3 w4 := ((Below.refl _ _).alloc (Nat.le_refl _) _).grown hgr4 (by simp) (fun k hk => by cases hk; exact Nat.le_refl _)
  have hlA : w.heap.size < w3.heap.size := (Array.getElem?_eq_some_iff.1 HA3.out).1
  have hB4 := HB3.out.trans (b4.mono HB3.out.size)
  have hS4 : HS w w.heap.size w3.heap.size ZA T vk xk w4 := ⟨(b4.block _ hlA).trans HA3.out, hg4.out, HK.out.below hB4, hB4⟩
  obtain ⟨g5, hg5⟩ : ∃ g, g = w3.heap.size := ⟨_, rfl⟩
  rw [← hg5] at hS4 ⊢
  have S0 : HS w w.heap.size g5 ZA T vk xk w4.drew := hS4.next ((Below.refl _ _).drew)
  have C1 : Hid (∀ wr, HS w w.heap.size g5 ZA T vk xk wr → Calls Tryd.prog 49 #[vk, .int .u8 92] wr fun e w' => ∃ v', e = .returned v' ∧ w'.ownsRow wr.heap.size 5 1 v' 64 (X.map bv) ∧ Below wr.heap.size wr w') := fun wr h => h.pad lk HXX.out
  have C2 : Hid (∀ wr v, Rd wr v ((X ++ I).map bv) → HS w w.heap.size g5 ZA T vk xk wr → Calls Tryd.prog 29 #[v] wr fun e w' => e = .returned (.agg S.toArray) ∧ HS w w.heap.size g5 ZA T vk xk w') := fun wr v hv h => h.sum hv (by rw [List.length_append, HXL.out, HILN.out]; decide) HS1.out
  have HZS := Lib.hid (show 16 ≤ ZA.size by rw [HZA.out]; decide)
  have HPOS := Lib.hid (show 0 < I.length by rw [HILN.out]; decide)
  have HLEN := Lib.hid (show 64 + I.length ≤ 16777216 by rw [HILN.out]; decide)
  have t0 := S0.there HZS.out
  have hu16 := Tryd.underlying37
  have hi16 := info16 HSL.out
  have hl16 := HSL.out
  have h116 := HONES.out
  clear hg4 hgr4 b4 hlA hB4 hg5
  go_wp2
  go_region_held3 (fun w' => w'.there w.heap.size 0 16) (first | assumption | go_keep_ranges)
    (first | (go_at_call 49; refine (C1.out _ (by assumption)).mono ?_; rintro e w5 ⟨v5, rfl, ho5, hb5⟩; have S5 := S0.next hb5; have t5 := S5.there HZS.out; have r5 := S5.inner HT.out HILN.out) | (refine step_append_rd (by simp [Region.wanted]) (.tmp 12) (.tmp 13) (by rfl) _ 64 _ (X.map bv) (by rfl) ho5 _ I (by rfl) r5 HPOS.out HLEN.out hb5.size ?_; intro v6 w6 ho6 hb6; have S6 := S0.next (hb5.trans hb6); have t6 := S6.there HZS.out; have r6 := Rd.of_own ho6; rw [← List.map_append] at r6) | (go_at_call 29; refine (C2.out _ _ (by assumption) (by assumption)).mono ?_; rintro e w7 ⟨rfl, S7⟩; have t7 := S7.there HZS.out))
  have h9 := setCells_all (vs := S) S7.z (by rw [HZA.out, HSL.out]; rfl)
  have b9 := below_setCells (Nat.le_refl _) S 0 w7 S7.below
  generalize w7.setCells w.heap.size 0 S = w9 at h9 b9 ⊢
  have HI9 := Lib.hid (info16a HSL.out)
  clear t0 t5 t6 t7 S0 S5 S6 S7 r5 r6 ho5 ho6 hb5 hb6 hS4 hi16 hl16 h116
  go_wp2
  exact bodyPost_ret (v := .agg S.toArray) (results_cell_row Tryd.results36 _ _ w.heap.size 37 _ (0, 0) _ rfl h9 Tryd.underlying37 rfl HI9.out) rfl ⟨by rw [HSV.out], b9⟩

theorem rhex4_any (vk : Value) (xk : List UInt8) (vb : Value) (xb : List UInt8) (w : World) (hk : Rd w vk (xk.map bv)) (hb : Rd w vb (xb.map bv)) (lk : xk.length ≤ 60000) (lb : xb.length ≤ 60000) :
    Calls Tryd.prog 25 #[vk, vb] w fun e w' => e = .returned (sv (Md5.hex (Hm.sum xk xb))) ∧ Below w.heap.size w w' := by
  have HK := Lib.hid hk
  have HB := Lib.hid hb
  clear hk hb
  obtain ⟨I, hI⟩ : ∃ I, I = Hm.sum xk xb := ⟨_, rfl⟩
  have hIl : I.length = 16 := by rw [hI, Hm.sum_len]
  obtain ⟨T, hT⟩ : ∃ T, T = I.map bv := ⟨_, rfl⟩
  have hTl : T.length = 16 := by rw [hT, List.length_map, hIl]
  have htv : av (Hm.sum xk xb) = .agg T.toArray := by rw [hT, hI]
  have HTV := Lib.hid htv
  have HIT := Lib.hid (info16 hTl)
  have HONET := Lib.hid (show ∀ v ∈ T, v.oneCell' = true by rw [hT]; exact bv_cell _)
  have HTL := Lib.hid hTl
  have HT := Lib.hid hT
  have HI := Lib.hid hI
  have HILN := Lib.hid hIl
  clear hI hIl hT hTl htv
  go_enter Tryd.func25, Tryd.ntmps25
  go_wp2_with fail
  refine (rsum4_any vk xk vb xb w HK.out HB.out lk lb).mono ?_
  rintro e w1 ⟨rfl, hb1⟩
  rw [HTV.out]
  go_wp2_with (refine wpList_store_at rfl 37 _ _ rfl w1.heap.size T rfl rfl 37 _ (heap_alloc_new w1 _) ?cb HIT.out HONET.out ?_)
  case cb => rw [HTL.out]; rfl
  intro w4 hg4 hgr4
  have b4 : Below w1.heap.size w1 w4 := ((Below.refl _ _).alloc (Nat.le_refl _) _).grown hgr4 (by simp) (fun k hk => by cases hk; exact Nat.le_refl _)
  have HB4 := Lib.hid (hb1.trans (b4.mono hb1.size))
  have hr4 : Rd w4 (.slice (some ⟨w1.heap.size, 0, none⟩) 16 16) (I.map bv) := Rd.row (by rw [← HT.out]; exact hg4.out) (by rw [HILN.out]) (by decide)
  obtain ⟨g7, hg7⟩ : ∃ g, g = w1.heap.size := ⟨_, rfl⟩
  rw [← hg7] at hr4 ⊢
  have HR4 := Lib.hid hr4
  clear hg4 hgr4 b4 hr4 hg7 hb1
  go_wp2_with fail
  refine (refHex_any _ I w4 HR4.out (by rw [HILN.out]; decide)).mono ?_
  rintro e w5 ⟨rfl, hb5⟩
  have c5 := HB4.out.trans (hb5.mono HB4.out.size)
  clear hb5
  go_wp2
  go_ret
  exact ⟨congrArg (fun x => Ending.returned (sv (Md5.hex x))) HI.out, c5⟩
end Go.Proofs.YtjogdflhpciciaaDoor
