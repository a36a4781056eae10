/- The law DigestApart walked. -/
import Derived.Test.YtnbgafcfildhaaaDoorLawAllD
import Derived.Deep.RegionHeld3
namespace Go.Proofs.YtnbgafcfildhaaaDoor
open Go.RowKit

/-- A row that the call owns, one of its bytes turned. -/
theorem own_set {w : World} {B n i : Nat} {b o cap : Nat} {xs : List UInt8} {c : UInt8} (h : w.ownsRow B 5 1 (.slice (some ⟨b, o, none⟩) n cap) n (xs.map bv)) :
    (w.setCell ⟨b, i, none⟩ (bv c)).ownsRow B 5 1 (.slice (some ⟨b, o, none⟩) n cap) n ((xs.set i c).map bv) := by
  obtain ⟨h1, h2⟩ := h
  rcases h2 with ⟨e, _⟩ | ⟨g, cp, cur, e, hB, hg, hn, hm, hsz, htk⟩
  · cases e
  · simp only [Value.slice.injEq, Option.some.injEq, Addr.mk.injEq, and_true] at e
    obtain ⟨⟨rfl, rfl⟩, _, rfl⟩ := e
    refine ⟨by simpa using h1, .inr ⟨b, cap, cur.setIfInBounds i (bv c), rfl, hB, setCell_row hg, hn, hm, by simpa using hsz, ?_⟩⟩
    rw [Array.toList_setIfInBounds, List.map_set, ← htk, List.take_set]

/-- What stands in DigestApart. -/
structure AP (w : World) (B : Nat) (R : List Value) (v0 v1 : Value) (x0 x1 : List UInt8) (wr : World) : Prop where
  h : wr.heap[B]? = some (.cells R.toArray 27)
  r0 : Rd wr v0 (x0.map bv)
  r1 : Rd wr v1 (x1.map bv)
  tb : TBL wr
  below : Below w.heap.size w wr
section
variable {w : World} {B : Nat} {R : List Value} {v0 v1 : Value} {x0 x1 : List UInt8} {wr w' : World}
theorem AP.next (h : AP w B R v0 v1 x0 x1 wr) (hb : Below wr.heap.size wr w') : AP w B R v0 v1 x0 x1 w' :=
  ⟨(hb.block _ (Array.getElem?_eq_some_iff.1 h.h).1).trans h.h, h.r0.below hb, h.r1.below hb, h.tb.below hb, h.below.trans (hb.mono h.below.size)⟩
theorem AP.range (h : AP w B R v0 v1 x0 x1 wr) : wr.rangeAt B 0 R := fun j v hj => by
  rw [Nat.zero_add, cell_of_row _ _ _ _ _ _ h.h]
  simpa using hj
theorem AP.sum1 {T : List Value} (h : AP w B R v0 v1 x0 x1 wr) (hl : x1.length ≤ 65536) (hT : T = (Md5.sum x1).map bv) : Calls Tryd.prog 12 #[v1] wr fun e w' => e = .returned (.agg T.toArray) ∧ AP w B R v0 v1 x0 x1 w' := by
  subst hT
  refine (sum_any v1 x1 wr h.r1 (by omega) h.tb).mono ?_
  rintro e w' ⟨rfl, hb⟩
  exact ⟨rfl, h.next hb⟩
theorem AP.ref1 {T : List Value} (h : AP w B R v0 v1 x0 x1 wr) (hl : x1.length ≤ 65536) (hT : T = (Md5.sum x1).map bv) : Calls Tryd.prog 13 #[v1] wr fun e w' => e = .returned (.agg T.toArray) ∧ AP w B R v0 v1 x0 x1 w' := by
  subst hT
  refine (refSum_any v1 x1 wr h.r1 hl).mono ?_
  rintro e w' ⟨rfl, hb⟩
  exact ⟨rfl, h.next hb⟩
theorem AP.ref0 {T : List Value} (h : AP w B R v0 v1 x0 x1 wr) (hl : x0.length ≤ 65536) (hT : T = (Md5.sum x0).map bv) : Calls Tryd.prog 13 #[v0] wr fun e w' => e = .returned (.agg T.toArray) ∧ AP w B R v0 v1 x0 x1 w' := by
  subst hT
  refine (refSum_any v0 x0 wr h.r0 hl).mono ?_
  rintro e w' ⟨rfl, hb⟩
  exact ⟨rfl, h.next hb⟩
end

set_option maxRecDepth 20000 in
set_option maxHeartbeats 2000000 in
theorem lawApartD (v0 : Value) (x0 : List UInt8) (a c : Int) (h0 : x0.length ≤ maxLen) (ha : (Lit.int .u16 a).wf = true) (hc : (Lit.int .u8 c).wf = true) (w : World) (r0 : Rd w v0 (x0.map bv)) (ht : TBL w) :
    Calls Tryd.prog 6 #[v0, .int .u16 a, .int .u8 c] w fun e w' => e = .returned (.bool true) ∧ Below w.heap.size w w' := by
  have ba := bounds_u16 ha
  have bc := bounds_u8 hc
  obtain ⟨c8, rfl⟩ : ∃ c8 : UInt8, c = (c8.toNat : Int) := ⟨UInt8.ofNat c.toNat, by rw [UInt8.toNat_ofNat']; omega⟩
  have HTB := Lib.hid ht
  clear ha hc ht
  go_enter Tryd.func6, Tryd.ntmps6
  go_wp2_with fail
  refine (shown_any _ HTB.out).mono ?_
  rintro e w1 ⟨rfl, hb1⟩
  have s0 := r0.below hb1
  clear r0
  go_wp2_with fail
  refine (short_any v0 x0 _ s0 h0).mono ?_
  rintro e w1' ⟨va, rfl, ra, rfl⟩
  clear s0
  have la : (x0.take 600).length ≤ 600 := List.length_take_le _ _
  generalize x0.take 600 = xa at ra la
  have RA := Lib.hid ra
  have HB1 := Lib.hid hb1
  clear ra hb1
  obtain ⟨R, hR⟩ : ∃ R, R = (Md5.sum xa).map bv := ⟨_, rfl⟩
  have hRl : R.length = 16 := by rw [hR, List.length_map, Md5.sum_len]
  have hav : av (Md5.sum xa) = .agg R.toArray := by rw [hR]
  have HAV := Lib.hid hav
  have HR := Lib.hid hR
  have HIL := Lib.hid (info16 hRl)
  have HI := Lib.hid (info16a hRl)
  have HONE := Lib.hid (show ∀ v ∈ R, v.oneCell' = true by rw [hR]; exact bv_cell _)
  have HRL := Lib.hid hRl
  clear hRl hR hav
  go_wp2_with fail
  refine (sum_any _ xa _ RA.out (by omega) (HTB.out.below HB1.out)).mono ?_
  rintro e w2 ⟨rfl, hb2⟩
  rw [HAV.out]
  have c2 : Below w.heap.size w w2 := HB1.out.trans (hb2.mono HB1.out.size)
  have ra2 := RA.out.below hb2
  clear hb2
  go_wp2_with (refine wpList_store_at rfl 27 _ _ rfl w2.heap.size R rfl rfl 27 _ (heap_alloc_new w2 _) ?cb HIL.out HONE.out ?_)
  case cb => rw [HRL.out]; rfl
  intro w3 hg3 hgr3
  have b3 : Below w2.heap.size w2 w3 := ((Below.refl _ _).alloc (Nat.le_refl _) _).grown hgr3 (by simp) (fun k hk => by cases hk; exact Nat.le_refl _)
  have c3 : Below w.heap.size w w3 := c2.trans (b3.mono c2.size)
  have ra3 := ra2.below b3
  obtain ⟨g8, hg8⟩ : ∃ g, g = w2.heap.size := ⟨_, rfl⟩
  rw [← hg8] at hg3 ⊢
  have l8 : g8 < w3.heap.size := (Array.getElem?_eq_some_iff.1 hg3.out).1
  clear hgr3 c2 ra2 b3 hg8
  have hbn : Below w3.heap.size w3 (w3.alloc (.cells #[] 5)) := (Below.refl _ _).alloc (Nat.le_refl _) _
  have ran := ra3.below hbn
  go_wp2_with (at_builtin; refine append_u8s rfl (.tmp 18) (.tmp 19) rfl rfl (World.ownsRow_made (base := w3.heap.size) w3 #[] 0 (Nat.le_refl _) (Nat.zero_le _) rfl) (xa.map bv) ran (bv_cell _) ?ca ?cb ?_)
  case ca => rw [List.length_map]; omega
  case cb => simp
  intro v4 w4 hown4 hg4
  have b4 : Below w3.heap.size w3 w4 := hbn.grown hg4 (by simp) (fun k hk => by cases hk; exact Nat.le_refl _)
  obtain ⟨L, hL⟩ : ∃ L, L = xa.length := ⟨_, rfl⟩
  have hown4 : w4.ownsRow w3.heap.size 5 1 v4 L (xa.map bv) := by rw [hL]; simpa using hown4
  have HL := Lib.hid hL
  rw [← hL] at la
  clear hg4 hbn ran hL
  have hrd1 := Rd.made w4 [c8] 5 (0, 0) 1 rfl (by decide)
  have hrd1 : Rd (w4.alloc (.cells #[.int .u8 (c8.toNat : Int)] 5)) (.slice (some ⟨w4.heap.size, 0, none⟩) 1 1) ([c8].map bv) := hrd1
  have HRD1 := Lib.hid hrd1
  have b4s := b4.size
  clear hrd1
  go_wp2_with (at_builtin; refine append_u8s rfl (.tmp 20) (.tmp 22) rfl rfl (hown4.alloc _) ([c8].map bv) HRD1.out (bv_cell _) ?ca ?cb ?_)
  case ca => simp; omega
  case cb => simp; omega
  intro v5 w5 hown5 hg5
  have b5 : Below w3.heap.size w3 w5 := (b4.alloc b4.size _).grown hg5 (by simp; omega) (fun k hk => (hown4.lt k hk).1)
  have hown5 : w5.ownsRow w3.heap.size 5 1 v5 (L + 1) ((xa ++ [c8]).map bv) := by simpa using hown5
  have c5 : Below w.heap.size w w5 := c3.trans (b5.mono c3.size)
  have hAP : AP w g8 R va v5 xa (xa ++ [c8]) w5 := ⟨(b5.block _ l8).trans hg3.out, ra3.below b5, Rd.of_own hown5, HTB.out.below c5, c5⟩
  have A0 : AP w g8 R va v5 xa (xa ++ [c8]) w5.drew := hAP.next ((Below.refl _ _).drew)
  have HAP := Lib.hid hAP
  obtain ⟨R2, hR2⟩ : ∃ R2, R2 = (Md5.sum (xa ++ [c8])).map bv := ⟨_, rfl⟩
  obtain ⟨β, hβ⟩ : ∃ β, β = (Md5.sum (xa ++ [c8]) == Md5.sum xa) := ⟨_, rfl⟩
  have heq : ∀ w, (Op.equalIn 10000 27 (.agg R2.toArray) (.agg R.toArray)).run Tryd.prog w = .ok β w := fun w => by
    have := equal16 (Md5.sum (xa ++ [c8])) (Md5.sum xa) (Md5.sum_len _) (Md5.sum_len _) w
    rw [← hR2, ← HR.out, ← hβ] at this
    exact this
  have hge := guard16
  have C1 := Lib.hid (fun wr (h : AP w g8 R va v5 xa (xa ++ [c8]) wr) => h.sum1 (by rw [List.length_append]; have := HL.out; simp; omega) hR2)
  have C2 := Lib.hid (fun wr (h : AP w g8 R va v5 xa (xa ++ [c8]) wr) => h.ref1 (by rw [List.length_append]; have := HL.out; simp; omega) hR2)
  have C3 := Lib.hid (fun wr (h : AP w g8 R va v5 xa (xa ++ [c8]) wr) => h.ref0 (by have := HL.out; omega) HR.out)
  have rg := hAP.range
  have hu16 := Tryd.underlying27
  have hi16 := HIL.out
  clear b4 b4s b5 c3 c5 hown4 hown5 hg5 ra3 hAP hR2 hβ
  go_wp2
  go_region_held3 (fun w' => w'.rangeAt g8 0 R) (first | go_keep_ranges | assumption)
    (first | (go_at_call 12; refine (C1.out _ (by assumption)).mono ?_; rintro e w6 ⟨rfl, A1⟩; have s1 := A1.range) | (go_at_call_of 13 v5; refine (C2.out _ (by assumption)).mono ?_; rintro e w7 ⟨rfl, A2⟩; have s2 := A2.range) | (go_at_call_of 13 va; refine (C3.out _ (by assumption)).mono ?_; rintro e w8 ⟨rfl, A3⟩; have s3 := A3.range))
  have A4 := A3
  clear A0 A1 A2 A3 s1 s2 s3 heq rg C1 C2 C3
  obtain ⟨ao, cap, hva, hcap, _⟩ := A4.r0.form
  subst hva
  rw [← HL.out] at hcap A4 ⊢
  have HA4 := Lib.hid A4
  have c8' := A4.below
  have ra8 := A4.r0
  clear A4
  by_cases hL0 : L = 0
  · have hL00 : ((L : Int) == 0) = true := by simp; omega
    clear hL0
    go_wp2
    go_ret
    exact ⟨rfl, c8'⟩
  have hLp : 0 < L := by omega
  have hL00 : ((L : Int) == 0) = false := by simp; omega
  obtain ⟨k, hk⟩ : ∃ k : Nat, a % (8 * (L : Int)) = (k : Int) := ⟨(a % (8 * (L : Int))).toNat, (Int.toNat_of_nonneg (Int.emod_nonneg _ (by omega))).symm⟩
  have hkL : k < 8 * L := by have := Int.emod_lt_of_pos a (show (0 : Int) < 8 * (L : Int) by omega); omega
  clear hL0
  have hbn : Below w8.heap.size w8 (w8.alloc (.cells #[] 5)) := (Below.refl _ _).alloc (Nat.le_refl _) _
  have ran := ra8.below hbn
  go_wp2_with (at_builtin; refine append_u8s rfl (.tmp 47) (.tmp 48) rfl rfl (World.ownsRow_made (base := w8.heap.size) w8 #[] 0 (Nat.le_refl _) (Nat.zero_le _) rfl) (xa.map bv) ran (bv_cell _) ?ca ?cb ?_)
  case ca => rw [List.length_map]; have := HL.out; omega
  case cb => simp
  intro v9 w9 hown9 hg9
  have b9 : Below w8.heap.size w8 w9 := hbn.grown hg9 (by simp) (fun k hk => by cases hk; exact Nat.le_refl _)
  have hown9 : w9.ownsRow w8.heap.size 5 1 v9 L (xa.map bv) := by rw [HL.out]; simpa using hown9
  obtain ⟨q, hq⟩ : ∃ q, q = k / 8 := ⟨_, rfl⟩
  obtain ⟨r, hr⟩ : ∃ r, r = k % 8 := ⟨_, rfl⟩
  have hqL : q < L := by omega
  have hr8 : r < 8 := by omega
  obtain ⟨g9, cp9, rfl, hge9, hn9, hcp9, hc9⟩ := own_pos hown9 hLp
  have e9 : w9.cell? ⟨g9, q, none⟩ = some (.int .u8 ((xa.getD q 0).toNat : Int)) := hc9 q _ (by rw [List.getElem?_map, List.getD_eq_getElem?_getD, List.getElem?_eq_getElem (by have := HL.out; omega)]; rfl)
  have f9 : w9.frozen? ⟨g9, q, none⟩ = false := by
    rcases hown9.2 with ⟨e, _⟩ | ⟨g, cap', cur, e, _, hh, _⟩
    · cases e
    · simp only [Value.slice.injEq, Option.some.injEq, Addr.mk.injEq, and_true] at e
      obtain ⟨rfl, _⟩ := e
      exact frozen_of_row _ _ _ _ _ hh
  have hx : (xa.getD q 0).toNat < 256 := UInt8.toNat_lt _
  generalize (xa.getD q 0).toNat = x at e9 hx
  have hy : 1 * 2 ^ r % 256 < 256 := Nat.mod_lt _ (by decide)
  obtain ⟨c9, hc9'⟩ : ∃ c9 : UInt8, bits BinOp.xor IntKind.u8 (x : Int) ((2 : Int) ^ r % 256) = (c9.toNat : Int) := by
    have e : (2 : Int) ^ r % 256 = ((2 ^ r % 256 : Nat) : Int) := by simp
    have hz : 2 ^ r % 256 < 256 := Nat.mod_lt _ (by decide)
    have hw : x ^^^ (2 ^ r % 256) < 256 := Nat.xor_lt_two_pow (n := 8) (by omega) (by omega)
    refine ⟨UInt8.ofNat (x ^^^ (2 ^ r % 256)), ?_⟩
    rw [e, u8_xor_nat _ _ hx hz, UInt8.toNat_ofNat']
    omega
  have i2 : (k : Int) / 8 = (q : Int) := by omega
  have i3 : (k : Int) % 8 = (r : Int) := by omega
  have i4 : (0 : Int) ≤ (k : Int) := Int.natCast_nonneg _
  have i5 : (0 : Int) ≤ (q : Int) := Int.natCast_nonneg _
  have i6 : (q : Int) < (L : Int) := by omega
  have i7 : (0 : Int) ≤ (r : Int) := Int.natCast_nonneg _
  have hcg := cp9
  have HOWN := Lib.hid hown9
  have B9 := Lib.hid b9
  clear hq hr hbn ran hg9 hown9 b9 hc9 hy hcg
  go_wp2
  go_region
  have hown10 := own_set (i := q) (c := c9) HOWN.out
  have hb10 : Below w8.heap.size w8 (w9.setCell ⟨g9, q, none⟩ (.int .u8 (c9.toNat : Int))).drew := (B9.out.setCell (p := ⟨g9, q, none⟩) hge9 _).drew
  have A8 := HA4.out.next hb10
  have hr10 : Rd (w9.setCell ⟨g9, q, none⟩ (.int .u8 (c9.toNat : Int))).drew (.slice (some ⟨g9, 0, none⟩) L cp9) ((xa.set q c9).map bv) := (Rd.of_own hown10).below ((Below.refl _ _).drew)
  have A9 : AP w g8 R (.slice ao L cap) (.slice (some ⟨g9, 0, none⟩) L cp9) xa (xa.set q c9) (w9.setCell ⟨g9, q, none⟩ (.int .u8 (c9.toNat : Int))).drew := ⟨A8.h, A8.r0, hr10, A8.tb, A8.below⟩
  generalize (w9.setCell ⟨g9, q, none⟩ (.int .u8 (c9.toNat : Int))).drew = w10 at A9 ⊢
  clear hown10 hb10 A8 hr10 hc9' e9 f9 i2 i3 i4 i5 i6 i7
  generalize xa.set q c9 = xt at A9
  have A10 : AP w g8 R (.slice ao L cap) (.slice (some ⟨g9, 0, none⟩) L cp9) xa xt w10.drew := A9.next ((Below.refl _ _).drew)
  have hxt : xt.length ≤ 600 := by
    obtain ⟨ao', cap', e, _⟩ := A9.r1.form
    simp only [Value.slice.injEq] at e
    omega
  obtain ⟨R3, hR3⟩ : ∃ R3, R3 = (Md5.sum xt).map bv := ⟨_, rfl⟩
  obtain ⟨γ, hγ⟩ : ∃ γ, γ = (Md5.sum xt == Md5.sum xa) := ⟨_, rfl⟩
  have heq : ∀ w, (Op.equalIn 10000 27 (.agg R3.toArray) (.agg R.toArray)).run Tryd.prog w = .ok γ w := fun w => by
    have := equal16 (Md5.sum xt) (Md5.sum xa) (Md5.sum_len _) (Md5.sum_len _) w
    rw [← hR3, ← HR.out, ← hγ] at this
    exact this
  have C1 := Lib.hid (fun wr (h : AP w g8 R (.slice ao L cap) (.slice (some ⟨g9, 0, none⟩) L cp9) xa xt wr) => h.sum1 (by omega) hR3)
  have C2 := Lib.hid (fun wr (h : AP w g8 R (.slice ao L cap) (.slice (some ⟨g9, 0, none⟩) L cp9) xa xt wr) => h.ref1 (by omega) hR3)
  have C3 := Lib.hid (fun wr (h : AP w g8 R (.slice ao L cap) (.slice (some ⟨g9, 0, none⟩) L cp9) xa xt wr) => h.ref0 (by have := HL.out; omega) HR.out)
  have rg := A9.range
  clear hR3 hγ A9 HA4 c8' ra8
  go_wp2
  go_region_held3 (fun w' => w'.rangeAt g8 0 R) (first | go_keep_ranges | assumption)
    (first | (go_at_call 12; refine (C1.out _ (by assumption)).mono ?_; rintro e w11 ⟨rfl, A11⟩; have s1 := A11.range) | (go_at_call_of 13 g9; refine (C2.out _ (by assumption)).mono ?_; rintro e w12 ⟨rfl, A12⟩; have s2 := A12.range) | (go_at_call_of 13 ao; refine (C3.out _ (by assumption)).mono ?_; rintro e w13 ⟨rfl, A13⟩; have s3 := A13.range))
  have c13 := A13.below
  clear A10 A11 A12 A13 s1 s2 s3 rg heq C1 C2 C3
  go_wp2
  go_ret
  exact ⟨rfl, c13⟩
end Go.Proofs.YtnbgafcfildhaaaDoor
