/- The law DigestKnown walked. -/
import Derived.Test.YtnbgafcfildhaaaDoorDigestLaw
import Derived.Lib.SlBytesConst
import Derived.Stop.BytesEq
import Derived.Laws.StructEq
import Derived.BigFrame
namespace Go.Proofs.YtnbgafcfildhaaaDoor
open Go.RowKit

/-- A whole array loaded where the operation's guard says yes. -/
theorem wpList_load_want {P : Program} {ops : Array Oper} {rest : List Oper} {o : Oper} {a : Act} {w : World} {Q : Exit → Act → World → Prop} (hw : Region.wanted o (yielded ops a.tmps) = true) (ty : TypeId) (x : Operand) (ho : o.op = .load ty x)
    (g : Nat) (hx : a.eval x = .pointer (some ⟨g, 0, none⟩)) (t : TypeId) (cs : Array Value) (fr : Nat × Nat) (d : TypeDesc) (hg : w.heap[g]? = some (.cells cs t fr))
    (hu : P.underlying ty = some d) (hd : (match d with | .struct _ | .array _ _ => true | _ => false) = true) (hi : (P.info? ty).map (·.size) = some cs.size)
    (h : wpList P ops Q rest (a.put o.dst (.agg cs)) w) : wpList P ops Q (o :: rest) a w :=
  BigFrame.wpList_want hw fun _ hK => wp_load_row ty x ho g hx t cs fr d hg hu hd hi (hK _ _ h)

theorem guard16 : Tryd.prog.eqGuardType Tryd.prog.depth 27 = false := by kernel_rfl
theorem equal16 (xs ys : List UInt8) (hx : xs.length = 16) (hy : ys.length = 16) (w : World) :
    (Op.equalIn 10000 27 (.agg (xs.map bv).toArray) (.agg (ys.map bv).toArray)).run Tryd.prog w = .ok (xs == ys) w := by
  obtain ⟨i0, hi, hz0, hz1, hz2⟩ := info_parts info_u8
  exact run_equalIn_bytes (P := Tryd.prog) w 9998 27 5 16 Tryd.underlying27 Tryd.underlying5 (fun w => by simp [sizeOf, typeInfo, hi, hz1]) xs ys hx hy

def L80 : List UInt8 := [49, 50, 51, 52, 53, 54, 55, 56, 57, 48, 49, 50, 51, 52, 53, 54, 55, 56, 57, 48, 49, 50, 51, 52, 53, 54, 55, 56, 57, 48, 49, 50, 51, 52, 53, 54, 55, 56, 57, 48, 49, 50, 51, 52, 53, 54, 55, 56, 57, 48, 49, 50, 51, 52, 53, 54, 55, 56, 57, 48, 49, 50, 51, 52, 53, 54, 55, 56, 57, 48, 49, 50, 51, 52, 53, 54, 55, 56, 57, 48]
theorem sum_L80 : Md5.hex (Md5.sum L80) = [53, 55, 101, 100, 102, 52, 97, 50, 50, 98, 101, 51, 99, 57, 53, 53, 97, 99, 52, 57, 100, 97, 50, 101, 50, 49, 48, 55, 98, 54, 55, 97] := Md5.sum_eighty

set_option maxRecDepth 20000 in
set_option maxHeartbeats 2000000 in
theorem lawKnownD (v0 : Value) (x0 : List UInt8) (h0 : x0.length ≤ maxLen) (w : World) (r0 : Rd w v0 (x0.map bv)) (ht : TBL w) :
    Calls Tryd.prog 5 #[v0] w fun e w' => e = .returned (.bool true) ∧ Below w.heap.size w w' := by
  have HTB := Lib.hid ht
  clear ht
  have kc := fun (w : World) (C : Array Value) (n c : Nat) => Lib.run_convert_bytes_const (P := Tryd.prog) w 22 5 C n c Tryd.underlying22 Tryd.underlying5
  go_enter Tryd.func5, Tryd.ntmps5
  go_wp2_with fail
  refine (shown_any _ HTB.out).mono ?_
  rintro e w1 ⟨rfl, hb1⟩
  have s0 := r0.below hb1
  clear r0
  go_wp2_with fail
  refine (short_any v0 x0 _ s0 h0).mono ?_
  rintro e w1' ⟨va, rfl, ra, rfl⟩
  clear s0
  have la : (x0.take 600).length ≤ 600 := List.length_take_le _ _
  generalize x0.take 600 = xa at ra la
  obtain ⟨B, hB⟩ : ∃ B : ByteArray, B = ⟨xa.toArray⟩ := ⟨_, rfl⟩
  have eB : sv xa = .string B := by rw [hB]; rfl
  have k1 := bytes_string ra
  rw [eB] at k1
  have RA := Lib.hid ra
  have EB := Lib.hid eB
  have HB1 := Lib.hid hb1
  clear hB eB ra hb1
  obtain ⟨S, hS⟩ : ∃ S, S = Md5.sum xa := ⟨_, rfl⟩
  have hSl : S.length = 16 := by rw [hS, Md5.sum_len]
  obtain ⟨R, hR⟩ : ∃ R, R = S.map bv := ⟨_, rfl⟩
  have hRl : R.length = 16 := by rw [hR, List.length_map, hSl]
  have hav : av (Md5.sum xa) = .agg R.toArray := by rw [hR, ← hS]
  have HAV := Lib.hid hav
  have HSL := Lib.hid hSl
  have HR := Lib.hid hR
  have HIL := Lib.hid (info16 hRl)
  have HI := Lib.hid (info16a hRl)
  have HONE := Lib.hid (show ∀ v ∈ R, v.oneCell' = true by rw [hR]; exact bv_cell _)
  have HRL := Lib.hid hRl
  clear hRl hS hR hav hSl
  go_wp2_with fail
  refine (sum_any _ xa _ RA.out (by omega) (HTB.out.below HB1.out)).mono ?_
  rintro e w2 ⟨rfl, hb2⟩
  rw [HAV.out]
  have c2 : Below w.heap.size w w2 := HB1.out.trans (hb2.mono HB1.out.size)
  have ra2 := RA.out.below hb2
  clear hb2 k1
  go_wp2_with (refine wpList_store_at rfl 27 _ _ rfl w2.heap.size R rfl rfl 27 _ (heap_alloc_new w2 _) ?cb HIL.out HONE.out ?_)
  case cb => rw [HRL.out]; rfl
  intro w3 hg3 hgr3
  have b3 : Below w2.heap.size w2 w3 := ((Below.refl _ _).alloc (Nat.le_refl _) _).grown hgr3 (by simp) (fun k hk => by cases hk; exact Nat.le_refl _)
  have c3 : Below w.heap.size w w3 := c2.trans (b3.mono c2.size)
  have ra3 := ra2.below b3
  obtain ⟨g5, hg5⟩ : ∃ g, g = w2.heap.size := ⟨_, rfl⟩
  rw [← hg5] at hg3 ⊢
  have l5 : g5 < w3.heap.size := (Array.getElem?_eq_some_iff.1 hg3.out).1
  clear hgr3 c2 ra2 b3 hg5
  have hbn : Below w3.heap.size w3 (w3.alloc (.cells #[] 5)) := (Below.refl _ _).alloc (Nat.le_refl _) _
  have ran := ra3.below hbn
  go_wp2_with (at_builtin; refine append_u8s rfl (.tmp 16) (.tmp 17) rfl rfl (World.ownsRow_made (base := w3.heap.size) w3 #[] 0 (Nat.le_refl _) (Nat.zero_le _) rfl) (xa.map bv) ran (bv_cell _) ?ca ?cb ?_)
  case ca => rw [List.length_map]; omega
  case cb => simp
  intro v4 w4 hown4 hg4
  have b4 : Below w3.heap.size w3 w4 := hbn.grown hg4 (by simp) (fun k hk => by cases hk; exact Nat.le_refl _)
  have c4 : Below w.heap.size w w4 := c3.trans (b4.mono c3.size)
  have r4 : Rd w4 v4 (xa.map bv) := by have := Rd.of_own hown4; simpa using this
  have h4 : Hid (w4.heap[g5]? = some (.cells R.toArray 27)) := (b4.block _ l5).trans hg3.out
  have ra4 := ra3.below b4
  clear hg4 hbn ran b4 hown4 c3 ra3 hg3 l5
  go_wp2_with fail
  refine (sum_any _ xa _ r4 (by omega) (HTB.out.below c4)).mono ?_
  rintro e w5 ⟨rfl, hb5⟩
  rw [HAV.out]
  have c5 : Below w.heap.size w w5 := c4.trans (hb5.mono c4.size)
  have l4 : g5 < w4.heap.size := (Array.getElem?_eq_some_iff.1 h4.out).1
  have h5 : Hid (w5.heap[g5]? = some (.cells R.toArray 27)) := (hb5.block _ l4).trans h4.out
  have ra5 := ra4.below hb5
  clear hb5 l4 h4 c4 r4 ra4
  go_wp2_with (refine wpList_store_at rfl 27 _ _ rfl w5.heap.size R rfl rfl 27 _ (heap_alloc_new w5 _) ?cb HIL.out HONE.out ?_)
  case cb => rw [HRL.out]; rfl
  intro w6 hg6 hgr6
  have b6 : Below w5.heap.size w5 w6 := ((Below.refl _ _).alloc (Nat.le_refl _) _).grown hgr6 (by simp) (fun k hk => by cases hk; exact Nat.le_refl _)
  have c6 : Below w.heap.size w w6 := c5.trans (b6.mono c5.size)
  have l5 : g5 < w5.heap.size := (Array.getElem?_eq_some_iff.1 h5.out).1
  have h6 : Hid (w6.heap[g5]? = some (.cells R.toArray 27)) := (b6.block _ l5).trans h5.out
  have ra6 := ra5.below b6
  obtain ⟨g6, hgg6⟩ : ∃ g, g = w5.heap.size := ⟨_, rfl⟩
  rw [← hgg6] at hg6 ⊢
  clear hgr6 c5 ra5 b6 l5 h5 hgg6
  have KC := Lib.hid kc
  go_wp2_with fail
  refine (sum_any _ [97, 98, 99] _ (Rd.made w6 [97, 98, 99] _ _ 3 rfl (by decide)) (by decide) (HTB.out.below (c6.alloc c6.size _))).mono ?_
  rintro e w7 ⟨rfl, hb7⟩
  have b7 : Below w6.heap.size w6 w7 := ((Below.refl _ _).alloc (Nat.le_refl _) _).trans (hb7.mono (by simp))
  have c7 : Below w.heap.size w w7 := c6.trans (b7.mono c6.size)
  have l5 : g5 < w6.heap.size := (Array.getElem?_eq_some_iff.1 h6.out).1
  have l6 : g6 < w6.heap.size := (Array.getElem?_eq_some_iff.1 hg6.out).1
  have h7 : Hid (w7.heap[g5]? = some (.cells R.toArray 27)) := (b7.block _ l5).trans h6.out
  have i7 : Hid (w7.heap[g6]? = some (.cells R.toArray 27)) := (b7.block _ l6).trans hg6.out
  have ra7 := ra6.below b7
  obtain ⟨R3, hR3⟩ : ∃ R3, R3 = (Md5.sum [97, 98, 99]).map bv := ⟨_, rfl⟩
  have hR3l : R3.length = 16 := by rw [hR3, List.length_map, Md5.sum_len]
  have hav3 : av (Md5.sum [97, 98, 99]) = .agg R3.toArray := by rw [hR3]
  rw [hav3]
  have HR3 := Lib.hid hR3
  have HIL3 := Lib.hid (info16 hR3l)
  have HONE3 := Lib.hid (show ∀ v ∈ R3, v.oneCell' = true by rw [hR3]; exact bv_cell _)
  have HR3L := Lib.hid hR3l
  clear hb7 b7 c6 l5 l6 h6 hg6 ra6 hR3 hR3l hav3
  go_wp2_with (refine wpList_store_at rfl 27 _ _ rfl w7.heap.size R3 rfl rfl 27 _ (heap_alloc_new w7 _) ?cb HIL3.out HONE3.out ?_)
  case cb => rw [HR3L.out]; rfl
  intro w8 hg8 hgr8
  have b8 : Below w7.heap.size w7 w8 := ((Below.refl _ _).alloc (Nat.le_refl _) _).grown hgr8 (by simp) (fun k hk => by cases hk; exact Nat.le_refl _)
  have c8 : Below w.heap.size w w8 := c7.trans (b8.mono c7.size)
  have l5 : g5 < w7.heap.size := (Array.getElem?_eq_some_iff.1 h7.out).1
  have l6 : g6 < w7.heap.size := (Array.getElem?_eq_some_iff.1 i7.out).1
  have h8 : Hid (w8.heap[g5]? = some (.cells R.toArray 27)) := (b8.block _ l5).trans h7.out
  have i8 : Hid (w8.heap[g6]? = some (.cells R.toArray 27)) := (b8.block _ l6).trans i7.out
  have ra8 := ra7.below b8
  obtain ⟨g7, hgg7⟩ : ∃ g, g = w7.heap.size := ⟨_, rfl⟩
  rw [← hgg7] at hg8 ⊢
  clear hgr8 c7 ra7 b8 l5 l6 h7 i7 hgg7
  go_wp2_with fail
  refine (sum_any _ L80 _ (Rd.made w8 L80 _ _ 80 rfl (by decide)) (by decide) (HTB.out.below (c8.alloc c8.size _))).mono ?_
  rintro e w9 ⟨rfl, hb9⟩
  have b9 : Below w8.heap.size w8 w9 := ((Below.refl _ _).alloc (Nat.le_refl _) _).trans (hb9.mono (by simp))
  clear hb9
  have c9 : Below w.heap.size w w9 := c8.trans (b9.mono c8.size)
  have l5 : g5 < w8.heap.size := (Array.getElem?_eq_some_iff.1 h8.out).1
  have l6 : g6 < w8.heap.size := (Array.getElem?_eq_some_iff.1 i8.out).1
  have l7 : g7 < w8.heap.size := (Array.getElem?_eq_some_iff.1 hg8.out).1
  have h9 : Hid (w9.heap[g5]? = some (.cells R.toArray 27)) := (b9.block _ l5).trans h8.out
  have i9 : Hid (w9.heap[g6]? = some (.cells R.toArray 27)) := (b9.block _ l6).trans i8.out
  have j9 : Hid (w9.heap[g7]? = some (.cells R3.toArray 27)) := (b9.block _ l7).trans hg8.out
  have ra9 := ra8.below b9
  obtain ⟨R4, hR4⟩ : ∃ R4, R4 = (Md5.sum L80).map bv := ⟨_, rfl⟩
  have hR4l : R4.length = 16 := by rw [hR4, List.length_map, Md5.sum_len]
  have hav4 : av (Md5.sum L80) = .agg R4.toArray := by rw [hR4]
  rw [hav4]
  have HR4 := Lib.hid hR4
  have HIL4 := Lib.hid (info16 hR4l)
  have HONE4 := Lib.hid (show ∀ v ∈ R4, v.oneCell' = true by rw [hR4]; exact bv_cell _)
  have HR4L := Lib.hid hR4l
  clear b9 c8 l5 l6 l7 h8 i8 hg8 ra8 hR4 hR4l hav4
  go_wp2_with (refine wpList_store_at rfl 27 _ _ rfl w9.heap.size R4 rfl rfl 27 _ (heap_alloc_new w9 _) ?cb HIL4.out HONE4.out ?_)
  case cb => rw [HR4L.out]; rfl
  intro w10 hg10 hgr10
  have b10 : Below w9.heap.size w9 w10 := ((Below.refl _ _).alloc (Nat.le_refl _) _).grown hgr10 (by simp) (fun k hk => by cases hk; exact Nat.le_refl _)
  have c10 : Below w.heap.size w w10 := c9.trans (b10.mono c9.size)
  have l5 : g5 < w9.heap.size := (Array.getElem?_eq_some_iff.1 h9.out).1
  have l6 : g6 < w9.heap.size := (Array.getElem?_eq_some_iff.1 i9.out).1
  have l7 : g7 < w9.heap.size := (Array.getElem?_eq_some_iff.1 j9.out).1
  have h10 : Hid (w10.heap[g5]? = some (.cells R.toArray 27)) := (b10.block _ l5).trans h9.out
  have i10 : Hid (w10.heap[g6]? = some (.cells R.toArray 27)) := (b10.block _ l6).trans i9.out
  have j10 : Hid (w10.heap[g7]? = some (.cells R3.toArray 27)) := (b10.block _ l7).trans j9.out
  have ra10 := ra9.below b10
  obtain ⟨g8, hgg8⟩ : ∃ g, g = w9.heap.size := ⟨_, rfl⟩
  rw [← hgg8] at hg10 ⊢
  have k1 := bytes_string ra10
  rw [EB.out] at k1
  have hge := guard16
  have heq : ∀ w, (Op.equalIn 10000 27 (.agg R.toArray) (.agg R.toArray)).run Tryd.prog w = .ok true w := fun w => by
    have := equal16 S S HSL.out HSL.out w
    rw [← HR.out] at this
    simpa using this
  have hrd7 : Rd w10 (.slice (some ⟨g7, 0, none⟩) 16 16) ((Md5.sum [97, 98, 99]).map bv) := Rd.row (by rw [← HR3.out]; exact j10.out) (by rw [Md5.sum_len]) (by decide)
  have hrd8 : Rd w10 (.slice (some ⟨g8, 0, none⟩) 16 16) ((Md5.sum L80).map bv) := Rd.row (by rw [← HR4.out]; exact hg10.out) (by rw [Md5.sum_len]) (by decide)
  have HRD7 := Lib.hid hrd7
  have HRD8 := Lib.hid hrd8
  clear hgr10 c9 ra9 b10 l5 l6 l7 h9 i9 j9 hgg8 kc hrd7 hrd8
  go_wp2_with (first | (refine wpList_load_want rfl 27 _ rfl g5 rfl 27 R.toArray (0, 0) _ h10.out Tryd.underlying27 rfl HI.out ?_) | (refine wpList_load_want rfl 27 _ rfl g6 rfl 27 R.toArray (0, 0) _ i10.out Tryd.underlying27 rfl HI.out ?_))
  refine (hexb_any _ (Md5.sum [97, 98, 99]) _ HRD7.out (by rw [Md5.sum_len]; decide)).mono ?_
  rintro e w11 ⟨rfl, hb11⟩
  have c11 := c10.trans (hb11.mono c10.size)
  have r11 := HRD8.out.below hb11
  rw [Md5.sum_abc, sv]
  clear hb11 k1 hge heq
  go_wp2_with fail
  refine (hexb_any _ (Md5.sum L80) _ r11 (by rw [Md5.sum_len]; decide)).mono ?_
  rintro e w12 ⟨rfl, hb12⟩
  have c12 := c11.trans (hb12.mono c11.size)
  rw [sum_L80, sv]
  clear hb12 r11
  go_wp2
  go_ret
  exact ⟨rfl, c12⟩
end Go.Proofs.YtnbgafcfildhaaaDoor
