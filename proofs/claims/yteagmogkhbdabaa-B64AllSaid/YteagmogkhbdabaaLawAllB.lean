/- The law B64All walked. -/
import Derived.Test.YteagmogkhbdabaaB64RefTake
namespace Go.Proofs.Yteagmogkhbdabaa
open Go.RowKit

theorem refTake_put (s : ByteArray) (b : List UInt8) (w : World) (hs : s.size ≤ 1048576) (h : s.data.toList = B64.put b) :
    Calls Try.prog 11 #[.string s] w fun e w' => ∃ v, e = .returned (.tuple #[v, .bool true]) ∧ Rd w' v (b.map bv) ∧ Below w.heap.size w w' := by
  refine (refTake_any s w hs).mono ?_
  rintro e w' (⟨b', v, h1, rfl, h2, h3⟩ | ⟨h1, _⟩)
  · obtain rfl := B64.put_inj _ _ (h1.trans h)
    exact ⟨v, rfl, Rd.of_own h2, h3⟩
  · exact absurd h.symm (h1 b)

theorem refTake_no (s : ByteArray) (w : World) (hs : s.size ≤ 1048576) (h : ∀ b, B64.put b ≠ s.data.toList) :
    Calls Try.prog 11 #[.string s] w fun e w' => e = .returned (.tuple #[.slice none 0 0, .bool false]) ∧ Below w.heap.size w w' := by
  refine (refTake_any s w hs).mono ?_
  rintro e w' (⟨b', v, h1, _⟩ | ⟨_, rfl, h3⟩)
  · exact absurd h1 (h b')
  · exact ⟨rfl, h3⟩

/-- '[]byte(s)' reads as s's bytes. -/
theorem Rd.bytes (w : World) (s : ByteArray) (cap : Nat) (hc : s.size ≤ cap) (hm : cap ≤ maxLen) (t : TypeId) (fr : Nat × Nat) : Rd (w.alloc (.cells (bytesRow s cap) t fr)).drew (.slice (some ⟨w.heap.size, 0, none⟩) s.size cap) (s.data.toList.map bv) := by
  refine .inr ⟨w.heap.size, 0, cap, by rw [List.length_map, ← Lib.size_eq], by rw [List.length_map, ← Lib.size_eq]; exact hc, hm, fun j u hj => ?_⟩
  have hj2 : j < s.size := by
    have := (List.getElem?_eq_some_iff.1 hj).1
    rwa [List.length_map, ← Lib.size_eq] at this
  rw [Nat.zero_add]
  show (w.alloc (.cells (bytesRow s cap) t fr)).cell? _ = _
  rw [cell_of_row _ _ _ _ _ _ (heap_alloc_new w _), bytesRow_at s cap j hj2, ← hj, List.getElem?_map, List.getElem?_eq_getElem (by rw [← Lib.size_eq]; exact hj2)]
  rfl

set_option maxHeartbeats 400000 in
theorem lawAll (v0 : Value) (x0 : List UInt8) (s0 : ByteArray) (h0 : x0.length ≤ maxLen) (h1 : s0.size ≤ maxLen) (w : World) (r0 : Rd w v0 (x0.map bv)) :
    Calls Try.prog 3 #[v0, .string s0] w fun e w' => e = .returned (.bool true) ∧ Below w.heap.size w w' := by
  go_enter Try.func3, Try.ntmps3
  go_wp2_with fail
  refine (shown_any _).mono ?_
  rintro e w1 ⟨rfl, hb1⟩
  have ra := r0.below hb1
  clear r0
  have hcv := run_bytes_of_string (P := Try.prog) w1 9 22 5 s0 Try.underlying9 Try.underlying22 Try.underlying5
  have hcap1 := grownCap_ge w1 s0.size 0 5
  have hcap2 := grownCap_le_maxLen w1 s0.size 0 5 h1
  generalize grownCap w1 s0.size 0 5 = cap at hcv hcap1 hcap2
  have hrs := Rd.bytes w1 s0 cap hcap1 hcap2 5 ((bytesRow s0 cap).size, (bytesRow s0 cap).size + 1)
  have hb2 : Below w1.heap.size w1 (w1.alloc (.cells (bytesRow s0 cap) 5 ((bytesRow s0 cap).size, (bytesRow s0 cap).size + 1))).drew := ((Below.refl _ _).alloc (Nat.le_refl _) _).drew
  have ra2 := ra.below hb2
  have c2 := hb1.trans (hb2.mono hb1.size)
  have HRS := Lib.hid hrs
  have HH0 := Lib.hid h0
  have HH1 := Lib.hid h1
  clear hb1 hb2 ra hcap1 hcap2 hrs h0 h1
  go_wp2_with fail
  clear hcv
  refine (short_any _ s0.data.toList _ HRS.out (by rw [← Lib.size_eq]; exact HH1.out)).mono ?_
  rintro e w2 ⟨vs, rfl, rs, hw2⟩
  obtain rfl := hw2
  have ks := bytes_string rs
  have hl6 : (s0.data.toList.take 600).length ≤ 600 := List.length_take_le _ _
  have hx6 : (x0.take 600).length ≤ 600 := List.length_take_le _ _
  obtain ⟨t, ht⟩ : ∃ t : ByteArray, t = ⟨(s0.data.toList.take 600).toArray⟩ := ⟨_, rfl⟩
  have et : sv (s0.data.toList.take 600) = .string t := by rw [ht]; rfl
  have hts : t.size ≤ 1048576 := by
    rw [Lib.size_eq, ht]
    show (s0.data.toList.take 600).length ≤ _
    omega
  rw [et] at ks
  clear et ht hl6 rs
  generalize (w1.alloc (.cells (bytesRow s0 cap) 5 ((bytesRow s0 cap).size, (bytesRow s0 cap).size + 1))).drew = w3 at ks ra2 c2 ⊢
  by_cases hex : ∃ b, B64.put b = t.data.toList
  · obtain ⟨b, hb⟩ := hex
    have T1 := fun w => take_put t b w hts hb.symm
    have T2 := fun w => refTake_put t b w hts hb.symm
    have HT1 := Lib.hid T1
    have HT2 := Lib.hid T2
    clear T1 T2 hb hts
    go_wp2_with fail
    clear ks
    refine (HT1.out _).mono ?_
    rintro e w4 ⟨vx, rfl, rx, hb4⟩
    have c4 : Below w.heap.size w w4 := c2.trans (hb4.mono c2.size)
    have ra4 := ra2.below hb4
    clear c2 ra2 hb4
    go_wp2_with fail
    refine (HT2.out _).mono ?_
    rintro e w5 ⟨vy, rfl, ry5, hb5⟩
    have c5 : Below w.heap.size w w5 := c4.trans (hb5.mono c4.size)
    have ra5 := ra4.below hb5
    have rx5 := rx.below hb5
    clear c4 ra4 hb5 rx
    go_wp2_with fail
    refine (short_any v0 x0 _ ra5 HH0.out).mono ?_
    rintro e w5' ⟨vb, rfl, rb, rfl⟩
    go_wp2_with fail
    refine (putb_any _ _ _ rb (by omega)).mono ?_
    rintro e w6 ⟨rfl, hb6⟩
    have c6 : Below w.heap.size w w6 := c5.trans (hb6.mono c5.size)
    have ra6 := ra5.below hb6
    have kx := bytes_string (rx5.below hb6)
    have ky := bytes_string (ry5.below hb6)
    rw [sv] at kx ky
    clear rx5 ry5
    clear hb6 c5 ra5 rb
    go_wp2_with fail
    refine (short_any v0 x0 _ ra6 HH0.out).mono ?_
    rintro e w6' ⟨vc, rfl, rc, rfl⟩
    go_wp2_with fail
    refine (refPut_any _ _ _ rc (by omega)).mono ?_
    rintro e w6' ⟨rfl, rfl⟩
    clear rc ra6
    obtain ⟨P, hP⟩ : ∃ P : ByteArray, P = ⟨(B64.put (x0.take 600)).toArray⟩ := ⟨_, rfl⟩
    have eP : sv (B64.put (x0.take 600)) = .string P := by rw [hP]; rfl
    rw [eP]
    clear eP hP
    go_wp2
    go_ret
    exact ⟨rfl, c6⟩
  · have hno : ∀ b, B64.put b ≠ t.data.toList := fun b hb => hex ⟨b, hb⟩
    have T1 := fun w => take_no t w hts hno
    have T2 := fun w => refTake_no t w hts hno
    have HT1 := Lib.hid T1
    have HT2 := Lib.hid T2
    clear T1 T2 hno hex hts
    go_wp2_with fail
    clear ks
    refine (HT1.out _).mono ?_
    rintro e w4 ⟨rfl, hb4⟩
    have c4 : Below w.heap.size w w4 := c2.trans (hb4.mono c2.size)
    have ra4 := ra2.below hb4
    clear c2 ra2 hb4
    go_wp2_with fail
    refine (HT2.out _).mono ?_
    rintro e w5 ⟨rfl, hb5⟩
    have c5 : Below w.heap.size w w5 := c4.trans (hb5.mono c4.size)
    have ra5 := ra4.below hb5
    clear c4 ra4 hb5
    go_wp2_with fail
    refine (short_any v0 x0 _ ra5 HH0.out).mono ?_
    rintro e w5' ⟨vb, rfl, rb, rfl⟩
    go_wp2_with fail
    refine (putb_any _ _ _ rb (by omega)).mono ?_
    rintro e w6 ⟨rfl, hb6⟩
    have c6 : Below w.heap.size w w6 := c5.trans (hb6.mono c5.size)
    have ra6 := ra5.below hb6
    have kx := bytes_string (show Rd w6 (.slice none 0 0) (([] : List UInt8).map bv) from .inl ⟨rfl, none, 0, fun _ => rfl, rfl⟩)
    rw [sv] at kx
    clear hb6 c5 ra5 rb
    go_wp2_with fail
    refine (short_any v0 x0 _ ra6 HH0.out).mono ?_
    rintro e w6' ⟨vc, rfl, rc, rfl⟩
    go_wp2_with fail
    refine (refPut_any _ _ _ rc (by omega)).mono ?_
    rintro e w6' ⟨rfl, rfl⟩
    clear rc ra6
    obtain ⟨P, hP⟩ : ∃ P : ByteArray, P = ⟨(B64.put (x0.take 600)).toArray⟩ := ⟨_, rfl⟩
    have eP : sv (B64.put (x0.take 600)) = .string P := by rw [hP]; rfl
    rw [eP]
    clear eP hP
    go_wp2
    go_ret
    exact ⟨rfl, c6⟩
end Go.Proofs.Yteagmogkhbdabaa
