/- The law DigestAll walked. -/
import Derived.Test.YtnbgafcfildhaaaDoorDigestRefHex
import Derived.Test.YtnbgafcfildhaaaDoorDigestRefSum
import Derived.Test.YtnbgafcfildhaaaDoorLawKnownD
import Derived.Test.YtnbgafcfildhaaaDoorLawHexD
namespace Go.Proofs.YtnbgafcfildhaaaDoor
open Go.RowKit

theorem refUnhex_yes (s : ByteArray) (b : List UInt8) (w : World) (hs : s.size ≤ 1048576) (h : s.data.toList = Md5.hex b) :
    Calls Tryd.prog 11 #[.string s] w fun e w' => ∃ v, e = .returned (.tuple #[v, .bool true]) ∧ Rd w' v (b.map bv) ∧ Below w.heap.size w w' := by
  refine (refUnhex_any s w hs).mono ?_
  rintro e w' (⟨b', v, h1, rfl, h2, h3⟩ | ⟨h1, _⟩)
  · obtain rfl := Md5.hex_inj (h1.trans h)
    exact ⟨v, rfl, h2, h3⟩
  · exact absurd h.symm (h1 b)

theorem refUnhex_no (s : ByteArray) (w : World) (hs : s.size ≤ 1048576) (h : ∀ b, Md5.hex b ≠ s.data.toList) :
    Calls Tryd.prog 11 #[.string s] w fun e w' => e = .returned (.tuple #[.slice none 0 0, .bool false]) ∧ Below w.heap.size w w' := by
  refine (refUnhex_any s w hs).mono ?_
  rintro e w' (⟨b', v, h1, _⟩ | ⟨_, rfl, h3⟩)
  · exact absurd h1 (h b')
  · exact ⟨rfl, h3⟩

/-- '[]byte(s)' reads as s's bytes. -/
theorem Rd.bytes (w : World) (s : ByteArray) (cap : Nat) (hc : s.size ≤ cap) (hm : cap ≤ maxLen) (t : TypeId) (fr : Nat × Nat) : Rd (w.alloc (.cells (bytesRow s cap) t fr)).drew (.slice (some ⟨w.heap.size, 0, none⟩) s.size cap) (s.data.toList.map bv) := by
  refine .inr ⟨w.heap.size, 0, cap, by rw [List.length_map, ← Lib.size_eq], by rw [List.length_map, ← Lib.size_eq]; exact hc, hm, fun j u hj => ?_⟩
  have hj2 : j < s.size := by
    have := (List.getElem?_eq_some_iff.1 hj).1
    rwa [List.length_map, ← Lib.size_eq] at this
  rw [Nat.zero_add]
  show (w.alloc (.cells (bytesRow s cap) t fr)).cell? _ = _
  rw [cell_of_row _ _ _ _ _ _ (heap_alloc_new w _), bytesRow_at s cap j hj2, ← hj, List.getElem?_map, List.getElem?_eq_getElem (by rw [← Lib.size_eq]; exact hj2)]
  rfl

set_option maxHeartbeats 1000000 in
theorem lawAllD (v0 : Value) (x0 : List UInt8) (s0 : ByteArray) (h0 : x0.length ≤ maxLen) (h1 : s0.size ≤ maxLen) (w : World) (r0 : Rd w v0 (x0.map bv)) (ht : TBL w) :
    Calls Tryd.prog 3 #[v0, .string s0] w fun e w' => e = .returned (.bool true) ∧ Below w.heap.size w w' := by
  have HTB := Lib.hid ht
  clear ht
  go_enter Tryd.func3, Tryd.ntmps3
  go_wp2_with fail
  refine (shown_any _ HTB.out).mono ?_
  rintro e w1 ⟨rfl, hb1⟩
  have ra := r0.below hb1
  clear r0
  go_wp2_with fail
  refine (short_any v0 x0 _ ra h0).mono ?_
  rintro e w1' ⟨vb, rfl, rb, hw1⟩
  obtain rfl := hw1
  have lb : (x0.take 600).length ≤ 600 := List.length_take_le _ _
  generalize x0.take 600 = xb at rb lb
  have hcv := run_bytes_of_string (P := Tryd.prog) w1 9 22 5 s0 Tryd.underlying9 Tryd.underlying22 Tryd.underlying5
  have hcap1 := grownCap_ge w1 s0.size 0 5
  have hcap2 := grownCap_le_maxLen w1 s0.size 0 5 h1
  generalize grownCap w1 s0.size 0 5 = cap at hcv hcap1 hcap2
  have hrs := Rd.bytes w1 s0 cap hcap1 hcap2 5 ((bytesRow s0 cap).size, (bytesRow s0 cap).size + 1)
  have hb2 : Below w1.heap.size w1 (w1.alloc (.cells (bytesRow s0 cap) 5 ((bytesRow s0 cap).size, (bytesRow s0 cap).size + 1))).drew := ((Below.refl _ _).alloc (Nat.le_refl _) _).drew
  have rb2 := rb.below hb2
  have c2 := hb1.trans (hb2.mono hb1.size)
  have HRS := Lib.hid hrs
  have HH1 := Lib.hid h1
  clear hb1 hb2 ra rb hcap1 hcap2 hrs h0 h1
  go_wp2_with fail
  clear hcv
  refine (short_any _ s0.data.toList _ HRS.out (by rw [← Lib.size_eq]; exact HH1.out)).mono ?_
  rintro e w2 ⟨vs, rfl, rs, hw2⟩
  obtain rfl := hw2
  have ks := bytes_string rs
  have hl6 : (s0.data.toList.take 600).length ≤ 600 := List.length_take_le _ _
  obtain ⟨t, ht⟩ : ∃ t : ByteArray, t = ⟨(s0.data.toList.take 600).toArray⟩ := ⟨_, rfl⟩
  have et : sv (s0.data.toList.take 600) = .string t := by rw [ht]; rfl
  have hts : t.size ≤ 1048576 := by
    rw [Lib.size_eq, ht]
    show (s0.data.toList.take 600).length ≤ _
    omega
  rw [et] at ks
  clear et ht hl6 rs HRS
  generalize (w1.alloc (.cells (bytesRow s0 cap) 5 ((bytesRow s0 cap).size, (bytesRow s0 cap).size + 1))).drew = w3 at ks rb2 c2 ⊢
  obtain ⟨R, hR⟩ : ∃ R, R = (Md5.sum xb).map bv := ⟨_, rfl⟩
  have hav : av (Md5.sum xb) = .agg R.toArray := by rw [hR]
  have heq : ∀ w, (Op.equalIn 10000 27 (.agg R.toArray) (.agg R.toArray)).run Tryd.prog w = .ok true w := fun w => by
    have := equal16 (Md5.sum xb) (Md5.sum xb) (Md5.sum_len _) (Md5.sum_len _) w
    rw [← hR] at this
    simpa using this
  have hge := guard16
  obtain ⟨X, hX⟩ : ∃ X : ByteArray, X = ⟨(Md5.hex xb).toArray⟩ := ⟨_, rfl⟩
  have eX : sv (Md5.hex xb) = .string X := by rw [hX]; rfl
  have HAV := Lib.hid hav
  have HEQ := Lib.hid heq
  have HGE := Lib.hid hge
  have EX := Lib.hid eX
  clear hR hav heq hge hX eX
  by_cases hex : ∃ b, Md5.hex b = t.data.toList
  · obtain ⟨b, hb⟩ := hex
    have T1 := fun w => unhexb_yes t b w hts hb.symm
    have T2 := fun w => refUnhex_yes t b w hts hb.symm
    have HT1 := Lib.hid T1
    have HT2 := Lib.hid T2
    clear T1 T2 hb hts
    go_wp2_with fail
    clear ks
    refine (HT1.out _).mono ?_
    rintro e w4 ⟨vx, rfl, rx, hb4⟩
    have c4 : Below w.heap.size w w4 := c2.trans (hb4.mono c2.size)
    have rb4 := rb2.below hb4
    clear c2 rb2 hb4
    go_wp2_with fail
    refine (HT2.out _).mono ?_
    rintro e w5 ⟨vy, rfl, ry, hb5⟩
    have c5 : Below w.heap.size w w5 := c4.trans (hb5.mono c4.size)
    have rb5 := rb4.below hb5
    have rx5 := rx.below hb5
    clear c4 rb4 hb5 rx
    go_wp2_with fail
    refine (sum_any _ xb _ rb5 (by omega) (HTB.out.below c5)).mono ?_
    rintro e w6 ⟨rfl, hb6⟩
    rw [HAV.out]
    have c6 : Below w.heap.size w w6 := c5.trans (hb6.mono c5.size)
    have rb6 := rb5.below hb6
    have rx6 := rx5.below hb6
    have ry6 := ry.below hb6
    clear c5 rb5 hb6 rx5 ry
    go_wp2_with fail
    refine (refSum_any _ xb _ rb6 (by omega)).mono ?_
    rintro e w7 ⟨rfl, hb7⟩
    rw [HAV.out]
    have c7 : Below w.heap.size w w7 := c6.trans (hb7.mono c6.size)
    have rb7 := rb6.below hb7
    have rx7 := rx6.below hb7
    have ry7 := ry6.below hb7
    clear c6 rb6 hb7 rx6 ry6
    have heq := HEQ.out
    have hge := HGE.out
    go_wp2_with fail
    clear heq hge
    refine (hexb_any _ xb _ rb7 (by omega)).mono ?_
    rintro e w8 ⟨rfl, hb8⟩
    rw [EX.out]
    have c8 : Below w.heap.size w w8 := c7.trans (hb8.mono c7.size)
    have rb8 := rb7.below hb8
    have rx8 := rx7.below hb8
    have ry8 := ry7.below hb8
    clear c7 rb7 hb8 rx7 ry7
    go_wp2_with fail
    refine (refHex_any _ xb _ rb8 (by omega)).mono ?_
    rintro e w9 ⟨rfl, hb9⟩
    rw [EX.out]
    have c9 : Below w.heap.size w w9 := c8.trans (hb9.mono c8.size)
    have kx := bytes_string (rx8.below hb9)
    have ky := bytes_string (ry8.below hb9)
    obtain ⟨Y, hY⟩ : ∃ Y : ByteArray, Y = ⟨b.toArray⟩ := ⟨_, rfl⟩
    have eY : sv b = .string Y := by rw [hY]; rfl
    rw [eY] at kx ky
    clear hb9 c8 rb8 rx8 ry8 hY eY
    go_wp2
    go_ret
    exact ⟨rfl, c9⟩
  · have hno : ∀ b, Md5.hex b ≠ t.data.toList := fun b hb => hex ⟨b, hb⟩
    have T1 := fun w => unhexb_no t w hts hno
    have T2 := fun w => refUnhex_no t w hts hno
    have HT1 := Lib.hid T1
    have HT2 := Lib.hid T2
    clear T1 T2 hno hex hts
    go_wp2_with fail
    clear ks
    refine (HT1.out _).mono ?_
    rintro e w4 ⟨rfl, hb4⟩
    have c4 : Below w.heap.size w w4 := c2.trans (hb4.mono c2.size)
    have rb4 := rb2.below hb4
    clear c2 rb2 hb4
    go_wp2_with fail
    refine (HT2.out _).mono ?_
    rintro e w5 ⟨rfl, hb5⟩
    have c5 : Below w.heap.size w w5 := c4.trans (hb5.mono c4.size)
    have rb5 := rb4.below hb5
    clear c4 rb4 hb5
    go_wp2_with fail
    refine (sum_any _ xb _ rb5 (by omega) (HTB.out.below c5)).mono ?_
    rintro e w6 ⟨rfl, hb6⟩
    rw [HAV.out]
    have c6 : Below w.heap.size w w6 := c5.trans (hb6.mono c5.size)
    have rb6 := rb5.below hb6
    clear c5 rb5 hb6
    go_wp2_with fail
    refine (refSum_any _ xb _ rb6 (by omega)).mono ?_
    rintro e w7 ⟨rfl, hb7⟩
    rw [HAV.out]
    have c7 : Below w.heap.size w w7 := c6.trans (hb7.mono c6.size)
    have rb7 := rb6.below hb7
    clear c6 rb6 hb7
    have heq := HEQ.out
    have hge := HGE.out
    go_wp2_with fail
    clear heq hge
    refine (hexb_any _ xb _ rb7 (by omega)).mono ?_
    rintro e w8 ⟨rfl, hb8⟩
    rw [EX.out]
    have c8 : Below w.heap.size w w8 := c7.trans (hb8.mono c7.size)
    have rb8 := rb7.below hb8
    clear c7 rb7 hb8
    go_wp2_with fail
    refine (refHex_any _ xb _ rb8 (by omega)).mono ?_
    rintro e w9 ⟨rfl, hb9⟩
    rw [EX.out]
    have c9 : Below w.heap.size w w9 := c8.trans (hb9.mono c8.size)
    have kx := bytes_string (rd_nil w9)
    rw [sv] at kx
    clear hb9 c8 rb8
    go_wp2
    go_ret
    exact ⟨rfl, c9⟩
end Go.Proofs.YtnbgafcfildhaaaDoor
