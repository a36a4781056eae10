/- The law TextAll walked. -/
import Derived.Test.YteplkldkobaoaaaDoorRef01b
import Derived.OpenShut
namespace Go.Proofs.YteplkldkobaoaaaDoor
open Go.RowKit

/-- What stays through the last statement. -/
structure KK (W0 : World) (B : Nat) (n1 : Int) (w : World) : Prop where
  mx : MX w
  tb : TB w
  c1 : w.cell? ⟨B, 1, none⟩ = some (.int .i64 n1)
  below : Below W0.heap.size W0 w
theorem KK.next {W0 w w' : World} {B : Nat} {n1 : Int} (h : KK W0 B n1 w) (hb : Below w.heap.size w w') : KK W0 B n1 w' :=
  ⟨h.mx.below hb, h.tb.below hb, (hb.cell (World.block_lt_of_cell? _ _ h.c1)).trans h.c1, h.below.trans (hb.mono h.below.size)⟩

theorem k_upper {W0 : World} {B : Nat} {n1 : Int} {s : ByteArray} {us : List UInt8} (h : us = Tx.up s.data.toList) (hs : s.size ≤ 1048576) : ∀ w, KK W0 B n1 w → Calls Tryd.prog 12 #[.string s] w fun e w' => e = .returned (.string ⟨us.toArray⟩) ∧ KK W0 B n1 w' := by
  intro w hK
  refine (upper_at h w hs).mono ?_
  rintro e w' ⟨rfl, hb⟩
  exact ⟨rfl, hK.next hb⟩

theorem k_ref_upper {W0 : World} {B : Nat} {n1 : Int} {s : ByteArray} {us : List UInt8} (h : us = Tx.up s.data.toList) (hs : s.size ≤ 1048576) : ∀ w, KK W0 B n1 w → Calls Tryd.prog 13 #[.string s] w fun e w' => e = .returned (.string ⟨us.toArray⟩) ∧ KK W0 B n1 w' := by
  intro w hK
  refine (ref_upper_at h w hs).mono ?_
  rintro e w' ⟨rfl, hb⟩
  exact ⟨rfl, hK.next hb⟩

theorem k_plain {W0 : World} {B : Nat} {n1 : Int} {s : ByteArray} {b : Bool} (h : Tx.plain s.data.toList = b) : ∀ w, KK W0 B n1 w → Calls Tryd.prog 14 #[.string s] w fun e w' => e = .returned (.bool b) ∧ KK W0 B n1 w' := by
  intro w hK
  refine (plain_at h w).mono ?_
  rintro e w' ⟨rfl, hb⟩
  exact ⟨rfl, hK.next hb⟩

theorem k_ref_plain {W0 : World} {B : Nat} {n1 : Int} {s : ByteArray} {b : Bool} (h : Tx.plain s.data.toList = b) (hs : s.size ≤ 1048576) : ∀ w, KK W0 B n1 w → Calls Tryd.prog 15 #[.string s] w fun e w' => e = .returned (.bool b) ∧ KK W0 B n1 w' := by
  intro w hK
  refine (ref_plain s w hs).mono ?_
  rintro e w' ⟨rfl, hb⟩
  exact ⟨by rw [h], by rw [← hb]; exact hK⟩

theorem k_digits {W0 : World} {B : Nat} {n1 : Int} {d : List UInt8} (h : d = Lib.itoa n1) (h0 : -9223372036854775808 ≤ n1) (h1 : n1 ≤ 9223372036854775807) : ∀ w, KK W0 B n1 w → Calls Tryd.prog 16 #[.int .i64 n1] w fun e w' => e = .returned (.string ⟨d.toArray⟩) ∧ KK W0 B n1 w' := by
  intro w hK
  refine (digits_any n1 w hK.tb h0 h1).mono ?_
  rintro e w' ⟨rfl, hb⟩
  exact ⟨by rw [h], hK.next hb⟩

theorem k_ref_digits {W0 : World} {B : Nat} {n1 : Int} {d : List UInt8} (h : d = Lib.itoa n1) (h0 : -9223372036854775808 ≤ n1) (h1 : n1 ≤ 9223372036854775807) : ∀ w, KK W0 B n1 w → Calls Tryd.prog 17 #[.int .i64 n1] w fun e w' => e = .returned (.string ⟨d.toArray⟩) ∧ KK W0 B n1 w' := by
  intro w hK
  refine (ref_digits n1 w h0 h1).mono ?_
  rintro e w' ⟨rfl, hb⟩
  exact ⟨by rw [h], by rw [← hb]; exact hK⟩

theorem k_has {W0 : World} {B : Nat} {n1 : Int} {s p : ByteArray} {c : Bool} (h : c = Tx.has s.data.toList p.data.toList) (hs : s.size ≤ 1048576) (hp : p.size ≤ 1048576) : ∀ w, KK W0 B n1 w → Calls Tryd.prog 18 #[.string s, .string p] w fun e w' => e = .returned (.bool c) ∧ KK W0 B n1 w' := by
  intro w hK
  refine (has_of h w hK.mx hs hp).mono ?_
  rintro e w' ⟨rfl, hb⟩
  exact ⟨rfl, hK.next hb⟩

theorem k_ref_has {W0 : World} {B : Nat} {n1 : Int} {s p : ByteArray} {c : Bool} (h : c = Tx.has s.data.toList p.data.toList) (hs : s.size ≤ 1048576) (hp : p.size ≤ 1048576) : ∀ w, KK W0 B n1 w → Calls Tryd.prog 19 #[.string s, .string p] w fun e w' => e = .returned (.bool c) ∧ KK W0 B n1 w' := by
  intro w hK
  refine (ref_has s p w hs hp).mono ?_
  rintro e w' ⟨rfl, hb⟩
  exact ⟨by rw [h], hK.next hb⟩

theorem number_at {s : ByteArray} {most a : Int} {ok : Bool} (h : Tx.number s.data.toList most = (a, ok)) (w : World) (hs : s.size ≤ 1048576) :
    Calls Tryd.prog 7 #[.string s, .int .i64 most] w fun e w' => e = .returned (.tuple #[.int .i64 a, .bool ok]) ∧ Below w.heap.size w w' := by
  refine (number_any s most w hs).mono ?_
  rintro e w' ⟨rfl, hb⟩
  rw [h]
  exact ⟨rfl, hb⟩

theorem ref_number_at {s : ByteArray} {most a : Int} {ok : Bool} (h : Tx.number s.data.toList most = (a, ok)) (w : World) (hs : s.size ≤ 1048576) :
    Calls Tryd.prog 8 #[.string s, .int .i64 most] w fun e w' => e = .returned (.tuple #[.int .i64 a, .bool ok]) ∧ w = w' := by
  refine (ref_number s most w hs).mono ?_
  rintro e w' ⟨rfl, hb⟩
  rw [h]
  exact ⟨rfl, hb⟩

set_option maxHeartbeats 4000000 in
theorem lawAll (a0 a1 : ByteArray) (n0 n1 : Int) (w0 : a0.size ≤ maxLen) (w1 : a1.size ≤ maxLen) (h0 : -9223372036854775808 ≤ n1) (h1 : n1 ≤ 9223372036854775807) (w : World) (hm : MX w) (ht : TB w) :
    Calls Tryd.prog 3 #[.string a0, .string a1, .agg #[.int .i64 n0, .int .i64 n1]] w fun e w' => e = .returned (.bool true) ∧ Below w.heap.size w w' := by
  have hs0 := shortOf_le a0
  have ht0 := shortOf_le a1
  have hs := fun w => short_any a0 w w0
  have hp := fun w => short_any a1 w w1
  generalize shortOf a0 = s at hs0 hs
  generalize shortOf a1 = p at ht0 hp
  have HS := Lib.hid hs
  have HP := Lib.hid hp
  clear hs hp
  obtain ⟨a, ok, hN⟩ : ∃ a ok, Tx.number s.data.toList n0 = (a, ok) := ⟨_, _, rfl⟩
  have HN := Lib.hid hN
  clear hN
  have hba : Below w.heap.size w (w.alloc (.cells #[.int .i64 n0, .int .i64 n1] 22)) := (Below.refl _ _).alloc (Nat.le_refl _) _
  go_enter Tryd.func3, Tryd.ntmps3
  go_wp2_with fail
  refine (shown_any _).mono ?_
  rintro e w2 ⟨rfl, hb1⟩
  have K2 : KK w w.heap.size n1 w2 := ⟨(hm.below hba).below hb1, (ht.below hba).below hb1, (hb1.cell (by simp)).trans (by simp), hba.trans (hb1.mono hba.size)⟩
  have k0 : w2.cell? ⟨w.heap.size, 0, none⟩ = some (.int .i64 n0) := (hb1.cell (by simp)).trans (by simp)
  clear hm ht hba hb1
  go_wp2_with fail
  refine (HS.out _).mono ?_
  rintro e w2' ⟨rfl, rfl⟩
  go_wp2_with fail
  refine (HP.out _).mono ?_
  rintro e w2' ⟨rfl, rfl⟩
  go_wp2_with fail
  refine (number_at HN.out _ (by omega)).mono ?_
  rintro e w3 ⟨rfl, hb3⟩
  have K3 := K2.next hb3
  have k3 := (hb3.cell (World.block_lt_of_cell? _ _ k0)).trans k0
  clear K2 k0 hb3
  go_wp2_with fail
  refine (ref_number_at HN.out _ (by omega)).mono ?_
  rintro e w3' ⟨rfl, rfl⟩
  go_wp2_with fail
  refine (words_any s _ (by omega)).mono ?_
  rintro e w4 ⟨v1, rfl, hown1, hb4⟩
  have K4 := K3.next hb4
  have hr1 := Rd.of_own hown1
  clear hown1 hb4 K3 k3
  go_wp2_with fail
  refine (ref_words s _ (by omega)).mono ?_
  rintro e w5 ⟨v2, rfl, hown2, hb5⟩
  have K5 := K4.next hb5
  have hr2 := Rd.of_own hown2
  have hr1b := hr1.below hb5
  clear hown2 hb5 K4 hr1
  go_wp2_with fail
  refine (same_any _ _ _ _ _ hr1b hr2).mono ?_
  rintro e w6 ⟨rfl, hb6⟩
  rw [show (Tx.words s.data.toList == Tx.words s.data.toList) = true from by simp]
  have K6 := K5.next hb6
  clear hr1b hr2 hb6 K5
  have e1 : (a == a) = true := by simp
  have e2 : (ok == ok) = true := by simp
  go_wp2_with fail
  obtain ⟨us, hus⟩ : ∃ us, us = Tx.up s.data.toList := ⟨_, rfl⟩
  obtain ⟨b, hb⟩ : ∃ b, Tx.plain s.data.toList = b := ⟨_, rfl⟩
  obtain ⟨c, hc⟩ : ∃ c, c = Tx.has s.data.toList p.data.toList := ⟨_, rfl⟩
  obtain ⟨d, hd⟩ : ∃ d, d = Lib.itoa n1 := ⟨_, rfl⟩
  have C1 := Lib.hid (k_upper (W0 := w) (B := w.heap.size) (n1 := n1) hus (by omega))
  have C2 := Lib.hid (k_ref_upper (W0 := w) (B := w.heap.size) (n1 := n1) hus (by omega))
  have C3 := Lib.hid (k_plain (W0 := w) (B := w.heap.size) (n1 := n1) hb)
  have C4 := Lib.hid (k_ref_plain (W0 := w) (B := w.heap.size) (n1 := n1) hb (by omega))
  have C5 := Lib.hid (k_digits (W0 := w) (B := w.heap.size) hd h0 h1)
  have C6 := Lib.hid (k_ref_digits (W0 := w) (B := w.heap.size) hd h0 h1)
  have C7 := Lib.hid (k_has (W0 := w) (B := w.heap.size) (n1 := n1) hc (by omega) (by omega))
  have C8 := Lib.hid (k_ref_has (W0 := w) (B := w.heap.size) (n1 := n1) hc (by omega) (by omega))
  have e3 : (us == us) = true := by simp
  have e4 : (b == b) = true := by simp
  have e5 : (d == d) = true := by simp
  have e6 : (c == c) = true := by simp
  have K7 : KK w w.heap.size n1 w6.drew := K6.next ((Below.refl _ _).drew)
  have q1 := K6.c1
  clear hus hb hc hd hs0 ht0 K6
  go_region_held3 (fun w' => w'.cell? ⟨w.heap.size, 1, none⟩ = some (.int .i64 n1)) (first | go_keep | assumption)
    (first
      | (go_at_call 12; refine (C1.out _ (by assumption)).mono ?_; rintro e wa ⟨rfl, hka⟩; have hca := hka.c1)
      | (go_at_call 13; refine (C2.out _ (by assumption)).mono ?_; rintro e wb ⟨rfl, hkb⟩; have hcb := hkb.c1)
      | (go_at_call 14; refine (C3.out _ (by assumption)).mono ?_; rintro e wc ⟨rfl, hkc⟩; have hcc := hkc.c1)
      | (go_at_call 15; refine (C4.out _ (by assumption)).mono ?_; rintro e wd ⟨rfl, hkd⟩; have hcd := hkd.c1)
      | (go_at_call 16; refine (C5.out _ (by assumption)).mono ?_; rintro e we ⟨rfl, hke⟩; have hce := hke.c1)
      | (go_at_call 17; refine (C6.out _ (by assumption)).mono ?_; rintro e wf ⟨rfl, hkf⟩; have hcf := hkf.c1)
      | (go_at_call 18; refine (C7.out _ (by assumption)).mono ?_; rintro e wg ⟨rfl, hkg⟩; have hcg := hkg.c1)
      | (go_at_call 19; refine (C8.out _ (by assumption)).mono ?_; rintro e wh ⟨rfl, hkh⟩; have hch := hkh.c1))
  go_wp2
  go_ret
  exact ⟨rfl, by first | exact hkh.below | exact (KK.below (by assumption))⟩

theorem lawAll_row (a0 a1 : ByteArray) (n0 n1 : Int) (w0 : a0.size ≤ maxLen) (w1 : a1.size ≤ maxLen) (_h0 : (Lit.int .i64 n0).wf = true) (h1 : (Lit.int .i64 n1).wf = true) (w : World) (hm : MX w) (ht : TB w) :
    Calls Tryd.prog 3 #[.string a0, .string a1, .agg #[.int .i64 n0, .int .i64 n1]] w fun e w' => e = .returned (.bool true) ∧ Below w.heap.size w w' := by
  have hb := bounds_i64 h1
  exact lawAll a0 a1 n0 n1 w0 w1 hb.1 hb.2 w hm ht

end Go.Proofs.YteplkldkobaoaaaDoor
