/- The law DigestJoins walked. -/
import Derived.Test.YtnbgafcfildhaaaDoorLawHexD
namespace Go.Proofs.YtnbgafcfildhaaaDoor
open Go.RowKit

theorem sv_join (a b : List UInt8) : ∃ p q : ByteArray, sv a = .string p ∧ sv b = .string q ∧ sv (a ++ b) = .string (p ++ q) ∧ p.data.toList = a ∧ q.data.toList = b :=
  ⟨⟨a.toArray⟩, ⟨b.toArray⟩, rfl, rfl, by rw [ByteArray.mk_append_mk]; simp [sv], rfl, rfl⟩

set_option maxHeartbeats 400000 in
theorem lawJoinsD (v0 : Value) (x0 : List UInt8) (v1 : Value) (x1 : List UInt8) (h0 : x0.length ≤ maxLen) (h1 : x1.length ≤ maxLen) (w : World) (r0 : Rd w v0 (x0.map bv)) (r1 : Rd w v1 (x1.map bv)) (ht : TBL w) :
    Calls Tryd.prog 7 #[v0, v1] w fun e w' => e = .returned (.bool true) ∧ Below w.heap.size w w' := by
  go_enter Tryd.func7, Tryd.ntmps7
  go_wp2_with fail
  refine (shown_any _ ht).mono ?_
  rintro e w1 ⟨rfl, hb1⟩
  have s0 := r0.below hb1
  have s1 := r1.below hb1
  clear r0 r1 ht
  go_wp2_with fail
  refine (short_any v0 x0 _ s0 h0).mono ?_
  rintro e w1' ⟨va, rfl, ra, rfl⟩
  go_wp2_with fail
  refine (short_any v1 x1 _ s1 h1).mono ?_
  rintro e w1' ⟨vb, rfl, rb, rfl⟩
  clear s0 s1
  have la : (x0.take 600).length ≤ 600 := List.length_take_le _ _
  have lb : (x1.take 600).length ≤ 600 := List.length_take_le _ _
  generalize x0.take 600 = xa at ra la
  generalize x1.take 600 = xb at rb lb
  have hbn : Below w1.heap.size w1 (w1.alloc (.cells #[] 5)) := (Below.refl _ _).alloc (Nat.le_refl _) _
  have ran := ra.below hbn
  have RA := Lib.hid ra
  have RB := Lib.hid rb
  clear ra rb
  go_wp2_with (at_builtin; refine append_u8s rfl (.tmp 14) (.tmp 15) rfl rfl (World.ownsRow_made (base := w1.heap.size) w1 #[] 0 (Nat.le_refl _) (Nat.zero_le _) rfl) (xa.map bv) ran (bv_cell _) ?ca ?cb ?_)
  case ca => rw [List.length_map]; omega
  case cb => simp
  intro v4 w4 hown4 hg4
  have hb4 : Below w1.heap.size w1 w4 := hbn.grown hg4 (by simp) (fun k hk => by cases hk; exact Nat.le_refl _)
  have rb4 := RB.out.below hb4
  clear hg4 hbn ran
  go_wp2_with (at_builtin; refine append_u8s rfl (.tmp 16) (.tmp 17) rfl rfl hown4 (xb.map bv) rb4 (bv_cell _) ?ca ?cb ?_)
  case ca =>
    simp only [List.length_map]
    omega
  case cb => exact hb4.size
  intro v5 w5 hown5 hg5
  have hb5 : Below w1.heap.size w1 w5 := hb4.grown hg5 hb4.size (fun k hk => (hown4.lt k hk).1)
  have r5 := Rd.of_own hown5
  have r5 : Rd w5 v5 ((xa ++ xb).map bv) := by simpa using r5
  clear hg5 hown5 hown4 hb4 rb4
  go_wp2_with fail
  refine (hexb_any _ xa _ (RA.out.below hb5) (by omega)).mono ?_
  rintro e w6 ⟨rfl, hb6⟩
  have c6 : Below w1.heap.size w1 w6 := hb5.trans (hb6.mono hb5.size)
  have r6 := r5.below hb6
  clear hb5 hb6 r5
  go_wp2_with fail
  refine (hexb_any _ xb _ (RB.out.below c6) (by omega)).mono ?_
  rintro e w7 ⟨rfl, hb7⟩
  have c7 : Below w1.heap.size w1 w7 := c6.trans (hb7.mono c6.size)
  have r7 := r6.below hb7
  clear hb7 c6 r6
  obtain ⟨p, q, e1, e2, e3, hp, hq⟩ := sv_join (Md5.hex xa) (Md5.hex xb)
  rw [← Md5.hex_app] at e3
  have lp : p.size ≤ 1200 := by rw [Lib.size_eq, hp, Md5.hex_len]; omega
  have lq : q.size ≤ 1200 := by rw [Lib.size_eq, hq, Md5.hex_len]; omega
  have hpq : (p ++ q).data.toList = Md5.hex (xa ++ xb) := by
    have : (p ++ q).data.toList = p.data.toList ++ q.data.toList := by simp
    rw [this, hp, hq, Md5.hex_app]
  rw [e1, e2]
  have E1 := Lib.hid e1
  have E2 := Lib.hid e2
  have E3 := Lib.hid e3
  clear e1 e2 e3 hp hq
  have hu := unhexb_yes (p ++ q) (xa ++ xb) w7 (by rw [ByteArray.size_append']; omega) hpq
  clear hpq
  go_wp2_with fail
  refine hu.mono ?_
  clear hu
  rintro e w8 ⟨vx, rfl, rx, hb8⟩
  have c8 : Below w1.heap.size w1 w8 := c7.trans (hb8.mono c7.size)
  have r8 := r7.below hb8
  clear hb8 c7 r7
  go_wp2_with fail
  refine (hexb_any _ (xa ++ xb) _ r8 (by rw [List.length_append]; omega)).mono ?_
  rintro e w9 ⟨rfl, hb9⟩
  rw [E3.out]
  have c9 : Below w1.heap.size w1 w9 := c8.trans (hb9.mono c8.size)
  have r9 := r8.below hb9
  have x9 := rx.below hb9
  clear hb9 c8 r8 rx
  go_wp2_with fail
  refine (hexb_any _ xa _ (RA.out.below c9) (by omega)).mono ?_
  rintro e w10 ⟨rfl, hb10⟩
  rw [E1.out]
  have c10 : Below w1.heap.size w1 w10 := c9.trans (hb10.mono c9.size)
  have r10 := r9.below hb10
  have x10 := x9.below hb10
  clear hb10 c9 r9 x9
  go_wp2_with fail
  refine (hexb_any _ xb _ (RB.out.below c10) (by omega)).mono ?_
  rintro e w11 ⟨rfl, hb11⟩
  rw [E2.out]
  have c11 : Below w1.heap.size w1 w11 := c10.trans (hb11.mono c10.size)
  have k1 := bytes_string (r10.below hb11)
  have k2 := bytes_string (x10.below hb11)
  obtain ⟨Y, hY⟩ : ∃ Y : ByteArray, Y = ⟨(xa ++ xb).toArray⟩ := ⟨_, rfl⟩
  have eY : sv (xa ++ xb) = .string Y := by rw [hY]; rfl
  rw [eY] at k1 k2
  clear hb11 c10 r10 x10 hY eY
  go_wp2
  go_ret
  exact ⟨rfl, hb1.trans (c11.mono hb1.size)⟩
end Go.Proofs.YtnbgafcfildhaaaDoor
