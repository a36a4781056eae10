/- The law B64Joins walked. -/
import Derived.Test.YteagmogkhbdabaaB64Law
namespace Go.Proofs.Yteagmogkhbdabaa
open Go.RowKit

theorem lawJoins (v0 : Value) (x0 : List UInt8) (v1 : Value) (x1 : List UInt8) (h0 : x0.length ≤ maxLen) (h1 : x1.length ≤ maxLen) (w : World) (r0 : Rd w v0 (x0.map bv)) (r1 : Rd w v1 (x1.map bv)) :
    Calls Try.prog 5 #[v0, v1] w fun e w' => e = .returned (.bool true) ∧ Below w.heap.size w w' := by
  go_enter Try.func5, Try.ntmps5
  go_wp2_with fail
  refine (shown_any _).mono ?_
  rintro e w1 ⟨rfl, hb1⟩
  have s0 := r0.below hb1
  have s1 := r1.below hb1
  clear r0 r1
  go_wp2_with fail
  refine (short_any v0 x0 _ s0 h0).mono ?_
  rintro e w1' ⟨va, rfl, ra, rfl⟩
  go_wp2_with fail
  refine (short_any v1 x1 _ s1 h1).mono ?_
  rintro e w1' ⟨vb, rfl, rb, rfl⟩
  clear s0 s1
  have la : (x0.take 600).length ≤ 600 := List.length_take_le _ _
  have lb : (x1.take 600).length ≤ 600 := List.length_take_le _ _
  generalize x0.take 600 = xa at ra la
  generalize x1.take 600 = xb at rb lb
  obtain ⟨ao, cap, rfl, hcap, _⟩ := ra.form
  obtain ⟨L, hL⟩ : ∃ L, L = xa.length := ⟨_, rfl⟩
  rw [← hL] at ra la hcap ⊢
  have rc := ra.cut (m := L / 3 * 3) hL (by omega)
  have hcl : (xa.take (L / 3 * 3)).length = L / 3 * 3 := by rw [List.length_take, ← hL]; omega
  generalize xa.take (L / 3 * 3) = xc at rc hcl
  have HL := Lib.hid hL
  have HCL := Lib.hid hcl
  clear hL hcl ra
  have hbn : Below w1.heap.size w1 (w1.alloc (.cells #[] 5)) := (Below.refl _ _).alloc (Nat.le_refl _) _
  have rd := rc.below hbn
  have RC := Lib.hid rc
  have RB := Lib.hid rb
  clear rc rb
  go_wp2_with (at_builtin; refine append_u8s rfl (.tmp 18) (.tmp 19) rfl rfl (World.ownsRow_made (base := w1.heap.size) w1 #[] 0 (Nat.le_refl _) (Nat.zero_le _) rfl) (xc.map bv) rd (bv_cell _) ?ca ?cb ?_)
  case ca => rw [List.length_map, HCL.out]; omega
  case cb => simp
  intro v4 w4 hown4 hg4
  have hb4 : Below w1.heap.size w1 w4 := hbn.grown hg4 (by simp) (fun k hk => by cases hk; exact Nat.le_refl _)
  have rb4 := RB.out.below hb4
  clear hg4 hbn rd
  go_wp2_with (at_builtin; refine append_u8s rfl (.tmp 20) (.tmp 21) rfl rfl hown4 (xb.map bv) rb4 (bv_cell _) ?ca ?cb ?_)
  case ca =>
    simp only [List.length_map]
    rw [HCL.out]; omega
  case cb => exact hb4.size
  intro v5 w5 hown5 hg5
  have hb5 : Below w1.heap.size w1 w5 := hb4.grown hg5 hb4.size (fun k hk => (hown4.lt k hk).1)
  have r5 := Rd.of_own hown5
  have r5 : Rd w5 v5 ((xc ++ xb).map bv) := by simpa using r5
  clear hg5 hown5 hown4 hb4 rb4
  go_wp2_with fail
  refine (putb_any _ _ _ r5 (by rw [List.length_append, HCL.out]; omega)).mono ?_
  rintro e w6 ⟨rfl, hb6⟩
  have c6 : Below w1.heap.size w1 w6 := hb5.trans (hb6.mono hb5.size)
  clear hb5 hb6 r5
  go_wp2_with fail
  refine (putb_any _ _ _ (RC.out.below c6) (by rw [HCL.out]; omega)).mono ?_
  rintro e w7 ⟨rfl, hb7⟩
  have c7 : Below w1.heap.size w1 w7 := c6.trans (hb7.mono c6.size)
  clear hb7 c6
  go_wp2_with fail
  refine (putb_any _ _ _ (RB.out.below c7) (by omega)).mono ?_
  rintro e w8 ⟨rfl, hb8⟩
  have c8 : Below w1.heap.size w1 w8 := c7.trans (hb8.mono c7.size)
  clear hb8 c7
  rw [B64.put_app _ _ (by rw [HCL.out]; omega)]
  obtain ⟨p, hp⟩ : ∃ p : ByteArray, p = ⟨(B64.put xc).toArray⟩ := ⟨_, rfl⟩
  obtain ⟨q, hq⟩ : ∃ q : ByteArray, q = ⟨(B64.put xb).toArray⟩ := ⟨_, rfl⟩
  have e1 : sv (B64.put xc) = .string p := by rw [hp]; rfl
  have e2 : sv (B64.put xb) = .string q := by rw [hq]; rfl
  have e3 : sv (B64.put xc ++ B64.put xb) = .string (p ++ q) := by rw [hp, hq, ByteArray.mk_append_mk]; simp [sv]
  have lp : p.size ≤ 1000 := by
    rw [hp]
    show (B64.put xc).toArray.size ≤ _
    rw [List.size_toArray, B64.put_len, HCL.out]; omega
  have lq : q.size ≤ 1000 := by
    rw [hq]
    show (B64.put xb).toArray.size ≤ _
    rw [List.size_toArray, B64.put_len]; omega
  rw [e1, e2, e3]
  clear e1 e2 e3 hp hq
  go_wp2
  go_ret
  exact ⟨rfl, hb1.trans (c8.mono hb1.size)⟩

end Go.Proofs.Yteagmogkhbdabaa
