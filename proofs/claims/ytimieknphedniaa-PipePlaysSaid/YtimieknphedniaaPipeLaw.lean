/- The document's example, as all statements of the layer have it at their head; '==' of those who wait. -/
import Derived.Test.YtimieknphedniaaPipeRp
import Derived.Test.YtimieknphedniaaPipeD
import Derived.Laws.StructEq
namespace Go.Proofs.Ytimieknphedniaa
open Go.RowKit

theorem wantGuard : Try.prog.eqGuardType Try.prog.depth 31 = false := by kernel_rfl
theorem wantHeld : Try.prog.stoodInHeld 31 = false := by kernel_rfl
theorem want_same (x : Wt) (w : World) : (Op.equalIn 10000 31 x.val x.val).run Try.prog w = .ok true w := by
  obtain ⟨F0, F1, F2, F3, hf, n0, n1, n2, n3, t0, t1, t2, t3, o0, o1, o2, o3⟩ : ∃ F0 F1 F2 F3 : Field, Try.prog.fieldsOf 31 = #[F0, F1, F2, F3] ∧ F0.name ≠ "_" ∧ F1.name ≠ "_" ∧ F2.name ≠ "_" ∧ F3.name ≠ "_" ∧ F0.type = 9 ∧ F1.type = 9 ∧ F2.type = 4 ∧ F3.type = 3 ∧ F0.offset = 0 ∧ F1.offset = 1 ∧ F2.offset = 2 ∧ F3.offset = 3 :=
    ⟨_, _, _, _, by rw [Program.fieldsOf, Try.underlying31], by decide, by decide, by decide, by decide, rfl, rfl, rfl, rfl, rfl, rfl, rfl, rfl⟩
  have hu : Try.prog.underlying 31 = some (.struct (Try.prog.fieldsOf 31)) := by rw [Program.fieldsOf, Try.underlying31]
  have h1 := fun x y w => run_equalIn_int (P := Try.prog) w 9998 3 .i64 .i64 x y Try.underlying3
  have h2 := fun x y w => run_equalIn_string (P := Try.prog) w 9998 9 x y Try.underlying9
  have h3 := fun x y w => run_equalIn_bool (P := Try.prog) w 9998 4 x y Try.underlying4
  have i1 := Try.isAgg3
  have i2 := Try.isAgg9
  have i3 := Try.isAgg4
  unfold Wt.val
  rw [run_equalIn_struct w 9999 31 _ _ hu wantHeld, hf]
  simp [Op.eqFields, n0, n1, n2, n3, t0, t1, t2, t3, o0, o1, o2, o3, part, i1, i2, i3, h1, h2, h3]

theorem shown_any (w : World) : Calls Try.prog 7 #[] w fun e w' => e = .returned (.bool true) ∧ Below w.heap.size w w' := by
  go_enter Try.func7, Try.ntmps7
  go_wp2_with fail
  refine (new_any w).mono ?_
  rintro e w1 ⟨rfl, hb1, hp1⟩
  have HB1 := Lib.hid hb1
  have h2 := push_any hp1 ⟨⟨#[97]⟩, ⟨#[]⟩, false, 0⟩ (by simp)
  unfold Wt.val at h2
  dsimp only [List.nil_append] at h2
  clear hb1 hp1
  go_wp2_with fail
  refine h2.mono ?_
  rintro e w2 ⟨rfl, hp2, ht2⟩
  have HB2 := Lib.hid (HB1.out.trans (ht2.below (fun k hk => Nat.le_of_eq hk.symm) HB1.out.size))
  have h3 := push_any hp2 ⟨⟨#[98]⟩, ⟨#[]⟩, false, 0⟩ (by simp)
  unfold Wt.val at h3
  dsimp only [List.cons_append, List.nil_append] at h3
  clear h2 hp2 ht2
  go_wp2_with fail
  refine h3.mono ?_
  rintro e w3 ⟨rfl, hp3, ht3⟩
  have HB3 := Lib.hid (HB2.out.trans (ht3.below (fun k hk => Nat.le_of_eq hk.symm) HB2.out.size))
  have h4 := reply_goes hp3 1 ⟨#[50, 53, 48]⟩ rfl
  unfold Wt.val repV at h4
  dsimp only at h4
  clear h3 hp3 ht3
  go_wp2_with fail
  refine h4.mono ?_
  rintro e w4 ⟨rfl, hp4, ht4⟩
  have HB4 := Lib.hid (HB3.out.trans (ht4.below (fun k hk => Nat.le_of_eq hk.symm) HB3.out.size))
  obtain ⟨w5, w6, hw5, hw6, hm⟩ := want_made w4 ⟨⟨#[97]⟩, ⟨#[]⟩, false, 0⟩
  have z0 := hm.z0
  have z1 := hm.z1
  have z2 := hm.z2
  have z3 := hm.z3
  have zf := hm.zf
  have hz6 := hm.wb
  have h5 := reply_goes (hp4.next hm.hb) 1 ⟨#[50, 53, 48]⟩ rfl
  unfold Wt.val repV at h5
  dsimp only at h5 hw6
  have HB6 := Lib.hid (HB4.out.trans (hm.hb.mono HB4.out.size))
  have HLT := Lib.hid hp4.lt
  clear h4 hp4 ht4 hm
  go_wp2_with fail
  refine h5.mono ?_
  rintro e w7 ⟨rfl, hp7, ht7⟩
  have HB7 := Lib.hid (HB6.out.trans (ht7.below (fun k hk => Nat.le_of_eq hk.symm) HB6.out.size))
  have hz7 := hz6.apart ht7 (by have := HLT.out; omega)
  clear h5 ht7 hz6 z0 z1 z2 z3 zf hw5 hw6
  obtain ⟨w8, w9, hw8, hw9, hm⟩ := want_made w7 ⟨⟨#[98]⟩, ⟨#[]⟩, false, 0⟩
  have y0 := hm.z0
  have y1 := hm.z1
  have y2 := hm.z2
  have y3 := hm.z3
  have yf := hm.zf
  have x0 := (hz7.next hm.hb).c0
  have x1 := hm.wb.c0
  have h10 := len_any (hp7.next hm.hb)
  have HB9 := Lib.hid (HB7.out.trans (hm.hb.mono HB7.out.size))
  dsimp only at x0 x1 hw9
  have e1 : ((⟨#[97]⟩ : ByteArray).toList == (⟨#[97]⟩ : ByteArray).toList) = true := by rw [Lib.toList_data]; rfl
  have e2 : ((⟨#[98]⟩ : ByteArray).toList == (⟨#[98]⟩ : ByteArray).toList) = true := by rw [Lib.toList_data]; rfl
  clear hz7 hp7 hm
  go_wp2_with (refine h10.mono ?_; rintro e w' ⟨rfl, hw⟩; obtain rfl := hw)
  go_ret
  exact ⟨rfl, HB9.out⟩
end Go.Proofs.Ytimieknphedniaa
