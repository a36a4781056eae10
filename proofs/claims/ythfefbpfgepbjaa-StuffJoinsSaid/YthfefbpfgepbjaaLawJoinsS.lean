/- The law StuffJoins walked. -/
import Derived.Test.YthfefbpfgepbjaaStuffLaw
import Derived.Test.YthfefbpfgepbjaaRdStr
import Derived.Test.YthfefbpfgepbjaaHeld
import Derived.Test.YthfefbpfgepbjaaToBytes
namespace Go.Proofs.Ythfefbpfgepbjaa
open Go.RowKit

set_option maxHeartbeats 1000000 in
theorem lawJoins (v0 : Value) (x0 : List UInt8) (v1 : Value) (x1 : List UInt8) (h0 : x0.length ≤ maxLen) (h1 : x1.length ≤ maxLen) (w : World) (r0 : Rd w v0 (x0.map bv)) (r1 : Rd w v1 (x1.map bv)) (hm : MX w) :
    Calls Try.prog 5 #[v0, v1] w fun e w' => e = .returned (.bool true) ∧ Below w.heap.size w w' := by
  go_enter Try.func5, Try.ntmps5
  go_wp2_with fail
  refine (shown_any _ hm).mono ?_
  rintro e w1 ⟨rfl, hb1⟩
  have s0 := r0.below hb1
  have s1 := r1.below hb1
  have m1 := hm.below hb1
  clear r0 r1 hm
  go_wp2_with fail
  refine (short_any v0 x0 _ s0 h0).mono ?_
  rintro e w1' ⟨va, rfl, ra, rfl⟩
  replace ra := ra _ s0
  obtain ⟨oo, oc, rfl, _, _⟩ := ra.form
  have la : (x0.take 600).length ≤ 600 := List.length_take_le _ _
  generalize x0.take 600 = xa at ra la ⊢
  obtain ⟨LX, hLX⟩ : ∃ LX, LX = xa.length := ⟨_, rfl⟩
  rw [← hLX] at ra la ⊢
  have HLX := Lib.hid hLX
  clear hLX
  go_wp2_with fail
  refine (whole_any _ xa _ ra (by rw [← HLX.out]; omega)).mono ?_
  rintro e w2 ⟨ao, ac, rfl, rw2, hb2⟩
  have s1' := s1.below hb2
  have m2 := m1.below hb2
  have c2 := hb1.trans (hb2.mono hb1.size)
  have lwa := St.whole_len xa
  rw [← HLX.out] at lwa
  have fwa : St.whole xa = [] ∨ St.ends (St.whole xa) = true := (St.whole_form xa).imp (fun h => h.1) id
  clear s0 s1 m1 ra hb1 hb2
  generalize St.whole xa = A at rw2 lwa fwa ⊢
  obtain ⟨LA, hLA⟩ : ∃ LA, LA = A.length := ⟨_, rfl⟩
  rw [← hLA] at rw2 lwa ⊢
  have HLA := Lib.hid hLA
  clear hLA
  go_wp2_with fail
  refine (short_any v1 x1 _ s1' h1).mono ?_
  rintro e w2' ⟨vb, rfl, rb, rfl⟩
  replace rb := rb _ s1'
  have lb : (x1.take 600).length ≤ 600 := List.length_take_le _ _
  generalize x1.take 600 = B at rb lb ⊢
  clear s1' h0 h1
  obtain ⟨bo, bc, rfl, _, _⟩ := rb.form
  obtain ⟨LB, hLB⟩ : ∃ LB, LB = B.length := ⟨_, rfl⟩
  rw [← hLB] at rb lb ⊢
  have HLB := Lib.hid hLB
  clear hLB
  have hal : Below w2.heap.size w2 (w2.alloc (.cells #[] 5)) := (Below.refl _ _).alloc (Nat.le_refl _) _
  have RA := Lib.hid rw2
  have RB := Lib.hid rb
  have M2 := Lib.hid m2
  have C2 := Lib.hid c2
  have HAL := Lib.hid hal
  clear rw2 rb m2 c2 hal
  go_wp2_with (at_builtin; refine append_u8s rfl (.tmp 15) (.tmp 16) rfl rfl (World.ownsRow_made (base := w2.heap.size) w2 #[] 0 (Nat.le_refl _) (Nat.zero_le _) rfl) (A.map bv) (RA.out.below HAL.out) (bv_cell _) ?ca HAL.out.size ?_)
  case ca => rw [List.length_map, ← HLA.out]; omega
  intro v3 w3 ho3 hg3
  have hb3 := HAL.out.grown hg3 HAL.out.size (fun k hk => by cases hk; exact Nat.le_refl _)
  have HB3 := Lib.hid hb3
  have HO3 := Lib.hid ho3
  clear hg3 ho3 hb3 HAL
  go_wp2_with (at_builtin; refine append_u8s rfl (.tmp 17) (.tmp 18) rfl rfl HO3.out (B.map bv) (RB.out.below HB3.out) (bv_cell _) ?cb HB3.out.size ?_)
  case cb =>
    show A.length + _ ≤ _
    rw [List.length_map, ← HLA.out, ← HLB.out]; omega
  intro v4 w4 ho4 hg4
  have hb4 := HB3.out.grown hg4 HB3.out.size (fun k hk => (HO3.out.lt k hk).1)
  have hr4 := Rd.of_own ho4
  obtain ⟨co, cc, rfl⟩ := own_form ho4
  obtain ⟨LB2, hLB2⟩ : ∃ N, N = (A ++ B).length := ⟨_, rfl⟩
  have hr4 : Rd w4 (.slice co (A.length + B.length) cc) ((A ++ B).map bv) := by rw [List.map_append]; exact hr4
  have hlw : LW w4 w4 := ⟨Below.refl _ _, M2.out.below hb4⟩
  have RB4 := Lib.hid (RB.out.below hb4)
  have RA4 := Lib.hid (RA.out.below hb4)
  have HC4 := Lib.hid (C2.out.trans (hb4.mono C2.out.size))
  have R4 := Lib.hid hr4
  have L4 := Lib.hid hlw
  have HAB := Lib.hid (show (A ++ B).length ≤ 1300 by rw [List.length_append, ← HLA.out, ← HLB.out]; omega)
  clear ho4 hg4 hb4 hr4 hlw HB3 HO3 hLB2
  obtain ⟨KA, hKA⟩ : ∃ K, K = kt (St.put A) := ⟨_, rfl⟩
  obtain ⟨KB, hKB⟩ : ∃ K, K = kt (St.put B) := ⟨_, rfl⟩
  obtain ⟨KD, hKD⟩ : ∃ K, K = kt (St.dots [] A) := ⟨_, rfl⟩
  obtain ⟨KW, hKW⟩ : ∃ K, K = kt (St.whole B) := ⟨_, rfl⟩
  obtain ⟨D, hD⟩ : ∃ N, KD.size = N := ⟨_, rfl⟩
  obtain ⟨NA, hNA⟩ : ∃ N, KA.size = N := ⟨_, rfl⟩
  obtain ⟨NB, hNB⟩ : ∃ N, KB.size = N := ⟨_, rfl⟩
  obtain ⟨WN, hWN⟩ : ∃ N, KW.size = N := ⟨_, rfl⟩
  have hwA : St.whole A = A := by
    rcases fwa with h | h
    · rw [h]; rfl
    · exact St.whole_ends h
  have hda : NA = D + 3 := by
    rw [← hNA, ← hD, hKA, hKD, kt_size, kt_size]; unfold St.put; rw [hwA, List.length_append]; rfl
  have hdb : D ≤ 1204 := by
    rw [← hD, hKD, kt_size]
    have := (St.dots_len A []).2
    rw [← HLA.out] at this
    omega
  have hkb : NB ≤ 1300 := by
    rw [← hNB, hKB, kt_size]
    have := (St.put_len B).2
    rw [← HLB.out] at this
    omega
  have hex : KA.extract 0 D = KD := by
    rw [← hD, hKA, kt_take, hKD, kt_size]; unfold St.put; rw [hwA, List.take_left]
  have hpab : kt (St.put (A ++ B)) = KD ++ KB := by rw [St.put_append fwa, kt_append, hKD, hKB]
  have hdn : D + NB = (KD ++ KB).size := by rw [ByteArray.size_append, hNB, hD]
  have hKWl : KW.data.toList = St.whole B := by rw [hKW]; rfl
  have hWb : (St.whole B).length ≤ 602 := by
    have := St.whole_len B
    rw [← HLB.out] at this
    omega
  have C1 := Lib.hid (fun wr (h : LW w4 wr) => put_text (K := KD ++ KB) (n := D + NB) h R4.out (by have := HAB.out; omega) hpab.symm hdn)
  have CA := Lib.hid (fun wr (h : LW w4 wr) => put_text (K := KA) (n := NA) h RA4.out (by rw [← HLA.out]; omega) hKA hNA.symm)
  have CB := Lib.hid (fun wr (h : LW w4 wr) => put_text (K := KB) (n := NB) h RB4.out (by rw [← HLB.out]; omega) hKB hNB.symm)
  have C2 := Lib.hid (fun wr (h : LW w4 wr) => whole_text (K := KW) (n := WN) h (RB4.out.below h.b) (by rw [← HLB.out]; omega) hKW hWN.symm)
  have C3 := Lib.hid (fun wr v (h : LW w4 wr) (hr : Rd wr v (KW.data.toList.map bv)) => whole_text (K := KW) (n := WN) h (by rw [hKWl] at hr; exact hr) (by omega) (by rw [St.whole_whole]; exact hKW) hWN.symm)
  have C4 := Lib.hid (fun wr v (hr : Rd wr v (KW.data.toList.map bv)) => (sv_ba KW) ▸ bytes_string hr)
  have hNA3 : 3 ≤ NA := by omega
  have hDA : D ≤ NA := by omega
  have hlim : (9223372036854775807 < D + NB) = False := eq_false (by omega)
  have iw : IntKind.i64.wrap ((NA : Int) - 3) = (D : Int) := by rw [wraps_i64 _ (by omega) (by omega)]; omega
  clear hKA hKB hKD hKW hwA hda hpab hdn hKWl hWb fwa RB4 RA4 R4 HAB M2 RA RB
  go_wp2_with fail
  refine (CA.out _ L4.out).mono ?_
  rintro e w5 ⟨xo, xc, rfl, k5, A5⟩
  have L5 := Lib.hid A5
  clear A5 CA L4
  go_wp2_with fail
  refine (CB.out _ L5.out).mono ?_
  rintro e w6 ⟨po, pc, rfl, k6, A6⟩
  have A7 := A6.drew
  clear A6 CB L5 k5
  go_wp2
  refine wp_region_held_drew (S := fun w' => LW w4 w') (by kernel_rfl) (by assumption) (fun hH => ?_)
  -- (the region)
  refine heldTake (i := 0) (v := ?_) rfl (by kernel_rfl) (by kernel_rfl) (fun _ _ _ h => h) (by rfl) (by assumption) (fun w hSw => ?_) ?_; rotate_left; focus ((try dsimp only at hSw); go_simp; try with_reducible rfl)
  try simp only [Act.put, List.setIfInBounds_toArray, List.set_cons_zero, List.set_cons_succ]
  refine heldTake (i := 1) (v := ?_) rfl (by kernel_rfl) (by kernel_rfl) (fun _ _ _ h => h) (by rfl) (by assumption) (fun w hSw => ?_) ?_; rotate_left; focus ((try dsimp only at hSw); go_simp; try with_reducible rfl)
  try simp only [Act.put, List.setIfInBounds_toArray, List.set_cons_zero, List.set_cons_succ]
  refine heldTake (i := 2) (v := ?_) rfl (by kernel_rfl) (by kernel_rfl) (fun _ _ _ h => h) (by rfl) (by assumption) (fun w hSw => ?_) ?_; rotate_left; focus ((try dsimp only at hSw); go_simp; try with_reducible rfl)
  try simp only [Act.put, List.setIfInBounds_toArray, List.set_cons_zero, List.set_cons_succ]
  refine heldTake (i := 5) (v := ?_) rfl (by kernel_rfl) (by kernel_rfl) (fun _ _ _ h => h) (by rfl) (by assumption) (fun w hSw => ?_) ?_; rotate_left; focus ((try dsimp only at hSw); go_simp; try with_reducible rfl)
  try simp only [Act.put, List.setIfInBounds_toArray, List.set_cons_zero, List.set_cons_succ]
  refine heldTake (i := 6) (v := ?_) rfl (by kernel_rfl) (by kernel_rfl) (fun _ _ _ h => h) (by rfl) (by assumption) (fun w hSw => ?_) ?_; rotate_left; focus ((try dsimp only at hSw); go_simp; try with_reducible rfl)
  try simp only [Act.put, List.setIfInBounds_toArray, List.set_cons_zero, List.set_cons_succ]
  refine heldTake (i := 7) (v := ?_) rfl (by kernel_rfl) (by kernel_rfl) (fun _ _ _ h => h) (by rfl) (by assumption) (fun w hSw => ?_) ?_; rotate_left; focus ((try dsimp only at hSw); go_simp; try with_reducible rfl)
  try simp only [Act.put, List.setIfInBounds_toArray, List.set_cons_zero, List.set_cons_succ]
  refine heldTake (i := 8) (v := ?_) rfl (by kernel_rfl) (by kernel_rfl) (fun _ _ _ h => h) (by rfl) (by assumption) (fun w hSw => ?_) ?_; rotate_left; focus ((try dsimp only at hSw); go_simp; try with_reducible rfl)
  try simp only [Act.put, List.setIfInBounds_toArray, List.set_cons_zero, List.set_cons_succ]
  refine heldTake (i := 9) (v := ?_) rfl (by kernel_rfl) (by kernel_rfl) (fun _ _ _ h => h) (by rfl) (by assumption) (fun w hSw => ?_) ?_; rotate_left; focus ((try dsimp only at hSw); go_simp; try with_reducible rfl)
  try simp only [Act.put, List.setIfInBounds_toArray, List.set_cons_zero, List.set_cons_succ]
  refine heldTake (i := 10) (v := ?_) rfl (by kernel_rfl) (by kernel_rfl) (fun _ _ _ h => h) (by rfl) (by assumption) (fun w hSw => ?_) ?_; rotate_left; focus ((try dsimp only at hSw); go_simp; try with_reducible rfl)
  try simp only [Act.put, List.setIfInBounds_toArray, List.set_cons_zero, List.set_cons_succ]
  refine heldTake (i := 11) (v := ?_) rfl (by kernel_rfl) (by kernel_rfl) (fun _ _ _ h => h) (by rfl) (by assumption) (fun w hSw => ?_) ?_; rotate_left; focus ((try dsimp only at hSw); go_simp; try with_reducible rfl)
  try simp only [Act.put, List.setIfInBounds_toArray, List.set_cons_zero, List.set_cons_succ]
  -- NEXT 3 Op.call { callee := Callee.value (Operand.func 11), args := #[Operand.tmp 31], argTypes := #[22] }
  refine heldNext (i := 3) rfl (by kernel_rfl) (by rfl) (fun K hK => ?_)
  go_simp; go_at_call 11; refine (C1.out _ (by assumption)).mono ?_; rintro e w6 ⟨yo, yc, rfl, k6, A6⟩; have z6 := trivial; first | (refine hK.out _ _ (by assumption) ?_) | (go_wp2_with fail; refine hK.out _ _ (by assumption) ?_); clear hK K
  try simp only [Act.put, List.setIfInBounds_toArray, List.set_cons_zero, List.set_cons_succ]
  -- NEXT 4 Op.convert 22 9 (Operand.tmp 32)
  refine heldNext (i := 4) rfl (by kernel_rfl) (by rfl) (fun K hK => ?_)
  go_simp; refine hK.out _ _ (by assumption) ?_; clear hK K
  try simp only [Act.put, List.setIfInBounds_toArray, List.set_cons_zero, List.set_cons_succ]
  refine heldTake (i := 12) (v := ?_) rfl (by kernel_rfl) (by kernel_rfl) (fun _ _ _ h => h) (by rfl) (by assumption) (fun w hSw => ?_) ?_; rotate_left; focus ((try dsimp only at hSw); go_simp; try with_reducible rfl)
  try simp only [Act.put, List.setIfInBounds_toArray, List.set_cons_zero, List.set_cons_succ]
  refine heldTake (i := 13) (v := ?_) rfl (by kernel_rfl) (by kernel_rfl) (fun _ _ _ h => h) (by rfl) (by assumption) (fun w hSw => ?_) ?_; rotate_left; focus ((try dsimp only at hSw); go_simp; try with_reducible rfl)
  try simp only [Act.put, List.setIfInBounds_toArray, List.set_cons_zero, List.set_cons_succ]
  refine heldTake (i := 14) (v := ?_) rfl (by kernel_rfl) (by kernel_rfl) (fun _ _ _ h => h) (by rfl) (by assumption) (fun w hSw => ?_) ?_; rotate_left; focus ((try dsimp only at hSw); go_simp; try with_reducible rfl)
  try simp only [Act.put, List.setIfInBounds_toArray, List.set_cons_zero, List.set_cons_succ]
  refine heldTake (i := 15) (v := ?_) rfl (by kernel_rfl) (by kernel_rfl) (fun _ _ _ h => h) (by rfl) (by assumption) (fun w hSw => ?_) ?_; rotate_left; focus ((try dsimp only at hSw); go_simp; try with_reducible rfl)
  try simp only [Act.put, List.setIfInBounds_toArray, List.set_cons_zero, List.set_cons_succ]
  refine heldTake (i := 19) (v := ?_) rfl (by kernel_rfl) (by kernel_rfl) (fun _ _ _ h => h) (by rfl) (by assumption) (fun w hSw => ?_) ?_; rotate_left; focus ((try dsimp only at hSw); go_simp; try with_reducible rfl)
  try simp only [Act.put, List.setIfInBounds_toArray, List.set_cons_zero, List.set_cons_succ]
  -- NEXT 16 Op.call { callee := Callee.value (Operand.func 13), args := #[Operand.tmp 44], argTypes := #[22] }
  refine heldNext (i := 16) rfl (by kernel_rfl) (by rfl) (fun K hK => ?_)
  go_simp; go_at_call 13; refine (C2.out _ (by assumption)).mono ?_; rintro e w7 ⟨zo, zc, rfl, k7, r7, A7, b7⟩; have z7 := trivial; first | (refine hK.out _ _ (by assumption) ?_) | (go_wp2_with fail; refine hK.out _ _ (by assumption) ?_); clear hK K
  try simp only [Act.put, List.setIfInBounds_toArray, List.set_cons_zero, List.set_cons_succ]
  -- NEXT 17 Op.call { callee := Callee.value (Operand.func 13), args := #[Operand.tmp 45], argTypes := #[22] }
  refine heldNext (i := 17) rfl (by kernel_rfl) (by rfl) (fun K hK => ?_)
  go_simp; go_at_call 13; refine (C3.out _ _ A7 r7).mono ?_; rintro e w8 ⟨uo, uc, rfl, k8, r8, A8, b8⟩; first | (refine hK.out _ _ (by assumption) ?_) | (go_wp2_with fail; refine hK.out _ _ (by assumption) ?_); clear hK K
  refine heldMore (S' := fun w' => LW w4 w' ∧ (convert 22 9 (.slice uo WN uc)).run Try.prog w' = .ok (.string KW) w') (fun _ h => h.1) ?_
  have s8 := And.intro A8 k8
  try simp only [Act.put, List.setIfInBounds_toArray, List.set_cons_zero, List.set_cons_succ]
  refine heldTake (i := 18) (v := ?_) rfl (by kernel_rfl) (by kernel_rfl) (fun _ _ _ h => h) (by rfl) (by assumption) (fun w hSw => ?_) ?_; rotate_left; focus ((try dsimp only at hSw); go_simp; try with_reducible rfl)
  try simp only [Act.put, List.setIfInBounds_toArray, List.set_cons_zero, List.set_cons_succ]
  -- NEXT 20 Op.call { callee := Callee.value (Operand.func 13), args := #[Operand.tmp 48], argTypes := #[22] }
  refine heldNext (i := 20) rfl (by kernel_rfl) (by rfl) (fun K hK => ?_)
  go_simp; go_at_call 13; refine (C2.out _ (And.left (by assumption))).mono ?_; rintro e w9 ⟨vo, vc, rfl, k9, r9, A9, b9⟩; have s9 := And.intro A9 (C4.out _ _ (r8.below b9)); first | (refine hK.out _ _ (by assumption) ?_) | (go_wp2_with fail; refine hK.out _ _ (by assumption) ?_); clear hK K
  try simp only [Act.put, List.setIfInBounds_toArray, List.set_cons_zero, List.set_cons_succ]
  -- NEXT 21 Op.convert 22 9 (Operand.tmp 49)
  refine heldNext (i := 21) rfl (by kernel_rfl) (by rfl) (fun K hK => ?_)
  go_simp; refine hK.out _ _ (by assumption) ?_; clear hK K
  try simp only [Act.put, List.setIfInBounds_toArray, List.set_cons_zero, List.set_cons_succ]
  refine heldTake (i := 22) (v := ?_) rfl (by kernel_rfl) (by kernel_rfl) (fun _ _ _ h => h) (by rfl) (by assumption) (fun w hSw => ?_) ?_; rotate_left; focus ((try dsimp only at hSw); go_simp; try with_reducible rfl)
  try simp only [Act.put, List.setIfInBounds_toArray, List.set_cons_zero, List.set_cons_succ]
  refine heldTake (i := 23) (v := ?_) rfl (by kernel_rfl) (by kernel_rfl) (fun _ _ _ h => h) (by rfl) (by assumption) (fun w hSw => ?_) ?_; rotate_left; focus ((try dsimp only at hSw); go_simp; try with_reducible rfl)
  try simp only [Act.put, List.setIfInBounds_toArray, List.set_cons_zero, List.set_cons_succ]
  refine heldTake (i := 24) (v := ?_) rfl (by kernel_rfl) (by kernel_rfl) (fun _ _ _ h => h) (by rfl) (by assumption) (fun w hSw => ?_) ?_; rotate_left; focus ((try dsimp only at hSw); go_simp; try with_reducible rfl)
  try simp only [Act.put, List.setIfInBounds_toArray, List.set_cons_zero, List.set_cons_succ]
  refine wpAnyH_done (by kernel_rfl) ?_ _
  -- (behind it)
  go_wp2
  go_ret
  exact ⟨rfl, HC4.out.trans (A9.b.mono HC4.out.size)⟩
end Go.Proofs.Ythfefbpfgepbjaa
