/- The law QueueFull walked. -/
import Derived.Test.YtocbmknbmnojkaaQueueQL
import Derived.Test.YtocbmknbmnojkaaHeld
namespace Go.Proofs.Ytocbmknbmnojkaa
open Go.RowKit Go.ChangeShapes

set_option maxRecDepth 20000 in
set_option maxHeartbeats 1000000 in
theorem lawFull (m : Int) (v1 : Value) (x1 : List UInt8) (v2 : Value) (x2 : List UInt8) (hm : (Lit.int .u8 m).wf = true) (h1 : x1.length ≤ maxLen) (h2 : x2.length ≤ maxLen) (w : World) (r1 : Rd w v1 (x1.map bv)) (r2 : Rd w v2 (x2.map bv)) :
    Calls Try.prog 5 #[.int .u8 m, v1, v2] w fun e w' => e = .returned (.bool true) ∧ Below w.heap.size w w' := by
  have hmb := bounds_u8 hm
  obtain ⟨M, rfl⟩ := Int.eq_ofNat_of_zero_le hmb.1
  have hM : M < 256 := by omega
  clear hm hmb
  go_enter Try.func5, Try.ntmps5
  go_wp2_with fail
  refine (shown_any w).mono ?_
  rintro e wa ⟨rfl, hba⟩
  have HBA := Lib.hid hba
  clear hba
  go_wp2_with fail
  refine (QL.new HBA.out (M : Int) (by omega) (by omega)).mono ?_
  rintro e wb ⟨g, rfl, hq⟩
  have HQ := Lib.hid hq
  clear hq HBA
  go_wp2_with fail
  refine (short_any v1 x1 _ (r1.below HQ.out.below) h1).mono ?_
  rintro e wc ⟨va, rfl, ra, hwc⟩
  obtain rfl := hwc
  have ra := ra w r1
  obtain ⟨X, hX⟩ : ∃ X, X = x1.take 60 := ⟨_, rfl⟩
  have lX : X.length ≤ 60 := by rw [hX]; exact List.length_take_le _ _
  rw [← hX] at ra
  have RA := Lib.hid ra
  clear hX ra r1 h1
  go_wp2_with fail
  refine (short_any v2 x2 _ (r2.below HQ.out.below) h2).mono ?_
  rintro e wc ⟨vb, rfl, rb, hwc⟩
  obtain rfl := hwc
  have rb := rb w r2
  obtain ⟨Y, hY⟩ : ∃ Y, Y = x2.take 60 := ⟨_, rfl⟩
  have lY : Y.length ≤ 60 := by rw [hY]; exact List.length_take_le _ _
  rw [← hY] at rb
  have RB := Lib.hid rb
  clear hY rb r2 h2
  obtain ⟨ao, ca, rfl, hca, _⟩ := RA.out.form
  obtain ⟨bo, cb, rfl, hcb, _⟩ := RB.out.form
  obtain ⟨A, hA⟩ : ∃ A, A = X.length := ⟨_, rfl⟩
  obtain ⟨C, hC⟩ : ∃ C, C = Y.length := ⟨_, rfl⟩
  rw [← hA] at RA lX hca ⊢
  rw [← hC] at RB lY hcb ⊢
  have HA := Lib.hid hA
  have HC := Lib.hid hC
  clear hA hC
  by_cases hfit : A ≤ M
  · go_wp2_with fail
    refine (QL.put HQ.out _ X (RA.out.below HQ.out.below) (by rw [← HA.out]; simp; omega) (by rw [← HA.out]; simp; omega)).mono ?_
    rintro e wd ⟨s1, rfl, q1⟩
    rw [List.nil_append] at q1
    have Q1 := Lib.hid q1
    have hdA : ((A : Int) ≤ (M : Int)) = True := eq_true (by omega)
    clear q1 HQ
    go_wp2_with fail
    refine (QL.take Q1.out (A : Int) (k := A) (by rw [← HA.out]; omega) (K := kb X) (by rw [List.drop_zero, HA.out, List.take_length])).mono ?_
    rintro e we ⟨xo, xc, rfl, _, q2⟩
    rw [Nat.zero_add] at q2
    have Q2 := Lib.hid q2
    clear q2 Q1
    obtain ⟨KA, hKA⟩ : ∃ K, K = kb X := ⟨_, rfl⟩
    obtain ⟨KB, hKB⟩ : ∃ K, K = kb Y := ⟨_, rfl⟩
    have sA : KA.size = A := by rw [hKA, kb_size, HA.out]
    have sB : KB.size = C := by rw [hKB, kb_size, HC.out]
    have HKA := Lib.hid hKA
    have HKB := Lib.hid hKB
    clear hKA hKB
    by_cases hfit2 : A + C ≤ M
    · obtain ⟨S, hS⟩ : ∃ S, S = A + C := ⟨_, rfl⟩
      have hd2 : ((S : Int) ≤ (M : Int)) = True := eq_true (by omega)
      have hw1 : IntKind.i64.wrap ((A : Int) + (C : Int)) = (S : Int) := by rw [wraps_i64 _ (by omega) (by omega)]; omega
      have hw2 : IntKind.i64.wrap ((S : Int) - (A : Int)) = (C : Int) := by rw [wraps_i64 _ (by omega) (by omega)]; omega
      have hw0 : IntKind.i64.wrap (M : Int) = (M : Int) := wraps_i64 _ (by omega) (by omega)
      have HS := Lib.hid hS
      clear hS
      go_wp2_with fail
      refine (QL.put Q2.out _ Y (RB.out.below Q2.out.below) (by rw [← HA.out, ← HC.out]; omega) (by rw [← HA.out, ← HC.out]; omega)).mono ?_
      rintro e wf ⟨s2, rfl, q3⟩
      have Q3 := Lib.hid q3
      clear q3 Q2
      have hcA := str_of (RA.out.below Q3.out.below) HKA.out
      have hcB := str_of (RB.out.below Q3.out.below) HKB.out
      have A0 := Q3.out.drew
      have k1 := str_of (RA.out.below A0.below) HKA.out
      have C1 := Lib.hid (fun wr (h : QL w g s2 (M : Int) (X ++ Y) A wr) => h.all (K := KA ++ KB) (n := S) (by rw [HKA.out, HKB.out, kb_append]) (by rw [List.length_append, HS.out, HA.out, HC.out]))
      have C2 := Lib.hid (fun wr (h : QL w g s2 (M : Int) (X ++ Y) A wr) => h.taken (K := KA) (n := A) (by rw [HKA.out, HA.out, List.take_left]) rfl)
      have C3 := Lib.hid (fun wr (h : QL w g s2 (M : Int) (X ++ Y) A wr) => h.len (D := C) (by rw [List.length_append, HA.out, HC.out]; omega))
      have C4 := Lib.hid (fun wr (h : QL w g s2 (M : Int) (X ++ Y) A wr) => str_of (RA.out.below h.below) HKA.out)
      go_wp2
      have sW : (KA ++ KB).size = S := by rw [ByteArray.size_append, sA, sB, HS.out]
      generalize KA ++ KB = KW at *
      clear sB
      refine wp_region_held_drew (S := fun w' => (convert 28 9 (.slice ao A ca)).run Try.prog w' = .ok (.string KA) w') (by kernel_rfl) (by assumption) (fun hH => ?_)
      refine heldTake (i := 0) (v := ?_) rfl (by kernel_rfl) (by kernel_rfl) (fun _ _ _ h => h) (by rfl) (by assumption) (fun w hSw => ?_) ?_; rotate_left; focus ((try dsimp only at hSw); go_simp; try with_reducible rfl)
      try simp only [Act.put, List.setIfInBounds_toArray, List.set_cons_zero, List.set_cons_succ]
      refine heldTake (i := 1) (v := ?_) rfl (by kernel_rfl) (by kernel_rfl) (fun _ _ _ h => h) (by rfl) (by assumption) (fun w hSw => ?_) ?_; rotate_left; focus ((try dsimp only at hSw); go_simp; try with_reducible rfl)
      try simp only [Act.put, List.setIfInBounds_toArray, List.set_cons_zero, List.set_cons_succ]
      refine heldTake (i := 2) (v := ?_) rfl (by kernel_rfl) (by kernel_rfl) (fun _ _ _ h => h) (by rfl) (by assumption) (fun w hSw => ?_) ?_; rotate_left; focus ((try dsimp only at hSw); go_simp; try with_reducible rfl)
      try simp only [Act.put, List.setIfInBounds_toArray, List.set_cons_zero, List.set_cons_succ]
      refine heldTake (i := 3) (v := ?_) rfl (by kernel_rfl) (by kernel_rfl) (fun _ _ _ h => h) (by rfl) (by assumption) (fun w hSw => ?_) ?_; rotate_left; focus ((try dsimp only at hSw); go_simp; try with_reducible rfl)
      try simp only [Act.put, List.setIfInBounds_toArray, List.set_cons_zero, List.set_cons_succ]
      refine heldTake (i := 4) (v := ?_) rfl (by kernel_rfl) (by kernel_rfl) (fun _ _ _ h => h) (by rfl) (by assumption) (fun w hSw => ?_) ?_; rotate_left; focus ((try dsimp only at hSw); go_simp; try with_reducible rfl)
      try simp only [Act.put, List.setIfInBounds_toArray, List.set_cons_zero, List.set_cons_succ]
      refine heldTake (i := 5) (v := ?_) rfl (by kernel_rfl) (by kernel_rfl) (fun _ _ _ h => h) (by rfl) (by assumption) (fun w hSw => ?_) ?_; rotate_left; focus ((try dsimp only at hSw); go_simp; try with_reducible rfl)
      try simp only [Act.put, List.setIfInBounds_toArray, List.set_cons_zero, List.set_cons_succ]
      refine heldTake (i := 6) (v := ?_) rfl (by kernel_rfl) (by kernel_rfl) (fun _ _ _ h => h) (by rfl) (by assumption) (fun w hSw => ?_) ?_; rotate_left; focus ((try dsimp only at hSw); go_simp; try with_reducible rfl)
      try simp only [Act.put, List.setIfInBounds_toArray, List.set_cons_zero, List.set_cons_succ]
      refine heldTake (i := 7) (v := ?_) rfl (by kernel_rfl) (by kernel_rfl) (fun _ _ _ h => h) (by rfl) (by assumption) (fun w hSw => ?_) ?_; rotate_left; focus ((try dsimp only at hSw); go_simp; try with_reducible rfl)
      try simp only [Act.put, List.setIfInBounds_toArray, List.set_cons_zero, List.set_cons_succ]
      refine heldTake (i := 8) (v := ?_) rfl (by kernel_rfl) (by kernel_rfl) (fun _ _ _ h => h) (by rfl) (by assumption) (fun w hSw => ?_) ?_; rotate_left; focus ((try dsimp only at hSw); go_simp; try with_reducible rfl)
      try simp only [Act.put, List.setIfInBounds_toArray, List.set_cons_zero, List.set_cons_succ]
      refine heldTake (i := 9) (v := ?_) rfl (by kernel_rfl) (by kernel_rfl) (fun _ _ _ h => h) (by rfl) (by assumption) (fun w hSw => ?_) ?_; rotate_left; focus ((try dsimp only at hSw); go_simp; try with_reducible rfl)
      try simp only [Act.put, List.setIfInBounds_toArray, List.set_cons_zero, List.set_cons_succ]
      refine heldTake (i := 10) (v := ?_) rfl (by kernel_rfl) (by kernel_rfl) (fun _ _ _ h => h) (by rfl) (by assumption) (fun w hSw => ?_) ?_; rotate_left; focus ((try dsimp only at hSw); go_simp; try with_reducible rfl)
      try simp only [Act.put, List.setIfInBounds_toArray, List.set_cons_zero, List.set_cons_succ]
      refine heldTake (i := 11) (v := ?_) rfl (by kernel_rfl) (by kernel_rfl) (fun _ _ _ h => h) (by rfl) (by assumption) (fun w hSw => ?_) ?_; rotate_left; focus ((try dsimp only at hSw); go_simp; try with_reducible rfl)
      try simp only [Act.put, List.setIfInBounds_toArray, List.set_cons_zero, List.set_cons_succ]
      refine heldTake (i := 14) (v := ?_) rfl (by kernel_rfl) (by kernel_rfl) (fun _ _ _ h => h) (by rfl) (by assumption) (fun w hSw => ?_) ?_; rotate_left; focus ((try dsimp only at hSw); go_simp; try with_reducible rfl)
      try simp only [Act.put, List.setIfInBounds_toArray, List.set_cons_zero, List.set_cons_succ]
      -- NEXT 12 Op.call { callee := Callee.value (Operand.func 21), args := #[Operand.tmp 77], argTypes := #[24] }
      refine heldNext (i := 12) rfl (by kernel_rfl) (by rfl) (fun K hK => ?_)
      go_simp; go_at_call 21; refine (C1.out _ (by assumption)).mono ?_; rintro e w6 ⟨yo, yc, rfl, m1, A1⟩; have s1 := C4.out _ A1; first | (refine hK.out _ _ (by assumption) ?_) | (go_wp2_with fail; refine hK.out _ _ (by assumption) ?_); clear hK K
      try simp only [Act.put, List.setIfInBounds_toArray, List.set_cons_zero, List.set_cons_succ]
      -- NEXT 13 Op.convert 28 9 (Operand.tmp 78)
      refine heldNext (i := 13) rfl (by kernel_rfl) (by rfl) (fun K hK => ?_)
      go_simp; refine hK.out _ _ (by assumption) ?_; clear hK K
      try simp only [Act.put, List.setIfInBounds_toArray, List.set_cons_zero, List.set_cons_succ]
      refine heldTake (i := 15) (v := ?_) rfl (by kernel_rfl) (by kernel_rfl) (fun _ _ _ h => h) (by rfl) (by assumption) (fun w hSw => ?_) ?_; rotate_left; focus ((try dsimp only at hSw); go_simp; try with_reducible rfl)
      try simp only [Act.put, List.setIfInBounds_toArray, List.set_cons_zero, List.set_cons_succ]
      refine heldTake (i := 16) (v := ?_) rfl (by kernel_rfl) (by kernel_rfl) (fun _ _ _ h => h) (by rfl) (by assumption) (fun w hSw => ?_) ?_; rotate_left; focus ((try dsimp only at hSw); go_simp; try with_reducible rfl)
      try simp only [Act.put, List.setIfInBounds_toArray, List.set_cons_zero, List.set_cons_succ]
      refine heldTake (i := 17) (v := ?_) rfl (by kernel_rfl) (by kernel_rfl) (fun _ _ _ h => h) (by rfl) (by assumption) (fun w hSw => ?_) ?_; rotate_left; focus ((try dsimp only at hSw); go_simp; try with_reducible rfl)
      try simp only [Act.put, List.setIfInBounds_toArray, List.set_cons_zero, List.set_cons_succ]
      refine heldTake (i := 18) (v := ?_) rfl (by kernel_rfl) (by kernel_rfl) (fun _ _ _ h => h) (by rfl) (by assumption) (fun w hSw => ?_) ?_; rotate_left; focus ((try dsimp only at hSw); go_simp; try with_reducible rfl)
      try simp only [Act.put, List.setIfInBounds_toArray, List.set_cons_zero, List.set_cons_succ]
      refine heldTake (i := 21) (v := ?_) rfl (by kernel_rfl) (by kernel_rfl) (fun _ _ _ h => h) (by rfl) (by assumption) (fun w hSw => ?_) ?_; rotate_left; focus ((try dsimp only at hSw); go_simp; try with_reducible rfl)
      try simp only [Act.put, List.setIfInBounds_toArray, List.set_cons_zero, List.set_cons_succ]
      refine heldTake (i := 22) (v := ?_) rfl (by kernel_rfl) (by kernel_rfl) (fun _ _ _ h => h) (by rfl) (by assumption) (fun w hSw => ?_) ?_; rotate_left; focus ((try dsimp only at hSw); go_simp; try with_reducible rfl)
      try simp only [Act.put, List.setIfInBounds_toArray, List.set_cons_zero, List.set_cons_succ]
      -- NEXT 19 Op.call { callee := Callee.value (Operand.func 19), args := #[Operand.tmp 84], argTypes := #[24] }
      refine heldNext (i := 19) rfl (by kernel_rfl) (by rfl) (fun K hK => ?_)
      go_simp; go_at_call 19; refine (C2.out _ (by assumption)).mono ?_; rintro e w7 ⟨zo, zc, rfl, m2, A2⟩; have s2 := C4.out _ A2; first | (refine hK.out _ _ (by assumption) ?_) | (go_wp2_with fail; refine hK.out _ _ (by assumption) ?_); clear hK K
      try simp only [Act.put, List.setIfInBounds_toArray, List.set_cons_zero, List.set_cons_succ]
      -- NEXT 20 Op.convert 28 9 (Operand.tmp 85)
      refine heldNext (i := 20) rfl (by kernel_rfl) (by rfl) (fun K hK => ?_)
      go_simp; refine hK.out _ _ (by assumption) ?_; clear hK K
      try simp only [Act.put, List.setIfInBounds_toArray, List.set_cons_zero, List.set_cons_succ]
      refine heldTake (i := 23) (v := ?_) rfl (by kernel_rfl) (by kernel_rfl) (fun _ _ _ h => h) (by rfl) (by assumption) (fun w hSw => ?_) ?_; rotate_left; focus ((try dsimp only at hSw); go_simp; try with_reducible rfl)
      try simp only [Act.put, List.setIfInBounds_toArray, List.set_cons_zero, List.set_cons_succ]
      refine heldTake (i := 24) (v := ?_) rfl (by kernel_rfl) (by kernel_rfl) (fun _ _ _ h => h) (by rfl) (by assumption) (fun w hSw => ?_) ?_; rotate_left; focus ((try dsimp only at hSw); go_simp; try with_reducible rfl)
      try simp only [Act.put, List.setIfInBounds_toArray, List.set_cons_zero, List.set_cons_succ]
      refine heldTake (i := 25) (v := ?_) rfl (by kernel_rfl) (by kernel_rfl) (fun _ _ _ h => h) (by rfl) (by assumption) (fun w hSw => ?_) ?_; rotate_left; focus ((try dsimp only at hSw); go_simp; try with_reducible rfl)
      try simp only [Act.put, List.setIfInBounds_toArray, List.set_cons_zero, List.set_cons_succ]
      refine heldTake (i := 26) (v := ?_) rfl (by kernel_rfl) (by kernel_rfl) (fun _ _ _ h => h) (by rfl) (by assumption) (fun w hSw => ?_) ?_; rotate_left; focus ((try dsimp only at hSw); go_simp; try with_reducible rfl)
      try simp only [Act.put, List.setIfInBounds_toArray, List.set_cons_zero, List.set_cons_succ]
      refine heldTake (i := 28) (v := ?_) rfl (by kernel_rfl) (by kernel_rfl) (fun _ _ _ h => h) (by rfl) (by assumption) (fun w hSw => ?_) ?_; rotate_left; focus ((try dsimp only at hSw); go_simp; try with_reducible rfl)
      try simp only [Act.put, List.setIfInBounds_toArray, List.set_cons_zero, List.set_cons_succ]
      refine heldTake (i := 29) (v := ?_) rfl (by kernel_rfl) (by kernel_rfl) (fun _ _ _ h => h) (by rfl) (by assumption) (fun w hSw => ?_) ?_; rotate_left; focus ((try dsimp only at hSw); go_simp; try with_reducible rfl)
      try simp only [Act.put, List.setIfInBounds_toArray, List.set_cons_zero, List.set_cons_succ]
      refine heldTake (i := 30) (v := ?_) rfl (by kernel_rfl) (by kernel_rfl) (fun _ _ _ h => h) (by rfl) (by assumption) (fun w hSw => ?_) ?_; rotate_left; focus ((try dsimp only at hSw); go_simp; try with_reducible rfl)
      try simp only [Act.put, List.setIfInBounds_toArray, List.set_cons_zero, List.set_cons_succ]
      refine heldTake (i := 31) (v := ?_) rfl (by kernel_rfl) (by kernel_rfl) (fun _ _ _ h => h) (by rfl) (by assumption) (fun w hSw => ?_) ?_; rotate_left; focus ((try dsimp only at hSw); go_simp; try with_reducible rfl)
      try simp only [Act.put, List.setIfInBounds_toArray, List.set_cons_zero, List.set_cons_succ]
      refine heldTake (i := 32) (v := ?_) rfl (by kernel_rfl) (by kernel_rfl) (fun _ _ _ h => h) (by rfl) (by assumption) (fun w hSw => ?_) ?_; rotate_left; focus ((try dsimp only at hSw); go_simp; try with_reducible rfl)
      try simp only [Act.put, List.setIfInBounds_toArray, List.set_cons_zero, List.set_cons_succ]
      -- NEXT 27 Op.call { callee := Callee.value (Operand.func 17), args := #[Operand.tmp 92], argTypes := #[24] }
      refine heldNext (i := 27) rfl (by kernel_rfl) (by rfl) (fun K hK => ?_)
      go_simp; go_at_call 17; refine (C3.out _ (by assumption)).mono ?_; rintro e w8 ⟨rfl, A3⟩; have s3 := C4.out _ A3; first | (refine hK.out _ _ (by assumption) ?_) | (go_wp2_with fail; refine hK.out _ _ (by assumption) ?_); clear hK K
      try simp only [Act.put, List.setIfInBounds_toArray, List.set_cons_zero, List.set_cons_succ]
      refine heldTake (i := 33) (v := ?_) rfl (by kernel_rfl) (by kernel_rfl) (fun _ _ _ h => h) (by rfl) (by assumption) (fun w hSw => ?_) ?_; rotate_left; focus ((try dsimp only at hSw); go_simp; try with_reducible rfl)
      try simp only [Act.put, List.setIfInBounds_toArray, List.set_cons_zero, List.set_cons_succ]
      refine heldTake (i := 34) (v := ?_) rfl (by kernel_rfl) (by kernel_rfl) (fun _ _ _ h => h) (by rfl) (by assumption) (fun w hSw => ?_) ?_; rotate_left; focus ((try dsimp only at hSw); go_simp; try with_reducible rfl)
      try simp only [Act.put, List.setIfInBounds_toArray, List.set_cons_zero, List.set_cons_succ]
      refine heldTake (i := 35) (v := ?_) rfl (by kernel_rfl) (by kernel_rfl) (fun _ _ _ h => h) (by rfl) (by assumption) (fun w hSw => ?_) ?_; rotate_left; focus ((try dsimp only at hSw); go_simp; try with_reducible rfl)
      try simp only [Act.put, List.setIfInBounds_toArray, List.set_cons_zero, List.set_cons_succ]
      refine wpAnyH_done (by kernel_rfl) ?_ _
      have c9 := A3.below
      clear A0 A1 A2 A3 s1 s2 s3 m1 m2 k1 hcA hcB C1 C2 C3 C4
      go_wp2
      go_ret
      exact ⟨rfl, c9⟩
    · obtain ⟨S, hS⟩ : ∃ S, S = A + C := ⟨_, rfl⟩
      have hd2 : ((S : Int) ≤ (M : Int)) = False := eq_false (by omega)
      have hd3 : ((M : Int) < (S : Int)) = True := eq_true (by omega)
      have hd4 : decide ((M : Int) < (S : Int)) = true := decide_eq_true (by omega)
      have hd5 : decide ((S : Int) ≤ (M : Int)) = false := decide_eq_false (by omega)
      have hw1 : IntKind.i64.wrap ((A : Int) + (C : Int)) = (S : Int) := by rw [wraps_i64 _ (by omega) (by omega)]; omega
      have hw2 : IntKind.i64.wrap 0 = 0 := wraps_i64 _ (by omega) (by omega)
      have hw0 : IntKind.i64.wrap (M : Int) = (M : Int) := wraps_i64 _ (by omega) (by omega)
      have hfull : (M : Int) < ((X.length + Y.length : Nat) : Int) := by rw [← HA.out, ← HC.out]; omega
      have HF := Lib.hid hfull
      have HS := Lib.hid hS
      clear hS hfull
      go_wp2_with fail
      refine (QL.full Q2.out _ Y (RB.out.below Q2.out.below) (by rw [← HC.out]; omega) HF.out).mono ?_
      rintro e wf ⟨rfl, q3⟩
      have Q3 := Lib.hid q3
      clear q3 Q2
      have hcA := str_of (RA.out.below Q3.out.below) HKA.out
      have A0 := Q3.out.drew
      have k1 := str_of (RA.out.below A0.below) HKA.out
      have C1 := Lib.hid (fun wr (h : QL w g s1 (M : Int) X A wr) => h.all (K := KA) (n := A) HKA.out HA.out)
      have C2 := Lib.hid (fun wr (h : QL w g s1 (M : Int) X A wr) => h.taken (K := KA) (n := A) (by rw [HKA.out, HA.out, List.take_length]) rfl)
      have C3 := Lib.hid (fun wr (h : QL w g s1 (M : Int) X A wr) => h.len (D := 0) (by rw [← HA.out]; omega))
      have C4 := Lib.hid (fun wr (h : QL w g s1 (M : Int) X A wr) => str_of (RA.out.below h.below) HKA.out)
      go_wp2
      refine wp_region_held_drew (S := fun w' => (convert 28 9 (.slice ao A ca)).run Try.prog w' = .ok (.string KA) w') (by kernel_rfl) (by assumption) (fun hH => ?_)
      refine heldTake (i := 0) (v := ?_) rfl (by kernel_rfl) (by kernel_rfl) (fun _ _ _ h => h) (by rfl) (by assumption) (fun w hSw => ?_) ?_; rotate_left; focus ((try dsimp only at hSw); go_simp; try with_reducible rfl)
      try simp only [Act.put, List.setIfInBounds_toArray, List.set_cons_zero, List.set_cons_succ]
      refine heldTake (i := 1) (v := ?_) rfl (by kernel_rfl) (by kernel_rfl) (fun _ _ _ h => h) (by rfl) (by assumption) (fun w hSw => ?_) ?_; rotate_left; focus ((try dsimp only at hSw); go_simp; try with_reducible rfl)
      try simp only [Act.put, List.setIfInBounds_toArray, List.set_cons_zero, List.set_cons_succ]
      refine heldTake (i := 2) (v := ?_) rfl (by kernel_rfl) (by kernel_rfl) (fun _ _ _ h => h) (by rfl) (by assumption) (fun w hSw => ?_) ?_; rotate_left; focus ((try dsimp only at hSw); go_simp; try with_reducible rfl)
      try simp only [Act.put, List.setIfInBounds_toArray, List.set_cons_zero, List.set_cons_succ]
      refine heldTake (i := 3) (v := ?_) rfl (by kernel_rfl) (by kernel_rfl) (fun _ _ _ h => h) (by rfl) (by assumption) (fun w hSw => ?_) ?_; rotate_left; focus ((try dsimp only at hSw); go_simp; try with_reducible rfl)
      try simp only [Act.put, List.setIfInBounds_toArray, List.set_cons_zero, List.set_cons_succ]
      refine heldTake (i := 4) (v := ?_) rfl (by kernel_rfl) (by kernel_rfl) (fun _ _ _ h => h) (by rfl) (by assumption) (fun w hSw => ?_) ?_; rotate_left; focus ((try dsimp only at hSw); go_simp; try with_reducible rfl)
      try simp only [Act.put, List.setIfInBounds_toArray, List.set_cons_zero, List.set_cons_succ]
      refine heldTake (i := 5) (v := ?_) rfl (by kernel_rfl) (by kernel_rfl) (fun _ _ _ h => h) (by rfl) (by assumption) (fun w hSw => ?_) ?_; rotate_left; focus ((try dsimp only at hSw); go_simp; try with_reducible rfl)
      try simp only [Act.put, List.setIfInBounds_toArray, List.set_cons_zero, List.set_cons_succ]
      refine heldTake (i := 6) (v := ?_) rfl (by kernel_rfl) (by kernel_rfl) (fun _ _ _ h => h) (by rfl) (by assumption) (fun w hSw => ?_) ?_; rotate_left; focus ((try dsimp only at hSw); go_simp; try with_reducible rfl)
      try simp only [Act.put, List.setIfInBounds_toArray, List.set_cons_zero, List.set_cons_succ]
      refine heldTake (i := 7) (v := ?_) rfl (by kernel_rfl) (by kernel_rfl) (fun _ _ _ h => h) (by rfl) (by assumption) (fun w hSw => ?_) ?_; rotate_left; focus ((try dsimp only at hSw); go_simp; try with_reducible rfl)
      try simp only [Act.put, List.setIfInBounds_toArray, List.set_cons_zero, List.set_cons_succ]
      refine heldTake (i := 8) (v := ?_) rfl (by kernel_rfl) (by kernel_rfl) (fun _ _ _ h => h) (by rfl) (by assumption) (fun w hSw => ?_) ?_; rotate_left; focus ((try dsimp only at hSw); go_simp; try with_reducible rfl)
      try simp only [Act.put, List.setIfInBounds_toArray, List.set_cons_zero, List.set_cons_succ]
      refine heldTake (i := 9) (v := ?_) rfl (by kernel_rfl) (by kernel_rfl) (fun _ _ _ h => h) (by rfl) (by assumption) (fun w hSw => ?_) ?_; rotate_left; focus ((try dsimp only at hSw); go_simp; try with_reducible rfl)
      try simp only [Act.put, List.setIfInBounds_toArray, List.set_cons_zero, List.set_cons_succ]
      refine heldTake (i := 10) (v := ?_) rfl (by kernel_rfl) (by kernel_rfl) (fun _ _ _ h => h) (by rfl) (by assumption) (fun w hSw => ?_) ?_; rotate_left; focus ((try dsimp only at hSw); go_simp; try with_reducible rfl)
      try simp only [Act.put, List.setIfInBounds_toArray, List.set_cons_zero, List.set_cons_succ]
      refine heldTake (i := 11) (v := ?_) rfl (by kernel_rfl) (by kernel_rfl) (fun _ _ _ h => h) (by rfl) (by assumption) (fun w hSw => ?_) ?_; rotate_left; focus ((try dsimp only at hSw); go_simp; try with_reducible rfl)
      try simp only [Act.put, List.setIfInBounds_toArray, List.set_cons_zero, List.set_cons_succ]
      refine heldTake (i := 14) (v := ?_) rfl (by kernel_rfl) (by kernel_rfl) (fun _ _ _ h => h) (by rfl) (by assumption) (fun w hSw => ?_) ?_; rotate_left; focus ((try dsimp only at hSw); go_simp; try with_reducible rfl)
      try simp only [Act.put, List.setIfInBounds_toArray, List.set_cons_zero, List.set_cons_succ]
      -- NEXT 12 Op.call { callee := Callee.value (Operand.func 21), args := #[Operand.tmp 77], argTypes := #[24] }
      refine heldNext (i := 12) rfl (by kernel_rfl) (by rfl) (fun K hK => ?_)
      go_simp; go_at_call 21; refine (C1.out _ (by assumption)).mono ?_; rintro e w6 ⟨yo, yc, rfl, m1, A1⟩; have s1 := C4.out _ A1; first | (refine hK.out _ _ (by assumption) ?_) | (go_wp2_with fail; refine hK.out _ _ (by assumption) ?_); clear hK K
      try simp only [Act.put, List.setIfInBounds_toArray, List.set_cons_zero, List.set_cons_succ]
      -- NEXT 13 Op.convert 28 9 (Operand.tmp 78)
      refine heldNext (i := 13) rfl (by kernel_rfl) (by rfl) (fun K hK => ?_)
      go_simp; refine hK.out _ _ (by assumption) ?_; clear hK K
      try simp only [Act.put, List.setIfInBounds_toArray, List.set_cons_zero, List.set_cons_succ]
      refine heldTake (i := 15) (v := ?_) rfl (by kernel_rfl) (by kernel_rfl) (fun _ _ _ h => h) (by rfl) (by assumption) (fun w hSw => ?_) ?_; rotate_left; focus ((try dsimp only at hSw); go_simp; try with_reducible rfl)
      try simp only [Act.put, List.setIfInBounds_toArray, List.set_cons_zero, List.set_cons_succ]
      refine heldTake (i := 16) (v := ?_) rfl (by kernel_rfl) (by kernel_rfl) (fun _ _ _ h => h) (by rfl) (by assumption) (fun w hSw => ?_) ?_; rotate_left; focus ((try dsimp only at hSw); go_simp; try with_reducible rfl)
      try simp only [Act.put, List.setIfInBounds_toArray, List.set_cons_zero, List.set_cons_succ]
      refine heldTake (i := 17) (v := ?_) rfl (by kernel_rfl) (by kernel_rfl) (fun _ _ _ h => h) (by rfl) (by assumption) (fun w hSw => ?_) ?_; rotate_left; focus ((try dsimp only at hSw); go_simp; try with_reducible rfl)
      try simp only [Act.put, List.setIfInBounds_toArray, List.set_cons_zero, List.set_cons_succ]
      refine heldTake (i := 18) (v := ?_) rfl (by kernel_rfl) (by kernel_rfl) (fun _ _ _ h => h) (by rfl) (by assumption) (fun w hSw => ?_) ?_; rotate_left; focus ((try dsimp only at hSw); go_simp; try with_reducible rfl)
      try simp only [Act.put, List.setIfInBounds_toArray, List.set_cons_zero, List.set_cons_succ]
      refine heldTake (i := 21) (v := ?_) rfl (by kernel_rfl) (by kernel_rfl) (fun _ _ _ h => h) (by rfl) (by assumption) (fun w hSw => ?_) ?_; rotate_left; focus ((try dsimp only at hSw); go_simp; try with_reducible rfl)
      try simp only [Act.put, List.setIfInBounds_toArray, List.set_cons_zero, List.set_cons_succ]
      refine heldTake (i := 22) (v := ?_) rfl (by kernel_rfl) (by kernel_rfl) (fun _ _ _ h => h) (by rfl) (by assumption) (fun w hSw => ?_) ?_; rotate_left; focus ((try dsimp only at hSw); go_simp; try with_reducible rfl)
      try simp only [Act.put, List.setIfInBounds_toArray, List.set_cons_zero, List.set_cons_succ]
      -- NEXT 19 Op.call { callee := Callee.value (Operand.func 19), args := #[Operand.tmp 84], argTypes := #[24] }
      refine heldNext (i := 19) rfl (by kernel_rfl) (by rfl) (fun K hK => ?_)
      go_simp; go_at_call 19; refine (C2.out _ (by assumption)).mono ?_; rintro e w7 ⟨zo, zc, rfl, m2, A2⟩; have s2 := C4.out _ A2; first | (refine hK.out _ _ (by assumption) ?_) | (go_wp2_with fail; refine hK.out _ _ (by assumption) ?_); clear hK K
      try simp only [Act.put, List.setIfInBounds_toArray, List.set_cons_zero, List.set_cons_succ]
      -- NEXT 20 Op.convert 28 9 (Operand.tmp 85)
      refine heldNext (i := 20) rfl (by kernel_rfl) (by rfl) (fun K hK => ?_)
      go_simp; refine hK.out _ _ (by assumption) ?_; clear hK K
      try simp only [Act.put, List.setIfInBounds_toArray, List.set_cons_zero, List.set_cons_succ]
      refine heldTake (i := 23) (v := ?_) rfl (by kernel_rfl) (by kernel_rfl) (fun _ _ _ h => h) (by rfl) (by assumption) (fun w hSw => ?_) ?_; rotate_left; focus ((try dsimp only at hSw); go_simp; try with_reducible rfl)
      try simp only [Act.put, List.setIfInBounds_toArray, List.set_cons_zero, List.set_cons_succ]
      refine heldTake (i := 24) (v := ?_) rfl (by kernel_rfl) (by kernel_rfl) (fun _ _ _ h => h) (by rfl) (by assumption) (fun w hSw => ?_) ?_; rotate_left; focus ((try dsimp only at hSw); go_simp; try with_reducible rfl)
      try simp only [Act.put, List.setIfInBounds_toArray, List.set_cons_zero, List.set_cons_succ]
      refine heldTake (i := 25) (v := ?_) rfl (by kernel_rfl) (by kernel_rfl) (fun _ _ _ h => h) (by rfl) (by assumption) (fun w hSw => ?_) ?_; rotate_left; focus ((try dsimp only at hSw); go_simp; try with_reducible rfl)
      try simp only [Act.put, List.setIfInBounds_toArray, List.set_cons_zero, List.set_cons_succ]
      refine heldTake (i := 26) (v := ?_) rfl (by kernel_rfl) (by kernel_rfl) (fun _ _ _ h => h) (by rfl) (by assumption) (fun w hSw => ?_) ?_; rotate_left; focus ((try dsimp only at hSw); go_simp; try with_reducible rfl)
      try simp only [Act.put, List.setIfInBounds_toArray, List.set_cons_zero, List.set_cons_succ]
      refine heldTake (i := 28) (v := ?_) rfl (by kernel_rfl) (by kernel_rfl) (fun _ _ _ h => h) (by rfl) (by assumption) (fun w hSw => ?_) ?_; rotate_left; focus ((try dsimp only at hSw); go_simp; try with_reducible rfl)
      try simp only [Act.put, List.setIfInBounds_toArray, List.set_cons_zero, List.set_cons_succ]
      refine heldTake (i := 29) (v := ?_) rfl (by kernel_rfl) (by kernel_rfl) (fun _ _ _ h => h) (by rfl) (by assumption) (fun w hSw => ?_) ?_; rotate_left; focus ((try dsimp only at hSw); go_simp; try with_reducible rfl)
      try simp only [Act.put, List.setIfInBounds_toArray, List.set_cons_zero, List.set_cons_succ]
      refine heldTake (i := 30) (v := ?_) rfl (by kernel_rfl) (by kernel_rfl) (fun _ _ _ h => h) (by rfl) (by assumption) (fun w hSw => ?_) ?_; rotate_left; focus ((try dsimp only at hSw); go_simp; try with_reducible rfl)
      try simp only [Act.put, List.setIfInBounds_toArray, List.set_cons_zero, List.set_cons_succ]
      refine heldTake (i := 31) (v := ?_) rfl (by kernel_rfl) (by kernel_rfl) (fun _ _ _ h => h) (by rfl) (by assumption) (fun w hSw => ?_) ?_; rotate_left; focus ((try dsimp only at hSw); go_simp; try with_reducible rfl)
      try simp only [Act.put, List.setIfInBounds_toArray, List.set_cons_zero, List.set_cons_succ]
      refine heldTake (i := 32) (v := ?_) rfl (by kernel_rfl) (by kernel_rfl) (fun _ _ _ h => h) (by rfl) (by assumption) (fun w hSw => ?_) ?_; rotate_left; focus ((try dsimp only at hSw); go_simp; try with_reducible rfl)
      try simp only [Act.put, List.setIfInBounds_toArray, List.set_cons_zero, List.set_cons_succ]
      -- NEXT 27 Op.call { callee := Callee.value (Operand.func 17), args := #[Operand.tmp 92], argTypes := #[24] }
      refine heldNext (i := 27) rfl (by kernel_rfl) (by rfl) (fun K hK => ?_)
      go_simp; go_at_call 17; refine (C3.out _ (by assumption)).mono ?_; rintro e w8 ⟨rfl, A3⟩; have s3 := C4.out _ A3; first | (refine hK.out _ _ (by assumption) ?_) | (go_wp2_with fail; refine hK.out _ _ (by assumption) ?_); clear hK K
      try simp only [Act.put, List.setIfInBounds_toArray, List.set_cons_zero, List.set_cons_succ]
      refine heldTake (i := 33) (v := ?_) rfl (by kernel_rfl) (by kernel_rfl) (fun _ _ _ h => h) (by rfl) (by assumption) (fun w hSw => ?_) ?_; rotate_left; focus ((try dsimp only at hSw); go_simp; try with_reducible rfl)
      try simp only [Act.put, List.setIfInBounds_toArray, List.set_cons_zero, List.set_cons_succ]
      refine heldTake (i := 34) (v := ?_) rfl (by kernel_rfl) (by kernel_rfl) (fun _ _ _ h => h) (by rfl) (by assumption) (fun w hSw => ?_) ?_; rotate_left; focus ((try dsimp only at hSw); go_simp; try with_reducible rfl)
      try simp only [Act.put, List.setIfInBounds_toArray, List.set_cons_zero, List.set_cons_succ]
      refine heldTake (i := 35) (v := ?_) rfl (by kernel_rfl) (by kernel_rfl) (fun _ _ _ h => h) (by rfl) (by assumption) (fun w hSw => ?_) ?_; rotate_left; focus ((try dsimp only at hSw); go_simp; try with_reducible rfl)
      try simp only [Act.put, List.setIfInBounds_toArray, List.set_cons_zero, List.set_cons_succ]
      refine wpAnyH_done (by kernel_rfl) ?_ _
      have c9 := A3.below
      clear A0 A1 A2 A3 s1 s2 s3 m1 m2 k1 hcA C1 C2 C3 C4
      go_wp2
      go_ret
      exact ⟨rfl, c9⟩
  · have hdA : ((A : Int) ≤ (M : Int)) = False := eq_false (by omega)
    go_wp2_with fail
    refine (QL.full HQ.out _ X (RA.out.below HQ.out.below) (by rw [← HA.out]; omega) (by rw [← HA.out]; simp; omega)).mono ?_
    rintro e wd ⟨rfl, q1⟩
    have Q1 := Lib.hid q1
    clear q1 HQ hfit
    go_wp2_with fail
    refine (QL.len Q1.out (D := 0) rfl).mono ?_
    rintro e we ⟨rfl, q2⟩
    have Q2 := Lib.hid q2
    clear q2 Q1
    go_wp2_with fail
    refine (QL.total Q2.out (L := 0) rfl).mono ?_
    rintro e wf ⟨rfl, q3⟩
    have Q3 := Lib.hid q3
    clear q3 Q2
    go_wp2_with fail
    refine (QL.all Q3.out (n := 0) rfl rfl).mono ?_
    rintro e wg ⟨xo, xc, rfl, _, q4⟩
    have Q4 := Lib.hid q4.below
    clear q4 Q3
    go_wp2
    go_ret
    exact ⟨rfl, Q4.out⟩
end Go.Proofs.Ytocbmknbmnojkaa
