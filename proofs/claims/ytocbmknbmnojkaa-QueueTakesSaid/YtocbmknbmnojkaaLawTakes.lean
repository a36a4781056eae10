/- The law QueueTakes walked. -/
import Derived.Test.YtocbmknbmnojkaaQueueQL
import Derived.Test.YtocbmknbmnojkaaHeld
import Derived.Test.YtocbmknbmnojkaaOpenRows
namespace Go.Proofs.Ytocbmknbmnojkaa
open Go.RowKit Go.ChangeShapes

set_option maxRecDepth 20000 in
set_option maxHeartbeats 1000000 in
theorem lawTakes (v1 : Value) (x1 : List UInt8) (v2 : Value) (ys : List Int) (h1 : x1.length ≤ maxLen) (h2 : ys.length ≤ maxLen) (hwf : ∀ y ∈ ys, (Lit.int .i64 y).wf = true) (w : World) (r1 : Rd w v1 (x1.map bv)) (r2 : RdN 1 w v2 (ys.map fun y => [.int .i64 y])) :
    Calls Try.prog 7 #[v1, v2] w fun e w' => e = .returned (.bool true) ∧ Below w.heap.size w w' := by
  obtain ⟨lo, cl, rfl, hcl, hll⟩ := r2.form
  rw [List.length_map] at hcl hll ⊢
  obtain ⟨L2, hL2⟩ : ∃ L, L = ys.length := ⟨_, rfl⟩
  rw [← hL2] at h2 hcl hll ⊢
  have HLL := Lib.hid hll
  have HWF := Lib.hid hwf
  have HL2 := Lib.hid hL2
  unfold maxLen at h2
  clear hll hwf hL2 r2
  go_enter Try.func7, Try.ntmps7
  go_wp2_with fail
  refine (shown_any w).mono ?_
  rintro e wa ⟨rfl, hba⟩
  have HBA := Lib.hid hba
  clear hba
  go_wp2_with fail
  refine (QL.new HBA.out 100 (by omega) (by omega)).mono ?_
  rintro e wb ⟨g, rfl, hq⟩
  have HQ := Lib.hid hq
  clear hq HBA
  go_wp2_with fail
  refine (short_any v1 x1 _ (r1.below HQ.out.below) h1).mono ?_
  rintro e wc ⟨va, rfl, ra, hwc⟩
  obtain rfl := hwc
  have ra := ra w r1
  obtain ⟨X, hX⟩ : ∃ X, X = x1.take 60 := ⟨_, rfl⟩
  have lX : X.length ≤ 60 := by rw [hX]; exact List.length_take_le _ _
  rw [← hX] at ra
  have RA := Lib.hid ra
  clear hX ra r1 h1
  obtain ⟨ao, ca, rfl, hca, _⟩ := RA.out.form
  obtain ⟨A, hA⟩ : ∃ A, A = X.length := ⟨_, rfl⟩
  rw [← hA] at RA lX hca ⊢
  have HA := Lib.hid hA
  clear hA
  go_wp2_with fail
  refine (QL.put HQ.out _ X (RA.out.below HQ.out.below) (by rw [← HA.out]; simp; omega) (by rw [← HA.out]; simp; omega)).mono ?_
  rintro e wd ⟨s1, rfl, q1⟩
  rw [List.nil_append] at q1
  have Q1 := Lib.hid q1
  clear q1 HQ
  go_wp2
  go_loopw [7, 8] (fun a i wr => ∃ T k : Nat, k ≤ L2 ∧ k ≤ 10 ∧ T ≤ A ∧ a = .int .i64 T ∧ i = .int .i64 k ∧ Hid (QL w g s1 100 X T wr)) (fun _ i _ => 10 - (intOf i).toNat)
  case atStart => exact ⟨0, 0, by omega, by omega, by omega, rfl, rfl, Q1.out⟩
  case round =>
    obtain ⟨T, k, hk, hk10, hT, rfl, rfl, HQ⟩ := hrel
    by_cases hgo : k < L2 ∧ k < 10
    · obtain ⟨hlt, hlt10⟩ := hgo
      obtain ⟨b, o, rfl, hm, hcell⟩ := HLL.out (by omega)
      obtain ⟨n0, hn0⟩ : ∃ n0, ys[k]? = some n0 := ⟨_, List.getElem?_eq_getElem (by rw [← HL2.out]; exact hlt)⟩
      have hc0 := hcell k [.int .i64 n0] (by rw [List.getElem?_map, hn0]; rfl) 0 _ rfl
      have hcr := (HQ.out.below.cell (World.block_lt_of_cell? w _ hc0)).trans hc0
      rw [Nat.mul_one, Nat.add_zero] at hcr
      have hwn := bounds_i64 (HWF.out n0 (List.mem_of_getElem? hn0))
      obtain ⟨P, hP⟩ : ∃ P, P = (max n0 0).toNat := ⟨_, rfl⟩
      obtain ⟨D, hD⟩ : ∃ D, D = A - T := ⟨_, rfl⟩
      obtain ⟨k1, hk1⟩ : ∃ k1, k1 = min P D := ⟨_, rfl⟩
      obtain ⟨D1, hD1⟩ : ∃ D1, D1 = D - k1 := ⟨_, rfl⟩
      obtain ⟨T1, hT1⟩ : ∃ T1, T1 = T + k1 := ⟨_, rfl⟩
      have hmx : (if n0 < 0 then 0 else n0) = (P : Int) := by
        rw [hP]
        split <;> omega
      have e1 : (A : Int) - (T : Int) = (D : Int) := by omega
      have hmn : (if D < P then (D : Int) else (P : Int)) = (k1 : Int) := by
        rw [hk1]
        split <;> omega
      have e2 : (T : Int) + (k1 : Int) = (T1 : Int) := by omega
      have e3 : (A : Int) - (T1 : Int) = (D1 : Int) := by omega
      have e5 : T1 - T = k1 := by omega
      have e7 : A - T1 = D1 := by omega
      have lT1 : T1 ≤ A := by omega
      have lTT : (T : Int) ≤ (T1 : Int) := by omega
      have lTTn : T ≤ T1 := by omega
      have lTc : (T1 : Int) ≤ (ca : Int) := by omega
      have lTcn : T1 ≤ ca := by omega
      have w1 : IntKind.i64.wrap (T1 : Int) = (T1 : Int) := wraps_i64 _ (by omega) (by omega)
      have w2 : IntKind.i64.wrap (D1 : Int) = (D1 : Int) := wraps_i64 _ (by omega) (by omega)
      have HP := Lib.hid hP
      have HD := Lib.hid hD
      have HK1 := Lib.hid hk1
      have HD1 := Lib.hid hD1
      have HT1 := Lib.hid hT1
      clear hP hD hk1 hD1 hT1 hc0 hn0 hcell hm
      by_cases hct : ca = T
      · have hcf : (ca = T) = True := eq_true hct
        have hss : ∀ w', Below w.heap.size w w' → (convert 28 9 (.slice ao k1 (ca - T))).run Try.prog w' = .ok (.string (kb ((X.drop T).take k1))) w' ∧ (convert 28 9 (.slice ao T1 ca)).run Try.prog w' = .ok (.string (kb (X.take T1))) w' := fun wr hb => by
          have h0 := RA.out.below hb
          have h2 := (h0.cut HA.out lT1).tailAny (m := T) (by rw [List.length_take, ← HA.out]; omega) (by omega)
          rw [if_pos hct, e5, List.drop_take, e5] at h2
          exact ⟨str_of h2 rfl, str_of (h0.cut HA.out lT1) rfl⟩
        have HSS := Lib.hid hss
        have C1 := Lib.hid (fun wr (h : QL w g s1 100 X T1 wr) => h.len (D := D1) (by rw [← HA.out, e7]))
        have C2 := Lib.hid (fun wr (h : QL w g s1 100 X T1 wr) => h.taken (K := kb (X.take T1)) rfl (n := T1) rfl)
        have C3 := Lib.hid (fun wr (h : QL w g s1 100 X T1 wr) => h.total (L := A) HA.out)
        clear hss hct
        go_wp2_with fail
        refine (QL.takeF HQ.out n0 (k := k1) (by rw [← HA.out]; have := HK1.out; have := HD.out; have := HP.out; omega) (zs := (X.drop T).take k1) rfl).mono ?_
        rintro e wb ⟨xo, xc, rfl, hfr, q2, _⟩
        rw [← HT1.out] at q2
        have A00 := q2.drew
        have s00 := HSS.out _ A00.below
        have A0 := A00.drew
        have s0 := HSS.out _ A0.below
        have hcd := str_of (hfr.below ((Below.refl wb.heap.size wb).drew)).rd (K := kb ((X.drop T).take k1)) rfl
        clear HQ q2 hfr
        go_wp2
        go_region_held3 (fun w' => (convert 28 9 (.slice xo k1 xc)).run Try.prog w' = .ok (.string (kb ((X.drop T).take k1))) w' ∧ (convert 28 9 (.slice ao k1 (ca - T))).run Try.prog w' = .ok (.string (kb ((X.drop T).take k1))) w' ∧ (convert 28 9 (.slice ao T1 ca)).run Try.prog w' = .ok (.string (kb (X.take T1))) w') (exact ⟨hcd, s00⟩) (fail)
        go_wp2
        refine wp_region_held_drew (S := fun w' => (convert 28 9 (.slice ao k1 (ca - T))).run Try.prog w' = .ok (.string (kb ((X.drop T).take k1))) w' ∧ (convert 28 9 (.slice ao T1 ca)).run Try.prog w' = .ok (.string (kb (X.take T1))) w') (by kernel_rfl) (by assumption) (fun hH => ?_)
        refine heldTake (i := 0) (v := ?_) rfl (by kernel_rfl) (by kernel_rfl) (fun _ _ _ h => h) (by rfl) (by assumption) (fun w hSw => ?_) ?_; rotate_left; focus ((try dsimp only at hSw); go_simp; try with_reducible rfl)
        try simp only [Act.put, List.setIfInBounds_toArray, List.set_cons_zero, List.set_cons_succ]
        refine heldTake (i := 2) (v := ?_) rfl (by kernel_rfl) (by kernel_rfl) (fun _ _ _ h => h) (by rfl) (by assumption) (fun w hSw => ?_) ?_; rotate_left; focus ((try dsimp only at hSw); go_simp; try with_reducible rfl)
        try simp only [Act.put, List.setIfInBounds_toArray, List.set_cons_zero, List.set_cons_succ]
        refine heldTake (i := 3) (v := ?_) rfl (by kernel_rfl) (by kernel_rfl) (fun _ _ _ h => h) (by rfl) (by assumption) (fun w hSw => ?_) ?_; rotate_left; focus ((try dsimp only at hSw); go_simp; try with_reducible rfl)
        try simp only [Act.put, List.setIfInBounds_toArray, List.set_cons_zero, List.set_cons_succ]
        refine heldTake (i := 4) (v := ?_) rfl (by kernel_rfl) (by kernel_rfl) (fun _ _ _ h => h) (by rfl) (by assumption) (fun w hSw => ?_) ?_; rotate_left; focus ((try dsimp only at hSw); go_simp; try with_reducible rfl)
        try simp only [Act.put, List.setIfInBounds_toArray, List.set_cons_zero, List.set_cons_succ]
        refine heldTake (i := 5) (v := ?_) rfl (by kernel_rfl) (by kernel_rfl) (fun _ _ _ h => h) (by rfl) (by assumption) (fun w hSw => ?_) ?_; rotate_left; focus ((try dsimp only at hSw); go_simp; try with_reducible rfl)
        try simp only [Act.put, List.setIfInBounds_toArray, List.set_cons_zero, List.set_cons_succ]
        -- NEXT 1 Op.call { callee := Callee.value (Operand.func 17), args := #[Operand.tmp 63], argTypes := #[24] }
        refine heldNext (i := 1) rfl (by kernel_rfl) (by rfl) (fun K hK => ?_)
        go_simp; go_at_call 17; refine (C1.out _ (by assumption)).mono ?_; rintro e w6 ⟨rfl, A1⟩; have s1 := HSS.out _ A1.below; first | (refine hK.out _ _ (by assumption) ?_) | (go_wp2_with fail; refine hK.out _ _ (by assumption) ?_); clear hK K
        try simp only [Act.put, List.setIfInBounds_toArray, List.set_cons_zero, List.set_cons_succ]
        refine heldTake (i := 6) (v := ?_) rfl (by kernel_rfl) (by kernel_rfl) (fun _ _ _ h => h) (by rfl) (by assumption) (fun w hSw => ?_) ?_; rotate_left; focus ((try dsimp only at hSw); go_simp; try with_reducible rfl)
        try simp only [Act.put, List.setIfInBounds_toArray, List.set_cons_zero, List.set_cons_succ]
        refine heldTake (i := 7) (v := ?_) rfl (by kernel_rfl) (by kernel_rfl) (fun _ _ _ h => h) (by rfl) (by assumption) (fun w hSw => ?_) ?_; rotate_left; focus ((try dsimp only at hSw); go_simp; try with_reducible rfl)
        try simp only [Act.put, List.setIfInBounds_toArray, List.set_cons_zero, List.set_cons_succ]
        refine heldTake (i := 8) (v := ?_) rfl (by kernel_rfl) (by kernel_rfl) (fun _ _ _ h => h) (by rfl) (by assumption) (fun w hSw => ?_) ?_; rotate_left; focus ((try dsimp only at hSw); go_simp; try with_reducible rfl)
        try simp only [Act.put, List.setIfInBounds_toArray, List.set_cons_zero, List.set_cons_succ]
        refine heldTake (i := 11) (v := ?_) rfl (by kernel_rfl) (by kernel_rfl) (fun _ _ _ h => h) (by rfl) (by assumption) (fun w hSw => ?_) ?_; rotate_left; focus ((try dsimp only at hSw); go_simp; try with_reducible rfl)
        try simp only [Act.put, List.setIfInBounds_toArray, List.set_cons_zero, List.set_cons_succ]
        refine heldTake (i := 12) (v := ?_) rfl (by kernel_rfl) (by kernel_rfl) (fun _ _ _ h => h) (by rfl) (by assumption) (fun w hSw => ?_) ?_; rotate_left; focus ((try dsimp only at hSw); go_simp; try with_reducible rfl)
        try simp only [Act.put, List.setIfInBounds_toArray, List.set_cons_zero, List.set_cons_succ]
        refine heldTake (i := 13) (v := ?_) rfl (by kernel_rfl) (by kernel_rfl) (fun _ _ _ h => h) (by rfl) (by assumption) (fun w hSw => ?_) ?_; rotate_left; focus ((try dsimp only at hSw); go_simp; try with_reducible rfl)
        try simp only [Act.put, List.setIfInBounds_toArray, List.set_cons_zero, List.set_cons_succ]
        refine heldTake (i := 14) (v := ?_) rfl (by kernel_rfl) (by kernel_rfl) (fun _ _ _ h => h) (by rfl) (by assumption) (fun w hSw => ?_) ?_; rotate_left; focus ((try dsimp only at hSw); go_simp; try with_reducible rfl)
        try simp only [Act.put, List.setIfInBounds_toArray, List.set_cons_zero, List.set_cons_succ]
        -- NEXT 9 Op.call { callee := Callee.value (Operand.func 19), args := #[Operand.tmp 71], argTypes := #[24] }
        refine heldNext (i := 9) rfl (by kernel_rfl) (by rfl) (fun K hK => ?_)
        go_simp; go_at_call 19; refine (C2.out _ (by assumption)).mono ?_; rintro e w7 ⟨zo, zc, rfl, b2, A2⟩; have s2 := HSS.out _ A2.below; first | (refine hK.out _ _ (by assumption) ?_) | (go_wp2_with fail; refine hK.out _ _ (by assumption) ?_); clear hK K
        try simp only [Act.put, List.setIfInBounds_toArray, List.set_cons_zero, List.set_cons_succ]
        -- NEXT 10 Op.convert 28 9 (Operand.tmp 72)
        refine heldNext (i := 10) rfl (by kernel_rfl) (by rfl) (fun K hK => ?_)
        go_simp; refine hK.out _ _ (by assumption) ?_; clear hK K
        try simp only [Act.put, List.setIfInBounds_toArray, List.set_cons_zero, List.set_cons_succ]
        refine heldTake (i := 15) (v := ?_) rfl (by kernel_rfl) (by kernel_rfl) (fun _ _ _ h => h) (by rfl) (by assumption) (fun w hSw => ?_) ?_; rotate_left; focus ((try dsimp only at hSw); go_simp; try with_reducible rfl)
        try simp only [Act.put, List.setIfInBounds_toArray, List.set_cons_zero, List.set_cons_succ]
        refine heldTake (i := 16) (v := ?_) rfl (by kernel_rfl) (by kernel_rfl) (fun _ _ _ h => h) (by rfl) (by assumption) (fun w hSw => ?_) ?_; rotate_left; focus ((try dsimp only at hSw); go_simp; try with_reducible rfl)
        try simp only [Act.put, List.setIfInBounds_toArray, List.set_cons_zero, List.set_cons_succ]
        refine heldTake (i := 17) (v := ?_) rfl (by kernel_rfl) (by kernel_rfl) (fun _ _ _ h => h) (by rfl) (by assumption) (fun w hSw => ?_) ?_; rotate_left; focus ((try dsimp only at hSw); go_simp; try with_reducible rfl)
        try simp only [Act.put, List.setIfInBounds_toArray, List.set_cons_zero, List.set_cons_succ]
        refine heldTake (i := 18) (v := ?_) rfl (by kernel_rfl) (by kernel_rfl) (fun _ _ _ h => h) (by rfl) (by assumption) (fun w hSw => ?_) ?_; rotate_left; focus ((try dsimp only at hSw); go_simp; try with_reducible rfl)
        try simp only [Act.put, List.setIfInBounds_toArray, List.set_cons_zero, List.set_cons_succ]
        refine heldTake (i := 20) (v := ?_) rfl (by kernel_rfl) (by kernel_rfl) (fun _ _ _ h => h) (by rfl) (by assumption) (fun w hSw => ?_) ?_; rotate_left; focus ((try dsimp only at hSw); go_simp; try with_reducible rfl)
        try simp only [Act.put, List.setIfInBounds_toArray, List.set_cons_zero, List.set_cons_succ]
        refine heldTake (i := 21) (v := ?_) rfl (by kernel_rfl) (by kernel_rfl) (fun _ _ _ h => h) (by rfl) (by assumption) (fun w hSw => ?_) ?_; rotate_left; focus ((try dsimp only at hSw); go_simp; try with_reducible rfl)
        try simp only [Act.put, List.setIfInBounds_toArray, List.set_cons_zero, List.set_cons_succ]
        -- NEXT 19 Op.call { callee := Callee.value (Operand.func 18), args := #[Operand.tmp 81], argTypes := #[24] }
        refine heldNext (i := 19) rfl (by kernel_rfl) (by rfl) (fun K hK => ?_)
        go_simp; go_at_call 18; refine (C3.out _ (by assumption)).mono ?_; rintro e w8 ⟨rfl, A3⟩; have s3 := HSS.out _ A3.below; first | (refine hK.out _ _ (by assumption) ?_) | (go_wp2_with fail; refine hK.out _ _ (by assumption) ?_); clear hK K
        try simp only [Act.put, List.setIfInBounds_toArray, List.set_cons_zero, List.set_cons_succ]
        refine heldTake (i := 22) (v := ?_) rfl (by kernel_rfl) (by kernel_rfl) (fun _ _ _ h => h) (by rfl) (by assumption) (fun w hSw => ?_) ?_; rotate_left; focus ((try dsimp only at hSw); go_simp; try with_reducible rfl)
        try simp only [Act.put, List.setIfInBounds_toArray, List.set_cons_zero, List.set_cons_succ]
        refine heldTake (i := 23) (v := ?_) rfl (by kernel_rfl) (by kernel_rfl) (fun _ _ _ h => h) (by rfl) (by assumption) (fun w hSw => ?_) ?_; rotate_left; focus ((try dsimp only at hSw); go_simp; try with_reducible rfl)
        try simp only [Act.put, List.setIfInBounds_toArray, List.set_cons_zero, List.set_cons_succ]
        refine wpAnyH_done (by kernel_rfl) ?_ _
        have q9 := A3
        clear A00 A0 A1 A2 A3 s00 s0 s1 s2 s3 b2 hcd C1 C2 C3
        go_wp2
        go_roundw
        case rel => exact ⟨T1, k + 1, by omega, by omega, lT1, rfl, by go_num, q9⟩
        case measure => simp [intOf]; omega
      · have hcf : (ca = T) = False := eq_false hct
        have hss : ∀ w', Below w.heap.size w w' → (convert 28 9 (.slice (Option.map (fun x => x.add T) ao) k1 (ca - T))).run Try.prog w' = .ok (.string (kb ((X.drop T).take k1))) w' ∧ (convert 28 9 (.slice ao T1 ca)).run Try.prog w' = .ok (.string (kb (X.take T1))) w' := fun wr hb => by
          have h0 := RA.out.below hb
          have h2 := (h0.cut HA.out lT1).tailAny (m := T) (by rw [List.length_take, ← HA.out]; omega) (by omega)
          rw [if_neg hct, e5, List.drop_take, e5] at h2
          exact ⟨str_of h2 rfl, str_of (h0.cut HA.out lT1) rfl⟩
        have HSS := Lib.hid hss
        have C1 := Lib.hid (fun wr (h : QL w g s1 100 X T1 wr) => h.len (D := D1) (by rw [← HA.out, e7]))
        have C2 := Lib.hid (fun wr (h : QL w g s1 100 X T1 wr) => h.taken (K := kb (X.take T1)) rfl (n := T1) rfl)
        have C3 := Lib.hid (fun wr (h : QL w g s1 100 X T1 wr) => h.total (L := A) HA.out)
        clear hss hct
        go_wp2_with fail
        refine (QL.takeF HQ.out n0 (k := k1) (by rw [← HA.out]; have := HK1.out; have := HD.out; have := HP.out; omega) (zs := (X.drop T).take k1) rfl).mono ?_
        rintro e wb ⟨xo, xc, rfl, hfr, q2, _⟩
        rw [← HT1.out] at q2
        have A00 := q2.drew
        have s00 := HSS.out _ A00.below
        have A0 := A00.drew
        have s0 := HSS.out _ A0.below
        have hcd := str_of (hfr.below ((Below.refl wb.heap.size wb).drew)).rd (K := kb ((X.drop T).take k1)) rfl
        clear HQ q2 hfr
        go_wp2
        go_region_held3 (fun w' => (convert 28 9 (.slice xo k1 xc)).run Try.prog w' = .ok (.string (kb ((X.drop T).take k1))) w' ∧ (convert 28 9 (.slice (Option.map (fun x => x.add T) ao) k1 (ca - T))).run Try.prog w' = .ok (.string (kb ((X.drop T).take k1))) w' ∧ (convert 28 9 (.slice ao T1 ca)).run Try.prog w' = .ok (.string (kb (X.take T1))) w') (exact ⟨hcd, s00⟩) (fail)
        go_wp2
        refine wp_region_held_drew (S := fun w' => (convert 28 9 (.slice (Option.map (fun x => x.add T) ao) k1 (ca - T))).run Try.prog w' = .ok (.string (kb ((X.drop T).take k1))) w' ∧ (convert 28 9 (.slice ao T1 ca)).run Try.prog w' = .ok (.string (kb (X.take T1))) w') (by kernel_rfl) (by assumption) (fun hH => ?_)
        refine heldTake (i := 0) (v := ?_) rfl (by kernel_rfl) (by kernel_rfl) (fun _ _ _ h => h) (by rfl) (by assumption) (fun w hSw => ?_) ?_; rotate_left; focus ((try dsimp only at hSw); go_simp; try with_reducible rfl)
        try simp only [Act.put, List.setIfInBounds_toArray, List.set_cons_zero, List.set_cons_succ]
        refine heldTake (i := 2) (v := ?_) rfl (by kernel_rfl) (by kernel_rfl) (fun _ _ _ h => h) (by rfl) (by assumption) (fun w hSw => ?_) ?_; rotate_left; focus ((try dsimp only at hSw); go_simp; try with_reducible rfl)
        try simp only [Act.put, List.setIfInBounds_toArray, List.set_cons_zero, List.set_cons_succ]
        refine heldTake (i := 3) (v := ?_) rfl (by kernel_rfl) (by kernel_rfl) (fun _ _ _ h => h) (by rfl) (by assumption) (fun w hSw => ?_) ?_; rotate_left; focus ((try dsimp only at hSw); go_simp; try with_reducible rfl)
        try simp only [Act.put, List.setIfInBounds_toArray, List.set_cons_zero, List.set_cons_succ]
        refine heldTake (i := 4) (v := ?_) rfl (by kernel_rfl) (by kernel_rfl) (fun _ _ _ h => h) (by rfl) (by assumption) (fun w hSw => ?_) ?_; rotate_left; focus ((try dsimp only at hSw); go_simp; try with_reducible rfl)
        try simp only [Act.put, List.setIfInBounds_toArray, List.set_cons_zero, List.set_cons_succ]
        refine heldTake (i := 5) (v := ?_) rfl (by kernel_rfl) (by kernel_rfl) (fun _ _ _ h => h) (by rfl) (by assumption) (fun w hSw => ?_) ?_; rotate_left; focus ((try dsimp only at hSw); go_simp; try with_reducible rfl)
        try simp only [Act.put, List.setIfInBounds_toArray, List.set_cons_zero, List.set_cons_succ]
        -- NEXT 1 Op.call { callee := Callee.value (Operand.func 17), args := #[Operand.tmp 63], argTypes := #[24] }
        refine heldNext (i := 1) rfl (by kernel_rfl) (by rfl) (fun K hK => ?_)
        go_simp; go_at_call 17; refine (C1.out _ (by assumption)).mono ?_; rintro e w6 ⟨rfl, A1⟩; have s1 := HSS.out _ A1.below; first | (refine hK.out _ _ (by assumption) ?_) | (go_wp2_with fail; refine hK.out _ _ (by assumption) ?_); clear hK K
        try simp only [Act.put, List.setIfInBounds_toArray, List.set_cons_zero, List.set_cons_succ]
        refine heldTake (i := 6) (v := ?_) rfl (by kernel_rfl) (by kernel_rfl) (fun _ _ _ h => h) (by rfl) (by assumption) (fun w hSw => ?_) ?_; rotate_left; focus ((try dsimp only at hSw); go_simp; try with_reducible rfl)
        try simp only [Act.put, List.setIfInBounds_toArray, List.set_cons_zero, List.set_cons_succ]
        refine heldTake (i := 7) (v := ?_) rfl (by kernel_rfl) (by kernel_rfl) (fun _ _ _ h => h) (by rfl) (by assumption) (fun w hSw => ?_) ?_; rotate_left; focus ((try dsimp only at hSw); go_simp; try with_reducible rfl)
        try simp only [Act.put, List.setIfInBounds_toArray, List.set_cons_zero, List.set_cons_succ]
        refine heldTake (i := 8) (v := ?_) rfl (by kernel_rfl) (by kernel_rfl) (fun _ _ _ h => h) (by rfl) (by assumption) (fun w hSw => ?_) ?_; rotate_left; focus ((try dsimp only at hSw); go_simp; try with_reducible rfl)
        try simp only [Act.put, List.setIfInBounds_toArray, List.set_cons_zero, List.set_cons_succ]
        refine heldTake (i := 11) (v := ?_) rfl (by kernel_rfl) (by kernel_rfl) (fun _ _ _ h => h) (by rfl) (by assumption) (fun w hSw => ?_) ?_; rotate_left; focus ((try dsimp only at hSw); go_simp; try with_reducible rfl)
        try simp only [Act.put, List.setIfInBounds_toArray, List.set_cons_zero, List.set_cons_succ]
        refine heldTake (i := 12) (v := ?_) rfl (by kernel_rfl) (by kernel_rfl) (fun _ _ _ h => h) (by rfl) (by assumption) (fun w hSw => ?_) ?_; rotate_left; focus ((try dsimp only at hSw); go_simp; try with_reducible rfl)
        try simp only [Act.put, List.setIfInBounds_toArray, List.set_cons_zero, List.set_cons_succ]
        refine heldTake (i := 13) (v := ?_) rfl (by kernel_rfl) (by kernel_rfl) (fun _ _ _ h => h) (by rfl) (by assumption) (fun w hSw => ?_) ?_; rotate_left; focus ((try dsimp only at hSw); go_simp; try with_reducible rfl)
        try simp only [Act.put, List.setIfInBounds_toArray, List.set_cons_zero, List.set_cons_succ]
        refine heldTake (i := 14) (v := ?_) rfl (by kernel_rfl) (by kernel_rfl) (fun _ _ _ h => h) (by rfl) (by assumption) (fun w hSw => ?_) ?_; rotate_left; focus ((try dsimp only at hSw); go_simp; try with_reducible rfl)
        try simp only [Act.put, List.setIfInBounds_toArray, List.set_cons_zero, List.set_cons_succ]
        -- NEXT 9 Op.call { callee := Callee.value (Operand.func 19), args := #[Operand.tmp 71], argTypes := #[24] }
        refine heldNext (i := 9) rfl (by kernel_rfl) (by rfl) (fun K hK => ?_)
        go_simp; go_at_call 19; refine (C2.out _ (by assumption)).mono ?_; rintro e w7 ⟨zo, zc, rfl, b2, A2⟩; have s2 := HSS.out _ A2.below; first | (refine hK.out _ _ (by assumption) ?_) | (go_wp2_with fail; refine hK.out _ _ (by assumption) ?_); clear hK K
        try simp only [Act.put, List.setIfInBounds_toArray, List.set_cons_zero, List.set_cons_succ]
        -- NEXT 10 Op.convert 28 9 (Operand.tmp 72)
        refine heldNext (i := 10) rfl (by kernel_rfl) (by rfl) (fun K hK => ?_)
        go_simp; refine hK.out _ _ (by assumption) ?_; clear hK K
        try simp only [Act.put, List.setIfInBounds_toArray, List.set_cons_zero, List.set_cons_succ]
        refine heldTake (i := 15) (v := ?_) rfl (by kernel_rfl) (by kernel_rfl) (fun _ _ _ h => h) (by rfl) (by assumption) (fun w hSw => ?_) ?_; rotate_left; focus ((try dsimp only at hSw); go_simp; try with_reducible rfl)
        try simp only [Act.put, List.setIfInBounds_toArray, List.set_cons_zero, List.set_cons_succ]
        refine heldTake (i := 16) (v := ?_) rfl (by kernel_rfl) (by kernel_rfl) (fun _ _ _ h => h) (by rfl) (by assumption) (fun w hSw => ?_) ?_; rotate_left; focus ((try dsimp only at hSw); go_simp; try with_reducible rfl)
        try simp only [Act.put, List.setIfInBounds_toArray, List.set_cons_zero, List.set_cons_succ]
        refine heldTake (i := 17) (v := ?_) rfl (by kernel_rfl) (by kernel_rfl) (fun _ _ _ h => h) (by rfl) (by assumption) (fun w hSw => ?_) ?_; rotate_left; focus ((try dsimp only at hSw); go_simp; try with_reducible rfl)
        try simp only [Act.put, List.setIfInBounds_toArray, List.set_cons_zero, List.set_cons_succ]
        refine heldTake (i := 18) (v := ?_) rfl (by kernel_rfl) (by kernel_rfl) (fun _ _ _ h => h) (by rfl) (by assumption) (fun w hSw => ?_) ?_; rotate_left; focus ((try dsimp only at hSw); go_simp; try with_reducible rfl)
        try simp only [Act.put, List.setIfInBounds_toArray, List.set_cons_zero, List.set_cons_succ]
        refine heldTake (i := 20) (v := ?_) rfl (by kernel_rfl) (by kernel_rfl) (fun _ _ _ h => h) (by rfl) (by assumption) (fun w hSw => ?_) ?_; rotate_left; focus ((try dsimp only at hSw); go_simp; try with_reducible rfl)
        try simp only [Act.put, List.setIfInBounds_toArray, List.set_cons_zero, List.set_cons_succ]
        refine heldTake (i := 21) (v := ?_) rfl (by kernel_rfl) (by kernel_rfl) (fun _ _ _ h => h) (by rfl) (by assumption) (fun w hSw => ?_) ?_; rotate_left; focus ((try dsimp only at hSw); go_simp; try with_reducible rfl)
        try simp only [Act.put, List.setIfInBounds_toArray, List.set_cons_zero, List.set_cons_succ]
        -- NEXT 19 Op.call { callee := Callee.value (Operand.func 18), args := #[Operand.tmp 81], argTypes := #[24] }
        refine heldNext (i := 19) rfl (by kernel_rfl) (by rfl) (fun K hK => ?_)
        go_simp; go_at_call 18; refine (C3.out _ (by assumption)).mono ?_; rintro e w8 ⟨rfl, A3⟩; have s3 := HSS.out _ A3.below; first | (refine hK.out _ _ (by assumption) ?_) | (go_wp2_with fail; refine hK.out _ _ (by assumption) ?_); clear hK K
        try simp only [Act.put, List.setIfInBounds_toArray, List.set_cons_zero, List.set_cons_succ]
        refine heldTake (i := 22) (v := ?_) rfl (by kernel_rfl) (by kernel_rfl) (fun _ _ _ h => h) (by rfl) (by assumption) (fun w hSw => ?_) ?_; rotate_left; focus ((try dsimp only at hSw); go_simp; try with_reducible rfl)
        try simp only [Act.put, List.setIfInBounds_toArray, List.set_cons_zero, List.set_cons_succ]
        refine heldTake (i := 23) (v := ?_) rfl (by kernel_rfl) (by kernel_rfl) (fun _ _ _ h => h) (by rfl) (by assumption) (fun w hSw => ?_) ?_; rotate_left; focus ((try dsimp only at hSw); go_simp; try with_reducible rfl)
        try simp only [Act.put, List.setIfInBounds_toArray, List.set_cons_zero, List.set_cons_succ]
        refine wpAnyH_done (by kernel_rfl) ?_ _
        have q9 := A3
        clear A00 A0 A1 A2 A3 s00 s0 s1 s2 s3 b2 hcd C1 C2 C3
        go_wp2
        go_roundw
        case rel => exact ⟨T1, k + 1, by omega, by omega, lT1, rfl, by go_num, q9⟩
        case measure => simp [intOf]; omega
    · by_cases hlt : k < L2
      · have h10 : ((k : Int) < 10) = False := eq_false (by omega)
        go_wp2
        go_ret
        exact ⟨rfl, HQ.out.below⟩
      · obtain rfl : k = L2 := by omega
        go_wp2
        go_ret
        exact ⟨rfl, HQ.out.below⟩
end Go.Proofs.Ytocbmknbmnojkaa
