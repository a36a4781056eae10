/- The reference's wire: known, State, open, Finished, Waits, Finish, Write walked. (Laid by wip/tools/gen_wref.py.) -/
import Derived.Test.YtneifmnlailipaaWRefApp
import Derived.Test.YtneifmnlailipaaHeld
namespace Go.Proofs.Ytneifmnlailipaa
open Go.RowKit

theorem known_0 (w : World) : Calls Try.prog 47 #[.int .i64 0] w fun e w' => e = .returned (.bool true) ∧ w = w' := by
  go_enter Try.func47, Try.ntmps47
  go_wp2
  go_ret
  exact ⟨rfl, rfl⟩
theorem known_1 (w : World) : Calls Try.prog 47 #[.int .i64 1] w fun e w' => e = .returned (.bool true) ∧ w = w' := by
  go_enter Try.func47, Try.ntmps47
  go_wp2
  go_ret
  exact ⟨rfl, rfl⟩
theorem known_n {k : Int} (h0 : k ≠ 0) (h1 : k ≠ 1) (w : World) : Calls Try.prog 47 #[.int .i64 k] w fun e w' => e = .returned (.bool false) ∧ w = w' := by
  have i0 : (k == 0) = false := by simpa using h0
  have i1 : (k == 1) = false := by simpa using h1
  clear h0 h1
  go_enter Try.func47, Try.ntmps47
  go_wp2
  go_ret
  exact ⟨rfl, rfl⟩

theorem at_far {W : Wi.Wm} {k : Int} (h0 : k ≠ 0) (h1 : k ≠ 1) : W.at k = Wi.none := by unfold Wi.Wm.at; rw [if_neg h0, if_neg h1]
section
variable {w : World} {B g : Nat} {F : Nat → Prop} {W : Wi.Wm}
theorem rstate_0 (h : RW w B g F W) : Calls Try.prog 23 #[.pointer (some ⟨g, 0, none⟩), .int .i64 0] w fun e w' => e = .returned (.int .i64 ((W.at 0).st : Int)) ∧ w = w' := by
  obtain ⟨F0, ha⟩ := ar_zero h
  obtain ⟨C, gq, s, so, sw, hx⟩ := ha.ca
  have c0 : w.cell? ⟨g, 0, none⟩ = some (.int .i64 ((W.at 0).st : Int)) := hx.c0
  generalize (W.at 0).st = st at *
  clear h ha hx
  go_enter Try.func23, Try.ntmps23
  go_wp2_with fail
  refine (known_0 w).mono ?_
  rintro e w1 ⟨rfl, hw⟩
  obtain rfl := hw
  go_wp2
  go_ret
  exact ⟨rfl, rfl⟩
theorem rstate_1 (h : RW w B g F W) : Calls Try.prog 23 #[.pointer (some ⟨g, 0, none⟩), .int .i64 1] w fun e w' => e = .returned (.int .i64 ((W.at 1).st : Int)) ∧ w = w' := by
  obtain ⟨F0, ha⟩ := ar_one h
  obtain ⟨C, gq, s, so, sw, hx⟩ := ha.ca
  have c0 : w.cell? ⟨g, 6, none⟩ = some (.int .i64 ((W.at 1).st : Int)) := hx.c0
  generalize (W.at 1).st = st at *
  clear h ha hx
  go_enter Try.func23, Try.ntmps23
  go_wp2_with fail
  refine (known_1 w).mono ?_
  rintro e w1 ⟨rfl, hw⟩
  obtain rfl := hw
  go_wp2
  go_ret
  exact ⟨rfl, rfl⟩
theorem rstate_n (_h : RW w B g F W) {k : Int} (h0 : k ≠ 0) (h1 : k ≠ 1) : Calls Try.prog 23 #[.pointer (some ⟨g, 0, none⟩), .int .i64 k] w fun e w' => e = .returned (.int .i64 ((W.at k).st : Int)) ∧ w = w' := by
  rw [at_far h0 h1]
  have KN := Lib.hid (known_n h0 h1 w)
  clear h0 h1 _h
  go_enter Try.func23, Try.ntmps23
  go_wp2_with fail
  refine KN.out.mono ?_
  rintro e w1 ⟨rfl, hw⟩
  obtain rfl := hw
  go_wp2
  go_ret
  exact ⟨rfl, rfl⟩

/-- The reference's 'State'. -/
theorem rstate_any (h : RW w B g F W) (k : Int) : Calls Try.prog 23 #[.pointer (some ⟨g, 0, none⟩), .int .i64 k] w fun e w' => e = .returned (.int .i64 ((W.at k).st : Int)) ∧ w = w' := by
  by_cases h0 : k = 0
  · subst h0; exact rstate_0 h
  by_cases h1 : k = 1
  · subst h1; exact rstate_1 h
  exact rstate_n h h0 h1
theorem ropen_0 (h : RW w B g F W) : Calls Try.prog 37 #[.pointer (some ⟨g, 0, none⟩), .int .i64 0] w fun e w' => e = .returned (.bool (W.at 0).live) ∧ w = w' := by
  have SC := rstate_0 h
  unfold Wi.Cn.live
  generalize (W.at 0).st = st at *
  have SC := Lib.hid SC
  clear h
  by_cases h2 : st = 2
  · subst h2
    go_enter Try.func37, Try.ntmps37
    go_wp2_with fail
    refine SC.out.mono ?_
    rintro e w1 ⟨rfl, hw⟩
    obtain rfl := hw
    go_wp2_with fail
    refine (known_0 w).mono ?_
    rintro e w2 ⟨rfl, hw⟩
    obtain rfl := hw
    go_wp2
    go_ret
    exact ⟨rfl, rfl⟩
  · by_cases h3 : st = 3
    · subst h3
      go_enter Try.func37, Try.ntmps37
      go_wp2_with fail
      refine SC.out.mono ?_
      rintro e w1 ⟨rfl, hw⟩
      obtain rfl := hw
      go_wp2_with fail
      refine (known_0 w).mono ?_
      rintro e w2 ⟨rfl, hw⟩
      obtain rfl := hw
      go_wp2
      go_ret
      exact ⟨rfl, rfl⟩
    · have e : (st == 2 || st == 3) = false := by simp [h2, h3]
      rw [e]
      have i2 : ((st : Int) == 2) = false := by simp; omega
      have i3 : ((st : Int) == 3) = false := by simp; omega
      go_enter Try.func37, Try.ntmps37
      go_wp2_with fail
      refine SC.out.mono ?_
      rintro e w1 ⟨rfl, hw⟩
      obtain rfl := hw
      go_wp2_with fail
      refine (known_0 w).mono ?_
      rintro e w2 ⟨rfl, hw⟩
      obtain rfl := hw
      go_wp2
      go_ret
      exact ⟨rfl, rfl⟩
theorem ropen_1 (h : RW w B g F W) : Calls Try.prog 37 #[.pointer (some ⟨g, 0, none⟩), .int .i64 1] w fun e w' => e = .returned (.bool (W.at 1).live) ∧ w = w' := by
  have SC := rstate_1 h
  unfold Wi.Cn.live
  generalize (W.at 1).st = st at *
  have SC := Lib.hid SC
  clear h
  by_cases h2 : st = 2
  · subst h2
    go_enter Try.func37, Try.ntmps37
    go_wp2_with fail
    refine SC.out.mono ?_
    rintro e w1 ⟨rfl, hw⟩
    obtain rfl := hw
    go_wp2_with fail
    refine (known_1 w).mono ?_
    rintro e w2 ⟨rfl, hw⟩
    obtain rfl := hw
    go_wp2
    go_ret
    exact ⟨rfl, rfl⟩
  · by_cases h3 : st = 3
    · subst h3
      go_enter Try.func37, Try.ntmps37
      go_wp2_with fail
      refine SC.out.mono ?_
      rintro e w1 ⟨rfl, hw⟩
      obtain rfl := hw
      go_wp2_with fail
      refine (known_1 w).mono ?_
      rintro e w2 ⟨rfl, hw⟩
      obtain rfl := hw
      go_wp2
      go_ret
      exact ⟨rfl, rfl⟩
    · have e : (st == 2 || st == 3) = false := by simp [h2, h3]
      rw [e]
      have i2 : ((st : Int) == 2) = false := by simp; omega
      have i3 : ((st : Int) == 3) = false := by simp; omega
      go_enter Try.func37, Try.ntmps37
      go_wp2_with fail
      refine SC.out.mono ?_
      rintro e w1 ⟨rfl, hw⟩
      obtain rfl := hw
      go_wp2_with fail
      refine (known_1 w).mono ?_
      rintro e w2 ⟨rfl, hw⟩
      obtain rfl := hw
      go_wp2
      go_ret
      exact ⟨rfl, rfl⟩
theorem ropen_n (h : RW w B g F W) {k : Int} (h0 : k ≠ 0) (h1 : k ≠ 1) : Calls Try.prog 37 #[.pointer (some ⟨g, 0, none⟩), .int .i64 k] w fun e w' => e = .returned (.bool (W.at k).live) ∧ w = w' := by
  have SC := rstate_n h h0 h1
  rw [at_far h0 h1] at SC ⊢
  have SC := Lib.hid SC
  have KN := Lib.hid (known_n h0 h1 w)
  clear h0 h1 h
  go_enter Try.func37, Try.ntmps37
  go_wp2_with fail
  refine SC.out.mono ?_
  rintro e w1 ⟨rfl, hw⟩
  obtain rfl := hw
  go_wp2_with fail
  refine KN.out.mono ?_
  rintro e w2 ⟨rfl, hw⟩
  obtain rfl := hw
  go_wp2
  go_ret
  exact ⟨rfl, rfl⟩

/-- The reference's 'open'. -/
theorem ropen_any (h : RW w B g F W) (k : Int) : Calls Try.prog 37 #[.pointer (some ⟨g, 0, none⟩), .int .i64 k] w fun e w' => e = .returned (.bool (W.at k).live) ∧ w = w' := by
  by_cases h0 : k = 0
  · subst h0; exact ropen_0 h
  by_cases h1 : k = 1
  · subst h1; exact ropen_1 h
  exact ropen_n h h0 h1
theorem rfinished_0 (h : RW w B g F W) : Calls Try.prog 31 #[.pointer (some ⟨g, 0, none⟩), .int .i64 0] w fun e w' => e = .returned (.bool (W.at 0).dn) ∧ w = w' := by
  obtain ⟨F0, ha⟩ := ar_zero h
  obtain ⟨C, gq, s, so, sw, hx⟩ := ha.ca
  have c2 : w.cell? ⟨g, 2, none⟩ = some (.bool (W.at 0).dn) := hx.c2
  generalize (W.at 0).dn = dn at *
  clear h ha hx
  go_enter Try.func31, Try.ntmps31
  go_wp2_with fail
  refine (known_0 w).mono ?_
  rintro e w1 ⟨rfl, hw⟩
  obtain rfl := hw
  go_wp2
  go_ret
  exact ⟨rfl, rfl⟩
theorem rfinished_1 (h : RW w B g F W) : Calls Try.prog 31 #[.pointer (some ⟨g, 0, none⟩), .int .i64 1] w fun e w' => e = .returned (.bool (W.at 1).dn) ∧ w = w' := by
  obtain ⟨F0, ha⟩ := ar_one h
  obtain ⟨C, gq, s, so, sw, hx⟩ := ha.ca
  have c2 : w.cell? ⟨g, 8, none⟩ = some (.bool (W.at 1).dn) := hx.c2
  generalize (W.at 1).dn = dn at *
  clear h ha hx
  go_enter Try.func31, Try.ntmps31
  go_wp2_with fail
  refine (known_1 w).mono ?_
  rintro e w1 ⟨rfl, hw⟩
  obtain rfl := hw
  go_wp2
  go_ret
  exact ⟨rfl, rfl⟩
theorem rfinished_n (_h : RW w B g F W) {k : Int} (h0 : k ≠ 0) (h1 : k ≠ 1) : Calls Try.prog 31 #[.pointer (some ⟨g, 0, none⟩), .int .i64 k] w fun e w' => e = .returned (.bool (W.at k).dn) ∧ w = w' := by
  rw [at_far h0 h1]
  have KN := Lib.hid (known_n h0 h1 w)
  clear h0 h1 _h
  go_enter Try.func31, Try.ntmps31
  go_wp2_with fail
  refine KN.out.mono ?_
  rintro e w1 ⟨rfl, hw⟩
  obtain rfl := hw
  go_wp2
  go_ret
  exact ⟨rfl, rfl⟩

/-- The reference's 'Finished'. -/
theorem rfinished_any (h : RW w B g F W) (k : Int) : Calls Try.prog 31 #[.pointer (some ⟨g, 0, none⟩), .int .i64 k] w fun e w' => e = .returned (.bool (W.at k).dn) ∧ w = w' := by
  by_cases h0 : k = 0
  · subst h0; exact rfinished_0 h
  by_cases h1 : k = 1
  · subst h1; exact rfinished_1 h
  exact rfinished_n h h0 h1
theorem rwaits_0 (h : RW w B g F W) : Calls Try.prog 25 #[.pointer (some ⟨g, 0, none⟩), .int .i64 0] w fun e w' => e = .returned (.int .i64 ((W.at 0).waits : Int)) ∧ Below w.heap.size w w' := by
  have OP := ropen_0 h
  by_cases hl : (W.at 0).live = true
  · have hw : (W.at 0).waits = (W.at 0).xs.length - (W.at 0).t := by unfold Wi.Cn.waits; rw [if_pos hl]
    rw [hw]
    rw [hl] at OP
    have OP := Lib.hid OP
    obtain ⟨F0, ha⟩ := ar_zero h
    obtain ⟨C, gq, s, so, sw, hx⟩ := ha.ca
    obtain ⟨ao, cap, hsf, hcap, hcm⟩ := hx.q.form
    subst hsf
    have hs0 : w.drew.cell? ⟨g, 3, none⟩ = some (.pointer (some ⟨gq, 0, none⟩)) ∧ w.drew.cell? ⟨gq, 2, none⟩ = some (.slice ao (W.at 0).xs.length cap) ∧ w.drew.cell? ⟨gq, 1, none⟩ = some (.int .i64 ((W.at 0).t : Int)) := ⟨hx.c3, hx.q.c2, hx.q.c1⟩
    have hs := hx.q.hs
    have ht := hx.q.ht
    generalize (W.at 0).xs.length = L at *
    generalize (W.at 0).t = t at *
    obtain ⟨D, hD⟩ : ∃ D, L = t + D := ⟨L - t, by omega⟩
    have e : L - t = D := by omega
    rw [e]
    have i1 : IntKind.i64.wrap ((L : Int) - (t : Int)) = (D : Int) := by rw [wraps_i64 _ (by omega) (by omega)]; omega
    have HB := Lib.hid ((Below.refl w.heap.size w).drew)
    have HD := Lib.hid hD
    have HS0 := Lib.hid hs0
    clear h ha hx hl hw e hD hs0 hcap hcm
    go_enter Try.func25, Try.ntmps25
    go_wp2_with fail
    refine OP.out.mono ?_
    rintro e w1 ⟨rfl, hw⟩
    obtain rfl := hw
    go_wp2
    refine wp_region_held_drew (S := fun w' => w'.cell? ⟨g, 3, none⟩ = some (.pointer (some ⟨gq, 0, none⟩)) ∧ w'.cell? ⟨gq, 2, none⟩ = some (.slice ao L cap) ∧ w'.cell? ⟨gq, 1, none⟩ = some (.int .i64 (t : Int))) (by kernel_rfl) HS0.out (fun hH => ?_)
    refine heldTake (i := 0) (v := ?_) rfl (by kernel_rfl) (by kernel_rfl) (fun _ _ _ h => h) (by rfl) (by assumption) (fun w hSw => ?_) ?_; rotate_left; focus ((try dsimp only at hSw); go_simp; try with_reducible rfl)
    try simp only [Act.put, List.setIfInBounds_toArray, List.set_cons_zero, List.set_cons_succ]
    refine heldTake (i := 1) (v := ?_) rfl (by kernel_rfl) (by kernel_rfl) (fun _ _ _ h => h) (by rfl) (by assumption) (fun w hSw => ?_) ?_; rotate_left; focus ((try dsimp only at hSw); go_simp; try with_reducible rfl)
    try simp only [Act.put, List.setIfInBounds_toArray, List.set_cons_zero, List.set_cons_succ]
    refine heldTake (i := 2) (v := ?_) rfl (by kernel_rfl) (by kernel_rfl) (fun _ _ _ h => h) (by rfl) (by assumption) (fun w hSw => ?_) ?_; rotate_left; focus ((try dsimp only at hSw); go_simp; try with_reducible rfl)
    try simp only [Act.put, List.setIfInBounds_toArray, List.set_cons_zero, List.set_cons_succ]
    refine heldTake (i := 3) (v := ?_) rfl (by kernel_rfl) (by kernel_rfl) (fun _ _ _ h => h) (by rfl) (by assumption) (fun w hSw => ?_) ?_; rotate_left; focus ((try dsimp only at hSw); go_simp; try with_reducible rfl)
    try simp only [Act.put, List.setIfInBounds_toArray, List.set_cons_zero, List.set_cons_succ]
    refine heldTake (i := 4) (v := ?_) rfl (by kernel_rfl) (by kernel_rfl) (fun _ _ _ h => h) (by rfl) (by assumption) (fun w hSw => ?_) ?_; rotate_left; focus ((try dsimp only at hSw); go_simp; try with_reducible rfl)
    try simp only [Act.put, List.setIfInBounds_toArray, List.set_cons_zero, List.set_cons_succ]
    refine heldTake (i := 5) (v := ?_) rfl (by kernel_rfl) (by kernel_rfl) (fun _ _ _ h => h) (by rfl) (by assumption) (fun w hSw => ?_) ?_; rotate_left; focus ((try dsimp only at hSw); go_simp; try with_reducible rfl)
    try simp only [Act.put, List.setIfInBounds_toArray, List.set_cons_zero, List.set_cons_succ]
    refine heldTake (i := 6) (v := ?_) rfl (by kernel_rfl) (by kernel_rfl) (fun _ _ _ h => h) (by rfl) (by assumption) (fun w hSw => ?_) ?_; rotate_left; focus ((try dsimp only at hSw); go_simp; try with_reducible rfl)
    try simp only [Act.put, List.setIfInBounds_toArray, List.set_cons_zero, List.set_cons_succ]
    refine heldTake (i := 7) (v := ?_) rfl (by kernel_rfl) (by kernel_rfl) (fun _ _ _ h => h) (by rfl) (by assumption) (fun w hSw => ?_) ?_; rotate_left; focus ((try dsimp only at hSw); go_simp; try with_reducible rfl)
    try simp only [Act.put, List.setIfInBounds_toArray, List.set_cons_zero, List.set_cons_succ]
    refine heldTake (i := 8) (v := ?_) rfl (by kernel_rfl) (by kernel_rfl) (fun _ _ _ h => h) (by rfl) (by assumption) (fun w hSw => ?_) ?_; rotate_left; focus ((try dsimp only at hSw); go_simp; try with_reducible rfl)
    try simp only [Act.put, List.setIfInBounds_toArray, List.set_cons_zero, List.set_cons_succ]
    refine heldTake (i := 9) (v := ?_) rfl (by kernel_rfl) (by kernel_rfl) (fun _ _ _ h => h) (by rfl) (by assumption) (fun w hSw => ?_) ?_; rotate_left; focus ((try dsimp only at hSw); go_simp; try with_reducible rfl)
    try simp only [Act.put, List.setIfInBounds_toArray, List.set_cons_zero, List.set_cons_succ]
    refine heldTake (i := 10) (v := ?_) rfl (by kernel_rfl) (by kernel_rfl) (fun _ _ _ h => h) (by rfl) (by assumption) (fun w hSw => ?_) ?_; rotate_left; focus ((try dsimp only at hSw); go_simp; try with_reducible rfl)
    try simp only [Act.put, List.setIfInBounds_toArray, List.set_cons_zero, List.set_cons_succ]
    refine heldTake (i := 11) (v := ?_) rfl (by kernel_rfl) (by kernel_rfl) (fun _ _ _ h => h) (by rfl) (by assumption) (fun w hSw => ?_) ?_; rotate_left; focus ((try dsimp only at hSw); go_simp; try with_reducible rfl)
    try simp only [Act.put, List.setIfInBounds_toArray, List.set_cons_zero, List.set_cons_succ]
    refine heldTake (i := 12) (v := ?_) rfl (by kernel_rfl) (by kernel_rfl) (fun _ _ _ h => h) (by rfl) (by assumption) (fun w hSw => ?_) ?_; rotate_left; focus ((try dsimp only at hSw); go_simp; try with_reducible rfl)
    try simp only [Act.put, List.setIfInBounds_toArray, List.set_cons_zero, List.set_cons_succ]
    refine heldTake (i := 13) (v := ?_) rfl (by kernel_rfl) (by kernel_rfl) (fun _ _ _ h => h) (by rfl) (by assumption) (fun w hSw => ?_) ?_; rotate_left; focus ((try dsimp only at hSw); go_simp; try with_reducible rfl)
    try simp only [Act.put, List.setIfInBounds_toArray, List.set_cons_zero, List.set_cons_succ]
    refine heldTake (i := 14) (v := ?_) rfl (by kernel_rfl) (by kernel_rfl) (fun _ _ _ h => h) (by rfl) (by assumption) (fun w hSw => ?_) ?_; rotate_left; focus ((try dsimp only at hSw); go_simp; try with_reducible rfl)
    try simp only [Act.put, List.setIfInBounds_toArray, List.set_cons_zero, List.set_cons_succ]
    refine heldTake (i := 15) (v := ?_) rfl (by kernel_rfl) (by kernel_rfl) (fun _ _ _ h => h) (by rfl) (by assumption) (fun w hSw => ?_) ?_; rotate_left; focus ((try dsimp only at hSw); go_simp; try with_reducible rfl)
    try simp only [Act.put, List.setIfInBounds_toArray, List.set_cons_zero, List.set_cons_succ]
    refine heldTake (i := 16) (v := ?_) rfl (by kernel_rfl) (by kernel_rfl) (fun _ _ _ h => h) (by rfl) (by assumption) (fun w hSw => ?_) ?_; rotate_left; focus ((try dsimp only at hSw); go_simp; try with_reducible rfl)
    try simp only [Act.put, List.setIfInBounds_toArray, List.set_cons_zero, List.set_cons_succ]
    refine heldTake (i := 17) (v := ?_) rfl (by kernel_rfl) (by kernel_rfl) (fun _ _ _ h => h) (by rfl) (by assumption) (fun w hSw => ?_) ?_; rotate_left; focus ((try dsimp only at hSw); go_simp; try with_reducible rfl)
    try simp only [Act.put, List.setIfInBounds_toArray, List.set_cons_zero, List.set_cons_succ]
    refine heldTake (i := 18) (v := ?_) rfl (by kernel_rfl) (by kernel_rfl) (fun _ _ _ h => h) (by rfl) (by assumption) (fun w hSw => ?_) ?_; rotate_left; focus ((try dsimp only at hSw); go_simp; try with_reducible rfl)
    try simp only [Act.put, List.setIfInBounds_toArray, List.set_cons_zero, List.set_cons_succ]
    refine heldTake (i := 19) (v := ?_) rfl (by kernel_rfl) (by kernel_rfl) (fun _ _ _ h => h) (by rfl) (by assumption) (fun w hSw => ?_) ?_; rotate_left; focus ((try dsimp only at hSw); go_simp; try with_reducible rfl)
    try simp only [Act.put, List.setIfInBounds_toArray, List.set_cons_zero, List.set_cons_succ]
    refine heldTake (i := 20) (v := ?_) rfl (by kernel_rfl) (by kernel_rfl) (fun _ _ _ h => h) (by rfl) (by assumption) (fun w hSw => ?_) ?_; rotate_left; focus ((try dsimp only at hSw); go_simp; try with_reducible rfl)
    try simp only [Act.put, List.setIfInBounds_toArray, List.set_cons_zero, List.set_cons_succ]
    refine heldTake (i := 21) (v := ?_) rfl (by kernel_rfl) (by kernel_rfl) (fun _ _ _ h => h) (by rfl) (by assumption) (fun w hSw => ?_) ?_; rotate_left; focus ((try dsimp only at hSw); go_simp; try with_reducible rfl)
    try simp only [Act.put, List.setIfInBounds_toArray, List.set_cons_zero, List.set_cons_succ]
    refine heldTake (i := 22) (v := ?_) rfl (by kernel_rfl) (by kernel_rfl) (fun _ _ _ h => h) (by rfl) (by assumption) (fun w hSw => ?_) ?_; rotate_left; focus ((try dsimp only at hSw); go_simp; try with_reducible rfl)
    try simp only [Act.put, List.setIfInBounds_toArray, List.set_cons_zero, List.set_cons_succ]
    refine wpAnyH_done (by kernel_rfl) ?_ _
    clear hH HS0 OP
    go_wp2
    go_ret
    exact ⟨rfl, HB.out⟩

  · have hl : (W.at 0).live = false := by simpa using hl
    have hw : (W.at 0).waits = 0 := by unfold Wi.Cn.waits; rw [hl]; rfl
    rw [hw]
    rw [hl] at OP
    have OP := Lib.hid OP
    clear h hl hw
    go_enter Try.func25, Try.ntmps25
    go_wp2_with fail
    refine OP.out.mono ?_
    rintro e w1 ⟨rfl, hw⟩
    obtain rfl := hw
    go_wp2
    go_ret
    exact ⟨rfl, Below.refl _ _⟩
theorem rwaits_1 (h : RW w B g F W) : Calls Try.prog 25 #[.pointer (some ⟨g, 0, none⟩), .int .i64 1] w fun e w' => e = .returned (.int .i64 ((W.at 1).waits : Int)) ∧ Below w.heap.size w w' := by
  have OP := ropen_1 h
  by_cases hl : (W.at 1).live = true
  · have hw : (W.at 1).waits = (W.at 1).xs.length - (W.at 1).t := by unfold Wi.Cn.waits; rw [if_pos hl]
    rw [hw]
    rw [hl] at OP
    have OP := Lib.hid OP
    obtain ⟨F0, ha⟩ := ar_one h
    obtain ⟨C, gq, s, so, sw, hx⟩ := ha.ca
    obtain ⟨ao, cap, hsf, hcap, hcm⟩ := hx.q.form
    subst hsf
    have hs0 : w.drew.cell? ⟨g, 9, none⟩ = some (.pointer (some ⟨gq, 0, none⟩)) ∧ w.drew.cell? ⟨gq, 2, none⟩ = some (.slice ao (W.at 1).xs.length cap) ∧ w.drew.cell? ⟨gq, 1, none⟩ = some (.int .i64 ((W.at 1).t : Int)) := ⟨hx.c3, hx.q.c2, hx.q.c1⟩
    have hs := hx.q.hs
    have ht := hx.q.ht
    generalize (W.at 1).xs.length = L at *
    generalize (W.at 1).t = t at *
    obtain ⟨D, hD⟩ : ∃ D, L = t + D := ⟨L - t, by omega⟩
    have e : L - t = D := by omega
    rw [e]
    have i1 : IntKind.i64.wrap ((L : Int) - (t : Int)) = (D : Int) := by rw [wraps_i64 _ (by omega) (by omega)]; omega
    have HB := Lib.hid ((Below.refl w.heap.size w).drew)
    have HD := Lib.hid hD
    have HS0 := Lib.hid hs0
    clear h ha hx hl hw e hD hs0 hcap hcm
    go_enter Try.func25, Try.ntmps25
    go_wp2_with fail
    refine OP.out.mono ?_
    rintro e w1 ⟨rfl, hw⟩
    obtain rfl := hw
    go_wp2
    refine wp_region_held_drew (S := fun w' => w'.cell? ⟨g, 9, none⟩ = some (.pointer (some ⟨gq, 0, none⟩)) ∧ w'.cell? ⟨gq, 2, none⟩ = some (.slice ao L cap) ∧ w'.cell? ⟨gq, 1, none⟩ = some (.int .i64 (t : Int))) (by kernel_rfl) HS0.out (fun hH => ?_)
    refine heldTake (i := 0) (v := ?_) rfl (by kernel_rfl) (by kernel_rfl) (fun _ _ _ h => h) (by rfl) (by assumption) (fun w hSw => ?_) ?_; rotate_left; focus ((try dsimp only at hSw); go_simp; try with_reducible rfl)
    try simp only [Act.put, List.setIfInBounds_toArray, List.set_cons_zero, List.set_cons_succ]
    refine heldTake (i := 1) (v := ?_) rfl (by kernel_rfl) (by kernel_rfl) (fun _ _ _ h => h) (by rfl) (by assumption) (fun w hSw => ?_) ?_; rotate_left; focus ((try dsimp only at hSw); go_simp; try with_reducible rfl)
    try simp only [Act.put, List.setIfInBounds_toArray, List.set_cons_zero, List.set_cons_succ]
    refine heldTake (i := 2) (v := ?_) rfl (by kernel_rfl) (by kernel_rfl) (fun _ _ _ h => h) (by rfl) (by assumption) (fun w hSw => ?_) ?_; rotate_left; focus ((try dsimp only at hSw); go_simp; try with_reducible rfl)
    try simp only [Act.put, List.setIfInBounds_toArray, List.set_cons_zero, List.set_cons_succ]
    refine heldTake (i := 3) (v := ?_) rfl (by kernel_rfl) (by kernel_rfl) (fun _ _ _ h => h) (by rfl) (by assumption) (fun w hSw => ?_) ?_; rotate_left; focus ((try dsimp only at hSw); go_simp; try with_reducible rfl)
    try simp only [Act.put, List.setIfInBounds_toArray, List.set_cons_zero, List.set_cons_succ]
    refine heldTake (i := 4) (v := ?_) rfl (by kernel_rfl) (by kernel_rfl) (fun _ _ _ h => h) (by rfl) (by assumption) (fun w hSw => ?_) ?_; rotate_left; focus ((try dsimp only at hSw); go_simp; try with_reducible rfl)
    try simp only [Act.put, List.setIfInBounds_toArray, List.set_cons_zero, List.set_cons_succ]
    refine heldTake (i := 5) (v := ?_) rfl (by kernel_rfl) (by kernel_rfl) (fun _ _ _ h => h) (by rfl) (by assumption) (fun w hSw => ?_) ?_; rotate_left; focus ((try dsimp only at hSw); go_simp; try with_reducible rfl)
    try simp only [Act.put, List.setIfInBounds_toArray, List.set_cons_zero, List.set_cons_succ]
    refine heldTake (i := 6) (v := ?_) rfl (by kernel_rfl) (by kernel_rfl) (fun _ _ _ h => h) (by rfl) (by assumption) (fun w hSw => ?_) ?_; rotate_left; focus ((try dsimp only at hSw); go_simp; try with_reducible rfl)
    try simp only [Act.put, List.setIfInBounds_toArray, List.set_cons_zero, List.set_cons_succ]
    refine heldTake (i := 7) (v := ?_) rfl (by kernel_rfl) (by kernel_rfl) (fun _ _ _ h => h) (by rfl) (by assumption) (fun w hSw => ?_) ?_; rotate_left; focus ((try dsimp only at hSw); go_simp; try with_reducible rfl)
    try simp only [Act.put, List.setIfInBounds_toArray, List.set_cons_zero, List.set_cons_succ]
    refine heldTake (i := 8) (v := ?_) rfl (by kernel_rfl) (by kernel_rfl) (fun _ _ _ h => h) (by rfl) (by assumption) (fun w hSw => ?_) ?_; rotate_left; focus ((try dsimp only at hSw); go_simp; try with_reducible rfl)
    try simp only [Act.put, List.setIfInBounds_toArray, List.set_cons_zero, List.set_cons_succ]
    refine heldTake (i := 9) (v := ?_) rfl (by kernel_rfl) (by kernel_rfl) (fun _ _ _ h => h) (by rfl) (by assumption) (fun w hSw => ?_) ?_; rotate_left; focus ((try dsimp only at hSw); go_simp; try with_reducible rfl)
    try simp only [Act.put, List.setIfInBounds_toArray, List.set_cons_zero, List.set_cons_succ]
    refine heldTake (i := 10) (v := ?_) rfl (by kernel_rfl) (by kernel_rfl) (fun _ _ _ h => h) (by rfl) (by assumption) (fun w hSw => ?_) ?_; rotate_left; focus ((try dsimp only at hSw); go_simp; try with_reducible rfl)
    try simp only [Act.put, List.setIfInBounds_toArray, List.set_cons_zero, List.set_cons_succ]
    refine heldTake (i := 11) (v := ?_) rfl (by kernel_rfl) (by kernel_rfl) (fun _ _ _ h => h) (by rfl) (by assumption) (fun w hSw => ?_) ?_; rotate_left; focus ((try dsimp only at hSw); go_simp; try with_reducible rfl)
    try simp only [Act.put, List.setIfInBounds_toArray, List.set_cons_zero, List.set_cons_succ]
    refine heldTake (i := 12) (v := ?_) rfl (by kernel_rfl) (by kernel_rfl) (fun _ _ _ h => h) (by rfl) (by assumption) (fun w hSw => ?_) ?_; rotate_left; focus ((try dsimp only at hSw); go_simp; try with_reducible rfl)
    try simp only [Act.put, List.setIfInBounds_toArray, List.set_cons_zero, List.set_cons_succ]
    refine heldTake (i := 13) (v := ?_) rfl (by kernel_rfl) (by kernel_rfl) (fun _ _ _ h => h) (by rfl) (by assumption) (fun w hSw => ?_) ?_; rotate_left; focus ((try dsimp only at hSw); go_simp; try with_reducible rfl)
    try simp only [Act.put, List.setIfInBounds_toArray, List.set_cons_zero, List.set_cons_succ]
    refine heldTake (i := 14) (v := ?_) rfl (by kernel_rfl) (by kernel_rfl) (fun _ _ _ h => h) (by rfl) (by assumption) (fun w hSw => ?_) ?_; rotate_left; focus ((try dsimp only at hSw); go_simp; try with_reducible rfl)
    try simp only [Act.put, List.setIfInBounds_toArray, List.set_cons_zero, List.set_cons_succ]
    refine heldTake (i := 15) (v := ?_) rfl (by kernel_rfl) (by kernel_rfl) (fun _ _ _ h => h) (by rfl) (by assumption) (fun w hSw => ?_) ?_; rotate_left; focus ((try dsimp only at hSw); go_simp; try with_reducible rfl)
    try simp only [Act.put, List.setIfInBounds_toArray, List.set_cons_zero, List.set_cons_succ]
    refine heldTake (i := 16) (v := ?_) rfl (by kernel_rfl) (by kernel_rfl) (fun _ _ _ h => h) (by rfl) (by assumption) (fun w hSw => ?_) ?_; rotate_left; focus ((try dsimp only at hSw); go_simp; try with_reducible rfl)
    try simp only [Act.put, List.setIfInBounds_toArray, List.set_cons_zero, List.set_cons_succ]
    refine heldTake (i := 17) (v := ?_) rfl (by kernel_rfl) (by kernel_rfl) (fun _ _ _ h => h) (by rfl) (by assumption) (fun w hSw => ?_) ?_; rotate_left; focus ((try dsimp only at hSw); go_simp; try with_reducible rfl)
    try simp only [Act.put, List.setIfInBounds_toArray, List.set_cons_zero, List.set_cons_succ]
    refine heldTake (i := 18) (v := ?_) rfl (by kernel_rfl) (by kernel_rfl) (fun _ _ _ h => h) (by rfl) (by assumption) (fun w hSw => ?_) ?_; rotate_left; focus ((try dsimp only at hSw); go_simp; try with_reducible rfl)
    try simp only [Act.put, List.setIfInBounds_toArray, List.set_cons_zero, List.set_cons_succ]
    refine heldTake (i := 19) (v := ?_) rfl (by kernel_rfl) (by kernel_rfl) (fun _ _ _ h => h) (by rfl) (by assumption) (fun w hSw => ?_) ?_; rotate_left; focus ((try dsimp only at hSw); go_simp; try with_reducible rfl)
    try simp only [Act.put, List.setIfInBounds_toArray, List.set_cons_zero, List.set_cons_succ]
    refine heldTake (i := 20) (v := ?_) rfl (by kernel_rfl) (by kernel_rfl) (fun _ _ _ h => h) (by rfl) (by assumption) (fun w hSw => ?_) ?_; rotate_left; focus ((try dsimp only at hSw); go_simp; try with_reducible rfl)
    try simp only [Act.put, List.setIfInBounds_toArray, List.set_cons_zero, List.set_cons_succ]
    refine heldTake (i := 21) (v := ?_) rfl (by kernel_rfl) (by kernel_rfl) (fun _ _ _ h => h) (by rfl) (by assumption) (fun w hSw => ?_) ?_; rotate_left; focus ((try dsimp only at hSw); go_simp; try with_reducible rfl)
    try simp only [Act.put, List.setIfInBounds_toArray, List.set_cons_zero, List.set_cons_succ]
    refine heldTake (i := 22) (v := ?_) rfl (by kernel_rfl) (by kernel_rfl) (fun _ _ _ h => h) (by rfl) (by assumption) (fun w hSw => ?_) ?_; rotate_left; focus ((try dsimp only at hSw); go_simp; try with_reducible rfl)
    try simp only [Act.put, List.setIfInBounds_toArray, List.set_cons_zero, List.set_cons_succ]
    refine wpAnyH_done (by kernel_rfl) ?_ _
    clear hH HS0 OP
    go_wp2
    go_ret
    exact ⟨rfl, HB.out⟩

  · have hl : (W.at 1).live = false := by simpa using hl
    have hw : (W.at 1).waits = 0 := by unfold Wi.Cn.waits; rw [hl]; rfl
    rw [hw]
    rw [hl] at OP
    have OP := Lib.hid OP
    clear h hl hw
    go_enter Try.func25, Try.ntmps25
    go_wp2_with fail
    refine OP.out.mono ?_
    rintro e w1 ⟨rfl, hw⟩
    obtain rfl := hw
    go_wp2
    go_ret
    exact ⟨rfl, Below.refl _ _⟩
theorem rwaits_n (h : RW w B g F W) {k : Int} (h0 : k ≠ 0) (h1 : k ≠ 1) : Calls Try.prog 25 #[.pointer (some ⟨g, 0, none⟩), .int .i64 k] w fun e w' => e = .returned (.int .i64 ((W.at k).waits : Int)) ∧ Below w.heap.size w w' := by
  have OP := ropen_n h h0 h1
  rw [at_far h0 h1] at OP ⊢
  have OP := Lib.hid OP
  clear h0 h1 h
  go_enter Try.func25, Try.ntmps25
  go_wp2_with fail
  refine OP.out.mono ?_
  rintro e w1 ⟨rfl, hw⟩
  obtain rfl := hw
  go_wp2
  go_ret
  exact ⟨rfl, Below.refl _ _⟩

/-- The reference's 'Waits'. -/
theorem rwaits_any (h : RW w B g F W) (k : Int) : Calls Try.prog 25 #[.pointer (some ⟨g, 0, none⟩), .int .i64 k] w fun e w' => e = .returned (.int .i64 ((W.at k).waits : Int)) ∧ Below w.heap.size w w' := by
  by_cases h0 : k = 0
  · subst h0; exact rwaits_0 h
  by_cases h1 : k = 1
  · subst h1; exact rwaits_1 h
  exact rwaits_n h h0 h1
theorem rfinish_0 (h : RW w B g F W) : Calls Try.prog 15 #[.pointer (some ⟨g, 0, none⟩), .int .i64 0] w fun e w' => e = .returned (.tuple #[]) ∧ Rs B g F w (W.finish 0) w' := by
  have OP := ropen_0 h
  rw [Wi.Wm.finish_eq]
  by_cases hl : (W.at 0).live = true
  · have hd : (W.at 0).done = { W.at 0 with dn := true } := by unfold Wi.Cn.done; rw [if_pos hl]
    rw [hd]
    rw [hl] at OP
    have OP := Lib.hid OP
    obtain ⟨F0, ha⟩ := ar_zero h
    obtain ⟨C, gq, s, so, sw, hx⟩ := ha.ca
    have c2 : w.cell? ⟨g, 2, none⟩ = some (.bool (W.at 0).dn) := hx.c2
    have f2 := hx.f 2
    have R := Lib.hid (ha.back _ F0 { W.at 0 with dn := true } ⟨_, _, _, _, _, hx.cell (i := 2) (v := .bool true) (by omega) { W.at 0 with dn := true } rfl rfl rfl rfl rfl rfl rfl⟩ (Cr.set (i := 2) (by omega)))
    clear h ha hx hl hd
    go_enter Try.func15, Try.ntmps15
    go_wp2_with fail
    refine OP.out.mono ?_
    rintro e w1 ⟨rfl, hw⟩
    obtain rfl := hw
    go_wp2
    go_end0
    exact ⟨rfl, R.out⟩
  · have hl : (W.at 0).live = false := by simpa using hl
    have hd : (W.at 0).done = W.at 0 := by unfold Wi.Cn.done; rw [if_neg (by rw [hl]; decide)]
    rw [hd, Wi.Wm.upd_at]
    rw [hl] at OP
    have OP := Lib.hid OP
    have H := Lib.hid h
    clear h hl hd
    go_enter Try.func15, Try.ntmps15
    go_wp2_with fail
    refine OP.out.mono ?_
    rintro e w1 ⟨rfl, hw⟩
    obtain rfl := hw
    go_wp2
    go_end0
    exact ⟨rfl, Rs.below H.out (Below.refl _ _)⟩
theorem rfinish_1 (h : RW w B g F W) : Calls Try.prog 15 #[.pointer (some ⟨g, 0, none⟩), .int .i64 1] w fun e w' => e = .returned (.tuple #[]) ∧ Rs B g F w (W.finish 1) w' := by
  have OP := ropen_1 h
  rw [Wi.Wm.finish_eq]
  by_cases hl : (W.at 1).live = true
  · have hd : (W.at 1).done = { W.at 1 with dn := true } := by unfold Wi.Cn.done; rw [if_pos hl]
    rw [hd]
    rw [hl] at OP
    have OP := Lib.hid OP
    obtain ⟨F0, ha⟩ := ar_one h
    obtain ⟨C, gq, s, so, sw, hx⟩ := ha.ca
    have c2 : w.cell? ⟨g, 8, none⟩ = some (.bool (W.at 1).dn) := hx.c2
    have f2 := hx.f 8
    have R := Lib.hid (ha.back _ F0 { W.at 1 with dn := true } ⟨_, _, _, _, _, hx.cell (i := 2) (v := .bool true) (by omega) { W.at 1 with dn := true } rfl rfl rfl rfl rfl rfl rfl⟩ (Cr.set (i := 2) (by omega)))
    clear h ha hx hl hd
    go_enter Try.func15, Try.ntmps15
    go_wp2_with fail
    refine OP.out.mono ?_
    rintro e w1 ⟨rfl, hw⟩
    obtain rfl := hw
    go_wp2
    go_end0
    exact ⟨rfl, R.out⟩
  · have hl : (W.at 1).live = false := by simpa using hl
    have hd : (W.at 1).done = W.at 1 := by unfold Wi.Cn.done; rw [if_neg (by rw [hl]; decide)]
    rw [hd, Wi.Wm.upd_at]
    rw [hl] at OP
    have OP := Lib.hid OP
    have H := Lib.hid h
    clear h hl hd
    go_enter Try.func15, Try.ntmps15
    go_wp2_with fail
    refine OP.out.mono ?_
    rintro e w1 ⟨rfl, hw⟩
    obtain rfl := hw
    go_wp2
    go_end0
    exact ⟨rfl, Rs.below H.out (Below.refl _ _)⟩
theorem rfinish_n (h : RW w B g F W) {k : Int} (h0 : k ≠ 0) (h1 : k ≠ 1) : Calls Try.prog 15 #[.pointer (some ⟨g, 0, none⟩), .int .i64 k] w fun e w' => e = .returned (.tuple #[]) ∧ Rs B g F w (W.finish k) w' := by
  have OP := ropen_n h h0 h1
  have hf : W.finish k = W := by unfold Wi.Wm.finish; rw [at_far h0 h1]; rfl
  rw [hf]
  rw [at_far h0 h1] at OP
  have OP := Lib.hid OP
  have H := Lib.hid h
  clear h0 h1 h hf
  go_enter Try.func15, Try.ntmps15
  go_wp2_with fail
  refine OP.out.mono ?_
  rintro e w1 ⟨rfl, hw⟩
  obtain rfl := hw
  go_wp2
  go_end0
  exact ⟨rfl, Rs.below H.out (Below.refl _ _)⟩

/-- The reference's 'Finish'. -/
theorem rfinish_any (h : RW w B g F W) (k : Int) : Calls Try.prog 15 #[.pointer (some ⟨g, 0, none⟩), .int .i64 k] w fun e w' => e = .returned (.tuple #[]) ∧ Rs B g F w (W.finish k) w' := by
  by_cases h0 : k = 0
  · subst h0; exact rfinish_0 h
  by_cases h1 : k = 1
  · subst h1; exact rfinish_1 h
  exact rfinish_n h h0 h1
theorem rwrite_0 (h : RW w B g F W) (v : Value) (ys : List UInt8) (hr : Rd w v (ys.map bv)) : Calls Try.prog 13 #[.pointer (some ⟨g, 0, none⟩), .int .i64 0, v] w fun e w' => e = .returned (.int .i64 ((W.write 0 ys).1 : Int)) ∧ Rs B g F w (W.write 0 ys).2 w' := by
  have OP := ropen_0 h
  obtain ⟨vo, vc, rfl, _⟩ := hr.form
  have H := Lib.hid h
  by_cases hl : (W.at 0).live = true
  · rw [hl] at OP
    have OP := Lib.hid OP
    obtain ⟨F0, ha⟩ := ar_zero h
    obtain ⟨C, gq, s, so, sw, hx⟩ := ha.ca
    have c2 : w.cell? ⟨g, 2, none⟩ = some (.bool (W.at 0).dn) := hx.c2
    have c3 : w.cell? ⟨g, 3, none⟩ = some (.pointer (some ⟨gq, 0, none⟩)) := hx.c3
    by_cases hd : (W.at 0).dn = true
    · have hW : W.write 0 ys = (65, W) := by rw [Wi.Wm.write_eq]; unfold Wi.Cn.puts; rw [if_pos (.inr hd), Wi.Wm.upd_at]
      rw [hW]
      rw [hd] at c2
      clear h ha hx hl hd hW hr
      go_enter Try.func13, Try.ntmps13
      go_wp2_with fail
      refine OP.out.mono ?_
      rintro e w1 ⟨rfl, hw⟩
      obtain rfl := hw
      go_wp2
      go_ret
      exact ⟨rfl, Rs.below H.out (Below.refl _ _)⟩
    · have hnn : ¬ ((W.at 0).live = false ∨ (W.at 0).dn = true) := by rw [hl]; simp [hd]
      have hd : (W.at 0).dn = false := by simpa using hd
      rw [hd] at c2
      have hql := hx.q.hl
      by_cases hf : 4000 < (W.at 0).xs.length + ys.length
      · have hW : W.write 0 ys = (72, W) := by rw [Wi.Wm.write_eq]; unfold Wi.Cn.puts; rw [if_neg hnn, if_pos hf, Wi.Wm.upd_at]
        rw [hW]
        have C2 := Lib.hid (rfull_any hx.q _ ys hr (by omega))
        clear h ha hx hl hd hW hr hf hnn hql
        go_enter Try.func13, Try.ntmps13
        go_wp2_with fail
        refine OP.out.mono ?_
        rintro e w1 ⟨rfl, hw⟩
        obtain rfl := hw
        go_wp2_with fail
        refine C2.out.mono ?_
        rintro e w2 ⟨rfl, hb⟩
        have HB := Lib.hid hb
        clear hb C2
        go_wp2
        go_ret
        exact ⟨rfl, Rs.below H.out HB.out⟩
      · have hW : W.write 0 ys = (0, W.upd 0 { W.at 0 with xs := (W.at 0).xs ++ ys }) := by rw [Wi.Wm.write_eq]; unfold Wi.Cn.puts; rw [if_neg hnn, if_neg hf]
        rw [hW]
        have C2 := Lib.hid (rput_any hx.q _ ys hr (by omega) (by omega) (Nat.le_trans hx.hg (Nat.le_of_lt hx.lt)))
        have HA := Lib.hid ha
        have HX := Lib.hid hx
        clear h ha hx hl hd hW hr hf hnn hql
        go_enter Try.func13, Try.ntmps13
        go_wp2_with fail
        refine OP.out.mono ?_
        rintro e w1 ⟨rfl, hw⟩
        obtain rfl := hw
        go_wp2_with fail
        refine C2.out.mono ?_
        rintro e w2 ⟨s', rfl, hq, hT, hs⟩
        have P := Lib.hid (HX.out.queue { W.at 0 with xs := (W.at 0).xs ++ ys } hq hT (fun k hk => .inr (hs k hk)) rfl rfl rfl rfl rfl)
        clear hq hT hs C2
        go_wp2
        go_ret
        exact ⟨rfl, HA.out.back _ _ _ ⟨_, _, _, _, _, P.out.1⟩ P.out.2⟩
  · have hl : (W.at 0).live = false := by simpa using hl
    have hW : W.write 0 ys = (65, W) := by rw [Wi.Wm.write_eq]; unfold Wi.Cn.puts; rw [if_pos (.inl hl), Wi.Wm.upd_at]
    rw [hW]
    rw [hl] at OP
    have OP := Lib.hid OP
    clear h hl hW hr
    go_enter Try.func13, Try.ntmps13
    go_wp2_with fail
    refine OP.out.mono ?_
    rintro e w1 ⟨rfl, hw⟩
    obtain rfl := hw
    go_wp2
    go_ret
    exact ⟨rfl, Rs.below H.out (Below.refl _ _)⟩
theorem rwrite_1 (h : RW w B g F W) (v : Value) (ys : List UInt8) (hr : Rd w v (ys.map bv)) : Calls Try.prog 13 #[.pointer (some ⟨g, 0, none⟩), .int .i64 1, v] w fun e w' => e = .returned (.int .i64 ((W.write 1 ys).1 : Int)) ∧ Rs B g F w (W.write 1 ys).2 w' := by
  have OP := ropen_1 h
  obtain ⟨vo, vc, rfl, _⟩ := hr.form
  have H := Lib.hid h
  by_cases hl : (W.at 1).live = true
  · rw [hl] at OP
    have OP := Lib.hid OP
    obtain ⟨F0, ha⟩ := ar_one h
    obtain ⟨C, gq, s, so, sw, hx⟩ := ha.ca
    have c2 : w.cell? ⟨g, 8, none⟩ = some (.bool (W.at 1).dn) := hx.c2
    have c3 : w.cell? ⟨g, 9, none⟩ = some (.pointer (some ⟨gq, 0, none⟩)) := hx.c3
    by_cases hd : (W.at 1).dn = true
    · have hW : W.write 1 ys = (65, W) := by rw [Wi.Wm.write_eq]; unfold Wi.Cn.puts; rw [if_pos (.inr hd), Wi.Wm.upd_at]
      rw [hW]
      rw [hd] at c2
      clear h ha hx hl hd hW hr
      go_enter Try.func13, Try.ntmps13
      go_wp2_with fail
      refine OP.out.mono ?_
      rintro e w1 ⟨rfl, hw⟩
      obtain rfl := hw
      go_wp2
      go_ret
      exact ⟨rfl, Rs.below H.out (Below.refl _ _)⟩
    · have hnn : ¬ ((W.at 1).live = false ∨ (W.at 1).dn = true) := by rw [hl]; simp [hd]
      have hd : (W.at 1).dn = false := by simpa using hd
      rw [hd] at c2
      have hql := hx.q.hl
      by_cases hf : 4000 < (W.at 1).xs.length + ys.length
      · have hW : W.write 1 ys = (72, W) := by rw [Wi.Wm.write_eq]; unfold Wi.Cn.puts; rw [if_neg hnn, if_pos hf, Wi.Wm.upd_at]
        rw [hW]
        have C2 := Lib.hid (rfull_any hx.q _ ys hr (by omega))
        clear h ha hx hl hd hW hr hf hnn hql
        go_enter Try.func13, Try.ntmps13
        go_wp2_with fail
        refine OP.out.mono ?_
        rintro e w1 ⟨rfl, hw⟩
        obtain rfl := hw
        go_wp2_with fail
        refine C2.out.mono ?_
        rintro e w2 ⟨rfl, hb⟩
        have HB := Lib.hid hb
        clear hb C2
        go_wp2
        go_ret
        exact ⟨rfl, Rs.below H.out HB.out⟩
      · have hW : W.write 1 ys = (0, W.upd 1 { W.at 1 with xs := (W.at 1).xs ++ ys }) := by rw [Wi.Wm.write_eq]; unfold Wi.Cn.puts; rw [if_neg hnn, if_neg hf]
        rw [hW]
        have C2 := Lib.hid (rput_any hx.q _ ys hr (by omega) (by omega) (Nat.le_trans hx.hg (Nat.le_of_lt hx.lt)))
        have HA := Lib.hid ha
        have HX := Lib.hid hx
        clear h ha hx hl hd hW hr hf hnn hql
        go_enter Try.func13, Try.ntmps13
        go_wp2_with fail
        refine OP.out.mono ?_
        rintro e w1 ⟨rfl, hw⟩
        obtain rfl := hw
        go_wp2_with fail
        refine C2.out.mono ?_
        rintro e w2 ⟨s', rfl, hq, hT, hs⟩
        have P := Lib.hid (HX.out.queue { W.at 1 with xs := (W.at 1).xs ++ ys } hq hT (fun k hk => .inr (hs k hk)) rfl rfl rfl rfl rfl)
        clear hq hT hs C2
        go_wp2
        go_ret
        exact ⟨rfl, HA.out.back _ _ _ ⟨_, _, _, _, _, P.out.1⟩ P.out.2⟩
  · have hl : (W.at 1).live = false := by simpa using hl
    have hW : W.write 1 ys = (65, W) := by rw [Wi.Wm.write_eq]; unfold Wi.Cn.puts; rw [if_pos (.inl hl), Wi.Wm.upd_at]
    rw [hW]
    rw [hl] at OP
    have OP := Lib.hid OP
    clear h hl hW hr
    go_enter Try.func13, Try.ntmps13
    go_wp2_with fail
    refine OP.out.mono ?_
    rintro e w1 ⟨rfl, hw⟩
    obtain rfl := hw
    go_wp2
    go_ret
    exact ⟨rfl, Rs.below H.out (Below.refl _ _)⟩
theorem rwrite_n (h : RW w B g F W) {k : Int} (h0 : k ≠ 0) (h1 : k ≠ 1) (v : Value) (ys : List UInt8) (hr : Rd w v (ys.map bv)) : Calls Try.prog 13 #[.pointer (some ⟨g, 0, none⟩), .int .i64 k, v] w fun e w' => e = .returned (.int .i64 ((W.write k ys).1 : Int)) ∧ Rs B g F w (W.write k ys).2 w' := by
  have OP := ropen_n h h0 h1
  have hf : W.write k ys = (65, W) := by unfold Wi.Wm.write; rw [at_far h0 h1]; rfl
  obtain ⟨vo, vc, rfl, _⟩ := hr.form
  rw [hf]
  rw [at_far h0 h1] at OP
  have OP := Lib.hid OP
  have H := Lib.hid h
  clear h0 h1 h hf hr
  go_enter Try.func13, Try.ntmps13
  go_wp2_with fail
  refine OP.out.mono ?_
  rintro e w1 ⟨rfl, hw⟩
  obtain rfl := hw
  go_wp2
  go_ret
  exact ⟨rfl, Rs.below H.out (Below.refl _ _)⟩

/-- The reference's 'Write'. -/
theorem rwrite_any (h : RW w B g F W) (k : Int) (v : Value) (ys : List UInt8) (hr : Rd w v (ys.map bv)) : Calls Try.prog 13 #[.pointer (some ⟨g, 0, none⟩), .int .i64 k, v] w fun e w' => e = .returned (.int .i64 ((W.write k ys).1 : Int)) ∧ Rs B g F w (W.write k ys).2 w' := by
  by_cases h0 : k = 0
  · subst h0; exact rwrite_0 h v ys hr
  by_cases h1 : k = 1
  · subst h1; exact rwrite_1 h v ys hr
  exact rwrite_n h h0 h1 v ys hr
end
end Go.Proofs.Ytneifmnlailipaa
