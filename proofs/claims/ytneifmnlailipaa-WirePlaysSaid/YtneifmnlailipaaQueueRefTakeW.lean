/- The reference's queue: Taken and Take walked. -/
import Derived.Test.YtneifmnlailipaaQueueRefW
namespace Go.Proofs.Ytneifmnlailipaa
open Go.RowKit
section
variable {w w' : World} {B g t : Nat} {s : Value} {most : Int} {xs : List UInt8}

/-- The reference's 'Taken'. -/
theorem rtaken_any (h : RO w B g s most xs t) : Calls Try.prog 52 #[.pointer (some ⟨g, 0, none⟩)] w fun e w' => ∃ v, e = .returned v ∧ Below w.heap.size w w' ∧ (∃ bo c, v = .slice bo t c) ∧ Rd w' v ((xs.take t).map bv) := by
  obtain ⟨ao, cap, hsf, hcap, hcm⟩ := h.form
  subst hsf
  have h1 := h.next ((Below.refl w.heap.size w).drew)
  have HB := Lib.hid ((Below.refl w.heap.size w).drew)
  have hs := h.hs
  have ht := h.ht
  have hzl : (xs.take t).length = t := by rw [List.length_take]; omega
  have H1 := Lib.hid h1
  have HZL := Lib.hid hzl
  have HR := Lib.hid (h1.rd.cut rfl h.ht)
  generalize xs.length = L at *
  have i1 : (0 : Int) ≤ (t : Int) := Int.natCast_nonneg _
  have i2 : (t : Int) ≤ (cap : Int) := by omega
  unfold maxLen at hcm
  clear h h1 hzl
  go_enter Try.func52, Try.ntmps52
  go_wp2
  have hs0 : w.drew.cell? ⟨g, 2, none⟩ = some (.slice ao L cap) ∧ w.drew.cell? ⟨g, 1, none⟩ = some (.int .i64 (t : Int)) := ⟨H1.out.c2, H1.out.c1⟩
  refine wp_region_held_drew (S := fun w' => w'.cell? ⟨g, 2, none⟩ = some (.slice ao L cap) ∧ w'.cell? ⟨g, 1, none⟩ = some (.int .i64 (t : Int))) (by kernel_rfl) hs0 (fun hH => ?_)
  generalize w.drew = w1 at *
  have hal : Below w1.heap.size w1 (w1.alloc (.cells #[] 5)) := (Below.refl _ _).alloc (Nat.le_refl _) _
  have S1 := Lib.hid (show _ ∧ _ from ⟨(H1.out.next hal).c2, (H1.out.next hal).c1⟩)
  have HRA := Lib.hid (HR.out.below hal)
  have HAL := Lib.hid hal
  clear hal hs0
  refine heldTake (i := 1) (v := ?_) rfl (by kernel_rfl) (by kernel_rfl) (fun _ _ _ h => h) (by rfl) (by assumption) (fun w hSw => ?_) ?_; rotate_left; focus ((try dsimp only at hSw); go_simp; try with_reducible rfl)
  try simp only [Act.put, List.setIfInBounds_toArray, List.set_cons_zero, List.set_cons_succ]
  refine heldTake (i := 2) (v := ?_) rfl (by kernel_rfl) (by kernel_rfl) (fun _ _ _ h => h) (by rfl) (by assumption) (fun w hSw => ?_) ?_; rotate_left; focus ((try dsimp only at hSw); go_simp; try with_reducible rfl)
  try simp only [Act.put, List.setIfInBounds_toArray, List.set_cons_zero, List.set_cons_succ]
  refine heldTake (i := 3) (v := ?_) rfl (by kernel_rfl) (by kernel_rfl) (fun _ _ _ h => h) (by rfl) (by assumption) (fun w hSw => ?_) ?_; rotate_left; focus ((try dsimp only at hSw); go_simp; try with_reducible rfl)
  try simp only [Act.put, List.setIfInBounds_toArray, List.set_cons_zero, List.set_cons_succ]
  refine heldTake (i := 4) (v := ?_) rfl (by kernel_rfl) (by kernel_rfl) (fun _ _ _ h => h) (by rfl) (by assumption) (fun w hSw => ?_) ?_; rotate_left; focus ((try dsimp only at hSw); go_simp; try with_reducible rfl)
  try simp only [Act.put, List.setIfInBounds_toArray, List.set_cons_zero, List.set_cons_succ]
  refine heldTake (i := 5) (v := ?_) rfl (by kernel_rfl) (by kernel_rfl) (fun _ _ _ h => h) (by rfl) (by assumption) (fun w hSw => ?_) ?_; rotate_left; focus ((try dsimp only at hSw); go_simp; try with_reducible rfl)
  try simp only [Act.put, List.setIfInBounds_toArray, List.set_cons_zero, List.set_cons_succ]
  refine heldTake (i := 6) (v := ?_) rfl (by kernel_rfl) (by kernel_rfl) (fun _ _ _ h => h) (by rfl) (by assumption) (fun w hSw => ?_) ?_; rotate_left; focus ((try dsimp only at hSw); go_simp; try with_reducible rfl)
  try simp only [Act.put, List.setIfInBounds_toArray, List.set_cons_zero, List.set_cons_succ]
  refine heldTake (i := 7) (v := ?_) rfl (by kernel_rfl) (by kernel_rfl) (fun _ _ _ h => h) (by rfl) (by assumption) (fun w hSw => ?_) ?_; rotate_left; focus ((try dsimp only at hSw); go_simp; try with_reducible rfl)
  try simp only [Act.put, List.setIfInBounds_toArray, List.set_cons_zero, List.set_cons_succ]
  refine heldTake (i := 8) (v := ?_) rfl (by kernel_rfl) (by kernel_rfl) (fun _ _ _ h => h) (by rfl) (by assumption) (fun w hSw => ?_) ?_; rotate_left; focus ((try dsimp only at hSw); go_simp; try with_reducible rfl)
  try simp only [Act.put, List.setIfInBounds_toArray, List.set_cons_zero, List.set_cons_succ]
  refine heldTake (i := 9) (v := ?_) rfl (by kernel_rfl) (by kernel_rfl) (fun _ _ _ h => h) (by rfl) (by assumption) (fun w hSw => ?_) ?_; rotate_left; focus ((try dsimp only at hSw); go_simp; try with_reducible rfl)
  try simp only [Act.put, List.setIfInBounds_toArray, List.set_cons_zero, List.set_cons_succ]
  -- NEXT 0 Op.buildSlice 28 0 #[]
  refine heldNext (i := 0) rfl (by kernel_rfl) (by rfl) (fun K hK => ?_)
  go_simp; refine hK.out _ _ S1.out ?_; clear hK K
  try simp only [Act.put, List.setIfInBounds_toArray, List.set_cons_zero, List.set_cons_succ]
  -- NEXT 10 Op.call { callee := Callee.builtin Builtin.append, args := #[Operand.tmp 3, Operand.tmp 12], argTypes := #[28,
  refine heldNext (i := 10) rfl (by kernel_rfl) (by rfl) (fun K hK => ?_)
  refine wp_append_any (.tmp 3) (.tmp 12) (by rfl) (by rfl) (World.ownsRow_made (base := w1.heap.size) w1 #[] 0 (Nat.le_refl _) (Nat.zero_le _) rfl) _ (by rfl) (xs.take t) HRA.out t (by rw [Nat.zero_add]; exact HZL.out) (by omega) HAL.out.size (fun bo c w2 ho hT => ?_); have hb2 : Below w1.heap.size w1 w2 := HAL.out.grown hT HAL.out.size (fun k hk => by cases hk; exact Nat.le_refl _); have QX := H1.out.next hb2; have S2 : w2.cell? ⟨g, 2, none⟩ = some (.slice ao L cap) ∧ w2.cell? ⟨g, 1, none⟩ = some (.int .i64 (t : Int)) := ⟨QX.c2, QX.c1⟩; refine hK.out _ _ S2 ?_; clear hK K
  try simp only [Act.put, List.setIfInBounds_toArray, List.set_cons_zero, List.set_cons_succ]
  refine heldTake (i := 11) (v := ?_) rfl (by kernel_rfl) (by kernel_rfl) (fun _ _ _ h => h) (by rfl) (by assumption) (fun w hSw => ?_) ?_; rotate_left; focus ((try dsimp only at hSw); go_simp; try with_reducible rfl)
  try simp only [Act.put, List.setIfInBounds_toArray, List.set_cons_zero, List.set_cons_succ]
  refine wpAnyH_done (by kernel_rfl) ?_ _
  rw [List.nil_append] at ho
  have HO := Lib.hid (Rd.of_own ho)
  have HB2 := Lib.hid (HB.out.trans (hb2.mono HB.out.size))
  clear S2 ho hT hb2 QX hH
  go_wp2
  go_ret
  exact ⟨_, rfl, HB2.out, ⟨_, _, rfl⟩, HO.out⟩

set_option maxHeartbeats 1000000 in
/-- The reference's 'Take': k are taken. -/
theorem rtake_any (h : RO w B g s most xs t) (n : Int) (k : Nat) (hk : k = min (max n 0).toNat (xs.length - t)) :
    Calls Try.prog 48 #[.pointer (some ⟨g, 0, none⟩), .int .i64 n] w fun e w' => ∃ v, e = .returned v ∧ (∃ bo c, v = .slice bo k c) ∧ RO w' B g s most xs (t + k) ∧ Turn g (.slice none 0 0) w w' ∧ Rd w' v (((xs.drop t).take k).map bv) := by
  obtain ⟨ao, cap, hsf, hcap, hcm⟩ := h.form
  subst hsf
  have h1 := h.next ((Below.refl w.heap.size w).drew)
  have HB := Lib.hid ((Below.refl w.heap.size w).drew)
  have hs := h.hs
  have ht := h.ht
  have hzl : ((xs.drop t).take k).length = k := by rw [List.length_take, List.length_drop]; omega
  obtain ⟨T1, hT1⟩ : ∃ T1, T1 = t + k := ⟨_, rfl⟩
  rw [← hT1]
  have H1 := Lib.hid h1
  have HZL := Lib.hid hzl
  generalize hL : xs.length = L at *
  have HL := Lib.hid hL
  obtain ⟨P, hP⟩ : ∃ P, P = (max n 0).toNat := ⟨_, rfl⟩
  obtain ⟨D, hD⟩ : ∃ D, D = L - t := ⟨_, rfl⟩
  have hmx : (if n < 0 then 0 else n) = (P : Int) := by
    rw [hP]
    split <;> omega
  have hmn : (if D < P then (D : Int) else (P : Int)) = (k : Int) := by
    rw [hk]
    split <;> omega
  have w1 : IntKind.i64.wrap ((L : Int) - (t : Int)) = (D : Int) := by rw [wraps_i64 _ (by omega) (by omega)]; omega
  have e2 : (t : Int) + (k : Int) = (T1 : Int) := by omega
  have w2 : IntKind.i64.wrap ((t : Int) + (k : Int)) = (T1 : Int) := by rw [wraps_i64 _ (by omega) (by omega)]; omega
  have w3 : IntKind.i64.wrap (T1 : Int) = (T1 : Int) := wraps_i64 _ (by omega) (by omega)
  have e5 : T1 - t = k := by omega
  have lT1 : T1 ≤ L := by omega
  have i1 : (0 : Int) ≤ (t : Int) := Int.natCast_nonneg _
  have i2 : (t : Int) ≤ (T1 : Int) := by omega
  have i3 : (T1 : Int) ≤ (cap : Int) := by omega
  have i4 : t ≤ T1 := by omega
  have i5 : T1 ≤ cap := by omega
  have kl : k ≤ 16777216 := by omega
  unfold maxLen at hcm
  clear h h1 hzl hT1 hk hP hD hL
  go_enter Try.func48, Try.ntmps48
  go_upto_region 1 with fail
  go_cut [1] from 6 to 18 (fun s1 wx => s1 = .int .i64 (k : Int) ∧ RO wx B g (.slice ao L cap) most xs t ∧ Below w.heap.size w wx)
  case first =>
    have hs0 : w.drew.cell? ⟨g, 2, none⟩ = some (.slice ao L cap) ∧ w.drew.cell? ⟨g, 1, none⟩ = some (.int .i64 (t : Int)) := ⟨H1.out.c2, H1.out.c1⟩
    refine wp_region_held_drew (S := fun w' => w'.cell? ⟨g, 2, none⟩ = some (.slice ao L cap) ∧ w'.cell? ⟨g, 1, none⟩ = some (.int .i64 (t : Int))) (by kernel_rfl) hs0 (fun hH => ?_)
    refine heldTake (i := 0) (v := ?_) rfl (by kernel_rfl) (by kernel_rfl) (fun _ _ _ h => h) (by rfl) (by assumption) (fun w hSw => ?_) ?_; rotate_left; focus ((try dsimp only at hSw); go_simp; try with_reducible rfl)
    try simp only [Act.put, List.setIfInBounds_toArray, List.set_cons_zero, List.set_cons_succ]
    refine heldTake (i := 1) (v := ?_) rfl (by kernel_rfl) (by kernel_rfl) (fun _ _ _ h => h) (by rfl) (by assumption) (fun w hSw => ?_) ?_; rotate_left; focus ((try dsimp only at hSw); go_simp; try with_reducible rfl)
    try simp only [Act.put, List.setIfInBounds_toArray, List.set_cons_zero, List.set_cons_succ]
    refine heldTake (i := 2) (v := ?_) rfl (by kernel_rfl) (by kernel_rfl) (fun _ _ _ h => h) (by rfl) (by assumption) (fun w hSw => ?_) ?_; rotate_left; focus ((try dsimp only at hSw); go_simp; try with_reducible rfl)
    try simp only [Act.put, List.setIfInBounds_toArray, List.set_cons_zero, List.set_cons_succ]
    refine heldTake (i := 3) (v := ?_) rfl (by kernel_rfl) (by kernel_rfl) (fun _ _ _ h => h) (by rfl) (by assumption) (fun w hSw => ?_) ?_; rotate_left; focus ((try dsimp only at hSw); go_simp; try with_reducible rfl)
    try simp only [Act.put, List.setIfInBounds_toArray, List.set_cons_zero, List.set_cons_succ]
    refine heldTake (i := 4) (v := ?_) rfl (by kernel_rfl) (by kernel_rfl) (fun _ _ _ h => h) (by rfl) (by assumption) (fun w hSw => ?_) ?_; rotate_left; focus ((try dsimp only at hSw); go_simp; try with_reducible rfl)
    try simp only [Act.put, List.setIfInBounds_toArray, List.set_cons_zero, List.set_cons_succ]
    refine heldTake (i := 5) (v := ?_) rfl (by kernel_rfl) (by kernel_rfl) (fun _ _ _ h => h) (by rfl) (by assumption) (fun w hSw => ?_) ?_; rotate_left; focus ((try dsimp only at hSw); go_simp; try with_reducible rfl)
    try simp only [Act.put, List.setIfInBounds_toArray, List.set_cons_zero, List.set_cons_succ]
    refine heldTake (i := 6) (v := ?_) rfl (by kernel_rfl) (by kernel_rfl) (fun _ _ _ h => h) (by rfl) (by assumption) (fun w hSw => ?_) ?_; rotate_left; focus ((try dsimp only at hSw); go_simp; try with_reducible rfl)
    try simp only [Act.put, List.setIfInBounds_toArray, List.set_cons_zero, List.set_cons_succ]
    refine heldTake (i := 7) (v := ?_) rfl (by kernel_rfl) (by kernel_rfl) (fun _ _ _ h => h) (by rfl) (by assumption) (fun w hSw => ?_) ?_; rotate_left; focus ((try dsimp only at hSw); go_simp; try with_reducible rfl)
    try simp only [Act.put, List.setIfInBounds_toArray, List.set_cons_zero, List.set_cons_succ]
    refine heldTake (i := 8) (v := ?_) rfl (by kernel_rfl) (by kernel_rfl) (fun _ _ _ h => h) (by rfl) (by assumption) (fun w hSw => ?_) ?_; rotate_left; focus ((try dsimp only at hSw); go_simp; try with_reducible rfl)
    try simp only [Act.put, List.setIfInBounds_toArray, List.set_cons_zero, List.set_cons_succ]
    refine heldTake (i := 9) (v := ?_) rfl (by kernel_rfl) (by kernel_rfl) (fun _ _ _ h => h) (by rfl) (by assumption) (fun w hSw => ?_) ?_; rotate_left; focus ((try dsimp only at hSw); go_simp; try with_reducible rfl)
    try simp only [Act.put, List.setIfInBounds_toArray, List.set_cons_zero, List.set_cons_succ]
    refine heldTake (i := 10) (v := ?_) rfl (by kernel_rfl) (by kernel_rfl) (fun _ _ _ h => h) (by rfl) (by assumption) (fun w hSw => ?_) ?_; rotate_left; focus ((try dsimp only at hSw); go_simp; try with_reducible rfl)
    try simp only [Act.put, List.setIfInBounds_toArray, List.set_cons_zero, List.set_cons_succ]
    refine heldTake (i := 11) (v := ?_) rfl (by kernel_rfl) (by kernel_rfl) (fun _ _ _ h => h) (by rfl) (by assumption) (fun w hSw => ?_) ?_; rotate_left; focus ((try dsimp only at hSw); go_simp; try with_reducible rfl)
    try simp only [Act.put, List.setIfInBounds_toArray, List.set_cons_zero, List.set_cons_succ]
    refine heldTake (i := 12) (v := ?_) rfl (by kernel_rfl) (by kernel_rfl) (fun _ _ _ h => h) (by rfl) (by assumption) (fun w hSw => ?_) ?_; rotate_left; focus ((try dsimp only at hSw); go_simp; try with_reducible rfl)
    try simp only [Act.put, List.setIfInBounds_toArray, List.set_cons_zero, List.set_cons_succ]
    refine heldTake (i := 13) (v := ?_) rfl (by kernel_rfl) (by kernel_rfl) (fun _ _ _ h => h) (by rfl) (by assumption) (fun w hSw => ?_) ?_; rotate_left; focus ((try dsimp only at hSw); go_simp; try with_reducible rfl)
    try simp only [Act.put, List.setIfInBounds_toArray, List.set_cons_zero, List.set_cons_succ]
    refine wpAnyH_done (by kernel_rfl) ?_ _
    simp only [Exit.then]
    go_step
    go_meet
    exact ⟨rfl, H1.out, HB.out⟩
  case rest =>
    obtain ⟨rfl, hq, hb⟩ := hcut
    clear H1 HB hmx hmn
    by_cases hct : cap = t
    · have hcf : (cap = t) = True := eq_true hct
      have hs0 : wc.drew.cell? ⟨g, 2, none⟩ = some (.slice ao L cap) ∧ wc.drew.cell? ⟨g, 1, none⟩ = some (.int .i64 (t : Int)) := ⟨(hq.next ((Below.refl _ _).drew)).c2, (hq.next ((Below.refl _ _).drew)).c1⟩
      have H1 := Lib.hid (hq.next ((Below.refl wc.heap.size wc).drew))
      have HB := Lib.hid (hb.trans (((Below.refl wc.heap.size wc).drew).mono hb.size))
      have HR := Lib.hid (by
        have hx := (H1.out.rd.cut HL.out.symm lT1).tailAny (m := t) (by rw [List.length_take, HL.out]; omega) (by omega)
        rw [if_pos hct, e5, List.drop_take, e5] at hx
        exact hx)
      clear hct hq hb
      go_wp2
      refine wp_region_held_drew (S := fun w' => w'.cell? ⟨g, 2, none⟩ = some (.slice ao L cap) ∧ w'.cell? ⟨g, 1, none⟩ = some (.int .i64 (t : Int))) (by kernel_rfl) hs0 (fun hH => ?_)
      generalize wc.drew = w1 at *
      have hal : Below w1.heap.size w1 (w1.alloc (.cells #[] 5)) := (Below.refl _ _).alloc (Nat.le_refl _) _
      have S1 := Lib.hid (show _ ∧ _ from ⟨(H1.out.next hal).c2, (H1.out.next hal).c1⟩)
      have HRA := Lib.hid (HR.out.below hal)
      have HAL := Lib.hid hal
      clear hal hs0
      refine heldTake (i := 1) (v := ?_) rfl (by kernel_rfl) (by kernel_rfl) (fun _ _ _ h => h) (by rfl) (by assumption) (fun w hSw => ?_) ?_; rotate_left; focus ((try dsimp only at hSw); go_simp; try with_reducible rfl)
      try simp only [Act.put, List.setIfInBounds_toArray, List.set_cons_zero, List.set_cons_succ]
      refine heldTake (i := 2) (v := ?_) rfl (by kernel_rfl) (by kernel_rfl) (fun _ _ _ h => h) (by rfl) (by assumption) (fun w hSw => ?_) ?_; rotate_left; focus ((try dsimp only at hSw); go_simp; try with_reducible rfl)
      try simp only [Act.put, List.setIfInBounds_toArray, List.set_cons_zero, List.set_cons_succ]
      refine heldTake (i := 3) (v := ?_) rfl (by kernel_rfl) (by kernel_rfl) (fun _ _ _ h => h) (by rfl) (by assumption) (fun w hSw => ?_) ?_; rotate_left; focus ((try dsimp only at hSw); go_simp; try with_reducible rfl)
      try simp only [Act.put, List.setIfInBounds_toArray, List.set_cons_zero, List.set_cons_succ]
      refine heldTake (i := 4) (v := ?_) rfl (by kernel_rfl) (by kernel_rfl) (fun _ _ _ h => h) (by rfl) (by assumption) (fun w hSw => ?_) ?_; rotate_left; focus ((try dsimp only at hSw); go_simp; try with_reducible rfl)
      try simp only [Act.put, List.setIfInBounds_toArray, List.set_cons_zero, List.set_cons_succ]
      refine heldTake (i := 5) (v := ?_) rfl (by kernel_rfl) (by kernel_rfl) (fun _ _ _ h => h) (by rfl) (by assumption) (fun w hSw => ?_) ?_; rotate_left; focus ((try dsimp only at hSw); go_simp; try with_reducible rfl)
      try simp only [Act.put, List.setIfInBounds_toArray, List.set_cons_zero, List.set_cons_succ]
      refine heldTake (i := 6) (v := ?_) rfl (by kernel_rfl) (by kernel_rfl) (fun _ _ _ h => h) (by rfl) (by assumption) (fun w hSw => ?_) ?_; rotate_left; focus ((try dsimp only at hSw); go_simp; try with_reducible rfl)
      try simp only [Act.put, List.setIfInBounds_toArray, List.set_cons_zero, List.set_cons_succ]
      refine heldTake (i := 7) (v := ?_) rfl (by kernel_rfl) (by kernel_rfl) (fun _ _ _ h => h) (by rfl) (by assumption) (fun w hSw => ?_) ?_; rotate_left; focus ((try dsimp only at hSw); go_simp; try with_reducible rfl)
      try simp only [Act.put, List.setIfInBounds_toArray, List.set_cons_zero, List.set_cons_succ]
      refine heldTake (i := 8) (v := ?_) rfl (by kernel_rfl) (by kernel_rfl) (fun _ _ _ h => h) (by rfl) (by assumption) (fun w hSw => ?_) ?_; rotate_left; focus ((try dsimp only at hSw); go_simp; try with_reducible rfl)
      try simp only [Act.put, List.setIfInBounds_toArray, List.set_cons_zero, List.set_cons_succ]
      refine heldTake (i := 9) (v := ?_) rfl (by kernel_rfl) (by kernel_rfl) (fun _ _ _ h => h) (by rfl) (by assumption) (fun w hSw => ?_) ?_; rotate_left; focus ((try dsimp only at hSw); go_simp; try with_reducible rfl)
      try simp only [Act.put, List.setIfInBounds_toArray, List.set_cons_zero, List.set_cons_succ]
      refine heldTake (i := 10) (v := ?_) rfl (by kernel_rfl) (by kernel_rfl) (fun _ _ _ h => h) (by rfl) (by assumption) (fun w hSw => ?_) ?_; rotate_left; focus ((try dsimp only at hSw); go_simp; try with_reducible rfl)
      try simp only [Act.put, List.setIfInBounds_toArray, List.set_cons_zero, List.set_cons_succ]
      refine heldTake (i := 11) (v := ?_) rfl (by kernel_rfl) (by kernel_rfl) (fun _ _ _ h => h) (by rfl) (by assumption) (fun w hSw => ?_) ?_; rotate_left; focus ((try dsimp only at hSw); go_simp; try with_reducible rfl)
      try simp only [Act.put, List.setIfInBounds_toArray, List.set_cons_zero, List.set_cons_succ]
      refine heldTake (i := 12) (v := ?_) rfl (by kernel_rfl) (by kernel_rfl) (fun _ _ _ h => h) (by rfl) (by assumption) (fun w hSw => ?_) ?_; rotate_left; focus ((try dsimp only at hSw); go_simp; try with_reducible rfl)
      try simp only [Act.put, List.setIfInBounds_toArray, List.set_cons_zero, List.set_cons_succ]
      refine heldTake (i := 13) (v := ?_) rfl (by kernel_rfl) (by kernel_rfl) (fun _ _ _ h => h) (by rfl) (by assumption) (fun w hSw => ?_) ?_; rotate_left; focus ((try dsimp only at hSw); go_simp; try with_reducible rfl)
      try simp only [Act.put, List.setIfInBounds_toArray, List.set_cons_zero, List.set_cons_succ]
      refine heldTake (i := 14) (v := ?_) rfl (by kernel_rfl) (by kernel_rfl) (fun _ _ _ h => h) (by rfl) (by assumption) (fun w hSw => ?_) ?_; rotate_left; focus ((try dsimp only at hSw); go_simp; try with_reducible rfl)
      try simp only [Act.put, List.setIfInBounds_toArray, List.set_cons_zero, List.set_cons_succ]
      refine heldTake (i := 15) (v := ?_) rfl (by kernel_rfl) (by kernel_rfl) (fun _ _ _ h => h) (by rfl) (by assumption) (fun w hSw => ?_) ?_; rotate_left; focus ((try dsimp only at hSw); go_simp; try with_reducible rfl)
      try simp only [Act.put, List.setIfInBounds_toArray, List.set_cons_zero, List.set_cons_succ]
      -- NEXT 0 Op.buildSlice 28 0 #[]
      refine heldNext (i := 0) rfl (by kernel_rfl) (by rfl) (fun K hK => ?_)
      go_simp; refine hK.out _ _ S1.out ?_; clear hK K
      try simp only [Act.put, List.setIfInBounds_toArray, List.set_cons_zero, List.set_cons_succ]
      -- NEXT 16 Op.call { callee := Callee.builtin Builtin.append, args := #[Operand.tmp 19, Operand.tmp 34], argTypes := #[28
      refine heldNext (i := 16) rfl (by kernel_rfl) (by rfl) (fun K hK => ?_)
      refine wp_append_any (.tmp 19) (.tmp 34) (by rfl) (by rfl) (World.ownsRow_made (base := w1.heap.size) w1 #[] 0 (Nat.le_refl _) (Nat.zero_le _) rfl) _ (by rfl) ((xs.drop t).take k) HRA.out k (by rw [Nat.zero_add]; exact HZL.out) (by omega) HAL.out.size (fun bo c w2 ho hT => ?_); have hb2 : Below w1.heap.size w1 w2 := HAL.out.grown hT HAL.out.size (fun k hk => by cases hk; exact Nat.le_refl _); have QX := H1.out.next hb2; have S2 : w2.cell? ⟨g, 2, none⟩ = some (.slice ao L cap) ∧ w2.cell? ⟨g, 1, none⟩ = some (.int .i64 (t : Int)) := ⟨QX.c2, QX.c1⟩; refine hK.out _ _ S2 ?_; clear hK K
      try simp only [Act.put, List.setIfInBounds_toArray, List.set_cons_zero, List.set_cons_succ]
      refine heldTake (i := 17) (v := ?_) rfl (by kernel_rfl) (by kernel_rfl) (fun _ _ _ h => h) (by rfl) (by assumption) (fun w hSw => ?_) ?_; rotate_left; focus ((try dsimp only at hSw); go_simp; try with_reducible rfl)
      try simp only [Act.put, List.setIfInBounds_toArray, List.set_cons_zero, List.set_cons_succ]
      refine wpAnyH_done (by kernel_rfl) ?_ _
      rw [List.nil_append] at ho
      have HO := Lib.hid (Rd.of_own ho)
      have HB2 := Lib.hid (HB.out.trans (hb2.mono HB.out.size))
      have HT2 := Lib.hid (QX.take (k := T1) (by rw [HL.out]; omega))
      have f1 := QX.f1
      have c1' := QX.c1
      have HQX := Lib.hid QX
      have HF := Lib.hid (show Rd (w2.setCell ⟨g, 1, none⟩ (.int .i64 (T1 : Int))) (.slice bo k c) (((xs.drop t).take k).map bv) by
        have := HO.out
        rcases ho.2 with ⟨e, h0⟩ | ⟨gb, cb, cur, e, hB', hg', _⟩
        · simp only [Value.slice.injEq] at e
          obtain ⟨rfl, rfl, rfl⟩ := e
          refine .inl ⟨?_, _, _, (fun _ => rfl), by rw [h0]⟩
          rw [h0, List.take_zero]
          rfl
        · rcases this with h0 | ⟨b', o', cap', e', g1, g2, g3⟩
          · exact .inl h0
          · refine .inr ⟨b', o', cap', e', g1, g2, fun j u hj => ?_⟩
            simp only [Value.slice.injEq] at e e'
            have eb : b' = gb := by
              have := e.1.symm.trans e'.1
              simp only [Option.some.injEq, Addr.mk.injEq] at this
              exact this.1.symm
            have hgb : gb ≠ g := by have := H1.out.lt; omega
            rw [World.cell?_setCell_far _ _ _ _ (show g ≠ b' by rw [eb]; exact hgb.symm)]
            exact g3 j u hj)
      clear S2 ho hT hb2 QX hH
      go_wp2
      go_ret
      exact ⟨_, rfl, ⟨_, _, rfl⟩, HT2.out, Turn.before HB2.out (turn_setCell _ _ _ _ _), HF.out⟩
    · have hcf : (cap = t) = False := eq_false hct
      have hs0 : wc.drew.cell? ⟨g, 2, none⟩ = some (.slice ao L cap) ∧ wc.drew.cell? ⟨g, 1, none⟩ = some (.int .i64 (t : Int)) := ⟨(hq.next ((Below.refl _ _).drew)).c2, (hq.next ((Below.refl _ _).drew)).c1⟩
      have H1 := Lib.hid (hq.next ((Below.refl wc.heap.size wc).drew))
      have HB := Lib.hid (hb.trans (((Below.refl wc.heap.size wc).drew).mono hb.size))
      have HR := Lib.hid (by
        have hx := (H1.out.rd.cut HL.out.symm lT1).tailAny (m := t) (by rw [List.length_take, HL.out]; omega) (by omega)
        rw [if_neg hct, e5, List.drop_take, e5] at hx
        exact hx)
      clear hct hq hb
      go_wp2
      refine wp_region_held_drew (S := fun w' => w'.cell? ⟨g, 2, none⟩ = some (.slice ao L cap) ∧ w'.cell? ⟨g, 1, none⟩ = some (.int .i64 (t : Int))) (by kernel_rfl) hs0 (fun hH => ?_)
      generalize wc.drew = w1 at *
      have hal : Below w1.heap.size w1 (w1.alloc (.cells #[] 5)) := (Below.refl _ _).alloc (Nat.le_refl _) _
      have S1 := Lib.hid (show _ ∧ _ from ⟨(H1.out.next hal).c2, (H1.out.next hal).c1⟩)
      have HRA := Lib.hid (HR.out.below hal)
      have HAL := Lib.hid hal
      clear hal hs0
      refine heldTake (i := 1) (v := ?_) rfl (by kernel_rfl) (by kernel_rfl) (fun _ _ _ h => h) (by rfl) (by assumption) (fun w hSw => ?_) ?_; rotate_left; focus ((try dsimp only at hSw); go_simp; try with_reducible rfl)
      try simp only [Act.put, List.setIfInBounds_toArray, List.set_cons_zero, List.set_cons_succ]
      refine heldTake (i := 2) (v := ?_) rfl (by kernel_rfl) (by kernel_rfl) (fun _ _ _ h => h) (by rfl) (by assumption) (fun w hSw => ?_) ?_; rotate_left; focus ((try dsimp only at hSw); go_simp; try with_reducible rfl)
      try simp only [Act.put, List.setIfInBounds_toArray, List.set_cons_zero, List.set_cons_succ]
      refine heldTake (i := 3) (v := ?_) rfl (by kernel_rfl) (by kernel_rfl) (fun _ _ _ h => h) (by rfl) (by assumption) (fun w hSw => ?_) ?_; rotate_left; focus ((try dsimp only at hSw); go_simp; try with_reducible rfl)
      try simp only [Act.put, List.setIfInBounds_toArray, List.set_cons_zero, List.set_cons_succ]
      refine heldTake (i := 4) (v := ?_) rfl (by kernel_rfl) (by kernel_rfl) (fun _ _ _ h => h) (by rfl) (by assumption) (fun w hSw => ?_) ?_; rotate_left; focus ((try dsimp only at hSw); go_simp; try with_reducible rfl)
      try simp only [Act.put, List.setIfInBounds_toArray, List.set_cons_zero, List.set_cons_succ]
      refine heldTake (i := 5) (v := ?_) rfl (by kernel_rfl) (by kernel_rfl) (fun _ _ _ h => h) (by rfl) (by assumption) (fun w hSw => ?_) ?_; rotate_left; focus ((try dsimp only at hSw); go_simp; try with_reducible rfl)
      try simp only [Act.put, List.setIfInBounds_toArray, List.set_cons_zero, List.set_cons_succ]
      refine heldTake (i := 6) (v := ?_) rfl (by kernel_rfl) (by kernel_rfl) (fun _ _ _ h => h) (by rfl) (by assumption) (fun w hSw => ?_) ?_; rotate_left; focus ((try dsimp only at hSw); go_simp; try with_reducible rfl)
      try simp only [Act.put, List.setIfInBounds_toArray, List.set_cons_zero, List.set_cons_succ]
      refine heldTake (i := 7) (v := ?_) rfl (by kernel_rfl) (by kernel_rfl) (fun _ _ _ h => h) (by rfl) (by assumption) (fun w hSw => ?_) ?_; rotate_left; focus ((try dsimp only at hSw); go_simp; try with_reducible rfl)
      try simp only [Act.put, List.setIfInBounds_toArray, List.set_cons_zero, List.set_cons_succ]
      refine heldTake (i := 8) (v := ?_) rfl (by kernel_rfl) (by kernel_rfl) (fun _ _ _ h => h) (by rfl) (by assumption) (fun w hSw => ?_) ?_; rotate_left; focus ((try dsimp only at hSw); go_simp; try with_reducible rfl)
      try simp only [Act.put, List.setIfInBounds_toArray, List.set_cons_zero, List.set_cons_succ]
      refine heldTake (i := 9) (v := ?_) rfl (by kernel_rfl) (by kernel_rfl) (fun _ _ _ h => h) (by rfl) (by assumption) (fun w hSw => ?_) ?_; rotate_left; focus ((try dsimp only at hSw); go_simp; try with_reducible rfl)
      try simp only [Act.put, List.setIfInBounds_toArray, List.set_cons_zero, List.set_cons_succ]
      refine heldTake (i := 10) (v := ?_) rfl (by kernel_rfl) (by kernel_rfl) (fun _ _ _ h => h) (by rfl) (by assumption) (fun w hSw => ?_) ?_; rotate_left; focus ((try dsimp only at hSw); go_simp; try with_reducible rfl)
      try simp only [Act.put, List.setIfInBounds_toArray, List.set_cons_zero, List.set_cons_succ]
      refine heldTake (i := 11) (v := ?_) rfl (by kernel_rfl) (by kernel_rfl) (fun _ _ _ h => h) (by rfl) (by assumption) (fun w hSw => ?_) ?_; rotate_left; focus ((try dsimp only at hSw); go_simp; try with_reducible rfl)
      try simp only [Act.put, List.setIfInBounds_toArray, List.set_cons_zero, List.set_cons_succ]
      refine heldTake (i := 12) (v := ?_) rfl (by kernel_rfl) (by kernel_rfl) (fun _ _ _ h => h) (by rfl) (by assumption) (fun w hSw => ?_) ?_; rotate_left; focus ((try dsimp only at hSw); go_simp; try with_reducible rfl)
      try simp only [Act.put, List.setIfInBounds_toArray, List.set_cons_zero, List.set_cons_succ]
      refine heldTake (i := 13) (v := ?_) rfl (by kernel_rfl) (by kernel_rfl) (fun _ _ _ h => h) (by rfl) (by assumption) (fun w hSw => ?_) ?_; rotate_left; focus ((try dsimp only at hSw); go_simp; try with_reducible rfl)
      try simp only [Act.put, List.setIfInBounds_toArray, List.set_cons_zero, List.set_cons_succ]
      refine heldTake (i := 14) (v := ?_) rfl (by kernel_rfl) (by kernel_rfl) (fun _ _ _ h => h) (by rfl) (by assumption) (fun w hSw => ?_) ?_; rotate_left; focus ((try dsimp only at hSw); go_simp; try with_reducible rfl)
      try simp only [Act.put, List.setIfInBounds_toArray, List.set_cons_zero, List.set_cons_succ]
      refine heldTake (i := 15) (v := ?_) rfl (by kernel_rfl) (by kernel_rfl) (fun _ _ _ h => h) (by rfl) (by assumption) (fun w hSw => ?_) ?_; rotate_left; focus ((try dsimp only at hSw); go_simp; try with_reducible rfl)
      try simp only [Act.put, List.setIfInBounds_toArray, List.set_cons_zero, List.set_cons_succ]
      -- NEXT 0 Op.buildSlice 28 0 #[]
      refine heldNext (i := 0) rfl (by kernel_rfl) (by rfl) (fun K hK => ?_)
      go_simp; refine hK.out _ _ S1.out ?_; clear hK K
      try simp only [Act.put, List.setIfInBounds_toArray, List.set_cons_zero, List.set_cons_succ]
      -- NEXT 16 Op.call { callee := Callee.builtin Builtin.append, args := #[Operand.tmp 19, Operand.tmp 34], argTypes := #[28
      refine heldNext (i := 16) rfl (by kernel_rfl) (by rfl) (fun K hK => ?_)
      refine wp_append_any (.tmp 19) (.tmp 34) (by rfl) (by rfl) (World.ownsRow_made (base := w1.heap.size) w1 #[] 0 (Nat.le_refl _) (Nat.zero_le _) rfl) _ (by rfl) ((xs.drop t).take k) HRA.out k (by rw [Nat.zero_add]; exact HZL.out) (by omega) HAL.out.size (fun bo c w2 ho hT => ?_); have hb2 : Below w1.heap.size w1 w2 := HAL.out.grown hT HAL.out.size (fun k hk => by cases hk; exact Nat.le_refl _); have QX := H1.out.next hb2; have S2 : w2.cell? ⟨g, 2, none⟩ = some (.slice ao L cap) ∧ w2.cell? ⟨g, 1, none⟩ = some (.int .i64 (t : Int)) := ⟨QX.c2, QX.c1⟩; refine hK.out _ _ S2 ?_; clear hK K
      try simp only [Act.put, List.setIfInBounds_toArray, List.set_cons_zero, List.set_cons_succ]
      refine heldTake (i := 17) (v := ?_) rfl (by kernel_rfl) (by kernel_rfl) (fun _ _ _ h => h) (by rfl) (by assumption) (fun w hSw => ?_) ?_; rotate_left; focus ((try dsimp only at hSw); go_simp; try with_reducible rfl)
      try simp only [Act.put, List.setIfInBounds_toArray, List.set_cons_zero, List.set_cons_succ]
      refine wpAnyH_done (by kernel_rfl) ?_ _
      rw [List.nil_append] at ho
      have HO := Lib.hid (Rd.of_own ho)
      have HB2 := Lib.hid (HB.out.trans (hb2.mono HB.out.size))
      have HT2 := Lib.hid (QX.take (k := T1) (by rw [HL.out]; omega))
      have f1 := QX.f1
      have c1' := QX.c1
      have HQX := Lib.hid QX
      have HF := Lib.hid (show Rd (w2.setCell ⟨g, 1, none⟩ (.int .i64 (T1 : Int))) (.slice bo k c) (((xs.drop t).take k).map bv) by
        have := HO.out
        rcases ho.2 with ⟨e, h0⟩ | ⟨gb, cb, cur, e, hB', hg', _⟩
        · simp only [Value.slice.injEq] at e
          obtain ⟨rfl, rfl, rfl⟩ := e
          refine .inl ⟨?_, _, _, (fun _ => rfl), by rw [h0]⟩
          rw [h0, List.take_zero]
          rfl
        · rcases this with h0 | ⟨b', o', cap', e', g1, g2, g3⟩
          · exact .inl h0
          · refine .inr ⟨b', o', cap', e', g1, g2, fun j u hj => ?_⟩
            simp only [Value.slice.injEq] at e e'
            have eb : b' = gb := by
              have := e.1.symm.trans e'.1
              simp only [Option.some.injEq, Addr.mk.injEq] at this
              exact this.1.symm
            have hgb : gb ≠ g := by have := H1.out.lt; omega
            rw [World.cell?_setCell_far _ _ _ _ (show g ≠ b' by rw [eb]; exact hgb.symm)]
            exact g3 j u hj)
      clear S2 ho hT hb2 QX hH
      go_wp2
      go_ret
      exact ⟨_, rfl, ⟨_, _, rfl⟩, HT2.out, Turn.before HB2.out (turn_setCell _ _ _ _ _), HF.out⟩
end
end Go.Proofs.Ytneifmnlailipaa
