/- The reference's wire: New walked. (Laid by wip/tools/gen_wref5.py.) -/
import Derived.Test.YtneifmnlailipaaWRefAsk
namespace Go.Proofs.Ytneifmnlailipaa
open Go.RowKit

def Z12 : Array Value := #[.int .i64 0, .int .i64 0, .bool false, .pointer none, .slice none 0 0, .slice none 0 0, .int .i64 0, .int .i64 0, .bool false, .pointer none, .slice none 0 0, .slice none 0 0]
/-- Where the reference's wire is made: as far as it is. -/
structure KR (w : World) (gw : Nat) (k : Nat) (wr : World) : Prop where
  b : Below w.heap.size w wr
  hg : w.heap.size ≤ gw
  d : ∃ D FA FB, wr.heap[gw]? = some (.cells D 61 (0, 0)) ∧ D.size = 12 ∧ (1 ≤ k → RA wr w.heap.size gw 0 FA 61 Wi.none) ∧ (2 ≤ k → RA wr w.heap.size gw 6 FB 61 Wi.none) ∧ (∀ j, FA j → ¬ FB j)
    ∧ (k < 2 → ∀ j, ¬ FB j) ∧ (∀ j, FA j → j < wr.heap.size)
theorem RA.next {w w' : World} {B g o : Nat} {F : Nat → Prop} {T : TypeId} {c : Wi.Cn} (h : RA w B g o F T c) (hb : Below w.heap.size w w') : RA w' B g o F T c := h.apart (F2 := fun _ => False) (.of_below hb) (fun e => e) (fun _ _ e => e)
theorem KR.next {w wr w' : World} {gw k : Nat} (h : KR w gw k wr) (hb : Below wr.heap.size wr w') : KR w gw k w' := by
  obtain ⟨D, FA, FB, h1, h2, h3, h4, h5, h6, h7⟩ := h.d
  exact ⟨h.b.trans (hb.mono h.b.size), h.hg, D, FA, FB, (hb.block _ (Array.getElem?_eq_some_iff.1 h1).1).trans h1, h2, fun e => (h3 e).next hb, fun e => (h4 e).next hb, h5, h6, fun j hj => Nat.lt_of_lt_of_le (h7 j hj) hb.size⟩
theorem KR.cells {w wr : World} {gw k : Nat} (h : KR w gw k wr) (i : Nat) (hi : i < 12) : ∃ v, wr.cell? ⟨gw, i, none⟩ = some v := by
  obtain ⟨D, FA, FB, h1, h2, _⟩ := h.d
  exact ⟨D[i]'(by rw [h2]; exact hi), cell_in h1 (by simp)⟩
theorem KR.fr {w wr : World} {gw k : Nat} (h : KR w gw k wr) (i : Nat) : wr.frozen? ⟨gw, i, none⟩ = false := by
  obtain ⟨D, FA, FB, h1, _⟩ := h.d
  exact frozen_of_row _ _ _ _ _ h1
section
variable {w wr w5 : World} {gw gq : Nat}
/-- A connection that nobody has asked for. -/
theorem ra_made {w : World} {B g o : Nat} {D : Array Value} {T : TypeId} (hr : w.heap[g]? = some (.cells D T (0, 0))) (hg : B ≤ g) (e0 : D[o]? = some (.int .i64 0)) (e1 : D[o + 1]? = some (.int .i64 0)) (e2 : D[o + 2]? = some (.bool false)) (e3 : D[o + 3]? = some (.pointer (some ⟨gq, 0, none⟩))) (e4 : D[o + 4]? = some (.slice none 0 0)) (e5 : D[o + 5]? = some (.slice none 0 0))
    (hq : RO w B gq (.slice none 0 0) 4000 [] 0) (hn : gq ≠ g) : RA w B g o (fun k => k = gq) T Wi.none :=
  ⟨D, gq, .slice none 0 0, .slice none 0 0, .slice none 0 0, ⟨hq, hr, e0, e1, e2, e3, e4, e5, rd_none, rd_none, (fun e => by cases e), (fun e => by cases e), hg, rfl, (fun k e => by cases e), (fun k e => by cases e), (fun k e => by cases e), fun k hk => by subst hk; exact ⟨hq.hg, hq.lt, hn⟩⟩⟩

theorem KR.one (h : KR w gw 0 wr) (hb : Below wr.heap.size wr w5) (hq : RO w5 wr.heap.size gq (.slice none 0 0) 4000 [] 0) : KR w gw 1 ((((((w5.setCell ⟨gw, 0, none⟩ (.int .i64 0)).setCell ⟨gw, 1, none⟩ (.int .i64 0)).setCell ⟨gw, 2, none⟩ (.bool false)).setCell ⟨gw, 3, none⟩ (.pointer (some ⟨gq, 0, none⟩))).setCell ⟨gw, 4, none⟩ (.slice none 0 0)).setCell ⟨gw, 5, none⟩ (.slice none 0 0)) := by
  have h5 := h.next hb
  have hwr := h.b.size
  have hgl : gw < wr.heap.size := by
    obtain ⟨D, FA, FB, h1, _⟩ := h.d
    exact (Array.getElem?_eq_some_iff.1 h1).1
  have hqg := hq.hg
  have hql := hq.lt
  obtain ⟨D, FA, FB, q1, h2, q3, q4, q5, q6, q7⟩ := h.d
  have h1 := (hb.block _ hgl).trans q1
  obtain ⟨D2, k1, k2, a0, a1, a2, a3, a4, a5, kf⟩ := put6 (o := 0) h1 (by omega) (.int .i64 0) (.int .i64 0) (.bool false) (.pointer (some ⟨gq, 0, none⟩)) (.slice none 0 0) (.slice none 0 0)
  have ht6 := put6_tn w5 gw 0 (.int .i64 0) (.int .i64 0) (.bool false) (.pointer (some ⟨gq, 0, none⟩)) (.slice none 0 0) (.slice none 0 0)
  simp only [Nat.reduceAdd] at k1 ht6
  have hra := ra_made (o := 0) k1 h.hg a0 a1 a2 a3 a4 a5 ((hq.lower hwr).kept (ht6.block gq hql (show gq ≠ gw by omega)) (fun k e => by cases e)) (show gq ≠ gw by omega)
  exact ⟨h5.b.trans (ht6.below (fun k hk => by rw [hk]; exact h.hg) h5.b.size), h.hg, D2, _, fun _ => False, k1, k2.trans h2, fun _ => hra, fun e => by omega, fun _ _ e => e, fun _ _ e => e, fun j hj => by subst hj; simp [World.setCell]; exact hql⟩

theorem KR.two (h : KR w gw 1 wr) (hb : Below wr.heap.size wr w5) (hq : RO w5 wr.heap.size gq (.slice none 0 0) 4000 [] 0) : KR w gw 2 ((((((w5.setCell ⟨gw, 6, none⟩ (.int .i64 0)).setCell ⟨gw, 7, none⟩ (.int .i64 0)).setCell ⟨gw, 8, none⟩ (.bool false)).setCell ⟨gw, 9, none⟩ (.pointer (some ⟨gq, 0, none⟩))).setCell ⟨gw, 10, none⟩ (.slice none 0 0)).setCell ⟨gw, 11, none⟩ (.slice none 0 0)) := by
  have h5 := h.next hb
  have hwr := h.b.size
  have hgl : gw < wr.heap.size := by
    obtain ⟨D, FA, FB, h1, _⟩ := h.d
    exact (Array.getElem?_eq_some_iff.1 h1).1
  have hqg := hq.hg
  have hql := hq.lt
  obtain ⟨D, FA, FB, q1, h2, q3, q4, q5, q6, q7⟩ := h.d
  have h1 := (hb.block _ hgl).trans q1
  obtain ⟨D2, k1, k2, a0, a1, a2, a3, a4, a5, kf⟩ := put6 (o := 6) h1 (by omega) (.int .i64 0) (.int .i64 0) (.bool false) (.pointer (some ⟨gq, 0, none⟩)) (.slice none 0 0) (.slice none 0 0)
  have ht6 := put6_tn w5 gw 6 (.int .i64 0) (.int .i64 0) (.bool false) (.pointer (some ⟨gq, 0, none⟩)) (.slice none 0 0) (.slice none 0 0)
  simp only [Nat.reduceAdd] at k1 ht6
  have hra := ra_made (o := 6) k1 h.hg a0 a1 a2 a3 a4 a5 ((hq.lower hwr).kept (ht6.block gq hql (show gq ≠ gw by omega)) (fun k e => by cases e)) (show gq ≠ gw by omega)
  have h3 := (q3 (Nat.le_refl _)).next hb
  have hga : Cr gw 6 (fun _ => False) w5 (fun _ => False) ((((((w5.setCell ⟨gw, 6, none⟩ (.int .i64 0)).setCell ⟨gw, 7, none⟩ (.int .i64 0)).setCell ⟨gw, 8, none⟩ (.bool false)).setCell ⟨gw, 9, none⟩ (.pointer (some ⟨gq, 0, none⟩))).setCell ⟨gw, 10, none⟩ (.slice none 0 0)).setCell ⟨gw, 11, none⟩ (.slice none 0 0)) :=
    ⟨ht6.mono (fun k hk => .inl (.inl hk)), fun C' T' hC => by
      rw [h1] at hC
      simp only [Option.some.injEq, Obj.cells.injEq, and_true] at hC
      obtain ⟨rfl, rfl⟩ := hC
      exact ⟨D2, k1, k2, kf⟩, fun k hk => .inl hk⟩
  exact ⟨h5.b.trans (ht6.below (fun k hk => by rw [hk]; exact h.hg) h5.b.size), h.hg, D2, FA, _, k1, k2.trans h2, fun _ => h3.other hga (by omega) (fun _ _ e => e), fun _ => hra, fun j h1 h2 => by subst h2; have := q7 _ h1; omega, fun e => by omega, fun j hj => by simp [World.setCell]; exact Nat.lt_of_lt_of_le (q7 j hj) hb.size⟩

set_option maxRecDepth 20000 in
set_option maxHeartbeats 4000000 in
/-- The reference's 'New'. -/
theorem rwnew_any (w : World) : Calls Try.prog 10 #[] w fun e w' => ∃ gw, e = .returned (.pointer (some ⟨gw, 0, none⟩)) ∧ Below w.heap.size w w' ∧ ∃ Fw, RW w' w.heap.size gw Fw Wi.start := by
  have hb0 : Below w.heap.size w (w.alloc (.cells Z12 61)) := (Below.refl _ _).alloc (Nat.le_refl _) _
  have K0 : KR w w.heap.size 0 (w.alloc (.cells Z12 61)) := ⟨hb0, Nat.le_refl _, Z12, fun _ => False, fun _ => False, heap_alloc_new _ _, rfl, fun e => by omega, fun e => by omega, fun _ e => e.elim, fun _ _ e => e, fun _ e => e.elim⟩
  have HK0 := Lib.hid K0
  clear hb0 K0
  obtain ⟨gw, hgw⟩ : ∃ gw, gw = w.heap.size := ⟨_, rfl⟩
  have HGW := Lib.hid hgw
  rw [← hgw] at HK0
  clear hgw
  go_enter Try.func10, Try.ntmps10
  go_wp2
  rw [← HGW.out]
  go_loopw [2] (fun i wr => ∃ k : Nat, k ≤ 2 ∧ i = .int .i64 k ∧ Hid (KR w gw k wr)) (fun i _ => 2 - (intOf i).toNat)
  case atStart => exact ⟨0, by omega, rfl, HK0.out⟩
  case round =>
    obtain ⟨k, hk, rfl, HK⟩ := hrel
    have hcase : k = 0 ∨ k = 1 ∨ k = 2 := by omega
    rcases hcase with rfl | rfl | rfl
    · clear hk
      have HKD := Lib.hid (HK.out.next ((Below.refl _ _).drew))
      go_wp2
      refine wp_region_held_drew (S := fun _ => True) (by kernel_rfl) trivial (fun hH => ?_)
      generalize wr.drew = wd at *
      refine heldTake (i := 0) (v := ?_) rfl (by kernel_rfl) (by kernel_rfl) (fun _ _ _ h => h) (by rfl) trivial (fun w hSw => ?_) ?_; rotate_left; focus ((try dsimp only at hSw); go_simp; try with_reducible rfl)
      try simp only [Act.put, List.setIfInBounds_toArray, List.set_cons_zero, List.set_cons_succ]
      refine heldTake (i := 1) (v := ?_) rfl (by kernel_rfl) (by kernel_rfl) (fun _ _ _ h => h) (by rfl) trivial (fun w hSw => ?_) ?_; rotate_left; focus ((try dsimp only at hSw); go_simp; try with_reducible rfl)
      try simp only [Act.put, List.setIfInBounds_toArray, List.set_cons_zero, List.set_cons_succ]
      refine heldTake (i := 4) (v := ?_) rfl (by kernel_rfl) (by kernel_rfl) (fun _ _ _ h => h) (by rfl) trivial (fun w hSw => ?_) ?_; rotate_left; focus ((try dsimp only at hSw); go_simp; try with_reducible rfl)
      try simp only [Act.put, List.setIfInBounds_toArray, List.set_cons_zero, List.set_cons_succ]
      refine heldTake (i := 5) (v := ?_) rfl (by kernel_rfl) (by kernel_rfl) (fun _ _ _ h => h) (by rfl) trivial (fun w hSw => ?_) ?_; rotate_left; focus ((try dsimp only at hSw); go_simp; try with_reducible rfl)
      try simp only [Act.put, List.setIfInBounds_toArray, List.set_cons_zero, List.set_cons_succ]
      -- NEXT 2 Op.call { callee := Callee.value (Operand.func 33), args := #[Operand.const (Value.int IntKind.i64 4000)], arg
      refine heldNext (i := 2) rfl (by kernel_rfl) (by rfl) (fun K hK => ?_)
      go_simp
      go_at_call 33
      refine (rnew_any 4000 (by decide) wd).mono ?_
      rintro e w5 ⟨rfl, hb5, hq5⟩
      rw [show max (0 : Int) 4000 = 4000 by decide] at hq5
      have K5 := HKD.out.next hb5
      first | (refine hK.out _ _ trivial ?_) | (go_wp2_with fail; refine hK.out _ _ trivial ?_)
      clear hK K
      try simp only [Act.put, List.setIfInBounds_toArray, List.set_cons_zero, List.set_cons_succ]
      refine heldTake (i := 3) (v := ?_) rfl (by kernel_rfl) (by kernel_rfl) (fun _ _ _ h => h) (by rfl) trivial (fun w hSw => ?_) ?_; rotate_left; focus ((try dsimp only at hSw); go_simp; try with_reducible rfl)
      try simp only [Act.put, List.setIfInBounds_toArray, List.set_cons_zero, List.set_cons_succ]
      refine heldTake (i := 6) (v := ?_) rfl (by kernel_rfl) (by kernel_rfl) (fun _ _ _ h => h) (by rfl) trivial (fun w hSw => ?_) ?_; rotate_left; focus ((try dsimp only at hSw); go_simp; try with_reducible rfl)
      try simp only [Act.put, List.setIfInBounds_toArray, List.set_cons_zero, List.set_cons_succ]
      -- NEXT 7 Op.store 58 (Operand.tmp 15) (Operand.tmp 12)
      refine heldNext (i := 7) rfl (by kernel_rfl) (by rfl) (fun K hK => ?_)
      have KN := HKD.out.one hb5 hq5
      obtain ⟨u0, hu0⟩ := K5.cells 0 (by omega)
      have fr0 := K5.fr 0
      obtain ⟨u1, hu1⟩ := K5.cells 1 (by omega)
      have fr1 := K5.fr 1
      obtain ⟨u2, hu2⟩ := K5.cells 2 (by omega)
      have fr2 := K5.fr 2
      obtain ⟨u3, hu3⟩ := K5.cells 3 (by omega)
      have fr3 := K5.fr 3
      obtain ⟨u4, hu4⟩ := K5.cells 4 (by omega)
      have fr4 := K5.fr 4
      obtain ⟨u5, hu5⟩ := K5.cells 5 (by omega)
      have fr5 := K5.fr 5
      go_simp
      refine hK.out _ _ trivial ?_
      clear hK K
      try simp only [Act.put, List.setIfInBounds_toArray, List.set_cons_zero, List.set_cons_succ]
      refine wpAnyH_done (by kernel_rfl) ?_ _
      have KN := Lib.hid KN
      clear hu0 fr0 hu1 fr1 hu2 fr2 hu3 fr3 hu4 fr4 hu5 fr5 K5 hb5 hq5 hH HKD HK
      try simp only [Exit.then]
      go_wp2
      go_roundw
      case rel => exact ⟨1, by omega, rfl, KN.out⟩
      case measure => simp [intOf]

    · clear hk
      have HKD := Lib.hid (HK.out.next ((Below.refl _ _).drew))
      go_wp2
      refine wp_region_held_drew (S := fun _ => True) (by kernel_rfl) trivial (fun hH => ?_)
      generalize wr.drew = wd at *
      refine heldTake (i := 0) (v := ?_) rfl (by kernel_rfl) (by kernel_rfl) (fun _ _ _ h => h) (by rfl) trivial (fun w hSw => ?_) ?_; rotate_left; focus ((try dsimp only at hSw); go_simp; try with_reducible rfl)
      try simp only [Act.put, List.setIfInBounds_toArray, List.set_cons_zero, List.set_cons_succ]
      refine heldTake (i := 1) (v := ?_) rfl (by kernel_rfl) (by kernel_rfl) (fun _ _ _ h => h) (by rfl) trivial (fun w hSw => ?_) ?_; rotate_left; focus ((try dsimp only at hSw); go_simp; try with_reducible rfl)
      try simp only [Act.put, List.setIfInBounds_toArray, List.set_cons_zero, List.set_cons_succ]
      refine heldTake (i := 4) (v := ?_) rfl (by kernel_rfl) (by kernel_rfl) (fun _ _ _ h => h) (by rfl) trivial (fun w hSw => ?_) ?_; rotate_left; focus ((try dsimp only at hSw); go_simp; try with_reducible rfl)
      try simp only [Act.put, List.setIfInBounds_toArray, List.set_cons_zero, List.set_cons_succ]
      refine heldTake (i := 5) (v := ?_) rfl (by kernel_rfl) (by kernel_rfl) (fun _ _ _ h => h) (by rfl) trivial (fun w hSw => ?_) ?_; rotate_left; focus ((try dsimp only at hSw); go_simp; try with_reducible rfl)
      try simp only [Act.put, List.setIfInBounds_toArray, List.set_cons_zero, List.set_cons_succ]
      -- NEXT 2 Op.call { callee := Callee.value (Operand.func 33), args := #[Operand.const (Value.int IntKind.i64 4000)], arg
      refine heldNext (i := 2) rfl (by kernel_rfl) (by rfl) (fun K hK => ?_)
      go_simp
      go_at_call 33
      refine (rnew_any 4000 (by decide) wd).mono ?_
      rintro e w5 ⟨rfl, hb5, hq5⟩
      rw [show max (0 : Int) 4000 = 4000 by decide] at hq5
      have K5 := HKD.out.next hb5
      first | (refine hK.out _ _ trivial ?_) | (go_wp2_with fail; refine hK.out _ _ trivial ?_)
      clear hK K
      try simp only [Act.put, List.setIfInBounds_toArray, List.set_cons_zero, List.set_cons_succ]
      refine heldTake (i := 3) (v := ?_) rfl (by kernel_rfl) (by kernel_rfl) (fun _ _ _ h => h) (by rfl) trivial (fun w hSw => ?_) ?_; rotate_left; focus ((try dsimp only at hSw); go_simp; try with_reducible rfl)
      try simp only [Act.put, List.setIfInBounds_toArray, List.set_cons_zero, List.set_cons_succ]
      refine heldTake (i := 6) (v := ?_) rfl (by kernel_rfl) (by kernel_rfl) (fun _ _ _ h => h) (by rfl) trivial (fun w hSw => ?_) ?_; rotate_left; focus ((try dsimp only at hSw); go_simp; try with_reducible rfl)
      try simp only [Act.put, List.setIfInBounds_toArray, List.set_cons_zero, List.set_cons_succ]
      -- NEXT 7 Op.store 58 (Operand.tmp 15) (Operand.tmp 12)
      refine heldNext (i := 7) rfl (by kernel_rfl) (by rfl) (fun K hK => ?_)
      have KN := HKD.out.two hb5 hq5
      obtain ⟨u0, hu0⟩ := K5.cells 6 (by omega)
      have fr0 := K5.fr 6
      obtain ⟨u1, hu1⟩ := K5.cells 7 (by omega)
      have fr1 := K5.fr 7
      obtain ⟨u2, hu2⟩ := K5.cells 8 (by omega)
      have fr2 := K5.fr 8
      obtain ⟨u3, hu3⟩ := K5.cells 9 (by omega)
      have fr3 := K5.fr 9
      obtain ⟨u4, hu4⟩ := K5.cells 10 (by omega)
      have fr4 := K5.fr 10
      obtain ⟨u5, hu5⟩ := K5.cells 11 (by omega)
      have fr5 := K5.fr 11
      go_simp
      refine hK.out _ _ trivial ?_
      clear hK K
      try simp only [Act.put, List.setIfInBounds_toArray, List.set_cons_zero, List.set_cons_succ]
      refine wpAnyH_done (by kernel_rfl) ?_ _
      have KN := Lib.hid KN
      clear hu0 fr0 hu1 fr1 hu2 fr2 hu3 fr3 hu4 fr4 hu5 fr5 K5 hb5 hq5 hH HKD HK
      try simp only [Exit.then]
      go_wp2
      go_roundw
      case rel => exact ⟨2, by omega, rfl, KN.out⟩
      case measure => simp [intOf]

    · clear hk
      obtain ⟨D, FA, FB, h1, h2, h3, h4, h5, _, _⟩ := HK.out.d
      obtain ⟨_, gq, s, so, sw, hx⟩ := h3 (by omega)
      have c0 := hx.c0
      have f0 := hx.f 0
      have hb := HK.out.b
      have hrw : RW wr w.heap.size gw (fun k => k = gw ∨ FA k ∨ FB k) ⟨Wi.none, Wi.none⟩ := ⟨D, FA, FB, h1, h2, h3 (by omega), h4 (by omega), h5, fun k => Iff.rfl⟩
      obtain ⟨F0, ha⟩ := ar_zero hrw
      obtain ⟨C2, gq2, s2, so2, sw2, hx2⟩ := ha.ca
      have R := Lib.hid (ha.back _ F0 { Wi.none with st := 2 } ⟨_, _, _, _, _, hx2.cell (i := 0) (v := .int .i64 2) (by omega) { Wi.none with st := 2 } rfl rfl rfl rfl rfl rfl rfl⟩ (Cr.set (i := 0) (by omega)))
      have HB := Lib.hid hb
      have HRW := Lib.hid hrw
      clear hx hx2 ha hrw h1 h2 h3 h4 h5 hb
      go_wp2
      go_ret
      obtain ⟨F', r1, r2, r3⟩ := R.out
      exact ⟨gw, rfl, HB.out.trans (r2.below (fun k hk => (HRW.out.fF k hk).1) HB.out.size), F', r1⟩
end
end Go.Proofs.Ytneifmnlailipaa
