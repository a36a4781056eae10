/- caps.Has walked: a function within a function. -/
import Derived.Test.YtomeoploojjacaaDoorCapPush
import Derived.Test.YtomeoploojjacaaDoorCapsIn
import Derived.Test.YtomeoploojjacaaDoorCapsIdx
namespace Go.Proofs.YtomeoploojjacaaDoor
open Go.RowKit

/-- What lacks: a word that c, behind a captured variable, has not. -/
theorem lacks_any (gc : Nat) (nm : Value) (a : Value) (xs : List (List UInt8)) (x : List UInt8) (w : World) (hc : w.heap[gc]? = some (.cells #[nm, a] 35 (0, 0))) (h : Rd w a (xs.map sv)) (hl : xs.length ≤ 1048576) :
    Calls Tryd.prog 26 #[sv x, .pointer (some ⟨gc, 0, none⟩)] w fun e w' => e = .returned (.bool (!xs.contains x)) ∧ w' = w := by
  have C := has_any a xs x w h hl
  have c1 : w.cell? ⟨gc, 1, none⟩ = some a := cell_of_row _ _ _ _ _ _ hc
  generalize xs.contains x = B at C ⊢
  unfold sv at C ⊢
  clear h hc
  go_enter Tryd.func26, Tryd.ntmps26
  go_wp2_with fail
  refine C.mono ?_
  rintro e w' ⟨rfl, rfl⟩
  go_wp2
  go_ret
  exact ⟨rfl, rfl⟩

theorem indexf_any (v : Value) (ys : List (List UInt8)) (gc : Nat) (nm : Value) (a : Value) (xs : List (List UInt8)) (w : World) (hv : Rd w v (ys.map sv)) (hy : ys.length ≤ 1048576) (hc : w.heap[gc]? = some (.cells #[nm, a] 35 (0, 0))) (h : Rd w a (xs.map sv)) (hl : xs.length ≤ 1048576) :
    Calls Tryd.prog 36 #[v, .func (.func 26) #[] #[.pointer (some ⟨gc, 0, none⟩)]] w fun e w' => ∃ r : Int, e = .returned (.int .i64 r) ∧ decide (0 ≤ r) = ys.any (fun y => !xs.contains y) ∧ w' = w := by
  have C := Lib.hid (fun y => lacks_any gc nm a xs y w hc h hl)
  obtain ⟨ao, cap, rfl, hc1, _, hc3⟩ := hv.formV
  rw [List.length_map] at hc1 hc3 ⊢
  obtain ⟨N, hN⟩ : ∃ N, N = ys.length := ⟨_, rfl⟩
  rw [← hN] at hy hc1 hc3 ⊢
  have HN := Lib.hid hN
  have HC := Lib.hid hc3
  clear hN hc3 h hv hc
  go_enter Tryd.func36, Tryd.ntmps36
  go_wp2
  go_loopw [5, 8] (fun _ i wr => ∃ k : Nat, k ≤ N ∧ i = .int .i64 k ∧ Hid ((ys.take k).any (fun y => !xs.contains y) = false) ∧ wr = w) (fun _ i _ => N - (intOf i).toNat)
  case atStart => exact ⟨0, Nat.zero_le _, rfl, rfl, rfl⟩
  case round =>
    obtain ⟨k, hk, rfl, HE, rfl⟩ := hrel
    by_cases hlt : k < N
    · obtain ⟨b, o, rfl, hm, hc⟩ := HC.out (by omega)
      have hcx := hc k _ (svs_at (by rw [← HN.out]; exact hlt))
      unfold maxLen at hm
      clear hc
      obtain ⟨y, hy⟩ : ∃ y, y = ys.getD k [] := ⟨_, rfl⟩
      rw [← hy] at hcx
      have HY := Lib.hid hy
      have CY := Lib.hid (C.out y)
      clear hy
      cases hb : (!xs.contains y) with
      | true =>
        have HB := Lib.hid hb
        rw [hb] at CY
        clear hb
        go_wp2_with fail
        refine CY.out.mono ?_
        rintro e w' ⟨rfl, rfl⟩
        go_wp2
        go_ret
        refine ⟨_, rfl, ?_, rfl⟩
        rw [any_hit (k := k) (by rw [← HN.out]; exact hlt) (by rw [← HY.out]; exact HB.out)]
        exact decide_eq_true (by omega)
      | false =>
        have HB := Lib.hid hb
        rw [hb] at CY
        clear hb
        go_wp2_with fail
        refine CY.out.mono ?_
        rintro e w' ⟨rfl, rfl⟩
        go_wp2
        go_roundw
        case rel => exact ⟨k + 1, by omega, by go_num, any_take_more HE.out (by rw [← HN.out]; exact hlt) (by rw [← HY.out]; exact HB.out), trivial⟩
        case measure => simp [intOf]; omega
    · go_wp2
      go_ret
      refine ⟨_, rfl, ?_, rfl⟩
      rw [any_take_all HE.out (by have := HN.out; omega)]
      rfl

theorem hasf_any (v : Value) (ys : List (List UInt8)) (gc : Nat) (nm : Value) (a : Value) (xs : List (List UInt8)) (w : World) (hv : Rd w v (ys.map sv)) (hy : ys.length ≤ 1048576) (hc : w.heap[gc]? = some (.cells #[nm, a] 35 (0, 0))) (h : Rd w a (xs.map sv)) (hl : xs.length ≤ 1048576) :
    Calls Tryd.prog 28 #[v, .func (.func 26) #[] #[.pointer (some ⟨gc, 0, none⟩)]] w fun e w' => e = .returned (.bool (ys.any (fun y => !xs.contains y))) ∧ w' = w := by
  have C := indexf_any v ys gc nm a xs w hv hy hc h hl
  generalize ys.any (fun y => !xs.contains y) = B at C ⊢
  clear hv hc h
  go_enter Tryd.func28, Tryd.ntmps28
  go_wp2_with fail
  refine C.mono ?_
  rintro e w' ⟨r, rfl, hr, rfl⟩
  by_cases h0 : 0 ≤ r
  · obtain rfl : B = true := by rw [← hr]; exact decide_eq_true h0
    clear hr
    go_wp2
    go_ret
    exact ⟨rfl, rfl⟩
  · obtain rfl : B = false := by rw [← hr]; exact decide_eq_false h0
    clear hr
    go_wp2
    go_ret
    exact ⟨ret_b (decide_eq_false (by omega)), rfl⟩

theorem all_any (r : List (List UInt8)) (p : List UInt8 → Bool) : (!r.any fun y => !p y) = r.all p := by
  induction r with
  | nil => rfl
  | cons x r ih =>
    rw [List.any_cons, List.all_cons, ← ih]
    cases p x <;> rfl

set_option maxHeartbeats 1000000 in
/-- One cap, behind a captured variable that holds the words. -/
theorem has1_any (w0 : World) (n : List UInt8) (r : List (List UInt8)) (g cap gw : Nat) (c : Cp.Cap) (a : Value) (w : World) (hg : w.heap[gw]? = some (.cells #[.slice (some ⟨g, 0, none⟩) (r.length + 1) cap] 22 (0, 0)))
    (hw : WR w0 w g cap n r (if cap = 1 then some ⟨g, 0, none⟩ else some ⟨g, 1, none⟩)) (ha : Rd w a (c.args.map sv)) (hl : c.args.length ≤ 1048576) (hr : r.length ≤ 1048576) :
    Calls Tryd.prog 25 #[.agg #[sv c.name, a], .pointer (some ⟨gw, 0, none⟩)] w fun e w' => e = .returned (.bool (Cp.hasOne (n :: r) c)) ∧ Below w.heap.size w w' := by
  have hmf : ∀ (fn : Fn) (first cap : Array Value) (w : World), (Instr.makeFunc fn first cap).run Tryd.prog w = .ok (.func fn first cap) w := fun _ _ _ _ => rfl
  have hal : Below w.heap.size w ((w.alloc (.cells #[sv c.name, a] 35 (0, 0))).drew) := ((Below.refl _ _).alloc (Nat.le_refl _) _).drew
  obtain ⟨w1, hw1⟩ : ∃ w1, w1 = (w.alloc (.cells #[sv c.name, a] 35 (0, 0))).drew := ⟨_, rfl⟩
  rw [← hw1] at hal
  have HB := Lib.hid hal
  have hwr := hw.below hal
  have hgc : w1.heap[w.heap.size]? = some (.cells #[sv c.name, a] 35 (0, 0)) := by rw [hw1]; exact heap_alloc_new w _
  have k0 : w1.cell? ⟨w.heap.size, 0, none⟩ = some (.string ⟨c.name.toArray⟩) := cell_of_row _ _ _ _ _ _ hgc
  have k1 : w1.cell? ⟨gw, 0, none⟩ = some (.slice (some ⟨g, 0, none⟩) (r.length + 1) cap) := by
    have := (hal.block gw (Array.getElem?_eq_some_iff.1 hg).1).trans hg
    exact cell_of_row _ _ _ _ _ _ this
  have k2 : w1.cell? ⟨g, 0, none⟩ = some (.string ⟨n.toArray⟩) := hwr.cell
  have hC := fun v hv => hasf_any v r w.heap.size (sv c.name) a c.args w1 hv hr hgc (ha.below hal) hl
  have hrd := hwr.rd
  have hle := hwr.le
  have hmx := hwr.max
  unfold maxLen at hmx
  have hone : Cp.hasOne (n :: r) c = ((c.name == n) && !(r.any fun y => !c.args.contains y)) := by rw [all_any]; rfl
  rw [hone]
  generalize (r.any fun y => !c.args.contains y) = B at *
  have hs0 := Lib.hid (show _ ∧ _ ∧ _ from ⟨k0, k1, k2⟩)
  have S1 := hs0
  have q1 : (1 : Int) ≤ (r.length : Int) + 1 := by omega
  by_cases hnn : c.name = n
  · have hb : (c.name == n) = true := beq_iff_eq.2 hnn
    rw [hb, Bool.true_and]
    by_cases hcap : cap = 1
    · subst hcap
      obtain rfl : r = [] := List.length_eq_zero_iff.1 (by omega)
      rw [if_pos rfl] at hrd
      have HC := Lib.hid (hC _ hrd)
      rw [hw1] at S1 HC HB
      clear hC hrd hw hg ha hwr hgc k0 k1 k2 hone hal hnn hs0 hw1 q1
      unfold sv at S1 HC HB
      unfold sv
      go_enter Tryd.func25, Tryd.ntmps25
      go_wp2_with fail
      refine wp_region_held_drew (S := fun w' => w'.cell? ⟨w.heap.size, 0, none⟩ = some (.string ⟨c.name.toArray⟩) ∧ w'.cell? ⟨gw, 0, none⟩ = some (.slice (some ⟨g, 0, none⟩) 1 1) ∧ w'.cell? ⟨g, 0, none⟩ = some (.string ⟨n.toArray⟩)) (by kernel_rfl) S1.out (fun hH => ?_)
      generalize World.drew _ = w1 at *
      refine heldTake (i := 0) (v := ?_) rfl (by kernel_rfl) (by kernel_rfl) (fun _ _ _ h => h) (by rfl) (by assumption) (fun w hSw => ?_) ?_; rotate_left; focus ((try dsimp only at hSw); go_simp; try with_reducible rfl)
      try simp only [Act.put, List.setIfInBounds_toArray, List.set_cons_zero, List.set_cons_succ]
      refine heldTake (i := 1) (v := ?_) rfl (by kernel_rfl) (by kernel_rfl) (fun _ _ _ h => h) (by rfl) (by assumption) (fun w hSw => ?_) ?_; rotate_left; focus ((try dsimp only at hSw); go_simp; try with_reducible rfl)
      try simp only [Act.put, List.setIfInBounds_toArray, List.set_cons_zero, List.set_cons_succ]
      refine heldTake (i := 2) (v := ?_) rfl (by kernel_rfl) (by kernel_rfl) (fun _ _ _ h => h) (by rfl) (by assumption) (fun w hSw => ?_) ?_; rotate_left; focus ((try dsimp only at hSw); go_simp; try with_reducible rfl)
      try simp only [Act.put, List.setIfInBounds_toArray, List.set_cons_zero, List.set_cons_succ]
      refine heldTake (i := 3) (v := ?_) rfl (by kernel_rfl) (by kernel_rfl) (fun _ _ _ h => h) (by rfl) (by assumption) (fun w hSw => ?_) ?_; rotate_left; focus ((try dsimp only at hSw); go_simp; try with_reducible rfl)
      try simp only [Act.put, List.setIfInBounds_toArray, List.set_cons_zero, List.set_cons_succ]
      refine heldTake (i := 4) (v := ?_) rfl (by kernel_rfl) (by kernel_rfl) (fun _ _ _ h => h) (by rfl) (by assumption) (fun w hSw => ?_) ?_; rotate_left; focus ((try dsimp only at hSw); go_simp; try with_reducible rfl)
      try simp only [Act.put, List.setIfInBounds_toArray, List.set_cons_zero, List.set_cons_succ]
      refine heldTake (i := 5) (v := ?_) rfl (by kernel_rfl) (by kernel_rfl) (fun _ _ _ h => h) (by rfl) (by assumption) (fun w hSw => ?_) ?_; rotate_left; focus ((try dsimp only at hSw); go_simp; try with_reducible rfl)
      try simp only [Act.put, List.setIfInBounds_toArray, List.set_cons_zero, List.set_cons_succ]
      refine heldTake (i := 6) (v := ?_) rfl (by kernel_rfl) (by kernel_rfl) (fun _ _ _ h => h) (by rfl) (by assumption) (fun w hSw => ?_) ?_; rotate_left; focus ((try dsimp only at hSw); go_simp; try with_reducible rfl)
      try simp only [Act.put, List.setIfInBounds_toArray, List.set_cons_zero, List.set_cons_succ]
      refine heldTake (i := 7) (v := ?_) rfl (by kernel_rfl) (by kernel_rfl) (fun _ _ _ h => h) (by rfl) (by assumption) (fun w hSw => ?_) ?_; rotate_left; focus ((try dsimp only at hSw); go_simp; try with_reducible rfl)
      try simp only [Act.put, List.setIfInBounds_toArray, List.set_cons_zero, List.set_cons_succ]
      refine heldTake (i := 8) (v := ?_) rfl (by kernel_rfl) (by kernel_rfl) (fun _ _ _ h => h) (by rfl) (by assumption) (fun w hSw => ?_) ?_; rotate_left; focus ((try dsimp only at hSw); go_simp; try with_reducible rfl)
      try simp only [Act.put, List.setIfInBounds_toArray, List.set_cons_zero, List.set_cons_succ]
      refine heldTake (i := 9) (v := ?_) rfl (by kernel_rfl) (by kernel_rfl) (fun _ _ _ h => h) (by rfl) (by assumption) (fun w hSw => ?_) ?_; rotate_left; focus ((try dsimp only at hSw); go_simp; try with_reducible rfl)
      try simp only [Act.put, List.setIfInBounds_toArray, List.set_cons_zero, List.set_cons_succ]
      -- NEXT 10 Op.call { callee := Callee.value (Operand.func 28), args := #[Operand.tmp 14, Operand.tmp 15], argTypes := #[2
      refine heldNext (i := 10) rfl (by kernel_rfl) (by rfl) (fun K hK => ?_)
      go_simp; go_at_call 28; refine (HC.out).mono ?_; rintro e w2 ⟨rfl, rfl⟩; first | (refine hK.out _ _ S1.out ?_) | (go_wp2_with fail; refine hK.out _ _ S1.out ?_); clear hK K
      try simp only [Act.put, List.setIfInBounds_toArray, List.set_cons_zero, List.set_cons_succ]
      refine heldTake (i := 11) (v := ?_) rfl (by kernel_rfl) (by kernel_rfl) (fun _ _ _ h => h) (by rfl) (by assumption) (fun w hSw => ?_) ?_; rotate_left; focus ((try dsimp only at hSw); go_simp; try with_reducible rfl)
      try simp only [Act.put, List.setIfInBounds_toArray, List.set_cons_zero, List.set_cons_succ]
      refine heldTake (i := 12) (v := ?_) rfl (by kernel_rfl) (by kernel_rfl) (fun _ _ _ h => h) (by rfl) (by assumption) (fun w hSw => ?_) ?_; rotate_left; focus ((try dsimp only at hSw); go_simp; try with_reducible rfl)
      try simp only [Act.put, List.setIfInBounds_toArray, List.set_cons_zero, List.set_cons_succ]
      refine heldTake (i := 13) (v := ?_) rfl (by kernel_rfl) (by kernel_rfl) (fun _ _ _ h => h) (by rfl) (by assumption) (fun w hSw => ?_) ?_; rotate_left; focus ((try dsimp only at hSw); go_simp; try with_reducible rfl)
      try simp only [Act.put, List.setIfInBounds_toArray, List.set_cons_zero, List.set_cons_succ]
      refine wpAnyH_done (by kernel_rfl) ?_ _
      clear hH
      go_wp2
      go_ret
      exact ⟨rfl, HB.out⟩
    · rw [if_neg hcap] at hrd
      have HC := Lib.hid (hC _ hrd)
      rw [hw1] at S1 HC HB
      clear hC hrd hw hg ha hwr hgc k0 k1 k2 hone hal hnn hs0 hw1 
      unfold sv at S1 HC HB
      unfold sv
      go_enter Tryd.func25, Tryd.ntmps25
      go_wp2_with fail
      refine wp_region_held_drew (S := fun w' => w'.cell? ⟨w.heap.size, 0, none⟩ = some (.string ⟨c.name.toArray⟩) ∧ w'.cell? ⟨gw, 0, none⟩ = some (.slice (some ⟨g, 0, none⟩) (r.length + 1) cap) ∧ w'.cell? ⟨g, 0, none⟩ = some (.string ⟨n.toArray⟩)) (by kernel_rfl) S1.out (fun hH => ?_)
      generalize World.drew _ = w1 at *
      refine heldTake (i := 0) (v := ?_) rfl (by kernel_rfl) (by kernel_rfl) (fun _ _ _ h => h) (by rfl) (by assumption) (fun w hSw => ?_) ?_; rotate_left; focus ((try dsimp only at hSw); go_simp; try with_reducible rfl)
      try simp only [Act.put, List.setIfInBounds_toArray, List.set_cons_zero, List.set_cons_succ]
      refine heldTake (i := 1) (v := ?_) rfl (by kernel_rfl) (by kernel_rfl) (fun _ _ _ h => h) (by rfl) (by assumption) (fun w hSw => ?_) ?_; rotate_left; focus ((try dsimp only at hSw); go_simp; try with_reducible rfl)
      try simp only [Act.put, List.setIfInBounds_toArray, List.set_cons_zero, List.set_cons_succ]
      refine heldTake (i := 2) (v := ?_) rfl (by kernel_rfl) (by kernel_rfl) (fun _ _ _ h => h) (by rfl) (by assumption) (fun w hSw => ?_) ?_; rotate_left; focus ((try dsimp only at hSw); go_simp; try with_reducible rfl)
      try simp only [Act.put, List.setIfInBounds_toArray, List.set_cons_zero, List.set_cons_succ]
      refine heldTake (i := 3) (v := ?_) rfl (by kernel_rfl) (by kernel_rfl) (fun _ _ _ h => h) (by rfl) (by assumption) (fun w hSw => ?_) ?_; rotate_left; focus ((try dsimp only at hSw); go_simp; try with_reducible rfl)
      try simp only [Act.put, List.setIfInBounds_toArray, List.set_cons_zero, List.set_cons_succ]
      refine heldTake (i := 4) (v := ?_) rfl (by kernel_rfl) (by kernel_rfl) (fun _ _ _ h => h) (by rfl) (by assumption) (fun w hSw => ?_) ?_; rotate_left; focus ((try dsimp only at hSw); go_simp; try with_reducible rfl)
      try simp only [Act.put, List.setIfInBounds_toArray, List.set_cons_zero, List.set_cons_succ]
      refine heldTake (i := 5) (v := ?_) rfl (by kernel_rfl) (by kernel_rfl) (fun _ _ _ h => h) (by rfl) (by assumption) (fun w hSw => ?_) ?_; rotate_left; focus ((try dsimp only at hSw); go_simp; try with_reducible rfl)
      try simp only [Act.put, List.setIfInBounds_toArray, List.set_cons_zero, List.set_cons_succ]
      refine heldTake (i := 6) (v := ?_) rfl (by kernel_rfl) (by kernel_rfl) (fun _ _ _ h => h) (by rfl) (by assumption) (fun w hSw => ?_) ?_; rotate_left; focus ((try dsimp only at hSw); go_simp; try with_reducible rfl)
      try simp only [Act.put, List.setIfInBounds_toArray, List.set_cons_zero, List.set_cons_succ]
      refine heldTake (i := 7) (v := ?_) rfl (by kernel_rfl) (by kernel_rfl) (fun _ _ _ h => h) (by rfl) (by assumption) (fun w hSw => ?_) ?_; rotate_left; focus ((try dsimp only at hSw); go_simp; try with_reducible rfl)
      try simp only [Act.put, List.setIfInBounds_toArray, List.set_cons_zero, List.set_cons_succ]
      refine heldTake (i := 8) (v := ?_) rfl (by kernel_rfl) (by kernel_rfl) (fun _ _ _ h => h) (by rfl) (by assumption) (fun w hSw => ?_) ?_; rotate_left; focus ((try dsimp only at hSw); go_simp; try with_reducible rfl)
      try simp only [Act.put, List.setIfInBounds_toArray, List.set_cons_zero, List.set_cons_succ]
      refine heldTake (i := 9) (v := ?_) rfl (by kernel_rfl) (by kernel_rfl) (fun _ _ _ h => h) (by rfl) (by assumption) (fun w hSw => ?_) ?_; rotate_left; focus ((try dsimp only at hSw); go_simp; try with_reducible rfl)
      try simp only [Act.put, List.setIfInBounds_toArray, List.set_cons_zero, List.set_cons_succ]
      -- NEXT 10 Op.call { callee := Callee.value (Operand.func 28), args := #[Operand.tmp 14, Operand.tmp 15], argTypes := #[2
      refine heldNext (i := 10) rfl (by kernel_rfl) (by rfl) (fun K hK => ?_)
      go_simp; go_at_call 28; refine (HC.out).mono ?_; rintro e w2 ⟨rfl, rfl⟩; first | (refine hK.out _ _ S1.out ?_) | (go_wp2_with fail; refine hK.out _ _ S1.out ?_); clear hK K
      try simp only [Act.put, List.setIfInBounds_toArray, List.set_cons_zero, List.set_cons_succ]
      refine heldTake (i := 11) (v := ?_) rfl (by kernel_rfl) (by kernel_rfl) (fun _ _ _ h => h) (by rfl) (by assumption) (fun w hSw => ?_) ?_; rotate_left; focus ((try dsimp only at hSw); go_simp; try with_reducible rfl)
      try simp only [Act.put, List.setIfInBounds_toArray, List.set_cons_zero, List.set_cons_succ]
      refine heldTake (i := 12) (v := ?_) rfl (by kernel_rfl) (by kernel_rfl) (fun _ _ _ h => h) (by rfl) (by assumption) (fun w hSw => ?_) ?_; rotate_left; focus ((try dsimp only at hSw); go_simp; try with_reducible rfl)
      try simp only [Act.put, List.setIfInBounds_toArray, List.set_cons_zero, List.set_cons_succ]
      refine heldTake (i := 13) (v := ?_) rfl (by kernel_rfl) (by kernel_rfl) (fun _ _ _ h => h) (by rfl) (by assumption) (fun w hSw => ?_) ?_; rotate_left; focus ((try dsimp only at hSw); go_simp; try with_reducible rfl)
      try simp only [Act.put, List.setIfInBounds_toArray, List.set_cons_zero, List.set_cons_succ]
      refine wpAnyH_done (by kernel_rfl) ?_ _
      clear hH
      go_wp2
      go_ret
      exact ⟨rfl, HB.out⟩
  · have hb : (c.name == n) = false := beq_eq_false_iff_ne.2 hnn
    rw [hb, Bool.false_and]
    rw [hw1] at S1 HB
    clear hC hrd hw hg ha hwr hgc k0 k1 k2 hone hal hnn hs0 hw1 
    unfold sv at S1 HB
    unfold sv
    go_enter Tryd.func25, Tryd.ntmps25
    go_wp2_with fail
    refine wp_region_held_drew (S := fun w' => w'.cell? ⟨w.heap.size, 0, none⟩ = some (.string ⟨c.name.toArray⟩) ∧ w'.cell? ⟨gw, 0, none⟩ = some (.slice (some ⟨g, 0, none⟩) (r.length + 1) cap) ∧ w'.cell? ⟨g, 0, none⟩ = some (.string ⟨n.toArray⟩)) (by kernel_rfl) S1.out (fun hH => ?_)
    generalize World.drew _ = w1 at *
    refine heldTake (i := 0) (v := ?_) rfl (by kernel_rfl) (by kernel_rfl) (fun _ _ _ h => h) (by rfl) (by assumption) (fun w hSw => ?_) ?_; rotate_left; focus ((try dsimp only at hSw); go_simp; try with_reducible rfl)
    try simp only [Act.put, List.setIfInBounds_toArray, List.set_cons_zero, List.set_cons_succ]
    refine heldTake (i := 1) (v := ?_) rfl (by kernel_rfl) (by kernel_rfl) (fun _ _ _ h => h) (by rfl) (by assumption) (fun w hSw => ?_) ?_; rotate_left; focus ((try dsimp only at hSw); go_simp; try with_reducible rfl)
    try simp only [Act.put, List.setIfInBounds_toArray, List.set_cons_zero, List.set_cons_succ]
    refine heldTake (i := 2) (v := ?_) rfl (by kernel_rfl) (by kernel_rfl) (fun _ _ _ h => h) (by rfl) (by assumption) (fun w hSw => ?_) ?_; rotate_left; focus ((try dsimp only at hSw); go_simp; try with_reducible rfl)
    try simp only [Act.put, List.setIfInBounds_toArray, List.set_cons_zero, List.set_cons_succ]
    refine heldTake (i := 3) (v := ?_) rfl (by kernel_rfl) (by kernel_rfl) (fun _ _ _ h => h) (by rfl) (by assumption) (fun w hSw => ?_) ?_; rotate_left; focus ((try dsimp only at hSw); go_simp; try with_reducible rfl)
    try simp only [Act.put, List.setIfInBounds_toArray, List.set_cons_zero, List.set_cons_succ]
    refine heldTake (i := 4) (v := ?_) rfl (by kernel_rfl) (by kernel_rfl) (fun _ _ _ h => h) (by rfl) (by assumption) (fun w hSw => ?_) ?_; rotate_left; focus ((try dsimp only at hSw); go_simp; try with_reducible rfl)
    try simp only [Act.put, List.setIfInBounds_toArray, List.set_cons_zero, List.set_cons_succ]
    refine heldTake (i := 5) (v := ?_) rfl (by kernel_rfl) (by kernel_rfl) (fun _ _ _ h => h) (by rfl) (by assumption) (fun w hSw => ?_) ?_; rotate_left; focus ((try dsimp only at hSw); go_simp; try with_reducible rfl)
    try simp only [Act.put, List.setIfInBounds_toArray, List.set_cons_zero, List.set_cons_succ]
    refine heldTake (i := 6) (v := ?_) rfl (by kernel_rfl) (by kernel_rfl) (fun _ _ _ h => h) (by rfl) (by assumption) (fun w hSw => ?_) ?_; rotate_left; focus ((try dsimp only at hSw); go_simp; try with_reducible rfl)
    try simp only [Act.put, List.setIfInBounds_toArray, List.set_cons_zero, List.set_cons_succ]
    refine heldSkip (i := 7) rfl (by kernel_rfl) (by kernel_rfl) (fun _ _ _ h => h) (by rfl) (by assumption) ?_
    try simp only [Act.put, List.setIfInBounds_toArray, List.set_cons_zero, List.set_cons_succ]
    refine heldSkip (i := 8) rfl (by kernel_rfl) (by kernel_rfl) (fun _ _ _ h => h) (by rfl) (by assumption) ?_
    try simp only [Act.put, List.setIfInBounds_toArray, List.set_cons_zero, List.set_cons_succ]
    refine heldSkip (i := 9) rfl (by kernel_rfl) (by kernel_rfl) (fun _ _ _ h => h) (by rfl) (by assumption) ?_
    try simp only [Act.put, List.setIfInBounds_toArray, List.set_cons_zero, List.set_cons_succ]
    refine heldSkip (i := 10) rfl (by kernel_rfl) (by kernel_rfl) (fun _ _ _ h => h) (by rfl) (by assumption) ?_
    try simp only [Act.put, List.setIfInBounds_toArray, List.set_cons_zero, List.set_cons_succ]
    refine heldSkip (i := 11) rfl (by kernel_rfl) (by kernel_rfl) (fun _ _ _ h => h) (by rfl) (by assumption) ?_
    try simp only [Act.put, List.setIfInBounds_toArray, List.set_cons_zero, List.set_cons_succ]
    refine heldTake (i := 12) (v := ?_) rfl (by kernel_rfl) (by kernel_rfl) (fun _ _ _ h => h) (by rfl) (by assumption) (fun w hSw => ?_) ?_; rotate_left; focus ((try dsimp only at hSw); go_simp; try with_reducible rfl)
    try simp only [Act.put, List.setIfInBounds_toArray, List.set_cons_zero, List.set_cons_succ]
    refine heldTake (i := 13) (v := ?_) rfl (by kernel_rfl) (by kernel_rfl) (fun _ _ _ h => h) (by rfl) (by assumption) (fun w hSw => ?_) ?_; rotate_left; focus ((try dsimp only at hSw); go_simp; try with_reducible rfl)
    try simp only [Act.put, List.setIfInBounds_toArray, List.set_cons_zero, List.set_cons_succ]
    refine wpAnyH_done (by kernel_rfl) ?_ _
    clear hH
    go_wp2
    go_ret
    exact ⟨rfl, HB.out⟩
end Go.Proofs.YtomeoploojjacaaDoor
