/- The reference's wire: Happen walked. (Laid by wip/tools/gen_wref4.py.) -/
import Derived.Test.YtneifmnlailipaaWRefAsk
namespace Go.Proofs.Ytneifmnlailipaa
open Go.RowKit

/-- What the reference's 'Happen' answers. -/
def HapS (w : World) (B g : Nat) (F : Nat → Prop) (r : List UInt8 × Nat × Wi.Wm) (e : Ending) (w' : World) : Prop := ∃ bo cp, e = .returned (.tuple #[.slice bo r.1.length cp, .int .i64 (r.2.1 : Int)]) ∧ Rd w' (.slice bo r.1.length cp) (r.1.map bv) ∧ Rs B g F w r.2.2 w'
theorem hapS_no {w w' : World} {B g : Nat} {F : Nat → Prop} {W : Wi.Wm} (h : RW w B g F W) (hb : Below w.heap.size w w') : HapS w B g F ([], 1, W) (.returned (.tuple #[.slice none 0 0, .int .i64 1])) w' :=
  ⟨none, 0, rfl, rd_none, Rs.below h hb⟩
section
variable {w : World} {B g : Nat} {F : Nat → Prop} {W : Wi.Wm}

theorem rhap_come_0 (h : RW w B g F W) (n : Int) (v : Value) (ys : List UInt8) (hr : Rd w v (ys.map bv)) (hy : ys.length ≤ maxLen) (hv : 0 < ys.length → ∀ b, v.ownBlock = some b → ¬ F b) (hgot : (W.at 0).got ≤ 4000) :
    Calls Try.prog 21 #[.pointer (some ⟨g, 0, none⟩), .agg #[.int .i64 1, .int .i64 0, .int .i64 n, v]] w (HapS w B g F (W.happen 1 0 n ys)) := by
  obtain ⟨ao, ac, rfl, _⟩ := hr.form
  obtain ⟨R, hR⟩ : ∃ R, R = W.happen 1 0 n ys := ⟨_, rfl⟩
  rw [← hR]
  obtain ⟨L, hL⟩ : ∃ L, L = ys.length := ⟨_, rfl⟩
  rw [← hL] at hr ⊢
  have HL := Lib.hid hL
  have H := Lib.hid h
  have HRD := Lib.hid hr
  have HV := Lib.hid hv
  have HY := Lib.hid hy
  have hal : Below w.heap.size w (w.alloc (.cells #[.int .i64 1, .int .i64 0, .int .i64 n, .slice ao L ac] 30)) := (Below.refl _ _).alloc (Nat.le_refl _) _
  have hrow := heap_alloc_new w (.cells #[.int .i64 1, .int .i64 0, .int .i64 n, .slice ao L ac] 30)
  obtain ⟨w0, hw0⟩ : ∃ w0, w0 = w.alloc (.cells #[.int .i64 1, .int .i64 0, .int .i64 n, .slice ao L ac] 30) := ⟨_, rfl⟩
  rw [← hw0] at hal hrow
  have HAL := Lib.hid hal
  have HROW := Lib.hid hrow
  have HW0 := Lib.hid hw0
  have H0 := Lib.hid (h.next hal)
  have hel : g < w.heap.size := h.lt
  have e0 : w0.cell? ⟨w.heap.size, 0, none⟩ = some (.int .i64 1) := cell_of_row _ _ _ _ _ _ hrow
  have e1 : w0.cell? ⟨w.heap.size, 1, none⟩ = some (.int .i64 0) := cell_of_row _ _ _ _ _ _ hrow
  have e2 : w0.cell? ⟨w.heap.size, 2, none⟩ = some (.int .i64 n) := cell_of_row _ _ _ _ _ _ hrow
  have e3 : w0.cell? ⟨w.heap.size, 3, none⟩ = some (.slice ao L ac) := cell_of_row _ _ _ _ _ _ hrow
  have hRR := hR
  rw [Wi.Wm.happen1] at hR
  unfold Wi.Cn.come at hR
  obtain ⟨st, hst⟩ : ∃ st, st = (W.at 0).st := ⟨_, rfl⟩
  have SC := rstate_0 H0.out
  rw [← hst] at SC hR
  have SC := Lib.hid SC
  by_cases h2 : st = 2
  · rw [if_neg (by omega)] at hR
    subst h2
    obtain ⟨F0, ha⟩ := ar_zero H0.out
    obtain ⟨C, gq, s, so, sw, hx⟩ := ha.ca
    have c1 : w0.cell? ⟨g, 1, none⟩ = some (.int .i64 ((W.at 0).got : Int)) := hx.c1
    obtain ⟨G, hG⟩ : ∃ G, G = (W.at 0).got := ⟨_, rfl⟩
    rw [← hG] at c1 hR hgot
    rw [← hL] at hR
    unfold maxLen at hy
    have hLb : L ≤ 9223372036854775807 := by omega
    by_cases hf : 4000 < G + L
    · have i1 : IntKind.i64.wrap (4000 - (G : Int)) = ((4000 - G : Nat) : Int) := by rw [wraps_i64 _ (by omega) (by omega)]; omega
      obtain ⟨D, hD⟩ : ∃ D, D = 4000 - G := ⟨_, rfl⟩
      rw [← hD] at i1
      have HS6 := Lib.hid (show w0.drew.cell? ⟨w.heap.size, 1, none⟩ = some (.int .i64 0) ∧ w0.drew.cell? ⟨w.heap.size, 3, none⟩ = some (.slice ao L ac) ∧ w0.drew.cell? ⟨g, 1, none⟩ = some (.int .i64 (G : Int)) from ⟨e1, e3, c1⟩)
      rw [if_pos hf] at hR
      have HR := Lib.hid hR
      have hdl : D < L := by omega
      have HDD := Lib.hid hD
      have BD := Lib.hid (HAL.out.trans (((Below.refl w0.heap.size w0).drew).mono HAL.out.size))
      clear ha hx hR hRR hD hG hst hgot hf hLb
      clear h hr hv hy hal hrow hw0 hL hel
      go_enter Try.func21, Try.ntmps21
      go_wp2_with fail
      rw [← HW0.out]
      refine (SC.out).mono ?_
      rintro e w1 ⟨rfl, hw⟩
      obtain rfl := hw
      go_wp2_with fail
      refine (known_0 w0).mono ?_
      rintro e w2 ⟨rfl, hw⟩
      obtain rfl := hw
      go_wp2
      refine wp_region_held_drew (S := fun w' => w'.cell? ⟨w.heap.size, 1, none⟩ = some (.int .i64 0) ∧ w'.cell? ⟨w.heap.size, 3, none⟩ = some (.slice ao L ac) ∧ w'.cell? ⟨g, 1, none⟩ = some (.int .i64 (G : Int))) (by kernel_rfl) HS6.out (fun hH => ?_)
      refine heldTake (i := 0) (v := ?_) rfl (by kernel_rfl) (by kernel_rfl) (fun _ _ _ h => h) (by rfl) (by assumption) (fun w hSw => ?_) ?_; rotate_left; focus ((try dsimp only at hSw); go_simp; try with_reducible rfl)
      try simp only [Act.put, List.setIfInBounds_toArray, List.set_cons_zero, List.set_cons_succ]
      refine heldTake (i := 1) (v := ?_) rfl (by kernel_rfl) (by kernel_rfl) (fun _ _ _ h => h) (by rfl) (by assumption) (fun w hSw => ?_) ?_; rotate_left; focus ((try dsimp only at hSw); go_simp; try with_reducible rfl)
      try simp only [Act.put, List.setIfInBounds_toArray, List.set_cons_zero, List.set_cons_succ]
      refine heldTake (i := 2) (v := ?_) rfl (by kernel_rfl) (by kernel_rfl) (fun _ _ _ h => h) (by rfl) (by assumption) (fun w hSw => ?_) ?_; rotate_left; focus ((try dsimp only at hSw); go_simp; try with_reducible rfl)
      try simp only [Act.put, List.setIfInBounds_toArray, List.set_cons_zero, List.set_cons_succ]
      refine heldTake (i := 3) (v := ?_) rfl (by kernel_rfl) (by kernel_rfl) (fun _ _ _ h => h) (by rfl) (by assumption) (fun w hSw => ?_) ?_; rotate_left; focus ((try dsimp only at hSw); go_simp; try with_reducible rfl)
      try simp only [Act.put, List.setIfInBounds_toArray, List.set_cons_zero, List.set_cons_succ]
      refine heldTake (i := 4) (v := ?_) rfl (by kernel_rfl) (by kernel_rfl) (fun _ _ _ h => h) (by rfl) (by assumption) (fun w hSw => ?_) ?_; rotate_left; focus ((try dsimp only at hSw); go_simp; try with_reducible rfl)
      try simp only [Act.put, List.setIfInBounds_toArray, List.set_cons_zero, List.set_cons_succ]
      refine heldTake (i := 5) (v := ?_) rfl (by kernel_rfl) (by kernel_rfl) (fun _ _ _ h => h) (by rfl) (by assumption) (fun w hSw => ?_) ?_; rotate_left; focus ((try dsimp only at hSw); go_simp; try with_reducible rfl)
      try simp only [Act.put, List.setIfInBounds_toArray, List.set_cons_zero, List.set_cons_succ]
      refine heldTake (i := 6) (v := ?_) rfl (by kernel_rfl) (by kernel_rfl) (fun _ _ _ h => h) (by rfl) (by assumption) (fun w hSw => ?_) ?_; rotate_left; focus ((try dsimp only at hSw); go_simp; try with_reducible rfl)
      try simp only [Act.put, List.setIfInBounds_toArray, List.set_cons_zero, List.set_cons_succ]
      refine heldTake (i := 7) (v := ?_) rfl (by kernel_rfl) (by kernel_rfl) (fun _ _ _ h => h) (by rfl) (by assumption) (fun w hSw => ?_) ?_; rotate_left; focus ((try dsimp only at hSw); go_simp; try with_reducible rfl)
      try simp only [Act.put, List.setIfInBounds_toArray, List.set_cons_zero, List.set_cons_succ]
      refine heldTake (i := 8) (v := ?_) rfl (by kernel_rfl) (by kernel_rfl) (fun _ _ _ h => h) (by rfl) (by assumption) (fun w hSw => ?_) ?_; rotate_left; focus ((try dsimp only at hSw); go_simp; try with_reducible rfl)
      try simp only [Act.put, List.setIfInBounds_toArray, List.set_cons_zero, List.set_cons_succ]
      refine heldTake (i := 9) (v := ?_) rfl (by kernel_rfl) (by kernel_rfl) (fun _ _ _ h => h) (by rfl) (by assumption) (fun w hSw => ?_) ?_; rotate_left; focus ((try dsimp only at hSw); go_simp; try with_reducible rfl)
      try simp only [Act.put, List.setIfInBounds_toArray, List.set_cons_zero, List.set_cons_succ]
      refine heldTake (i := 10) (v := ?_) rfl (by kernel_rfl) (by kernel_rfl) (fun _ _ _ h => h) (by rfl) (by assumption) (fun w hSw => ?_) ?_; rotate_left; focus ((try dsimp only at hSw); go_simp; try with_reducible rfl)
      try simp only [Act.put, List.setIfInBounds_toArray, List.set_cons_zero, List.set_cons_succ]
      refine heldTake (i := 11) (v := ?_) rfl (by kernel_rfl) (by kernel_rfl) (fun _ _ _ h => h) (by rfl) (by assumption) (fun w hSw => ?_) ?_; rotate_left; focus ((try dsimp only at hSw); go_simp; try with_reducible rfl)
      try simp only [Act.put, List.setIfInBounds_toArray, List.set_cons_zero, List.set_cons_succ]
      refine heldTake (i := 12) (v := ?_) rfl (by kernel_rfl) (by kernel_rfl) (fun _ _ _ h => h) (by rfl) (by assumption) (fun w hSw => ?_) ?_; rotate_left; focus ((try dsimp only at hSw); go_simp; try with_reducible rfl)
      try simp only [Act.put, List.setIfInBounds_toArray, List.set_cons_zero, List.set_cons_succ]
      refine wpAnyH_done (by kernel_rfl) ?_ _
      clear hH HS6
      go_wp2
      go_ret2
      rw [HR.out, Wi.Wm.upd_at]
      exact ⟨none, 0, rfl, rd_none, Rs.below H.out BD.out⟩
    · have i1 : IntKind.i64.wrap (4000 - (G : Int)) = ((4000 - G : Nat) : Int) := by rw [wraps_i64 _ (by omega) (by omega)]; omega
      obtain ⟨D, hD⟩ : ∃ D, D = 4000 - G := ⟨_, rfl⟩
      rw [← hD] at i1
      have HS6 := Lib.hid (show w0.drew.cell? ⟨w.heap.size, 1, none⟩ = some (.int .i64 0) ∧ w0.drew.cell? ⟨w.heap.size, 3, none⟩ = some (.slice ao L ac) ∧ w0.drew.cell? ⟨g, 1, none⟩ = some (.int .i64 (G : Int)) from ⟨e1, e3, c1⟩)
      have HR := Lib.hid (show R = (ys, 0, W.upd 0 { W.at 0 with got := (W.at 0).got + ys.length }) from by
        rw [hRR, Wi.Wm.happen1]
        unfold Wi.Cn.come
        rw [if_neg (by rw [← hst]; decide), if_neg (by rw [← hG, ← hL]; exact hf)])
      have hdl : (D < L) = False := eq_false (by omega)
      have HDD := Lib.hid hD
      obtain ⟨G2, hG2⟩ : ∃ G2, G2 = G + L := ⟨_, rfl⟩
      have i2 : IntKind.i64.wrap ((G : Int) + (L : Int)) = (G2 : Int) := by rw [wraps_i64 _ (by omega) (by omega)]; omega
      have HL4 : Hid (L ≤ 16777216) := Lib.hid (by omega)
      have HG2 := Lib.hid (show G2 = (W.at 0).got + ys.length by rw [hG2, hG, hL])
      have BD := Lib.hid ((Below.refl w0.heap.size w0).drew)
      have X := Lib.hid (((hx.cell (i := 1) (v := .int .i64 (G2 : Int)) (by omega) { W.at 0 with got := G2 } rfl rfl rfl rfl rfl rfl rfl).next ((Below.refl _ _).drew)).next ((Below.refl _ _).drew))
      have HA := Lib.hid ha
      have f1 : w0.drew.drew.frozen? ⟨g, 1, none⟩ = false := hx.f 1
      have d1 : w0.drew.drew.cell? ⟨g, 1, none⟩ = some (.int .i64 (G : Int)) := c1
      have HS8 := Lib.hid (show w0.drew.drew.cell? ⟨w.heap.size, 1, none⟩ = some (.int .i64 0) ∧ w0.drew.drew.cell? ⟨w.heap.size, 3, none⟩ = some (.slice ao L ac) from ⟨e1, e3⟩)
      have HS8' := Lib.hid (show (w0.setCell ⟨g, 1, none⟩ (.int .i64 (G2 : Int))).drew.drew.cell? ⟨w.heap.size, 1, none⟩ = some (.int .i64 0) ∧ (w0.setCell ⟨g, 1, none⟩ (.int .i64 (G2 : Int))).drew.drew.cell? ⟨w.heap.size, 3, none⟩ = some (.slice ao L ac) from ⟨(World.cell?_setCell_far w0 _ _ _ (show g ≠ w.heap.size by omega)).trans e1, (World.cell?_setCell_far w0 _ _ _ (show g ≠ w.heap.size by omega)).trans e3⟩)
      have RV := Lib.hid (((rd_far (g := g) (i := 1) (u := .int .i64 (G2 : Int)) (HRD.out.below HAL.out) (fun hp e => HV.out hp g (by rw [← HL.out]; exact e) h.fg)).below ((Below.refl _ _).drew)).below ((Below.refl _ _).drew))
      clear ha hx hR hRR hD hG hst hgot hf hLb hG2
      clear h hr hv hy hal hrow hw0 hL hel
      go_enter Try.func21, Try.ntmps21
      go_wp2_with fail
      rw [← HW0.out]
      refine (SC.out).mono ?_
      rintro e w1 ⟨rfl, hw⟩
      obtain rfl := hw
      go_wp2_with fail
      refine (known_0 w0).mono ?_
      rintro e w2 ⟨rfl, hw⟩
      obtain rfl := hw
      go_wp2
      refine wp_region_held_drew (S := fun w' => w'.cell? ⟨w.heap.size, 1, none⟩ = some (.int .i64 0) ∧ w'.cell? ⟨w.heap.size, 3, none⟩ = some (.slice ao L ac) ∧ w'.cell? ⟨g, 1, none⟩ = some (.int .i64 (G : Int))) (by kernel_rfl) HS6.out (fun hH => ?_)
      refine heldTake (i := 0) (v := ?_) rfl (by kernel_rfl) (by kernel_rfl) (fun _ _ _ h => h) (by rfl) (by assumption) (fun w hSw => ?_) ?_; rotate_left; focus ((try dsimp only at hSw); go_simp; try with_reducible rfl)
      try simp only [Act.put, List.setIfInBounds_toArray, List.set_cons_zero, List.set_cons_succ]
      refine heldTake (i := 1) (v := ?_) rfl (by kernel_rfl) (by kernel_rfl) (fun _ _ _ h => h) (by rfl) (by assumption) (fun w hSw => ?_) ?_; rotate_left; focus ((try dsimp only at hSw); go_simp; try with_reducible rfl)
      try simp only [Act.put, List.setIfInBounds_toArray, List.set_cons_zero, List.set_cons_succ]
      refine heldTake (i := 2) (v := ?_) rfl (by kernel_rfl) (by kernel_rfl) (fun _ _ _ h => h) (by rfl) (by assumption) (fun w hSw => ?_) ?_; rotate_left; focus ((try dsimp only at hSw); go_simp; try with_reducible rfl)
      try simp only [Act.put, List.setIfInBounds_toArray, List.set_cons_zero, List.set_cons_succ]
      refine heldTake (i := 3) (v := ?_) rfl (by kernel_rfl) (by kernel_rfl) (fun _ _ _ h => h) (by rfl) (by assumption) (fun w hSw => ?_) ?_; rotate_left; focus ((try dsimp only at hSw); go_simp; try with_reducible rfl)
      try simp only [Act.put, List.setIfInBounds_toArray, List.set_cons_zero, List.set_cons_succ]
      refine heldTake (i := 4) (v := ?_) rfl (by kernel_rfl) (by kernel_rfl) (fun _ _ _ h => h) (by rfl) (by assumption) (fun w hSw => ?_) ?_; rotate_left; focus ((try dsimp only at hSw); go_simp; try with_reducible rfl)
      try simp only [Act.put, List.setIfInBounds_toArray, List.set_cons_zero, List.set_cons_succ]
      refine heldTake (i := 5) (v := ?_) rfl (by kernel_rfl) (by kernel_rfl) (fun _ _ _ h => h) (by rfl) (by assumption) (fun w hSw => ?_) ?_; rotate_left; focus ((try dsimp only at hSw); go_simp; try with_reducible rfl)
      try simp only [Act.put, List.setIfInBounds_toArray, List.set_cons_zero, List.set_cons_succ]
      refine heldTake (i := 6) (v := ?_) rfl (by kernel_rfl) (by kernel_rfl) (fun _ _ _ h => h) (by rfl) (by assumption) (fun w hSw => ?_) ?_; rotate_left; focus ((try dsimp only at hSw); go_simp; try with_reducible rfl)
      try simp only [Act.put, List.setIfInBounds_toArray, List.set_cons_zero, List.set_cons_succ]
      refine heldTake (i := 7) (v := ?_) rfl (by kernel_rfl) (by kernel_rfl) (fun _ _ _ h => h) (by rfl) (by assumption) (fun w hSw => ?_) ?_; rotate_left; focus ((try dsimp only at hSw); go_simp; try with_reducible rfl)
      try simp only [Act.put, List.setIfInBounds_toArray, List.set_cons_zero, List.set_cons_succ]
      refine heldTake (i := 8) (v := ?_) rfl (by kernel_rfl) (by kernel_rfl) (fun _ _ _ h => h) (by rfl) (by assumption) (fun w hSw => ?_) ?_; rotate_left; focus ((try dsimp only at hSw); go_simp; try with_reducible rfl)
      try simp only [Act.put, List.setIfInBounds_toArray, List.set_cons_zero, List.set_cons_succ]
      refine heldTake (i := 9) (v := ?_) rfl (by kernel_rfl) (by kernel_rfl) (fun _ _ _ h => h) (by rfl) (by assumption) (fun w hSw => ?_) ?_; rotate_left; focus ((try dsimp only at hSw); go_simp; try with_reducible rfl)
      try simp only [Act.put, List.setIfInBounds_toArray, List.set_cons_zero, List.set_cons_succ]
      refine heldTake (i := 10) (v := ?_) rfl (by kernel_rfl) (by kernel_rfl) (fun _ _ _ h => h) (by rfl) (by assumption) (fun w hSw => ?_) ?_; rotate_left; focus ((try dsimp only at hSw); go_simp; try with_reducible rfl)
      try simp only [Act.put, List.setIfInBounds_toArray, List.set_cons_zero, List.set_cons_succ]
      refine heldTake (i := 11) (v := ?_) rfl (by kernel_rfl) (by kernel_rfl) (fun _ _ _ h => h) (by rfl) (by assumption) (fun w hSw => ?_) ?_; rotate_left; focus ((try dsimp only at hSw); go_simp; try with_reducible rfl)
      try simp only [Act.put, List.setIfInBounds_toArray, List.set_cons_zero, List.set_cons_succ]
      refine heldTake (i := 12) (v := ?_) rfl (by kernel_rfl) (by kernel_rfl) (fun _ _ _ h => h) (by rfl) (by assumption) (fun w hSw => ?_) ?_; rotate_left; focus ((try dsimp only at hSw); go_simp; try with_reducible rfl)
      try simp only [Act.put, List.setIfInBounds_toArray, List.set_cons_zero, List.set_cons_succ]
      refine wpAnyH_done (by kernel_rfl) ?_ _
      clear hH HS6
      go_wp2
      refine wp_region_held_drew (S := fun w' => w'.cell? ⟨w.heap.size, 1, none⟩ = some (.int .i64 0) ∧ w'.cell? ⟨w.heap.size, 3, none⟩ = some (.slice ao L ac)) (by kernel_rfl) HS8.out (fun hH => ?_)
      refine heldTake (i := 0) (v := ?_) rfl (by kernel_rfl) (by kernel_rfl) (fun _ _ _ h => h) (by rfl) (by assumption) (fun w hSw => ?_) ?_; rotate_left; focus ((try dsimp only at hSw); go_simp; try with_reducible rfl)
      try simp only [Act.put, List.setIfInBounds_toArray, List.set_cons_zero, List.set_cons_succ]
      refine heldTake (i := 1) (v := ?_) rfl (by kernel_rfl) (by kernel_rfl) (fun _ _ _ h => h) (by rfl) (by assumption) (fun w hSw => ?_) ?_; rotate_left; focus ((try dsimp only at hSw); go_simp; try with_reducible rfl)
      try simp only [Act.put, List.setIfInBounds_toArray, List.set_cons_zero, List.set_cons_succ]
      refine heldTake (i := 2) (v := ?_) rfl (by kernel_rfl) (by kernel_rfl) (fun _ _ _ h => h) (by rfl) (by assumption) (fun w hSw => ?_) ?_; rotate_left; focus ((try dsimp only at hSw); go_simp; try with_reducible rfl)
      try simp only [Act.put, List.setIfInBounds_toArray, List.set_cons_zero, List.set_cons_succ]
      refine heldTake (i := 3) (v := ?_) rfl (by kernel_rfl) (by kernel_rfl) (fun _ _ _ h => h) (by rfl) (by assumption) (fun w hSw => ?_) ?_; rotate_left; focus ((try dsimp only at hSw); go_simp; try with_reducible rfl)
      try simp only [Act.put, List.setIfInBounds_toArray, List.set_cons_zero, List.set_cons_succ]
      refine heldTake (i := 4) (v := ?_) rfl (by kernel_rfl) (by kernel_rfl) (fun _ _ _ h => h) (by rfl) (by assumption) (fun w hSw => ?_) ?_; rotate_left; focus ((try dsimp only at hSw); go_simp; try with_reducible rfl)
      try simp only [Act.put, List.setIfInBounds_toArray, List.set_cons_zero, List.set_cons_succ]
      refine heldTake (i := 5) (v := ?_) rfl (by kernel_rfl) (by kernel_rfl) (fun _ _ _ h => h) (by rfl) (by assumption) (fun w hSw => ?_) ?_; rotate_left; focus ((try dsimp only at hSw); go_simp; try with_reducible rfl)
      try simp only [Act.put, List.setIfInBounds_toArray, List.set_cons_zero, List.set_cons_succ]
      refine heldTake (i := 6) (v := ?_) rfl (by kernel_rfl) (by kernel_rfl) (fun _ _ _ h => h) (by rfl) (by assumption) (fun w hSw => ?_) ?_; rotate_left; focus ((try dsimp only at hSw); go_simp; try with_reducible rfl)
      try simp only [Act.put, List.setIfInBounds_toArray, List.set_cons_zero, List.set_cons_succ]
      refine heldTake (i := 7) (v := ?_) rfl (by kernel_rfl) (by kernel_rfl) (fun _ _ _ h => h) (by rfl) (by assumption) (fun w hSw => ?_) ?_; rotate_left; focus ((try dsimp only at hSw); go_simp; try with_reducible rfl)
      try simp only [Act.put, List.setIfInBounds_toArray, List.set_cons_zero, List.set_cons_succ]
      refine heldTake (i := 8) (v := ?_) rfl (by kernel_rfl) (by kernel_rfl) (fun _ _ _ h => h) (by rfl) (by assumption) (fun w hSw => ?_) ?_; rotate_left; focus ((try dsimp only at hSw); go_simp; try with_reducible rfl)
      try simp only [Act.put, List.setIfInBounds_toArray, List.set_cons_zero, List.set_cons_succ]
      refine heldTake (i := 9) (v := ?_) rfl (by kernel_rfl) (by kernel_rfl) (fun _ _ _ h => h) (by rfl) (by assumption) (fun w hSw => ?_) ?_; rotate_left; focus ((try dsimp only at hSw); go_simp; try with_reducible rfl)
      try simp only [Act.put, List.setIfInBounds_toArray, List.set_cons_zero, List.set_cons_succ]
      refine heldTake (i := 11) (v := ?_) rfl (by kernel_rfl) (by kernel_rfl) (fun _ _ _ h => h) (by rfl) (by assumption) (fun w hSw => ?_) ?_; rotate_left; focus ((try dsimp only at hSw); go_simp; try with_reducible rfl)
      try simp only [Act.put, List.setIfInBounds_toArray, List.set_cons_zero, List.set_cons_succ]
      refine heldTake (i := 12) (v := ?_) rfl (by kernel_rfl) (by kernel_rfl) (fun _ _ _ h => h) (by rfl) (by assumption) (fun w hSw => ?_) ?_; rotate_left; focus ((try dsimp only at hSw); go_simp; try with_reducible rfl)
      try simp only [Act.put, List.setIfInBounds_toArray, List.set_cons_zero, List.set_cons_succ]
      refine heldTake (i := 13) (v := ?_) rfl (by kernel_rfl) (by kernel_rfl) (fun _ _ _ h => h) (by rfl) (by assumption) (fun w hSw => ?_) ?_; rotate_left; focus ((try dsimp only at hSw); go_simp; try with_reducible rfl)
      try simp only [Act.put, List.setIfInBounds_toArray, List.set_cons_zero, List.set_cons_succ]
      refine heldTake (i := 15) (v := ?_) rfl (by kernel_rfl) (by kernel_rfl) (fun _ _ _ h => h) (by rfl) (by assumption) (fun w hSw => ?_) ?_; rotate_left; focus ((try dsimp only at hSw); go_simp; try with_reducible rfl)
      try simp only [Act.put, List.setIfInBounds_toArray, List.set_cons_zero, List.set_cons_succ]
      refine heldTake (i := 16) (v := ?_) rfl (by kernel_rfl) (by kernel_rfl) (fun _ _ _ h => h) (by rfl) (by assumption) (fun w hSw => ?_) ?_; rotate_left; focus ((try dsimp only at hSw); go_simp; try with_reducible rfl)
      try simp only [Act.put, List.setIfInBounds_toArray, List.set_cons_zero, List.set_cons_succ]
      -- NEXT 10 Op.load 3 (Operand.tmp 46)
      refine heldNext (i := 10) rfl (by kernel_rfl) (by rfl) (fun K hK => ?_)
      go_simp
      refine hK.out _ _ HS8.out ?_
      clear hK K
      try simp only [Act.put, List.setIfInBounds_toArray, List.set_cons_zero, List.set_cons_succ]
      refine heldTake (i := 14) (v := ?_) rfl (by kernel_rfl) (by kernel_rfl) (fun _ _ _ h => h) (by rfl) (by assumption) (fun w hSw => ?_) ?_; rotate_left; focus ((try dsimp only at hSw); go_simp; try with_reducible rfl)
      try simp only [Act.put, List.setIfInBounds_toArray, List.set_cons_zero, List.set_cons_succ]
      refine heldTake (i := 17) (v := ?_) rfl (by kernel_rfl) (by kernel_rfl) (fun _ _ _ h => h) (by rfl) (by assumption) (fun w hSw => ?_) ?_; rotate_left; focus ((try dsimp only at hSw); go_simp; try with_reducible rfl)
      try simp only [Act.put, List.setIfInBounds_toArray, List.set_cons_zero, List.set_cons_succ]
      refine heldTake (i := 18) (v := ?_) rfl (by kernel_rfl) (by kernel_rfl) (fun _ _ _ h => h) (by rfl) (by assumption) (fun w hSw => ?_) ?_; rotate_left; focus ((try dsimp only at hSw); go_simp; try with_reducible rfl)
      try simp only [Act.put, List.setIfInBounds_toArray, List.set_cons_zero, List.set_cons_succ]
      -- NEXT 19 Op.store 3 (Operand.tmp 55) (Operand.tmp 51)
      refine heldNext (i := 19) rfl (by kernel_rfl) (by rfl) (fun K hK => ?_)
      have SX := HS8'.out
      go_simp
      refine hK.out _ _ SX ?_
      clear hK K
      try simp only [Act.put, List.setIfInBounds_toArray, List.set_cons_zero, List.set_cons_succ]
      refine wpAnyH_done (by kernel_rfl) ?_ _
      clear hH
      have z3 := HS8'.out.2
      clear HS8 HS8' d1 f1
      generalize hwz : (w0.setCell ⟨g, 1, none⟩ (.int .i64 (G2 : Int))).drew.drew = wz at *
      have HWZ := Lib.hid hwz
      have RV := RV
      have hn := (Below.refl wz.heap.size wz).alloc (Nat.le_refl _) (.cells #[] 5)
      have R5 := Lib.hid (RV.out.below hn)
      have z3' := hn.cell (World.block_lt_of_cell? wz _ z3) |>.trans z3
      have HN := Lib.hid hn
      have HGL := Lib.hid (show g < wz.heap.size by rw [← hwz]; simp [World.setCell]; exact Nat.lt_of_lt_of_le H.out.lt HAL.out.size)
      have hB0 : wz.heap.size ≤ wz.heap.size := Nat.le_refl _
      clear hwz hn hB0
      go_wp2_with (at_builtin; refine append_where rfl (.tmp 56) (.tmp 58) rfl rfl (World.ownsRow_made (base := wz.heap.size) wz #[] 0 (Nat.le_refl _) (Nat.zero_le _) rfl) ys R5.out (by rw [← HL.out, Nat.zero_add]; exact HL4.out) HN.out.size ?_)
      intro v' w5 ho hT _ _
      have hb5 : Below wz.heap.size wz w5 := HN.out.grown hT HN.out.size (fun k hk => by cases hk; exact Nat.le_refl _)
      obtain ⟨bo, cp, rfl⟩ := own_form ho
      have HO := Lib.hid ho
      have HB5 := Lib.hid hb5
      clear ho hT hb5 z3 z3'
      go_wp2
      go_ret2
      rw [HR.out]
      refine ⟨bo, cp, ?_, ?_, ?_⟩
      · rfl
      · have hh := Rd.of_own HO.out
        simpa using hh
      · have hxx := X.out
        have hcr : Cr g 0 F0 w0 F0 w5 := ((Cr.set (g := g) (o := 0) (i := 1) (F := F0) (w := w0) (v := .int .i64 (G2 : Int)) (by omega)).trans (by rw [← HWZ.out]; exact .of_below (((Below.refl _ _).drew).drew) (by simp [World.setCell]; exact Nat.lt_of_lt_of_le H.out.lt HAL.out.size))).trans (.of_below HB5.out HGL.out)
        have := HA.out.back w5 F0 { W.at 0 with got := G2 } ⟨_, _, _, _, _, hxx.next HB5.out⟩ hcr
        have hlater := Rs.later HAL.out this
        rw [HG2.out] at hlater
        exact hlater
  · rw [if_pos h2] at hR
    have HR := Lib.hid (show R = ([], 1, W) by rw [hR, Wi.Wm.upd_at])
    have i2 : ((st : Int) != 2) = true := by simp; omega
    have i3 : (st = 2) = False := eq_false h2
    have i4 : ((st : Int) == 2) = false := by simp; omega
    clear h2 hst hR hRR hgot
    clear h hr hv hy hal hrow hw0 hL hel
    go_enter Try.func21, Try.ntmps21
    go_wp2_with fail
    rw [← HW0.out]
    refine (SC.out).mono ?_
    rintro e w1 ⟨rfl, hw⟩
    obtain rfl := hw
    go_wp2_with fail
    refine (known_0 w0).mono ?_
    rintro e w2 ⟨rfl, hw⟩
    obtain rfl := hw
    go_wp2
    go_ret2
    rw [HR.out]
    exact hapS_no H.out HAL.out


theorem rhap_come_1 (h : RW w B g F W) (n : Int) (v : Value) (ys : List UInt8) (hr : Rd w v (ys.map bv)) (hy : ys.length ≤ maxLen) (hv : 0 < ys.length → ∀ b, v.ownBlock = some b → ¬ F b) (hgot : (W.at 1).got ≤ 4000) :
    Calls Try.prog 21 #[.pointer (some ⟨g, 0, none⟩), .agg #[.int .i64 1, .int .i64 1, .int .i64 n, v]] w (HapS w B g F (W.happen 1 1 n ys)) := by
  obtain ⟨ao, ac, rfl, _⟩ := hr.form
  obtain ⟨R, hR⟩ : ∃ R, R = W.happen 1 1 n ys := ⟨_, rfl⟩
  rw [← hR]
  obtain ⟨L, hL⟩ : ∃ L, L = ys.length := ⟨_, rfl⟩
  rw [← hL] at hr ⊢
  have HL := Lib.hid hL
  have H := Lib.hid h
  have HRD := Lib.hid hr
  have HV := Lib.hid hv
  have HY := Lib.hid hy
  have hal : Below w.heap.size w (w.alloc (.cells #[.int .i64 1, .int .i64 1, .int .i64 n, .slice ao L ac] 30)) := (Below.refl _ _).alloc (Nat.le_refl _) _
  have hrow := heap_alloc_new w (.cells #[.int .i64 1, .int .i64 1, .int .i64 n, .slice ao L ac] 30)
  obtain ⟨w0, hw0⟩ : ∃ w0, w0 = w.alloc (.cells #[.int .i64 1, .int .i64 1, .int .i64 n, .slice ao L ac] 30) := ⟨_, rfl⟩
  rw [← hw0] at hal hrow
  have HAL := Lib.hid hal
  have HROW := Lib.hid hrow
  have HW0 := Lib.hid hw0
  have H0 := Lib.hid (h.next hal)
  have hel : g < w.heap.size := h.lt
  have e0 : w0.cell? ⟨w.heap.size, 0, none⟩ = some (.int .i64 1) := cell_of_row _ _ _ _ _ _ hrow
  have e1 : w0.cell? ⟨w.heap.size, 1, none⟩ = some (.int .i64 1) := cell_of_row _ _ _ _ _ _ hrow
  have e2 : w0.cell? ⟨w.heap.size, 2, none⟩ = some (.int .i64 n) := cell_of_row _ _ _ _ _ _ hrow
  have e3 : w0.cell? ⟨w.heap.size, 3, none⟩ = some (.slice ao L ac) := cell_of_row _ _ _ _ _ _ hrow
  have hRR := hR
  rw [Wi.Wm.happen1] at hR
  unfold Wi.Cn.come at hR
  obtain ⟨st, hst⟩ : ∃ st, st = (W.at 1).st := ⟨_, rfl⟩
  have SC := rstate_1 H0.out
  rw [← hst] at SC hR
  have SC := Lib.hid SC
  by_cases h2 : st = 2
  · rw [if_neg (by omega)] at hR
    subst h2
    obtain ⟨F0, ha⟩ := ar_one H0.out
    obtain ⟨C, gq, s, so, sw, hx⟩ := ha.ca
    have c1 : w0.cell? ⟨g, 7, none⟩ = some (.int .i64 ((W.at 1).got : Int)) := hx.c1
    obtain ⟨G, hG⟩ : ∃ G, G = (W.at 1).got := ⟨_, rfl⟩
    rw [← hG] at c1 hR hgot
    rw [← hL] at hR
    unfold maxLen at hy
    have hLb : L ≤ 9223372036854775807 := by omega
    by_cases hf : 4000 < G + L
    · have i1 : IntKind.i64.wrap (4000 - (G : Int)) = ((4000 - G : Nat) : Int) := by rw [wraps_i64 _ (by omega) (by omega)]; omega
      obtain ⟨D, hD⟩ : ∃ D, D = 4000 - G := ⟨_, rfl⟩
      rw [← hD] at i1
      have HS6 := Lib.hid (show w0.drew.cell? ⟨w.heap.size, 1, none⟩ = some (.int .i64 1) ∧ w0.drew.cell? ⟨w.heap.size, 3, none⟩ = some (.slice ao L ac) ∧ w0.drew.cell? ⟨g, 7, none⟩ = some (.int .i64 (G : Int)) from ⟨e1, e3, c1⟩)
      rw [if_pos hf] at hR
      have HR := Lib.hid hR
      have hdl : D < L := by omega
      have HDD := Lib.hid hD
      have BD := Lib.hid (HAL.out.trans (((Below.refl w0.heap.size w0).drew).mono HAL.out.size))
      clear ha hx hR hRR hD hG hst hgot hf hLb
      clear h hr hv hy hal hrow hw0 hL hel
      go_enter Try.func21, Try.ntmps21
      go_wp2_with fail
      rw [← HW0.out]
      refine (SC.out).mono ?_
      rintro e w1 ⟨rfl, hw⟩
      obtain rfl := hw
      go_wp2_with fail
      refine (known_1 w0).mono ?_
      rintro e w2 ⟨rfl, hw⟩
      obtain rfl := hw
      go_wp2
      refine wp_region_held_drew (S := fun w' => w'.cell? ⟨w.heap.size, 1, none⟩ = some (.int .i64 1) ∧ w'.cell? ⟨w.heap.size, 3, none⟩ = some (.slice ao L ac) ∧ w'.cell? ⟨g, 7, none⟩ = some (.int .i64 (G : Int))) (by kernel_rfl) HS6.out (fun hH => ?_)
      refine heldTake (i := 0) (v := ?_) rfl (by kernel_rfl) (by kernel_rfl) (fun _ _ _ h => h) (by rfl) (by assumption) (fun w hSw => ?_) ?_; rotate_left; focus ((try dsimp only at hSw); go_simp; try with_reducible rfl)
      try simp only [Act.put, List.setIfInBounds_toArray, List.set_cons_zero, List.set_cons_succ]
      refine heldTake (i := 1) (v := ?_) rfl (by kernel_rfl) (by kernel_rfl) (fun _ _ _ h => h) (by rfl) (by assumption) (fun w hSw => ?_) ?_; rotate_left; focus ((try dsimp only at hSw); go_simp; try with_reducible rfl)
      try simp only [Act.put, List.setIfInBounds_toArray, List.set_cons_zero, List.set_cons_succ]
      refine heldTake (i := 2) (v := ?_) rfl (by kernel_rfl) (by kernel_rfl) (fun _ _ _ h => h) (by rfl) (by assumption) (fun w hSw => ?_) ?_; rotate_left; focus ((try dsimp only at hSw); go_simp; try with_reducible rfl)
      try simp only [Act.put, List.setIfInBounds_toArray, List.set_cons_zero, List.set_cons_succ]
      refine heldTake (i := 3) (v := ?_) rfl (by kernel_rfl) (by kernel_rfl) (fun _ _ _ h => h) (by rfl) (by assumption) (fun w hSw => ?_) ?_; rotate_left; focus ((try dsimp only at hSw); go_simp; try with_reducible rfl)
      try simp only [Act.put, List.setIfInBounds_toArray, List.set_cons_zero, List.set_cons_succ]
      refine heldTake (i := 4) (v := ?_) rfl (by kernel_rfl) (by kernel_rfl) (fun _ _ _ h => h) (by rfl) (by assumption) (fun w hSw => ?_) ?_; rotate_left; focus ((try dsimp only at hSw); go_simp; try with_reducible rfl)
      try simp only [Act.put, List.setIfInBounds_toArray, List.set_cons_zero, List.set_cons_succ]
      refine heldTake (i := 5) (v := ?_) rfl (by kernel_rfl) (by kernel_rfl) (fun _ _ _ h => h) (by rfl) (by assumption) (fun w hSw => ?_) ?_; rotate_left; focus ((try dsimp only at hSw); go_simp; try with_reducible rfl)
      try simp only [Act.put, List.setIfInBounds_toArray, List.set_cons_zero, List.set_cons_succ]
      refine heldTake (i := 6) (v := ?_) rfl (by kernel_rfl) (by kernel_rfl) (fun _ _ _ h => h) (by rfl) (by assumption) (fun w hSw => ?_) ?_; rotate_left; focus ((try dsimp only at hSw); go_simp; try with_reducible rfl)
      try simp only [Act.put, List.setIfInBounds_toArray, List.set_cons_zero, List.set_cons_succ]
      refine heldTake (i := 7) (v := ?_) rfl (by kernel_rfl) (by kernel_rfl) (fun _ _ _ h => h) (by rfl) (by assumption) (fun w hSw => ?_) ?_; rotate_left; focus ((try dsimp only at hSw); go_simp; try with_reducible rfl)
      try simp only [Act.put, List.setIfInBounds_toArray, List.set_cons_zero, List.set_cons_succ]
      refine heldTake (i := 8) (v := ?_) rfl (by kernel_rfl) (by kernel_rfl) (fun _ _ _ h => h) (by rfl) (by assumption) (fun w hSw => ?_) ?_; rotate_left; focus ((try dsimp only at hSw); go_simp; try with_reducible rfl)
      try simp only [Act.put, List.setIfInBounds_toArray, List.set_cons_zero, List.set_cons_succ]
      refine heldTake (i := 9) (v := ?_) rfl (by kernel_rfl) (by kernel_rfl) (fun _ _ _ h => h) (by rfl) (by assumption) (fun w hSw => ?_) ?_; rotate_left; focus ((try dsimp only at hSw); go_simp; try with_reducible rfl)
      try simp only [Act.put, List.setIfInBounds_toArray, List.set_cons_zero, List.set_cons_succ]
      refine heldTake (i := 10) (v := ?_) rfl (by kernel_rfl) (by kernel_rfl) (fun _ _ _ h => h) (by rfl) (by assumption) (fun w hSw => ?_) ?_; rotate_left; focus ((try dsimp only at hSw); go_simp; try with_reducible rfl)
      try simp only [Act.put, List.setIfInBounds_toArray, List.set_cons_zero, List.set_cons_succ]
      refine heldTake (i := 11) (v := ?_) rfl (by kernel_rfl) (by kernel_rfl) (fun _ _ _ h => h) (by rfl) (by assumption) (fun w hSw => ?_) ?_; rotate_left; focus ((try dsimp only at hSw); go_simp; try with_reducible rfl)
      try simp only [Act.put, List.setIfInBounds_toArray, List.set_cons_zero, List.set_cons_succ]
      refine heldTake (i := 12) (v := ?_) rfl (by kernel_rfl) (by kernel_rfl) (fun _ _ _ h => h) (by rfl) (by assumption) (fun w hSw => ?_) ?_; rotate_left; focus ((try dsimp only at hSw); go_simp; try with_reducible rfl)
      try simp only [Act.put, List.setIfInBounds_toArray, List.set_cons_zero, List.set_cons_succ]
      refine wpAnyH_done (by kernel_rfl) ?_ _
      clear hH HS6
      go_wp2
      go_ret2
      rw [HR.out, Wi.Wm.upd_at]
      exact ⟨none, 0, rfl, rd_none, Rs.below H.out BD.out⟩
    · have i1 : IntKind.i64.wrap (4000 - (G : Int)) = ((4000 - G : Nat) : Int) := by rw [wraps_i64 _ (by omega) (by omega)]; omega
      obtain ⟨D, hD⟩ : ∃ D, D = 4000 - G := ⟨_, rfl⟩
      rw [← hD] at i1
      have HS6 := Lib.hid (show w0.drew.cell? ⟨w.heap.size, 1, none⟩ = some (.int .i64 1) ∧ w0.drew.cell? ⟨w.heap.size, 3, none⟩ = some (.slice ao L ac) ∧ w0.drew.cell? ⟨g, 7, none⟩ = some (.int .i64 (G : Int)) from ⟨e1, e3, c1⟩)
      have HR := Lib.hid (show R = (ys, 0, W.upd 1 { W.at 1 with got := (W.at 1).got + ys.length }) from by
        rw [hRR, Wi.Wm.happen1]
        unfold Wi.Cn.come
        rw [if_neg (by rw [← hst]; decide), if_neg (by rw [← hG, ← hL]; exact hf)])
      have hdl : (D < L) = False := eq_false (by omega)
      have HDD := Lib.hid hD
      obtain ⟨G2, hG2⟩ : ∃ G2, G2 = G + L := ⟨_, rfl⟩
      have i2 : IntKind.i64.wrap ((G : Int) + (L : Int)) = (G2 : Int) := by rw [wraps_i64 _ (by omega) (by omega)]; omega
      have HL4 : Hid (L ≤ 16777216) := Lib.hid (by omega)
      have HG2 := Lib.hid (show G2 = (W.at 1).got + ys.length by rw [hG2, hG, hL])
      have BD := Lib.hid ((Below.refl w0.heap.size w0).drew)
      have X := Lib.hid (((hx.cell (i := 1) (v := .int .i64 (G2 : Int)) (by omega) { W.at 1 with got := G2 } rfl rfl rfl rfl rfl rfl rfl).next ((Below.refl _ _).drew)).next ((Below.refl _ _).drew))
      have HA := Lib.hid ha
      have f1 : w0.drew.drew.frozen? ⟨g, 7, none⟩ = false := hx.f 7
      have d1 : w0.drew.drew.cell? ⟨g, 7, none⟩ = some (.int .i64 (G : Int)) := c1
      have HS8 := Lib.hid (show w0.drew.drew.cell? ⟨w.heap.size, 1, none⟩ = some (.int .i64 1) ∧ w0.drew.drew.cell? ⟨w.heap.size, 3, none⟩ = some (.slice ao L ac) from ⟨e1, e3⟩)
      have HS8' := Lib.hid (show (w0.setCell ⟨g, 7, none⟩ (.int .i64 (G2 : Int))).drew.drew.cell? ⟨w.heap.size, 1, none⟩ = some (.int .i64 1) ∧ (w0.setCell ⟨g, 7, none⟩ (.int .i64 (G2 : Int))).drew.drew.cell? ⟨w.heap.size, 3, none⟩ = some (.slice ao L ac) from ⟨(World.cell?_setCell_far w0 _ _ _ (show g ≠ w.heap.size by omega)).trans e1, (World.cell?_setCell_far w0 _ _ _ (show g ≠ w.heap.size by omega)).trans e3⟩)
      have RV := Lib.hid (((rd_far (g := g) (i := 7) (u := .int .i64 (G2 : Int)) (HRD.out.below HAL.out) (fun hp e => HV.out hp g (by rw [← HL.out]; exact e) h.fg)).below ((Below.refl _ _).drew)).below ((Below.refl _ _).drew))
      clear ha hx hR hRR hD hG hst hgot hf hLb hG2
      clear h hr hv hy hal hrow hw0 hL hel
      go_enter Try.func21, Try.ntmps21
      go_wp2_with fail
      rw [← HW0.out]
      refine (SC.out).mono ?_
      rintro e w1 ⟨rfl, hw⟩
      obtain rfl := hw
      go_wp2_with fail
      refine (known_1 w0).mono ?_
      rintro e w2 ⟨rfl, hw⟩
      obtain rfl := hw
      go_wp2
      refine wp_region_held_drew (S := fun w' => w'.cell? ⟨w.heap.size, 1, none⟩ = some (.int .i64 1) ∧ w'.cell? ⟨w.heap.size, 3, none⟩ = some (.slice ao L ac) ∧ w'.cell? ⟨g, 7, none⟩ = some (.int .i64 (G : Int))) (by kernel_rfl) HS6.out (fun hH => ?_)
      refine heldTake (i := 0) (v := ?_) rfl (by kernel_rfl) (by kernel_rfl) (fun _ _ _ h => h) (by rfl) (by assumption) (fun w hSw => ?_) ?_; rotate_left; focus ((try dsimp only at hSw); go_simp; try with_reducible rfl)
      try simp only [Act.put, List.setIfInBounds_toArray, List.set_cons_zero, List.set_cons_succ]
      refine heldTake (i := 1) (v := ?_) rfl (by kernel_rfl) (by kernel_rfl) (fun _ _ _ h => h) (by rfl) (by assumption) (fun w hSw => ?_) ?_; rotate_left; focus ((try dsimp only at hSw); go_simp; try with_reducible rfl)
      try simp only [Act.put, List.setIfInBounds_toArray, List.set_cons_zero, List.set_cons_succ]
      refine heldTake (i := 2) (v := ?_) rfl (by kernel_rfl) (by kernel_rfl) (fun _ _ _ h => h) (by rfl) (by assumption) (fun w hSw => ?_) ?_; rotate_left; focus ((try dsimp only at hSw); go_simp; try with_reducible rfl)
      try simp only [Act.put, List.setIfInBounds_toArray, List.set_cons_zero, List.set_cons_succ]
      refine heldTake (i := 3) (v := ?_) rfl (by kernel_rfl) (by kernel_rfl) (fun _ _ _ h => h) (by rfl) (by assumption) (fun w hSw => ?_) ?_; rotate_left; focus ((try dsimp only at hSw); go_simp; try with_reducible rfl)
      try simp only [Act.put, List.setIfInBounds_toArray, List.set_cons_zero, List.set_cons_succ]
      refine heldTake (i := 4) (v := ?_) rfl (by kernel_rfl) (by kernel_rfl) (fun _ _ _ h => h) (by rfl) (by assumption) (fun w hSw => ?_) ?_; rotate_left; focus ((try dsimp only at hSw); go_simp; try with_reducible rfl)
      try simp only [Act.put, List.setIfInBounds_toArray, List.set_cons_zero, List.set_cons_succ]
      refine heldTake (i := 5) (v := ?_) rfl (by kernel_rfl) (by kernel_rfl) (fun _ _ _ h => h) (by rfl) (by assumption) (fun w hSw => ?_) ?_; rotate_left; focus ((try dsimp only at hSw); go_simp; try with_reducible rfl)
      try simp only [Act.put, List.setIfInBounds_toArray, List.set_cons_zero, List.set_cons_succ]
      refine heldTake (i := 6) (v := ?_) rfl (by kernel_rfl) (by kernel_rfl) (fun _ _ _ h => h) (by rfl) (by assumption) (fun w hSw => ?_) ?_; rotate_left; focus ((try dsimp only at hSw); go_simp; try with_reducible rfl)
      try simp only [Act.put, List.setIfInBounds_toArray, List.set_cons_zero, List.set_cons_succ]
      refine heldTake (i := 7) (v := ?_) rfl (by kernel_rfl) (by kernel_rfl) (fun _ _ _ h => h) (by rfl) (by assumption) (fun w hSw => ?_) ?_; rotate_left; focus ((try dsimp only at hSw); go_simp; try with_reducible rfl)
      try simp only [Act.put, List.setIfInBounds_toArray, List.set_cons_zero, List.set_cons_succ]
      refine heldTake (i := 8) (v := ?_) rfl (by kernel_rfl) (by kernel_rfl) (fun _ _ _ h => h) (by rfl) (by assumption) (fun w hSw => ?_) ?_; rotate_left; focus ((try dsimp only at hSw); go_simp; try with_reducible rfl)
      try simp only [Act.put, List.setIfInBounds_toArray, List.set_cons_zero, List.set_cons_succ]
      refine heldTake (i := 9) (v := ?_) rfl (by kernel_rfl) (by kernel_rfl) (fun _ _ _ h => h) (by rfl) (by assumption) (fun w hSw => ?_) ?_; rotate_left; focus ((try dsimp only at hSw); go_simp; try with_reducible rfl)
      try simp only [Act.put, List.setIfInBounds_toArray, List.set_cons_zero, List.set_cons_succ]
      refine heldTake (i := 10) (v := ?_) rfl (by kernel_rfl) (by kernel_rfl) (fun _ _ _ h => h) (by rfl) (by assumption) (fun w hSw => ?_) ?_; rotate_left; focus ((try dsimp only at hSw); go_simp; try with_reducible rfl)
      try simp only [Act.put, List.setIfInBounds_toArray, List.set_cons_zero, List.set_cons_succ]
      refine heldTake (i := 11) (v := ?_) rfl (by kernel_rfl) (by kernel_rfl) (fun _ _ _ h => h) (by rfl) (by assumption) (fun w hSw => ?_) ?_; rotate_left; focus ((try dsimp only at hSw); go_simp; try with_reducible rfl)
      try simp only [Act.put, List.setIfInBounds_toArray, List.set_cons_zero, List.set_cons_succ]
      refine heldTake (i := 12) (v := ?_) rfl (by kernel_rfl) (by kernel_rfl) (fun _ _ _ h => h) (by rfl) (by assumption) (fun w hSw => ?_) ?_; rotate_left; focus ((try dsimp only at hSw); go_simp; try with_reducible rfl)
      try simp only [Act.put, List.setIfInBounds_toArray, List.set_cons_zero, List.set_cons_succ]
      refine wpAnyH_done (by kernel_rfl) ?_ _
      clear hH HS6
      go_wp2
      refine wp_region_held_drew (S := fun w' => w'.cell? ⟨w.heap.size, 1, none⟩ = some (.int .i64 1) ∧ w'.cell? ⟨w.heap.size, 3, none⟩ = some (.slice ao L ac)) (by kernel_rfl) HS8.out (fun hH => ?_)
      refine heldTake (i := 0) (v := ?_) rfl (by kernel_rfl) (by kernel_rfl) (fun _ _ _ h => h) (by rfl) (by assumption) (fun w hSw => ?_) ?_; rotate_left; focus ((try dsimp only at hSw); go_simp; try with_reducible rfl)
      try simp only [Act.put, List.setIfInBounds_toArray, List.set_cons_zero, List.set_cons_succ]
      refine heldTake (i := 1) (v := ?_) rfl (by kernel_rfl) (by kernel_rfl) (fun _ _ _ h => h) (by rfl) (by assumption) (fun w hSw => ?_) ?_; rotate_left; focus ((try dsimp only at hSw); go_simp; try with_reducible rfl)
      try simp only [Act.put, List.setIfInBounds_toArray, List.set_cons_zero, List.set_cons_succ]
      refine heldTake (i := 2) (v := ?_) rfl (by kernel_rfl) (by kernel_rfl) (fun _ _ _ h => h) (by rfl) (by assumption) (fun w hSw => ?_) ?_; rotate_left; focus ((try dsimp only at hSw); go_simp; try with_reducible rfl)
      try simp only [Act.put, List.setIfInBounds_toArray, List.set_cons_zero, List.set_cons_succ]
      refine heldTake (i := 3) (v := ?_) rfl (by kernel_rfl) (by kernel_rfl) (fun _ _ _ h => h) (by rfl) (by assumption) (fun w hSw => ?_) ?_; rotate_left; focus ((try dsimp only at hSw); go_simp; try with_reducible rfl)
      try simp only [Act.put, List.setIfInBounds_toArray, List.set_cons_zero, List.set_cons_succ]
      refine heldTake (i := 4) (v := ?_) rfl (by kernel_rfl) (by kernel_rfl) (fun _ _ _ h => h) (by rfl) (by assumption) (fun w hSw => ?_) ?_; rotate_left; focus ((try dsimp only at hSw); go_simp; try with_reducible rfl)
      try simp only [Act.put, List.setIfInBounds_toArray, List.set_cons_zero, List.set_cons_succ]
      refine heldTake (i := 5) (v := ?_) rfl (by kernel_rfl) (by kernel_rfl) (fun _ _ _ h => h) (by rfl) (by assumption) (fun w hSw => ?_) ?_; rotate_left; focus ((try dsimp only at hSw); go_simp; try with_reducible rfl)
      try simp only [Act.put, List.setIfInBounds_toArray, List.set_cons_zero, List.set_cons_succ]
      refine heldTake (i := 6) (v := ?_) rfl (by kernel_rfl) (by kernel_rfl) (fun _ _ _ h => h) (by rfl) (by assumption) (fun w hSw => ?_) ?_; rotate_left; focus ((try dsimp only at hSw); go_simp; try with_reducible rfl)
      try simp only [Act.put, List.setIfInBounds_toArray, List.set_cons_zero, List.set_cons_succ]
      refine heldTake (i := 7) (v := ?_) rfl (by kernel_rfl) (by kernel_rfl) (fun _ _ _ h => h) (by rfl) (by assumption) (fun w hSw => ?_) ?_; rotate_left; focus ((try dsimp only at hSw); go_simp; try with_reducible rfl)
      try simp only [Act.put, List.setIfInBounds_toArray, List.set_cons_zero, List.set_cons_succ]
      refine heldTake (i := 8) (v := ?_) rfl (by kernel_rfl) (by kernel_rfl) (fun _ _ _ h => h) (by rfl) (by assumption) (fun w hSw => ?_) ?_; rotate_left; focus ((try dsimp only at hSw); go_simp; try with_reducible rfl)
      try simp only [Act.put, List.setIfInBounds_toArray, List.set_cons_zero, List.set_cons_succ]
      refine heldTake (i := 9) (v := ?_) rfl (by kernel_rfl) (by kernel_rfl) (fun _ _ _ h => h) (by rfl) (by assumption) (fun w hSw => ?_) ?_; rotate_left; focus ((try dsimp only at hSw); go_simp; try with_reducible rfl)
      try simp only [Act.put, List.setIfInBounds_toArray, List.set_cons_zero, List.set_cons_succ]
      refine heldTake (i := 11) (v := ?_) rfl (by kernel_rfl) (by kernel_rfl) (fun _ _ _ h => h) (by rfl) (by assumption) (fun w hSw => ?_) ?_; rotate_left; focus ((try dsimp only at hSw); go_simp; try with_reducible rfl)
      try simp only [Act.put, List.setIfInBounds_toArray, List.set_cons_zero, List.set_cons_succ]
      refine heldTake (i := 12) (v := ?_) rfl (by kernel_rfl) (by kernel_rfl) (fun _ _ _ h => h) (by rfl) (by assumption) (fun w hSw => ?_) ?_; rotate_left; focus ((try dsimp only at hSw); go_simp; try with_reducible rfl)
      try simp only [Act.put, List.setIfInBounds_toArray, List.set_cons_zero, List.set_cons_succ]
      refine heldTake (i := 13) (v := ?_) rfl (by kernel_rfl) (by kernel_rfl) (fun _ _ _ h => h) (by rfl) (by assumption) (fun w hSw => ?_) ?_; rotate_left; focus ((try dsimp only at hSw); go_simp; try with_reducible rfl)
      try simp only [Act.put, List.setIfInBounds_toArray, List.set_cons_zero, List.set_cons_succ]
      refine heldTake (i := 15) (v := ?_) rfl (by kernel_rfl) (by kernel_rfl) (fun _ _ _ h => h) (by rfl) (by assumption) (fun w hSw => ?_) ?_; rotate_left; focus ((try dsimp only at hSw); go_simp; try with_reducible rfl)
      try simp only [Act.put, List.setIfInBounds_toArray, List.set_cons_zero, List.set_cons_succ]
      refine heldTake (i := 16) (v := ?_) rfl (by kernel_rfl) (by kernel_rfl) (fun _ _ _ h => h) (by rfl) (by assumption) (fun w hSw => ?_) ?_; rotate_left; focus ((try dsimp only at hSw); go_simp; try with_reducible rfl)
      try simp only [Act.put, List.setIfInBounds_toArray, List.set_cons_zero, List.set_cons_succ]
      -- NEXT 10 Op.load 3 (Operand.tmp 46)
      refine heldNext (i := 10) rfl (by kernel_rfl) (by rfl) (fun K hK => ?_)
      go_simp
      refine hK.out _ _ HS8.out ?_
      clear hK K
      try simp only [Act.put, List.setIfInBounds_toArray, List.set_cons_zero, List.set_cons_succ]
      refine heldTake (i := 14) (v := ?_) rfl (by kernel_rfl) (by kernel_rfl) (fun _ _ _ h => h) (by rfl) (by assumption) (fun w hSw => ?_) ?_; rotate_left; focus ((try dsimp only at hSw); go_simp; try with_reducible rfl)
      try simp only [Act.put, List.setIfInBounds_toArray, List.set_cons_zero, List.set_cons_succ]
      refine heldTake (i := 17) (v := ?_) rfl (by kernel_rfl) (by kernel_rfl) (fun _ _ _ h => h) (by rfl) (by assumption) (fun w hSw => ?_) ?_; rotate_left; focus ((try dsimp only at hSw); go_simp; try with_reducible rfl)
      try simp only [Act.put, List.setIfInBounds_toArray, List.set_cons_zero, List.set_cons_succ]
      refine heldTake (i := 18) (v := ?_) rfl (by kernel_rfl) (by kernel_rfl) (fun _ _ _ h => h) (by rfl) (by assumption) (fun w hSw => ?_) ?_; rotate_left; focus ((try dsimp only at hSw); go_simp; try with_reducible rfl)
      try simp only [Act.put, List.setIfInBounds_toArray, List.set_cons_zero, List.set_cons_succ]
      -- NEXT 19 Op.store 3 (Operand.tmp 55) (Operand.tmp 51)
      refine heldNext (i := 19) rfl (by kernel_rfl) (by rfl) (fun K hK => ?_)
      have SX := HS8'.out
      go_simp
      refine hK.out _ _ SX ?_
      clear hK K
      try simp only [Act.put, List.setIfInBounds_toArray, List.set_cons_zero, List.set_cons_succ]
      refine wpAnyH_done (by kernel_rfl) ?_ _
      clear hH
      have z3 := HS8'.out.2
      clear HS8 HS8' d1 f1
      generalize hwz : (w0.setCell ⟨g, 7, none⟩ (.int .i64 (G2 : Int))).drew.drew = wz at *
      have HWZ := Lib.hid hwz
      have RV := RV
      have hn := (Below.refl wz.heap.size wz).alloc (Nat.le_refl _) (.cells #[] 5)
      have R5 := Lib.hid (RV.out.below hn)
      have z3' := hn.cell (World.block_lt_of_cell? wz _ z3) |>.trans z3
      have HN := Lib.hid hn
      have HGL := Lib.hid (show g < wz.heap.size by rw [← hwz]; simp [World.setCell]; exact Nat.lt_of_lt_of_le H.out.lt HAL.out.size)
      have hB0 : wz.heap.size ≤ wz.heap.size := Nat.le_refl _
      clear hwz hn hB0
      go_wp2_with (at_builtin; refine append_where rfl (.tmp 56) (.tmp 58) rfl rfl (World.ownsRow_made (base := wz.heap.size) wz #[] 0 (Nat.le_refl _) (Nat.zero_le _) rfl) ys R5.out (by rw [← HL.out, Nat.zero_add]; exact HL4.out) HN.out.size ?_)
      intro v' w5 ho hT _ _
      have hb5 : Below wz.heap.size wz w5 := HN.out.grown hT HN.out.size (fun k hk => by cases hk; exact Nat.le_refl _)
      obtain ⟨bo, cp, rfl⟩ := own_form ho
      have HO := Lib.hid ho
      have HB5 := Lib.hid hb5
      clear ho hT hb5 z3 z3'
      go_wp2
      go_ret2
      rw [HR.out]
      refine ⟨bo, cp, ?_, ?_, ?_⟩
      · rfl
      · have hh := Rd.of_own HO.out
        simpa using hh
      · have hxx := X.out
        have hcr : Cr g 6 F0 w0 F0 w5 := ((Cr.set (g := g) (o := 6) (i := 1) (F := F0) (w := w0) (v := .int .i64 (G2 : Int)) (by omega)).trans (by rw [← HWZ.out]; exact .of_below (((Below.refl _ _).drew).drew) (by simp [World.setCell]; exact Nat.lt_of_lt_of_le H.out.lt HAL.out.size))).trans (.of_below HB5.out HGL.out)
        have := HA.out.back w5 F0 { W.at 1 with got := G2 } ⟨_, _, _, _, _, hxx.next HB5.out⟩ hcr
        have hlater := Rs.later HAL.out this
        rw [HG2.out] at hlater
        exact hlater
  · rw [if_pos h2] at hR
    have HR := Lib.hid (show R = ([], 1, W) by rw [hR, Wi.Wm.upd_at])
    have i2 : ((st : Int) != 2) = true := by simp; omega
    have i3 : (st = 2) = False := eq_false h2
    have i4 : ((st : Int) == 2) = false := by simp; omega
    clear h2 hst hR hRR hgot
    clear h hr hv hy hal hrow hw0 hL hel
    go_enter Try.func21, Try.ntmps21
    go_wp2_with fail
    rw [← HW0.out]
    refine (SC.out).mono ?_
    rintro e w1 ⟨rfl, hw⟩
    obtain rfl := hw
    go_wp2_with fail
    refine (known_1 w0).mono ?_
    rintro e w2 ⟨rfl, hw⟩
    obtain rfl := hw
    go_wp2
    go_ret2
    rw [HR.out]
    exact hapS_no H.out HAL.out


theorem rhap_end_0 (h : RW w B g F W) (n : Int) (v : Value) (ys : List UInt8) (hr : Rd w v (ys.map bv)) (hy : ys.length ≤ maxLen) (hv : 0 < ys.length → ∀ b, v.ownBlock = some b → ¬ F b) :
    Calls Try.prog 21 #[.pointer (some ⟨g, 0, none⟩), .agg #[.int .i64 3, .int .i64 0, .int .i64 n, v]] w (HapS w B g F (W.happen 3 0 n ys)) := by
  obtain ⟨ao, ac, rfl, _⟩ := hr.form
  obtain ⟨R, hR⟩ : ∃ R, R = W.happen 3 0 n ys := ⟨_, rfl⟩
  rw [← hR]
  obtain ⟨L, hL⟩ : ∃ L, L = ys.length := ⟨_, rfl⟩
  rw [← hL] at hr ⊢
  have HL := Lib.hid hL
  have H := Lib.hid h
  have HRD := Lib.hid hr
  have HV := Lib.hid hv
  have HY := Lib.hid hy
  have hal : Below w.heap.size w (w.alloc (.cells #[.int .i64 3, .int .i64 0, .int .i64 n, .slice ao L ac] 30)) := (Below.refl _ _).alloc (Nat.le_refl _) _
  have hrow := heap_alloc_new w (.cells #[.int .i64 3, .int .i64 0, .int .i64 n, .slice ao L ac] 30)
  obtain ⟨w0, hw0⟩ : ∃ w0, w0 = w.alloc (.cells #[.int .i64 3, .int .i64 0, .int .i64 n, .slice ao L ac] 30) := ⟨_, rfl⟩
  rw [← hw0] at hal hrow
  have HAL := Lib.hid hal
  have HROW := Lib.hid hrow
  have HW0 := Lib.hid hw0
  have H0 := Lib.hid (h.next hal)
  have hel : g < w.heap.size := h.lt
  have e0 : w0.cell? ⟨w.heap.size, 0, none⟩ = some (.int .i64 3) := cell_of_row _ _ _ _ _ _ hrow
  have e1 : w0.cell? ⟨w.heap.size, 1, none⟩ = some (.int .i64 0) := cell_of_row _ _ _ _ _ _ hrow
  have e2 : w0.cell? ⟨w.heap.size, 2, none⟩ = some (.int .i64 n) := cell_of_row _ _ _ _ _ _ hrow
  have e3 : w0.cell? ⟨w.heap.size, 3, none⟩ = some (.slice ao L ac) := cell_of_row _ _ _ _ _ _ hrow
  obtain ⟨st, hst⟩ : ∃ st, st = (W.at 0).st := ⟨_, rfl⟩
  have SC := rstate_0 H0.out
  rw [← hst] at SC
  have SC := Lib.hid SC
  by_cases h2 : st = 2
  · have HR := Lib.hid (show R = ([], 0, W.upd 0 { W.at 0 with st := 3 }) from by rw [hR, Wi.Wm.happen3]; unfold Wi.Cn.fin; rw [if_neg (by omega)])
    have HST := Lib.hid hst
    rw [h2] at SC
    obtain ⟨F0, ha⟩ := ar_zero H0.out
    obtain ⟨C, gq, s, so, sw, hx⟩ := ha.ca
    have c0 : w0.drew.cell? ⟨g, 0, none⟩ = some (.int .i64 ((W.at 0).st : Int)) := hx.c0
    have f0 : w0.drew.frozen? ⟨g, 0, none⟩ = false := hx.f 0
    have X := Lib.hid ((hx.cell (i := 0) (v := .int .i64 3) (by omega) { W.at 0 with st := 3 } rfl rfl rfl rfl rfl rfl rfl).next ((Below.refl _ _).drew))
    have HA := Lib.hid ha
    have SX1 := Lib.hid (show w0.drew.cell? ⟨w.heap.size, 1, none⟩ = some (.int .i64 0) from e1)
    have SX2 := Lib.hid (show (w0.setCell ⟨g, 0, none⟩ (.int .i64 3)).drew.cell? ⟨w.heap.size, 1, none⟩ = some (.int .i64 0) from (World.cell?_setCell_far w0 _ _ _ (show g ≠ w.heap.size by omega)).trans e1)
    have hcr := Lib.hid ((Cr.set (g := g) (o := 0) (i := 0) (F := F0) (w := w0) (v := .int .i64 3) (by omega)).trans (.of_below (F := F0) ((Below.refl _ _).drew) (show g < (w0.setCell ⟨g, 0, none⟩ (.int .i64 3)).heap.size by simp [World.setCell]; exact Nat.lt_of_lt_of_le H.out.lt HAL.out.size)))
    clear ha hx hR hst h2
    clear h hr hv hy hal hrow hw0 hL hel
    go_enter Try.func21, Try.ntmps21
    go_wp2_with fail
    rw [← HW0.out]
    refine (SC.out).mono ?_
    rintro e w1 ⟨rfl, hw⟩
    obtain rfl := hw
    go_wp2_with fail
    refine (known_0 w0).mono ?_
    rintro e w2 ⟨rfl, hw⟩
    obtain rfl := hw
    go_wp2
    refine wp_region_held_drew (S := fun w' => w'.cell? ⟨w.heap.size, 1, none⟩ = some (.int .i64 0)) (by kernel_rfl) SX1.out (fun hH => ?_)
    refine heldTake (i := 0) (v := ?_) rfl (by kernel_rfl) (by kernel_rfl) (fun _ _ _ h => h) (by rfl) (by assumption) (fun w hSw => ?_) ?_; rotate_left; focus ((try dsimp only at hSw); go_simp; try with_reducible rfl)
    try simp only [Act.put, List.setIfInBounds_toArray, List.set_cons_zero, List.set_cons_succ]
    refine heldTake (i := 1) (v := ?_) rfl (by kernel_rfl) (by kernel_rfl) (fun _ _ _ h => h) (by rfl) (by assumption) (fun w hSw => ?_) ?_; rotate_left; focus ((try dsimp only at hSw); go_simp; try with_reducible rfl)
    try simp only [Act.put, List.setIfInBounds_toArray, List.set_cons_zero, List.set_cons_succ]
    refine heldTake (i := 2) (v := ?_) rfl (by kernel_rfl) (by kernel_rfl) (fun _ _ _ h => h) (by rfl) (by assumption) (fun w hSw => ?_) ?_; rotate_left; focus ((try dsimp only at hSw); go_simp; try with_reducible rfl)
    try simp only [Act.put, List.setIfInBounds_toArray, List.set_cons_zero, List.set_cons_succ]
    refine heldTake (i := 3) (v := ?_) rfl (by kernel_rfl) (by kernel_rfl) (fun _ _ _ h => h) (by rfl) (by assumption) (fun w hSw => ?_) ?_; rotate_left; focus ((try dsimp only at hSw); go_simp; try with_reducible rfl)
    try simp only [Act.put, List.setIfInBounds_toArray, List.set_cons_zero, List.set_cons_succ]
    refine heldTake (i := 4) (v := ?_) rfl (by kernel_rfl) (by kernel_rfl) (fun _ _ _ h => h) (by rfl) (by assumption) (fun w hSw => ?_) ?_; rotate_left; focus ((try dsimp only at hSw); go_simp; try with_reducible rfl)
    try simp only [Act.put, List.setIfInBounds_toArray, List.set_cons_zero, List.set_cons_succ]
    refine heldTake (i := 5) (v := ?_) rfl (by kernel_rfl) (by kernel_rfl) (fun _ _ _ h => h) (by rfl) (by assumption) (fun w hSw => ?_) ?_; rotate_left; focus ((try dsimp only at hSw); go_simp; try with_reducible rfl)
    try simp only [Act.put, List.setIfInBounds_toArray, List.set_cons_zero, List.set_cons_succ]
    refine heldTake (i := 6) (v := ?_) rfl (by kernel_rfl) (by kernel_rfl) (fun _ _ _ h => h) (by rfl) (by assumption) (fun w hSw => ?_) ?_; rotate_left; focus ((try dsimp only at hSw); go_simp; try with_reducible rfl)
    try simp only [Act.put, List.setIfInBounds_toArray, List.set_cons_zero, List.set_cons_succ]
    -- NEXT 7 Op.store 3 (Operand.tmp 100) (Operand.const (Value.int IntKind.i64 3))
    refine heldNext (i := 7) rfl (by kernel_rfl) (by rfl) (fun K hK => ?_)
    have SX := SX2.out
    go_simp
    refine hK.out _ _ SX ?_
    clear hK K
    try simp only [Act.put, List.setIfInBounds_toArray, List.set_cons_zero, List.set_cons_succ]
    refine wpAnyH_done (by kernel_rfl) ?_ _
    clear hH SX1 SX2 c0 f0
    go_wp2
    go_ret2
    rw [HR.out]
    exact ⟨none, 0, rfl, rd_none, Rs.later HAL.out (HA.out.back _ F0 { W.at 0 with st := 3 } ⟨_, _, _, _, _, X.out⟩ hcr.out)⟩

  · have HR := Lib.hid (show R = ([], 1, W) from by rw [hR, Wi.Wm.happen3]; unfold Wi.Cn.fin; rw [if_pos (by omega), Wi.Wm.upd_at])
    have i2 : ((st : Int) != 2) = true := by simp; omega
    have i3 : (st = 2) = False := eq_false h2
    have i4 : ((st : Int) == 2) = false := by simp; omega
    clear h2 hst hR
    clear h hr hv hy hal hrow hw0 hL hel
    go_enter Try.func21, Try.ntmps21
    go_wp2_with fail
    rw [← HW0.out]
    refine (SC.out).mono ?_
    rintro e w1 ⟨rfl, hw⟩
    obtain rfl := hw
    go_wp2_with fail
    refine (known_0 w0).mono ?_
    rintro e w2 ⟨rfl, hw⟩
    obtain rfl := hw
    go_wp2
    go_ret2
    rw [HR.out]
    exact hapS_no H.out HAL.out


theorem rhap_reset_0 (h : RW w B g F W) (n : Int) (v : Value) (ys : List UInt8) (hr : Rd w v (ys.map bv)) (hy : ys.length ≤ maxLen) (hv : 0 < ys.length → ∀ b, v.ownBlock = some b → ¬ F b) :
    Calls Try.prog 21 #[.pointer (some ⟨g, 0, none⟩), .agg #[.int .i64 4, .int .i64 0, .int .i64 n, v]] w (HapS w B g F (W.happen 4 0 n ys)) := by
  obtain ⟨ao, ac, rfl, _⟩ := hr.form
  obtain ⟨R, hR⟩ : ∃ R, R = W.happen 4 0 n ys := ⟨_, rfl⟩
  rw [← hR]
  obtain ⟨L, hL⟩ : ∃ L, L = ys.length := ⟨_, rfl⟩
  rw [← hL] at hr ⊢
  have HL := Lib.hid hL
  have H := Lib.hid h
  have HRD := Lib.hid hr
  have HV := Lib.hid hv
  have HY := Lib.hid hy
  have hal : Below w.heap.size w (w.alloc (.cells #[.int .i64 4, .int .i64 0, .int .i64 n, .slice ao L ac] 30)) := (Below.refl _ _).alloc (Nat.le_refl _) _
  have hrow := heap_alloc_new w (.cells #[.int .i64 4, .int .i64 0, .int .i64 n, .slice ao L ac] 30)
  obtain ⟨w0, hw0⟩ : ∃ w0, w0 = w.alloc (.cells #[.int .i64 4, .int .i64 0, .int .i64 n, .slice ao L ac] 30) := ⟨_, rfl⟩
  rw [← hw0] at hal hrow
  have HAL := Lib.hid hal
  have HROW := Lib.hid hrow
  have HW0 := Lib.hid hw0
  have H0 := Lib.hid (h.next hal)
  have hel : g < w.heap.size := h.lt
  have e0 : w0.cell? ⟨w.heap.size, 0, none⟩ = some (.int .i64 4) := cell_of_row _ _ _ _ _ _ hrow
  have e1 : w0.cell? ⟨w.heap.size, 1, none⟩ = some (.int .i64 0) := cell_of_row _ _ _ _ _ _ hrow
  have e2 : w0.cell? ⟨w.heap.size, 2, none⟩ = some (.int .i64 n) := cell_of_row _ _ _ _ _ _ hrow
  have e3 : w0.cell? ⟨w.heap.size, 3, none⟩ = some (.slice ao L ac) := cell_of_row _ _ _ _ _ _ hrow
  have SC := Lib.hid (rstate_0 H0.out)
  have OP := ropen_0 H0.out
  by_cases hl : (W.at 0).live = true
  · have HR := Lib.hid (show R = ([], 0, W.upd 0 { W.at 0 with st := 4 }) from by rw [hR, Wi.Wm.happen4]; unfold Wi.Cn.rs; rw [if_neg (by rw [hl]; decide)])
    rw [hl] at OP
    have OP := Lib.hid OP
    obtain ⟨F0, ha⟩ := ar_zero H0.out
    obtain ⟨C, gq, s, so, sw, hx⟩ := ha.ca
    have c0 : w0.drew.cell? ⟨g, 0, none⟩ = some (.int .i64 ((W.at 0).st : Int)) := hx.c0
    have f0 : w0.drew.frozen? ⟨g, 0, none⟩ = false := hx.f 0
    have X := Lib.hid ((hx.cell (i := 0) (v := .int .i64 4) (by omega) { W.at 0 with st := 4 } rfl rfl rfl rfl rfl rfl rfl).next ((Below.refl _ _).drew))
    have HA := Lib.hid ha
    have SX1 := Lib.hid (show w0.drew.cell? ⟨w.heap.size, 1, none⟩ = some (.int .i64 0) from e1)
    have SX2 := Lib.hid (show (w0.setCell ⟨g, 0, none⟩ (.int .i64 4)).drew.cell? ⟨w.heap.size, 1, none⟩ = some (.int .i64 0) from (World.cell?_setCell_far w0 _ _ _ (show g ≠ w.heap.size by omega)).trans e1)
    have hcr := Lib.hid ((Cr.set (g := g) (o := 0) (i := 0) (F := F0) (w := w0) (v := .int .i64 4) (by omega)).trans (.of_below (F := F0) ((Below.refl _ _).drew) (show g < (w0.setCell ⟨g, 0, none⟩ (.int .i64 4)).heap.size by simp [World.setCell]; exact Nat.lt_of_lt_of_le H.out.lt HAL.out.size)))
    clear ha hx hR hl
    clear h hr hv hy hal hrow hw0 hL hel
    go_enter Try.func21, Try.ntmps21
    go_wp2_with fail
    rw [← HW0.out]
    refine (SC.out).mono ?_
    rintro e w1 ⟨rfl, hw⟩
    obtain rfl := hw
    go_wp2_with fail
    refine OP.out.mono ?_
    rintro e w2 ⟨rfl, hw⟩
    obtain rfl := hw
    go_wp2
    refine wp_region_held_drew (S := fun w' => w'.cell? ⟨w.heap.size, 1, none⟩ = some (.int .i64 0)) (by kernel_rfl) SX1.out (fun hH => ?_)
    refine heldTake (i := 0) (v := ?_) rfl (by kernel_rfl) (by kernel_rfl) (fun _ _ _ h => h) (by rfl) (by assumption) (fun w hSw => ?_) ?_; rotate_left; focus ((try dsimp only at hSw); go_simp; try with_reducible rfl)
    try simp only [Act.put, List.setIfInBounds_toArray, List.set_cons_zero, List.set_cons_succ]
    refine heldTake (i := 1) (v := ?_) rfl (by kernel_rfl) (by kernel_rfl) (fun _ _ _ h => h) (by rfl) (by assumption) (fun w hSw => ?_) ?_; rotate_left; focus ((try dsimp only at hSw); go_simp; try with_reducible rfl)
    try simp only [Act.put, List.setIfInBounds_toArray, List.set_cons_zero, List.set_cons_succ]
    refine heldTake (i := 2) (v := ?_) rfl (by kernel_rfl) (by kernel_rfl) (fun _ _ _ h => h) (by rfl) (by assumption) (fun w hSw => ?_) ?_; rotate_left; focus ((try dsimp only at hSw); go_simp; try with_reducible rfl)
    try simp only [Act.put, List.setIfInBounds_toArray, List.set_cons_zero, List.set_cons_succ]
    refine heldTake (i := 3) (v := ?_) rfl (by kernel_rfl) (by kernel_rfl) (fun _ _ _ h => h) (by rfl) (by assumption) (fun w hSw => ?_) ?_; rotate_left; focus ((try dsimp only at hSw); go_simp; try with_reducible rfl)
    try simp only [Act.put, List.setIfInBounds_toArray, List.set_cons_zero, List.set_cons_succ]
    refine heldTake (i := 4) (v := ?_) rfl (by kernel_rfl) (by kernel_rfl) (fun _ _ _ h => h) (by rfl) (by assumption) (fun w hSw => ?_) ?_; rotate_left; focus ((try dsimp only at hSw); go_simp; try with_reducible rfl)
    try simp only [Act.put, List.setIfInBounds_toArray, List.set_cons_zero, List.set_cons_succ]
    refine heldTake (i := 5) (v := ?_) rfl (by kernel_rfl) (by kernel_rfl) (fun _ _ _ h => h) (by rfl) (by assumption) (fun w hSw => ?_) ?_; rotate_left; focus ((try dsimp only at hSw); go_simp; try with_reducible rfl)
    try simp only [Act.put, List.setIfInBounds_toArray, List.set_cons_zero, List.set_cons_succ]
    refine heldTake (i := 6) (v := ?_) rfl (by kernel_rfl) (by kernel_rfl) (fun _ _ _ h => h) (by rfl) (by assumption) (fun w hSw => ?_) ?_; rotate_left; focus ((try dsimp only at hSw); go_simp; try with_reducible rfl)
    try simp only [Act.put, List.setIfInBounds_toArray, List.set_cons_zero, List.set_cons_succ]
    -- NEXT 7 Op.store 3 (Operand.tmp 114) (Operand.const (Value.int IntKind.i64 4))
    refine heldNext (i := 7) rfl (by kernel_rfl) (by rfl) (fun K hK => ?_)
    have SX := SX2.out
    go_simp
    refine hK.out _ _ SX ?_
    clear hK K
    try simp only [Act.put, List.setIfInBounds_toArray, List.set_cons_zero, List.set_cons_succ]
    refine wpAnyH_done (by kernel_rfl) ?_ _
    clear hH SX1 SX2 c0 f0
    go_wp2
    go_ret2
    rw [HR.out]
    exact ⟨none, 0, rfl, rd_none, Rs.later HAL.out (HA.out.back _ F0 { W.at 0 with st := 4 } ⟨_, _, _, _, _, X.out⟩ hcr.out)⟩

  · have hl : (W.at 0).live = false := by simpa using hl
    have HR := Lib.hid (show R = ([], 1, W) from by rw [hR, Wi.Wm.happen4]; unfold Wi.Cn.rs; rw [if_pos hl, Wi.Wm.upd_at])
    rw [hl] at OP
    have OP := Lib.hid OP
    clear hl hR
    clear h hr hv hy hal hrow hw0 hL hel
    go_enter Try.func21, Try.ntmps21
    go_wp2_with fail
    rw [← HW0.out]
    refine (SC.out).mono ?_
    rintro e w1 ⟨rfl, hw⟩
    obtain rfl := hw
    go_wp2_with fail
    refine OP.out.mono ?_
    rintro e w2 ⟨rfl, hw⟩
    obtain rfl := hw
    go_wp2
    go_ret2
    rw [HR.out]
    exact hapS_no H.out HAL.out


theorem rhap_take_0 (h : RW w B g F W) (n : Int) (v : Value) (ys : List UInt8) (hr : Rd w v (ys.map bv)) (hy : ys.length ≤ maxLen) (hv : 0 < ys.length → ∀ b, v.ownBlock = some b → ¬ F b) :
    Calls Try.prog 21 #[.pointer (some ⟨g, 0, none⟩), .agg #[.int .i64 2, .int .i64 0, .int .i64 n, v]] w (HapS w B g F (W.happen 2 0 n ys)) := by
  obtain ⟨ao, ac, rfl, _⟩ := hr.form
  obtain ⟨R, hR⟩ : ∃ R, R = W.happen 2 0 n ys := ⟨_, rfl⟩
  rw [← hR]
  obtain ⟨L, hL⟩ : ∃ L, L = ys.length := ⟨_, rfl⟩
  rw [← hL] at hr ⊢
  have HL := Lib.hid hL
  have H := Lib.hid h
  have HRD := Lib.hid hr
  have HV := Lib.hid hv
  have HY := Lib.hid hy
  have hal : Below w.heap.size w (w.alloc (.cells #[.int .i64 2, .int .i64 0, .int .i64 n, .slice ao L ac] 30)) := (Below.refl _ _).alloc (Nat.le_refl _) _
  have hrow := heap_alloc_new w (.cells #[.int .i64 2, .int .i64 0, .int .i64 n, .slice ao L ac] 30)
  obtain ⟨w0, hw0⟩ : ∃ w0, w0 = w.alloc (.cells #[.int .i64 2, .int .i64 0, .int .i64 n, .slice ao L ac] 30) := ⟨_, rfl⟩
  rw [← hw0] at hal hrow
  have HAL := Lib.hid hal
  have HROW := Lib.hid hrow
  have HW0 := Lib.hid hw0
  have H0 := Lib.hid (h.next hal)
  have hel : g < w.heap.size := h.lt
  have e0 : w0.cell? ⟨w.heap.size, 0, none⟩ = some (.int .i64 2) := cell_of_row _ _ _ _ _ _ hrow
  have e1 : w0.cell? ⟨w.heap.size, 1, none⟩ = some (.int .i64 0) := cell_of_row _ _ _ _ _ _ hrow
  have e2 : w0.cell? ⟨w.heap.size, 2, none⟩ = some (.int .i64 n) := cell_of_row _ _ _ _ _ _ hrow
  have e3 : w0.cell? ⟨w.heap.size, 3, none⟩ = some (.slice ao L ac) := cell_of_row _ _ _ _ _ _ hrow
  have SC := Lib.hid (rstate_0 H0.out)
  have WT := rwaits_0 H0.out
  by_cases hn : n < 1
  · have HR := Lib.hid (show R = ([], 1, W) from by rw [hR, Wi.Wm.happen2]; unfold Wi.Cn.tk; rw [if_pos (.inl hn), Wi.Wm.upd_at])
    have WT := Lib.hid WT
    clear hR
    clear h hr hv hy hal hrow hw0 hL hel
    go_enter Try.func21, Try.ntmps21
    go_wp2_with fail
    rw [← HW0.out]
    refine (SC.out).mono ?_
    rintro e w1 ⟨rfl, hw⟩
    obtain rfl := hw
    go_wp2_with fail
    refine WT.out.mono ?_
    rintro e w2 ⟨rfl, hb2⟩
    have hrow2 := (hb2.block _ (Array.getElem?_eq_some_iff.1 HROW.out).1).trans HROW.out
    have a1 : w2.cell? ⟨w.heap.size, 1, none⟩ = some (.int .i64 0) := cell_of_row _ _ _ _ _ _ hrow2
    have a2 : w2.cell? ⟨w.heap.size, 2, none⟩ = some (.int .i64 n) := cell_of_row _ _ _ _ _ _ hrow2
    have B2 := Lib.hid hb2
    clear hb2 hrow2
    go_wp2
    go_ret2
    rw [HR.out]
    exact hapS_no H.out (HAL.out.trans (B2.out.mono HAL.out.size))

  · by_cases h0 : (W.at 0).waits = 0
    · have HR := Lib.hid (show R = ([], 1, W) from by rw [hR, Wi.Wm.happen2]; unfold Wi.Cn.tk; rw [if_pos (.inr h0), Wi.Wm.upd_at])
      rw [h0] at WT
      have WT := Lib.hid WT
      have hn := eq_false hn
      clear hR h0
      clear h hr hv hy hal hrow hw0 hL hel
      go_enter Try.func21, Try.ntmps21
      go_wp2_with fail
      rw [← HW0.out]
      refine (SC.out).mono ?_
      rintro e w1 ⟨rfl, hw⟩
      obtain rfl := hw
      go_wp2_with fail
      refine WT.out.mono ?_
      rintro e w2 ⟨rfl, hb2⟩
      have hrow2 := (hb2.block _ (Array.getElem?_eq_some_iff.1 HROW.out).1).trans HROW.out
      have a1 : w2.cell? ⟨w.heap.size, 1, none⟩ = some (.int .i64 0) := cell_of_row _ _ _ _ _ _ hrow2
      have a2 : w2.cell? ⟨w.heap.size, 2, none⟩ = some (.int .i64 n) := cell_of_row _ _ _ _ _ _ hrow2
      have B2 := Lib.hid hb2
      clear hb2 hrow2
      go_wp2
      go_ret2
      rw [HR.out]
      exact hapS_no H.out (HAL.out.trans (B2.out.mono HAL.out.size))

    · obtain ⟨F0, ha⟩ := ar_zero H0.out
      obtain ⟨C, gq, s, so, sw, hx⟩ := ha.ca
      have hlv := Wi.Cn.waits_live h0
      have hwt : (W.at 0).waits = (W.at 0).xs.length - (W.at 0).t := by unfold Wi.Cn.waits; rw [if_pos hlv]
      obtain ⟨D, hD⟩ : ∃ D, D = (W.at 0).waits := ⟨_, rfl⟩
      obtain ⟨kk, hkk⟩ : ∃ kk, kk = min n.toNat ((W.at 0).xs.length - (W.at 0).t) := ⟨_, rfl⟩
      have HR := Lib.hid (show R = ([], 0, W.upd 0 { W.at 0 with t := (W.at 0).t + kk }) from by rw [hR, Wi.Wm.happen2]; unfold Wi.Cn.tk; rw [if_neg (by omega), hkk])
      have HKK := Lib.hid (show kk = min (max n 0).toNat ((W.at 0).xs.length - (W.at 0).t) by omega)
      rw [← hD] at WT h0
      have WT := Lib.hid WT
      have HX := Lib.hid hx
      have HFE := Lib.hid (show gq ≠ w.heap.size from fun e => by
        have h1 := hx.q.c
        rw [e, HROW.out] at h1
        simp at h1)
      have HA := Lib.hid ha
      have hD0 : (D = 0) = False := eq_false h0
      have hD1 : ((D : Int) == 0) = false := by simp; omega
      have hn := eq_false hn
      clear ha hx hlv hwt hD hkk hR h0
      clear h hr hv hy hal hrow hw0 hL hel
      go_enter Try.func21, Try.ntmps21
      go_wp2_with fail
      rw [← HW0.out]
      refine (SC.out).mono ?_
      rintro e w1 ⟨rfl, hw⟩
      obtain rfl := hw
      go_wp2_with fail
      refine WT.out.mono ?_
      rintro e w2 ⟨rfl, hb2⟩
      have hrow2 := (hb2.block _ (Array.getElem?_eq_some_iff.1 HROW.out).1).trans HROW.out
      have a1 : w2.cell? ⟨w.heap.size, 1, none⟩ = some (.int .i64 0) := cell_of_row _ _ _ _ _ _ hrow2
      have a2 : w2.cell? ⟨w.heap.size, 2, none⟩ = some (.int .i64 n) := cell_of_row _ _ _ _ _ _ hrow2
      have B2 := Lib.hid hb2
      clear hb2 hrow2
      have HX2 := Lib.hid (HX.out.next (B2.out.trans (((Below.refl w2.heap.size w2).drew).mono B2.out.size)))
      have SX1 := Lib.hid (show w2.drew.cell? ⟨w.heap.size, 1, none⟩ = some (.int .i64 0) ∧ w2.drew.cell? ⟨w.heap.size, 2, none⟩ = some (.int .i64 n) ∧ w2.drew.cell? ⟨g, 3, none⟩ = some (.pointer (some ⟨gq, 0, none⟩)) from ⟨a1, a2, HX2.out.c3⟩)
      have BD := Lib.hid (B2.out.trans (((Below.refl w2.heap.size w2).drew).mono B2.out.size))
      have hgl : g < w.heap.size := H.out.lt
      go_wp2
      refine wp_region_held_drew (S := fun w' => w'.cell? ⟨w.heap.size, 1, none⟩ = some (.int .i64 0) ∧ w'.cell? ⟨w.heap.size, 2, none⟩ = some (.int .i64 n) ∧ w'.cell? ⟨g, 3, none⟩ = some (.pointer (some ⟨gq, 0, none⟩))) (by kernel_rfl) SX1.out (fun hH => ?_)
      generalize w2.drew = w3 at *
      refine heldTake (i := 0) (v := ?_) rfl (by kernel_rfl) (by kernel_rfl) (fun _ _ _ h => h) (by rfl) (by assumption) (fun w hSw => ?_) ?_; rotate_left; focus ((try dsimp only at hSw); go_simp; try with_reducible rfl)
      try simp only [Act.put, List.setIfInBounds_toArray, List.set_cons_zero, List.set_cons_succ]
      refine heldTake (i := 1) (v := ?_) rfl (by kernel_rfl) (by kernel_rfl) (fun _ _ _ h => h) (by rfl) (by assumption) (fun w hSw => ?_) ?_; rotate_left; focus ((try dsimp only at hSw); go_simp; try with_reducible rfl)
      try simp only [Act.put, List.setIfInBounds_toArray, List.set_cons_zero, List.set_cons_succ]
      refine heldTake (i := 2) (v := ?_) rfl (by kernel_rfl) (by kernel_rfl) (fun _ _ _ h => h) (by rfl) (by assumption) (fun w hSw => ?_) ?_; rotate_left; focus ((try dsimp only at hSw); go_simp; try with_reducible rfl)
      try simp only [Act.put, List.setIfInBounds_toArray, List.set_cons_zero, List.set_cons_succ]
      refine heldTake (i := 3) (v := ?_) rfl (by kernel_rfl) (by kernel_rfl) (fun _ _ _ h => h) (by rfl) (by assumption) (fun w hSw => ?_) ?_; rotate_left; focus ((try dsimp only at hSw); go_simp; try with_reducible rfl)
      try simp only [Act.put, List.setIfInBounds_toArray, List.set_cons_zero, List.set_cons_succ]
      refine heldTake (i := 4) (v := ?_) rfl (by kernel_rfl) (by kernel_rfl) (fun _ _ _ h => h) (by rfl) (by assumption) (fun w hSw => ?_) ?_; rotate_left; focus ((try dsimp only at hSw); go_simp; try with_reducible rfl)
      try simp only [Act.put, List.setIfInBounds_toArray, List.set_cons_zero, List.set_cons_succ]
      refine heldTake (i := 5) (v := ?_) rfl (by kernel_rfl) (by kernel_rfl) (fun _ _ _ h => h) (by rfl) (by assumption) (fun w hSw => ?_) ?_; rotate_left; focus ((try dsimp only at hSw); go_simp; try with_reducible rfl)
      try simp only [Act.put, List.setIfInBounds_toArray, List.set_cons_zero, List.set_cons_succ]
      refine heldTake (i := 6) (v := ?_) rfl (by kernel_rfl) (by kernel_rfl) (fun _ _ _ h => h) (by rfl) (by assumption) (fun w hSw => ?_) ?_; rotate_left; focus ((try dsimp only at hSw); go_simp; try with_reducible rfl)
      try simp only [Act.put, List.setIfInBounds_toArray, List.set_cons_zero, List.set_cons_succ]
      refine heldTake (i := 7) (v := ?_) rfl (by kernel_rfl) (by kernel_rfl) (fun _ _ _ h => h) (by rfl) (by assumption) (fun w hSw => ?_) ?_; rotate_left; focus ((try dsimp only at hSw); go_simp; try with_reducible rfl)
      try simp only [Act.put, List.setIfInBounds_toArray, List.set_cons_zero, List.set_cons_succ]
      refine heldTake (i := 8) (v := ?_) rfl (by kernel_rfl) (by kernel_rfl) (fun _ _ _ h => h) (by rfl) (by assumption) (fun w hSw => ?_) ?_; rotate_left; focus ((try dsimp only at hSw); go_simp; try with_reducible rfl)
      try simp only [Act.put, List.setIfInBounds_toArray, List.set_cons_zero, List.set_cons_succ]
      refine heldTake (i := 9) (v := ?_) rfl (by kernel_rfl) (by kernel_rfl) (fun _ _ _ h => h) (by rfl) (by assumption) (fun w hSw => ?_) ?_; rotate_left; focus ((try dsimp only at hSw); go_simp; try with_reducible rfl)
      try simp only [Act.put, List.setIfInBounds_toArray, List.set_cons_zero, List.set_cons_succ]
      -- NEXT 10 Op.call { callee := Callee.value (Operand.func 48), args := #[Operand.tmp 80, Operand.tmp 82], argTypes := #[5
      refine heldNext (i := 10) rfl (by kernel_rfl) (by rfl) (fun K hK => ?_)
      go_simp
      go_at_call 48
      refine (rtake_any HX2.out.q n kk HKK.out).mono ?_
      rintro e w4 ⟨v4, rfl, _, hq4, hT4, _⟩
      have PQ := HX2.out.queue { W.at 0 with t := (W.at 0).t + kk } hq4 hT4 (fun k hk => .inl (HX2.out.fs k hk)) rfl rfl rfl rfl rfl
      have hgq : gq ≠ w.heap.size := HFE.out
      have SX := show w4.cell? ⟨w.heap.size, 1, none⟩ = some (.int .i64 0) ∧ w4.cell? ⟨w.heap.size, 2, none⟩ = some (.int .i64 n) ∧ w4.cell? ⟨g, 3, none⟩ = some (.pointer (some ⟨gq, 0, none⟩)) from ⟨hT4.cell SX1.out.1 (fun e => hgq e.symm) (fun e => by cases e), hT4.cell SX1.out.2.1 (fun e => hgq e.symm) (fun e => by cases e), PQ.1.c3⟩
      have PQ := Lib.hid PQ
      first | (refine hK.out _ _ SX ?_) | (go_wp2_with fail; refine hK.out _ _ SX ?_)
      clear hK K hq4 hT4
      try simp only [Act.put, List.setIfInBounds_toArray, List.set_cons_zero, List.set_cons_succ]
      refine wpAnyH_done (by kernel_rfl) ?_ _
      clear hH SX1 SX
      go_wp2
      go_ret2
      rw [HR.out]
      exact ⟨none, 0, rfl, rd_none, Rs.later HAL.out (HA.out.back _ _ _ ⟨_, _, _, _, _, PQ.out.1⟩ ((Cr.of_below BD.out (Nat.lt_of_lt_of_le H.out.lt HAL.out.size)).trans PQ.out.2))⟩

theorem rhap_connect_0 (h : RW w B g F W) (n : Int) (v : Value) (ys : List UInt8) (hr : Rd w v (ys.map bv)) (hy : ys.length ≤ maxLen) (hv : 0 < ys.length → ∀ b, v.ownBlock = some b → ¬ F b) :
    Calls Try.prog 21 #[.pointer (some ⟨g, 0, none⟩), .agg #[.int .i64 5, .int .i64 0, .int .i64 n, v]] w (HapS w B g F (W.happen 5 0 n ys)) := by
  obtain ⟨ao, ac, rfl, _⟩ := hr.form
  obtain ⟨R, hR⟩ : ∃ R, R = W.happen 5 0 n ys := ⟨_, rfl⟩
  rw [← hR]
  obtain ⟨L, hL⟩ : ∃ L, L = ys.length := ⟨_, rfl⟩
  rw [← hL] at hr ⊢
  have HL := Lib.hid hL
  have H := Lib.hid h
  have HRD := Lib.hid hr
  have HV := Lib.hid hv
  have HY := Lib.hid hy
  have hal : Below w.heap.size w (w.alloc (.cells #[.int .i64 5, .int .i64 0, .int .i64 n, .slice ao L ac] 30)) := (Below.refl _ _).alloc (Nat.le_refl _) _
  have hrow := heap_alloc_new w (.cells #[.int .i64 5, .int .i64 0, .int .i64 n, .slice ao L ac] 30)
  obtain ⟨w0, hw0⟩ : ∃ w0, w0 = w.alloc (.cells #[.int .i64 5, .int .i64 0, .int .i64 n, .slice ao L ac] 30) := ⟨_, rfl⟩
  rw [← hw0] at hal hrow
  have HAL := Lib.hid hal
  have HROW := Lib.hid hrow
  have HW0 := Lib.hid hw0
  have H0 := Lib.hid (h.next hal)
  have hel : g < w.heap.size := h.lt
  have e0 : w0.cell? ⟨w.heap.size, 0, none⟩ = some (.int .i64 5) := cell_of_row _ _ _ _ _ _ hrow
  have e1 : w0.cell? ⟨w.heap.size, 1, none⟩ = some (.int .i64 0) := cell_of_row _ _ _ _ _ _ hrow
  have e2 : w0.cell? ⟨w.heap.size, 2, none⟩ = some (.int .i64 n) := cell_of_row _ _ _ _ _ _ hrow
  have e3 : w0.cell? ⟨w.heap.size, 3, none⟩ = some (.slice ao L ac) := cell_of_row _ _ _ _ _ _ hrow
  have HR := Lib.hid (show R = ([], 1, W) from by rw [hR]; unfold Wi.Wm.happen; rw [if_neg (by decide), if_neg (by decide), if_neg (by decide), if_neg (by decide), if_pos rfl, if_pos (.inl (by decide))])
  have SC := Lib.hid (rstate_0 H0.out)
  clear hR
  clear h hr hv hy hal hrow hw0 hL hel
  go_enter Try.func21, Try.ntmps21
  go_wp2_with fail
  rw [← HW0.out]
  refine (SC.out).mono ?_
  rintro e w1 ⟨rfl, hw⟩
  obtain rfl := hw
  go_wp2
  go_ret2
  rw [HR.out]
  exact hapS_no H.out HAL.out


theorem rhap_end_1 (h : RW w B g F W) (n : Int) (v : Value) (ys : List UInt8) (hr : Rd w v (ys.map bv)) (hy : ys.length ≤ maxLen) (hv : 0 < ys.length → ∀ b, v.ownBlock = some b → ¬ F b) :
    Calls Try.prog 21 #[.pointer (some ⟨g, 0, none⟩), .agg #[.int .i64 3, .int .i64 1, .int .i64 n, v]] w (HapS w B g F (W.happen 3 1 n ys)) := by
  obtain ⟨ao, ac, rfl, _⟩ := hr.form
  obtain ⟨R, hR⟩ : ∃ R, R = W.happen 3 1 n ys := ⟨_, rfl⟩
  rw [← hR]
  obtain ⟨L, hL⟩ : ∃ L, L = ys.length := ⟨_, rfl⟩
  rw [← hL] at hr ⊢
  have HL := Lib.hid hL
  have H := Lib.hid h
  have HRD := Lib.hid hr
  have HV := Lib.hid hv
  have HY := Lib.hid hy
  have hal : Below w.heap.size w (w.alloc (.cells #[.int .i64 3, .int .i64 1, .int .i64 n, .slice ao L ac] 30)) := (Below.refl _ _).alloc (Nat.le_refl _) _
  have hrow := heap_alloc_new w (.cells #[.int .i64 3, .int .i64 1, .int .i64 n, .slice ao L ac] 30)
  obtain ⟨w0, hw0⟩ : ∃ w0, w0 = w.alloc (.cells #[.int .i64 3, .int .i64 1, .int .i64 n, .slice ao L ac] 30) := ⟨_, rfl⟩
  rw [← hw0] at hal hrow
  have HAL := Lib.hid hal
  have HROW := Lib.hid hrow
  have HW0 := Lib.hid hw0
  have H0 := Lib.hid (h.next hal)
  have hel : g < w.heap.size := h.lt
  have e0 : w0.cell? ⟨w.heap.size, 0, none⟩ = some (.int .i64 3) := cell_of_row _ _ _ _ _ _ hrow
  have e1 : w0.cell? ⟨w.heap.size, 1, none⟩ = some (.int .i64 1) := cell_of_row _ _ _ _ _ _ hrow
  have e2 : w0.cell? ⟨w.heap.size, 2, none⟩ = some (.int .i64 n) := cell_of_row _ _ _ _ _ _ hrow
  have e3 : w0.cell? ⟨w.heap.size, 3, none⟩ = some (.slice ao L ac) := cell_of_row _ _ _ _ _ _ hrow
  obtain ⟨st, hst⟩ : ∃ st, st = (W.at 1).st := ⟨_, rfl⟩
  have SC := rstate_1 H0.out
  rw [← hst] at SC
  have SC := Lib.hid SC
  by_cases h2 : st = 2
  · have HR := Lib.hid (show R = ([], 0, W.upd 1 { W.at 1 with st := 3 }) from by rw [hR, Wi.Wm.happen3]; unfold Wi.Cn.fin; rw [if_neg (by omega)])
    have HST := Lib.hid hst
    rw [h2] at SC
    obtain ⟨F0, ha⟩ := ar_one H0.out
    obtain ⟨C, gq, s, so, sw, hx⟩ := ha.ca
    have c0 : w0.drew.cell? ⟨g, 6, none⟩ = some (.int .i64 ((W.at 1).st : Int)) := hx.c0
    have f0 : w0.drew.frozen? ⟨g, 6, none⟩ = false := hx.f 6
    have X := Lib.hid ((hx.cell (i := 0) (v := .int .i64 3) (by omega) { W.at 1 with st := 3 } rfl rfl rfl rfl rfl rfl rfl).next ((Below.refl _ _).drew))
    have HA := Lib.hid ha
    have SX1 := Lib.hid (show w0.drew.cell? ⟨w.heap.size, 1, none⟩ = some (.int .i64 1) from e1)
    have SX2 := Lib.hid (show (w0.setCell ⟨g, 6, none⟩ (.int .i64 3)).drew.cell? ⟨w.heap.size, 1, none⟩ = some (.int .i64 1) from (World.cell?_setCell_far w0 _ _ _ (show g ≠ w.heap.size by omega)).trans e1)
    have hcr := Lib.hid ((Cr.set (g := g) (o := 6) (i := 0) (F := F0) (w := w0) (v := .int .i64 3) (by omega)).trans (.of_below (F := F0) ((Below.refl _ _).drew) (show g < (w0.setCell ⟨g, 6, none⟩ (.int .i64 3)).heap.size by simp [World.setCell]; exact Nat.lt_of_lt_of_le H.out.lt HAL.out.size)))
    clear ha hx hR hst h2
    clear h hr hv hy hal hrow hw0 hL hel
    go_enter Try.func21, Try.ntmps21
    go_wp2_with fail
    rw [← HW0.out]
    refine (SC.out).mono ?_
    rintro e w1 ⟨rfl, hw⟩
    obtain rfl := hw
    go_wp2_with fail
    refine (known_1 w0).mono ?_
    rintro e w2 ⟨rfl, hw⟩
    obtain rfl := hw
    go_wp2
    refine wp_region_held_drew (S := fun w' => w'.cell? ⟨w.heap.size, 1, none⟩ = some (.int .i64 1)) (by kernel_rfl) SX1.out (fun hH => ?_)
    refine heldTake (i := 0) (v := ?_) rfl (by kernel_rfl) (by kernel_rfl) (fun _ _ _ h => h) (by rfl) (by assumption) (fun w hSw => ?_) ?_; rotate_left; focus ((try dsimp only at hSw); go_simp; try with_reducible rfl)
    try simp only [Act.put, List.setIfInBounds_toArray, List.set_cons_zero, List.set_cons_succ]
    refine heldTake (i := 1) (v := ?_) rfl (by kernel_rfl) (by kernel_rfl) (fun _ _ _ h => h) (by rfl) (by assumption) (fun w hSw => ?_) ?_; rotate_left; focus ((try dsimp only at hSw); go_simp; try with_reducible rfl)
    try simp only [Act.put, List.setIfInBounds_toArray, List.set_cons_zero, List.set_cons_succ]
    refine heldTake (i := 2) (v := ?_) rfl (by kernel_rfl) (by kernel_rfl) (fun _ _ _ h => h) (by rfl) (by assumption) (fun w hSw => ?_) ?_; rotate_left; focus ((try dsimp only at hSw); go_simp; try with_reducible rfl)
    try simp only [Act.put, List.setIfInBounds_toArray, List.set_cons_zero, List.set_cons_succ]
    refine heldTake (i := 3) (v := ?_) rfl (by kernel_rfl) (by kernel_rfl) (fun _ _ _ h => h) (by rfl) (by assumption) (fun w hSw => ?_) ?_; rotate_left; focus ((try dsimp only at hSw); go_simp; try with_reducible rfl)
    try simp only [Act.put, List.setIfInBounds_toArray, List.set_cons_zero, List.set_cons_succ]
    refine heldTake (i := 4) (v := ?_) rfl (by kernel_rfl) (by kernel_rfl) (fun _ _ _ h => h) (by rfl) (by assumption) (fun w hSw => ?_) ?_; rotate_left; focus ((try dsimp only at hSw); go_simp; try with_reducible rfl)
    try simp only [Act.put, List.setIfInBounds_toArray, List.set_cons_zero, List.set_cons_succ]
    refine heldTake (i := 5) (v := ?_) rfl (by kernel_rfl) (by kernel_rfl) (fun _ _ _ h => h) (by rfl) (by assumption) (fun w hSw => ?_) ?_; rotate_left; focus ((try dsimp only at hSw); go_simp; try with_reducible rfl)
    try simp only [Act.put, List.setIfInBounds_toArray, List.set_cons_zero, List.set_cons_succ]
    refine heldTake (i := 6) (v := ?_) rfl (by kernel_rfl) (by kernel_rfl) (fun _ _ _ h => h) (by rfl) (by assumption) (fun w hSw => ?_) ?_; rotate_left; focus ((try dsimp only at hSw); go_simp; try with_reducible rfl)
    try simp only [Act.put, List.setIfInBounds_toArray, List.set_cons_zero, List.set_cons_succ]
    -- NEXT 7 Op.store 3 (Operand.tmp 100) (Operand.const (Value.int IntKind.i64 3))
    refine heldNext (i := 7) rfl (by kernel_rfl) (by rfl) (fun K hK => ?_)
    have SX := SX2.out
    go_simp
    refine hK.out _ _ SX ?_
    clear hK K
    try simp only [Act.put, List.setIfInBounds_toArray, List.set_cons_zero, List.set_cons_succ]
    refine wpAnyH_done (by kernel_rfl) ?_ _
    clear hH SX1 SX2 c0 f0
    go_wp2
    go_ret2
    rw [HR.out]
    exact ⟨none, 0, rfl, rd_none, Rs.later HAL.out (HA.out.back _ F0 { W.at 1 with st := 3 } ⟨_, _, _, _, _, X.out⟩ hcr.out)⟩

  · have HR := Lib.hid (show R = ([], 1, W) from by rw [hR, Wi.Wm.happen3]; unfold Wi.Cn.fin; rw [if_pos (by omega), Wi.Wm.upd_at])
    have i2 : ((st : Int) != 2) = true := by simp; omega
    have i3 : (st = 2) = False := eq_false h2
    have i4 : ((st : Int) == 2) = false := by simp; omega
    clear h2 hst hR
    clear h hr hv hy hal hrow hw0 hL hel
    go_enter Try.func21, Try.ntmps21
    go_wp2_with fail
    rw [← HW0.out]
    refine (SC.out).mono ?_
    rintro e w1 ⟨rfl, hw⟩
    obtain rfl := hw
    go_wp2_with fail
    refine (known_1 w0).mono ?_
    rintro e w2 ⟨rfl, hw⟩
    obtain rfl := hw
    go_wp2
    go_ret2
    rw [HR.out]
    exact hapS_no H.out HAL.out


theorem rhap_reset_1 (h : RW w B g F W) (n : Int) (v : Value) (ys : List UInt8) (hr : Rd w v (ys.map bv)) (hy : ys.length ≤ maxLen) (hv : 0 < ys.length → ∀ b, v.ownBlock = some b → ¬ F b) :
    Calls Try.prog 21 #[.pointer (some ⟨g, 0, none⟩), .agg #[.int .i64 4, .int .i64 1, .int .i64 n, v]] w (HapS w B g F (W.happen 4 1 n ys)) := by
  obtain ⟨ao, ac, rfl, _⟩ := hr.form
  obtain ⟨R, hR⟩ : ∃ R, R = W.happen 4 1 n ys := ⟨_, rfl⟩
  rw [← hR]
  obtain ⟨L, hL⟩ : ∃ L, L = ys.length := ⟨_, rfl⟩
  rw [← hL] at hr ⊢
  have HL := Lib.hid hL
  have H := Lib.hid h
  have HRD := Lib.hid hr
  have HV := Lib.hid hv
  have HY := Lib.hid hy
  have hal : Below w.heap.size w (w.alloc (.cells #[.int .i64 4, .int .i64 1, .int .i64 n, .slice ao L ac] 30)) := (Below.refl _ _).alloc (Nat.le_refl _) _
  have hrow := heap_alloc_new w (.cells #[.int .i64 4, .int .i64 1, .int .i64 n, .slice ao L ac] 30)
  obtain ⟨w0, hw0⟩ : ∃ w0, w0 = w.alloc (.cells #[.int .i64 4, .int .i64 1, .int .i64 n, .slice ao L ac] 30) := ⟨_, rfl⟩
  rw [← hw0] at hal hrow
  have HAL := Lib.hid hal
  have HROW := Lib.hid hrow
  have HW0 := Lib.hid hw0
  have H0 := Lib.hid (h.next hal)
  have hel : g < w.heap.size := h.lt
  have e0 : w0.cell? ⟨w.heap.size, 0, none⟩ = some (.int .i64 4) := cell_of_row _ _ _ _ _ _ hrow
  have e1 : w0.cell? ⟨w.heap.size, 1, none⟩ = some (.int .i64 1) := cell_of_row _ _ _ _ _ _ hrow
  have e2 : w0.cell? ⟨w.heap.size, 2, none⟩ = some (.int .i64 n) := cell_of_row _ _ _ _ _ _ hrow
  have e3 : w0.cell? ⟨w.heap.size, 3, none⟩ = some (.slice ao L ac) := cell_of_row _ _ _ _ _ _ hrow
  have SC := Lib.hid (rstate_1 H0.out)
  have OP := ropen_1 H0.out
  by_cases hl : (W.at 1).live = true
  · have HR := Lib.hid (show R = ([], 0, W.upd 1 { W.at 1 with st := 4 }) from by rw [hR, Wi.Wm.happen4]; unfold Wi.Cn.rs; rw [if_neg (by rw [hl]; decide)])
    rw [hl] at OP
    have OP := Lib.hid OP
    obtain ⟨F0, ha⟩ := ar_one H0.out
    obtain ⟨C, gq, s, so, sw, hx⟩ := ha.ca
    have c0 : w0.drew.cell? ⟨g, 6, none⟩ = some (.int .i64 ((W.at 1).st : Int)) := hx.c0
    have f0 : w0.drew.frozen? ⟨g, 6, none⟩ = false := hx.f 6
    have X := Lib.hid ((hx.cell (i := 0) (v := .int .i64 4) (by omega) { W.at 1 with st := 4 } rfl rfl rfl rfl rfl rfl rfl).next ((Below.refl _ _).drew))
    have HA := Lib.hid ha
    have SX1 := Lib.hid (show w0.drew.cell? ⟨w.heap.size, 1, none⟩ = some (.int .i64 1) from e1)
    have SX2 := Lib.hid (show (w0.setCell ⟨g, 6, none⟩ (.int .i64 4)).drew.cell? ⟨w.heap.size, 1, none⟩ = some (.int .i64 1) from (World.cell?_setCell_far w0 _ _ _ (show g ≠ w.heap.size by omega)).trans e1)
    have hcr := Lib.hid ((Cr.set (g := g) (o := 6) (i := 0) (F := F0) (w := w0) (v := .int .i64 4) (by omega)).trans (.of_below (F := F0) ((Below.refl _ _).drew) (show g < (w0.setCell ⟨g, 6, none⟩ (.int .i64 4)).heap.size by simp [World.setCell]; exact Nat.lt_of_lt_of_le H.out.lt HAL.out.size)))
    clear ha hx hR hl
    clear h hr hv hy hal hrow hw0 hL hel
    go_enter Try.func21, Try.ntmps21
    go_wp2_with fail
    rw [← HW0.out]
    refine (SC.out).mono ?_
    rintro e w1 ⟨rfl, hw⟩
    obtain rfl := hw
    go_wp2_with fail
    refine OP.out.mono ?_
    rintro e w2 ⟨rfl, hw⟩
    obtain rfl := hw
    go_wp2
    refine wp_region_held_drew (S := fun w' => w'.cell? ⟨w.heap.size, 1, none⟩ = some (.int .i64 1)) (by kernel_rfl) SX1.out (fun hH => ?_)
    refine heldTake (i := 0) (v := ?_) rfl (by kernel_rfl) (by kernel_rfl) (fun _ _ _ h => h) (by rfl) (by assumption) (fun w hSw => ?_) ?_; rotate_left; focus ((try dsimp only at hSw); go_simp; try with_reducible rfl)
    try simp only [Act.put, List.setIfInBounds_toArray, List.set_cons_zero, List.set_cons_succ]
    refine heldTake (i := 1) (v := ?_) rfl (by kernel_rfl) (by kernel_rfl) (fun _ _ _ h => h) (by rfl) (by assumption) (fun w hSw => ?_) ?_; rotate_left; focus ((try dsimp only at hSw); go_simp; try with_reducible rfl)
    try simp only [Act.put, List.setIfInBounds_toArray, List.set_cons_zero, List.set_cons_succ]
    refine heldTake (i := 2) (v := ?_) rfl (by kernel_rfl) (by kernel_rfl) (fun _ _ _ h => h) (by rfl) (by assumption) (fun w hSw => ?_) ?_; rotate_left; focus ((try dsimp only at hSw); go_simp; try with_reducible rfl)
    try simp only [Act.put, List.setIfInBounds_toArray, List.set_cons_zero, List.set_cons_succ]
    refine heldTake (i := 3) (v := ?_) rfl (by kernel_rfl) (by kernel_rfl) (fun _ _ _ h => h) (by rfl) (by assumption) (fun w hSw => ?_) ?_; rotate_left; focus ((try dsimp only at hSw); go_simp; try with_reducible rfl)
    try simp only [Act.put, List.setIfInBounds_toArray, List.set_cons_zero, List.set_cons_succ]
    refine heldTake (i := 4) (v := ?_) rfl (by kernel_rfl) (by kernel_rfl) (fun _ _ _ h => h) (by rfl) (by assumption) (fun w hSw => ?_) ?_; rotate_left; focus ((try dsimp only at hSw); go_simp; try with_reducible rfl)
    try simp only [Act.put, List.setIfInBounds_toArray, List.set_cons_zero, List.set_cons_succ]
    refine heldTake (i := 5) (v := ?_) rfl (by kernel_rfl) (by kernel_rfl) (fun _ _ _ h => h) (by rfl) (by assumption) (fun w hSw => ?_) ?_; rotate_left; focus ((try dsimp only at hSw); go_simp; try with_reducible rfl)
    try simp only [Act.put, List.setIfInBounds_toArray, List.set_cons_zero, List.set_cons_succ]
    refine heldTake (i := 6) (v := ?_) rfl (by kernel_rfl) (by kernel_rfl) (fun _ _ _ h => h) (by rfl) (by assumption) (fun w hSw => ?_) ?_; rotate_left; focus ((try dsimp only at hSw); go_simp; try with_reducible rfl)
    try simp only [Act.put, List.setIfInBounds_toArray, List.set_cons_zero, List.set_cons_succ]
    -- NEXT 7 Op.store 3 (Operand.tmp 114) (Operand.const (Value.int IntKind.i64 4))
    refine heldNext (i := 7) rfl (by kernel_rfl) (by rfl) (fun K hK => ?_)
    have SX := SX2.out
    go_simp
    refine hK.out _ _ SX ?_
    clear hK K
    try simp only [Act.put, List.setIfInBounds_toArray, List.set_cons_zero, List.set_cons_succ]
    refine wpAnyH_done (by kernel_rfl) ?_ _
    clear hH SX1 SX2 c0 f0
    go_wp2
    go_ret2
    rw [HR.out]
    exact ⟨none, 0, rfl, rd_none, Rs.later HAL.out (HA.out.back _ F0 { W.at 1 with st := 4 } ⟨_, _, _, _, _, X.out⟩ hcr.out)⟩

  · have hl : (W.at 1).live = false := by simpa using hl
    have HR := Lib.hid (show R = ([], 1, W) from by rw [hR, Wi.Wm.happen4]; unfold Wi.Cn.rs; rw [if_pos hl, Wi.Wm.upd_at])
    rw [hl] at OP
    have OP := Lib.hid OP
    clear hl hR
    clear h hr hv hy hal hrow hw0 hL hel
    go_enter Try.func21, Try.ntmps21
    go_wp2_with fail
    rw [← HW0.out]
    refine (SC.out).mono ?_
    rintro e w1 ⟨rfl, hw⟩
    obtain rfl := hw
    go_wp2_with fail
    refine OP.out.mono ?_
    rintro e w2 ⟨rfl, hw⟩
    obtain rfl := hw
    go_wp2
    go_ret2
    rw [HR.out]
    exact hapS_no H.out HAL.out


theorem rhap_take_1 (h : RW w B g F W) (n : Int) (v : Value) (ys : List UInt8) (hr : Rd w v (ys.map bv)) (hy : ys.length ≤ maxLen) (hv : 0 < ys.length → ∀ b, v.ownBlock = some b → ¬ F b) :
    Calls Try.prog 21 #[.pointer (some ⟨g, 0, none⟩), .agg #[.int .i64 2, .int .i64 1, .int .i64 n, v]] w (HapS w B g F (W.happen 2 1 n ys)) := by
  obtain ⟨ao, ac, rfl, _⟩ := hr.form
  obtain ⟨R, hR⟩ : ∃ R, R = W.happen 2 1 n ys := ⟨_, rfl⟩
  rw [← hR]
  obtain ⟨L, hL⟩ : ∃ L, L = ys.length := ⟨_, rfl⟩
  rw [← hL] at hr ⊢
  have HL := Lib.hid hL
  have H := Lib.hid h
  have HRD := Lib.hid hr
  have HV := Lib.hid hv
  have HY := Lib.hid hy
  have hal : Below w.heap.size w (w.alloc (.cells #[.int .i64 2, .int .i64 1, .int .i64 n, .slice ao L ac] 30)) := (Below.refl _ _).alloc (Nat.le_refl _) _
  have hrow := heap_alloc_new w (.cells #[.int .i64 2, .int .i64 1, .int .i64 n, .slice ao L ac] 30)
  obtain ⟨w0, hw0⟩ : ∃ w0, w0 = w.alloc (.cells #[.int .i64 2, .int .i64 1, .int .i64 n, .slice ao L ac] 30) := ⟨_, rfl⟩
  rw [← hw0] at hal hrow
  have HAL := Lib.hid hal
  have HROW := Lib.hid hrow
  have HW0 := Lib.hid hw0
  have H0 := Lib.hid (h.next hal)
  have hel : g < w.heap.size := h.lt
  have e0 : w0.cell? ⟨w.heap.size, 0, none⟩ = some (.int .i64 2) := cell_of_row _ _ _ _ _ _ hrow
  have e1 : w0.cell? ⟨w.heap.size, 1, none⟩ = some (.int .i64 1) := cell_of_row _ _ _ _ _ _ hrow
  have e2 : w0.cell? ⟨w.heap.size, 2, none⟩ = some (.int .i64 n) := cell_of_row _ _ _ _ _ _ hrow
  have e3 : w0.cell? ⟨w.heap.size, 3, none⟩ = some (.slice ao L ac) := cell_of_row _ _ _ _ _ _ hrow
  have SC := Lib.hid (rstate_1 H0.out)
  have WT := rwaits_1 H0.out
  by_cases hn : n < 1
  · have HR := Lib.hid (show R = ([], 1, W) from by rw [hR, Wi.Wm.happen2]; unfold Wi.Cn.tk; rw [if_pos (.inl hn), Wi.Wm.upd_at])
    have WT := Lib.hid WT
    clear hR
    clear h hr hv hy hal hrow hw0 hL hel
    go_enter Try.func21, Try.ntmps21
    go_wp2_with fail
    rw [← HW0.out]
    refine (SC.out).mono ?_
    rintro e w1 ⟨rfl, hw⟩
    obtain rfl := hw
    go_wp2_with fail
    refine WT.out.mono ?_
    rintro e w2 ⟨rfl, hb2⟩
    have hrow2 := (hb2.block _ (Array.getElem?_eq_some_iff.1 HROW.out).1).trans HROW.out
    have a1 : w2.cell? ⟨w.heap.size, 1, none⟩ = some (.int .i64 1) := cell_of_row _ _ _ _ _ _ hrow2
    have a2 : w2.cell? ⟨w.heap.size, 2, none⟩ = some (.int .i64 n) := cell_of_row _ _ _ _ _ _ hrow2
    have B2 := Lib.hid hb2
    clear hb2 hrow2
    go_wp2
    go_ret2
    rw [HR.out]
    exact hapS_no H.out (HAL.out.trans (B2.out.mono HAL.out.size))

  · by_cases h0 : (W.at 1).waits = 0
    · have HR := Lib.hid (show R = ([], 1, W) from by rw [hR, Wi.Wm.happen2]; unfold Wi.Cn.tk; rw [if_pos (.inr h0), Wi.Wm.upd_at])
      rw [h0] at WT
      have WT := Lib.hid WT
      have hn := eq_false hn
      clear hR h0
      clear h hr hv hy hal hrow hw0 hL hel
      go_enter Try.func21, Try.ntmps21
      go_wp2_with fail
      rw [← HW0.out]
      refine (SC.out).mono ?_
      rintro e w1 ⟨rfl, hw⟩
      obtain rfl := hw
      go_wp2_with fail
      refine WT.out.mono ?_
      rintro e w2 ⟨rfl, hb2⟩
      have hrow2 := (hb2.block _ (Array.getElem?_eq_some_iff.1 HROW.out).1).trans HROW.out
      have a1 : w2.cell? ⟨w.heap.size, 1, none⟩ = some (.int .i64 1) := cell_of_row _ _ _ _ _ _ hrow2
      have a2 : w2.cell? ⟨w.heap.size, 2, none⟩ = some (.int .i64 n) := cell_of_row _ _ _ _ _ _ hrow2
      have B2 := Lib.hid hb2
      clear hb2 hrow2
      go_wp2
      go_ret2
      rw [HR.out]
      exact hapS_no H.out (HAL.out.trans (B2.out.mono HAL.out.size))

    · obtain ⟨F0, ha⟩ := ar_one H0.out
      obtain ⟨C, gq, s, so, sw, hx⟩ := ha.ca
      have hlv := Wi.Cn.waits_live h0
      have hwt : (W.at 1).waits = (W.at 1).xs.length - (W.at 1).t := by unfold Wi.Cn.waits; rw [if_pos hlv]
      obtain ⟨D, hD⟩ : ∃ D, D = (W.at 1).waits := ⟨_, rfl⟩
      obtain ⟨kk, hkk⟩ : ∃ kk, kk = min n.toNat ((W.at 1).xs.length - (W.at 1).t) := ⟨_, rfl⟩
      have HR := Lib.hid (show R = ([], 0, W.upd 1 { W.at 1 with t := (W.at 1).t + kk }) from by rw [hR, Wi.Wm.happen2]; unfold Wi.Cn.tk; rw [if_neg (by omega), hkk])
      have HKK := Lib.hid (show kk = min (max n 0).toNat ((W.at 1).xs.length - (W.at 1).t) by omega)
      rw [← hD] at WT h0
      have WT := Lib.hid WT
      have HX := Lib.hid hx
      have HFE := Lib.hid (show gq ≠ w.heap.size from fun e => by
        have h1 := hx.q.c
        rw [e, HROW.out] at h1
        simp at h1)
      have HA := Lib.hid ha
      have hD0 : (D = 0) = False := eq_false h0
      have hD1 : ((D : Int) == 0) = false := by simp; omega
      have hn := eq_false hn
      clear ha hx hlv hwt hD hkk hR h0
      clear h hr hv hy hal hrow hw0 hL hel
      go_enter Try.func21, Try.ntmps21
      go_wp2_with fail
      rw [← HW0.out]
      refine (SC.out).mono ?_
      rintro e w1 ⟨rfl, hw⟩
      obtain rfl := hw
      go_wp2_with fail
      refine WT.out.mono ?_
      rintro e w2 ⟨rfl, hb2⟩
      have hrow2 := (hb2.block _ (Array.getElem?_eq_some_iff.1 HROW.out).1).trans HROW.out
      have a1 : w2.cell? ⟨w.heap.size, 1, none⟩ = some (.int .i64 1) := cell_of_row _ _ _ _ _ _ hrow2
      have a2 : w2.cell? ⟨w.heap.size, 2, none⟩ = some (.int .i64 n) := cell_of_row _ _ _ _ _ _ hrow2
      have B2 := Lib.hid hb2
      clear hb2 hrow2
      have HX2 := Lib.hid (HX.out.next (B2.out.trans (((Below.refl w2.heap.size w2).drew).mono B2.out.size)))
      have SX1 := Lib.hid (show w2.drew.cell? ⟨w.heap.size, 1, none⟩ = some (.int .i64 1) ∧ w2.drew.cell? ⟨w.heap.size, 2, none⟩ = some (.int .i64 n) ∧ w2.drew.cell? ⟨g, 9, none⟩ = some (.pointer (some ⟨gq, 0, none⟩)) from ⟨a1, a2, HX2.out.c3⟩)
      have BD := Lib.hid (B2.out.trans (((Below.refl w2.heap.size w2).drew).mono B2.out.size))
      have hgl : g < w.heap.size := H.out.lt
      go_wp2
      refine wp_region_held_drew (S := fun w' => w'.cell? ⟨w.heap.size, 1, none⟩ = some (.int .i64 1) ∧ w'.cell? ⟨w.heap.size, 2, none⟩ = some (.int .i64 n) ∧ w'.cell? ⟨g, 9, none⟩ = some (.pointer (some ⟨gq, 0, none⟩))) (by kernel_rfl) SX1.out (fun hH => ?_)
      generalize w2.drew = w3 at *
      refine heldTake (i := 0) (v := ?_) rfl (by kernel_rfl) (by kernel_rfl) (fun _ _ _ h => h) (by rfl) (by assumption) (fun w hSw => ?_) ?_; rotate_left; focus ((try dsimp only at hSw); go_simp; try with_reducible rfl)
      try simp only [Act.put, List.setIfInBounds_toArray, List.set_cons_zero, List.set_cons_succ]
      refine heldTake (i := 1) (v := ?_) rfl (by kernel_rfl) (by kernel_rfl) (fun _ _ _ h => h) (by rfl) (by assumption) (fun w hSw => ?_) ?_; rotate_left; focus ((try dsimp only at hSw); go_simp; try with_reducible rfl)
      try simp only [Act.put, List.setIfInBounds_toArray, List.set_cons_zero, List.set_cons_succ]
      refine heldTake (i := 2) (v := ?_) rfl (by kernel_rfl) (by kernel_rfl) (fun _ _ _ h => h) (by rfl) (by assumption) (fun w hSw => ?_) ?_; rotate_left; focus ((try dsimp only at hSw); go_simp; try with_reducible rfl)
      try simp only [Act.put, List.setIfInBounds_toArray, List.set_cons_zero, List.set_cons_succ]
      refine heldTake (i := 3) (v := ?_) rfl (by kernel_rfl) (by kernel_rfl) (fun _ _ _ h => h) (by rfl) (by assumption) (fun w hSw => ?_) ?_; rotate_left; focus ((try dsimp only at hSw); go_simp; try with_reducible rfl)
      try simp only [Act.put, List.setIfInBounds_toArray, List.set_cons_zero, List.set_cons_succ]
      refine heldTake (i := 4) (v := ?_) rfl (by kernel_rfl) (by kernel_rfl) (fun _ _ _ h => h) (by rfl) (by assumption) (fun w hSw => ?_) ?_; rotate_left; focus ((try dsimp only at hSw); go_simp; try with_reducible rfl)
      try simp only [Act.put, List.setIfInBounds_toArray, List.set_cons_zero, List.set_cons_succ]
      refine heldTake (i := 5) (v := ?_) rfl (by kernel_rfl) (by kernel_rfl) (fun _ _ _ h => h) (by rfl) (by assumption) (fun w hSw => ?_) ?_; rotate_left; focus ((try dsimp only at hSw); go_simp; try with_reducible rfl)
      try simp only [Act.put, List.setIfInBounds_toArray, List.set_cons_zero, List.set_cons_succ]
      refine heldTake (i := 6) (v := ?_) rfl (by kernel_rfl) (by kernel_rfl) (fun _ _ _ h => h) (by rfl) (by assumption) (fun w hSw => ?_) ?_; rotate_left; focus ((try dsimp only at hSw); go_simp; try with_reducible rfl)
      try simp only [Act.put, List.setIfInBounds_toArray, List.set_cons_zero, List.set_cons_succ]
      refine heldTake (i := 7) (v := ?_) rfl (by kernel_rfl) (by kernel_rfl) (fun _ _ _ h => h) (by rfl) (by assumption) (fun w hSw => ?_) ?_; rotate_left; focus ((try dsimp only at hSw); go_simp; try with_reducible rfl)
      try simp only [Act.put, List.setIfInBounds_toArray, List.set_cons_zero, List.set_cons_succ]
      refine heldTake (i := 8) (v := ?_) rfl (by kernel_rfl) (by kernel_rfl) (fun _ _ _ h => h) (by rfl) (by assumption) (fun w hSw => ?_) ?_; rotate_left; focus ((try dsimp only at hSw); go_simp; try with_reducible rfl)
      try simp only [Act.put, List.setIfInBounds_toArray, List.set_cons_zero, List.set_cons_succ]
      refine heldTake (i := 9) (v := ?_) rfl (by kernel_rfl) (by kernel_rfl) (fun _ _ _ h => h) (by rfl) (by assumption) (fun w hSw => ?_) ?_; rotate_left; focus ((try dsimp only at hSw); go_simp; try with_reducible rfl)
      try simp only [Act.put, List.setIfInBounds_toArray, List.set_cons_zero, List.set_cons_succ]
      -- NEXT 10 Op.call { callee := Callee.value (Operand.func 48), args := #[Operand.tmp 80, Operand.tmp 82], argTypes := #[5
      refine heldNext (i := 10) rfl (by kernel_rfl) (by rfl) (fun K hK => ?_)
      go_simp
      go_at_call 48
      refine (rtake_any HX2.out.q n kk HKK.out).mono ?_
      rintro e w4 ⟨v4, rfl, _, hq4, hT4, _⟩
      have PQ := HX2.out.queue { W.at 1 with t := (W.at 1).t + kk } hq4 hT4 (fun k hk => .inl (HX2.out.fs k hk)) rfl rfl rfl rfl rfl
      have hgq : gq ≠ w.heap.size := HFE.out
      have SX := show w4.cell? ⟨w.heap.size, 1, none⟩ = some (.int .i64 1) ∧ w4.cell? ⟨w.heap.size, 2, none⟩ = some (.int .i64 n) ∧ w4.cell? ⟨g, 9, none⟩ = some (.pointer (some ⟨gq, 0, none⟩)) from ⟨hT4.cell SX1.out.1 (fun e => hgq e.symm) (fun e => by cases e), hT4.cell SX1.out.2.1 (fun e => hgq e.symm) (fun e => by cases e), PQ.1.c3⟩
      have PQ := Lib.hid PQ
      first | (refine hK.out _ _ SX ?_) | (go_wp2_with fail; refine hK.out _ _ SX ?_)
      clear hK K hq4 hT4
      try simp only [Act.put, List.setIfInBounds_toArray, List.set_cons_zero, List.set_cons_succ]
      refine wpAnyH_done (by kernel_rfl) ?_ _
      clear hH SX1 SX
      go_wp2
      go_ret2
      rw [HR.out]
      exact ⟨none, 0, rfl, rd_none, Rs.later HAL.out (HA.out.back _ _ _ ⟨_, _, _, _, _, PQ.out.1⟩ ((Cr.of_below BD.out (Nat.lt_of_lt_of_le H.out.lt HAL.out.size)).trans PQ.out.2))⟩

theorem rhap_connect_1 (h : RW w B g F W) (n : Int) (v : Value) (ys : List UInt8) (hr : Rd w v (ys.map bv)) (hy : ys.length ≤ maxLen) (hv : 0 < ys.length → ∀ b, v.ownBlock = some b → ¬ F b) (hok : W.Ok) :
    Calls Try.prog 21 #[.pointer (some ⟨g, 0, none⟩), .agg #[.int .i64 5, .int .i64 1, .int .i64 n, v]] w (HapS w B g F (W.happen 5 1 n ys)) := by
  obtain ⟨ao, ac, rfl, _⟩ := hr.form
  obtain ⟨R, hR⟩ : ∃ R, R = W.happen 5 1 n ys := ⟨_, rfl⟩
  rw [← hR]
  obtain ⟨L, hL⟩ : ∃ L, L = ys.length := ⟨_, rfl⟩
  rw [← hL] at hr ⊢
  have HL := Lib.hid hL
  have H := Lib.hid h
  have HRD := Lib.hid hr
  have HV := Lib.hid hv
  have HY := Lib.hid hy
  have hal : Below w.heap.size w (w.alloc (.cells #[.int .i64 5, .int .i64 1, .int .i64 n, .slice ao L ac] 30)) := (Below.refl _ _).alloc (Nat.le_refl _) _
  have hrow := heap_alloc_new w (.cells #[.int .i64 5, .int .i64 1, .int .i64 n, .slice ao L ac] 30)
  obtain ⟨w0, hw0⟩ : ∃ w0, w0 = w.alloc (.cells #[.int .i64 5, .int .i64 1, .int .i64 n, .slice ao L ac] 30) := ⟨_, rfl⟩
  rw [← hw0] at hal hrow
  have HAL := Lib.hid hal
  have HROW := Lib.hid hrow
  have HW0 := Lib.hid hw0
  have H0 := Lib.hid (h.next hal)
  have hel : g < w.heap.size := h.lt
  have e0 : w0.cell? ⟨w.heap.size, 0, none⟩ = some (.int .i64 5) := cell_of_row _ _ _ _ _ _ hrow
  have e1 : w0.cell? ⟨w.heap.size, 1, none⟩ = some (.int .i64 1) := cell_of_row _ _ _ _ _ _ hrow
  have e2 : w0.cell? ⟨w.heap.size, 2, none⟩ = some (.int .i64 n) := cell_of_row _ _ _ _ _ _ hrow
  have e3 : w0.cell? ⟨w.heap.size, 3, none⟩ = some (.slice ao L ac) := cell_of_row _ _ _ _ _ _ hrow
  obtain ⟨st, hst⟩ : ∃ st, st = (W.at 1).st := ⟨_, rfl⟩
  have SC := rstate_1 H0.out
  rw [← hst] at SC
  have SC := Lib.hid SC
  by_cases h2 : st = 1
  · obtain ⟨F0, ha⟩ := ar_one H0.out
    obtain ⟨C, gq, s, so, sw, hx⟩ := ha.ca
    rw [h2] at SC
    have c0 : w0.cell? ⟨g, 6, none⟩ = some (.int .i64 ((W.at 1).st : Int)) := hx.c0
    have f0 : w0.frozen? ⟨g, 6, none⟩ = false := hx.f 6
    have hne : g ≠ w.heap.size := by omega
    have X1 := hx.cell (i := 0) (v := .int .i64 5) (by omega) { W.at 1 with st := 5 } rfl rfl rfl rfl rfl rfl rfl
    have G1 := Cr.set (g := g) (o := 6) (i := 0) (F := F0) (w := w0) (v := .int .i64 5) (by omega)
    have s2 : (w0.setCell ⟨g, 6, none⟩ (.int .i64 5)).cell? ⟨w.heap.size, 2, none⟩ = some (.int .i64 n) := (World.cell?_setCell_far w0 _ _ _ hne).trans e2
    by_cases hn : n = 1
    · have HR := Lib.hid (show R = ([], 0, W.upd 1 { W.at 1 with st := 2 }) from by rw [hR, Wi.Wm.happen5 hok]; unfold Wi.Cn.conn; rw [if_neg (by omega), if_pos hn])
      have X := Lib.hid (X1.cell (i := 0) (v := .int .i64 2) (by omega) { W.at 1 with st := 2 } rfl rfl rfl rfl rfl rfl rfl)
      have G := Lib.hid (G1.trans (Cr.set (g := g) (o := 6) (i := 0) (F := F0) (v := .int .i64 2) (by omega)))
      have HA := Lib.hid ha
      subst hn
      clear ha hx X1 G1 hR hst h2 hok
      clear h hr hv hy hal hrow hw0 hL hel
      go_enter Try.func21, Try.ntmps21
      go_wp2_with fail
      rw [← HW0.out]
      refine (SC.out).mono ?_
      rintro e w1 ⟨rfl, hw⟩
      obtain rfl := hw
      go_wp2
      go_ret2
      rw [HR.out]
      exact ⟨none, 0, rfl, rd_none, Rs.later HAL.out (HA.out.back _ F0 _ ⟨_, _, _, _, _, X.out⟩ G.out)⟩
    · have HR := Lib.hid (show R = ([], 0, W.upd 1 { W.at 1 with st := 5 }) from by rw [hR, Wi.Wm.happen5 hok]; unfold Wi.Cn.conn; rw [if_neg (by omega), if_neg hn])
      have X := Lib.hid X1
      have G := Lib.hid G1
      have HA := Lib.hid ha
      have hn1 : (n == 1) = false := by simpa using hn
      have hn := eq_false hn
      clear ha hx X1 G1 hR hst h2 hok
      clear h hr hv hy hal hrow hw0 hL hel
      go_enter Try.func21, Try.ntmps21
      go_wp2_with fail
      rw [← HW0.out]
      refine (SC.out).mono ?_
      rintro e w1 ⟨rfl, hw⟩
      obtain rfl := hw
      go_wp2
      go_ret2
      rw [HR.out]
      exact ⟨none, 0, rfl, rd_none, Rs.later HAL.out (HA.out.back _ F0 _ ⟨_, _, _, _, _, X.out⟩ G.out)⟩
  · have HR := Lib.hid (show R = ([], 1, W) from by rw [hR, Wi.Wm.happen5 hok]; unfold Wi.Cn.conn; rw [if_pos (by omega), Wi.Wm.upd_at])
    have i2 : ((st : Int) != 1) = true := by simp; omega
    have i3 : (st = 1) = False := eq_false h2
    have i4 : ((st : Int) == 1) = false := by simp; omega
    clear h2 hst hR hok
    clear h hr hv hy hal hrow hw0 hL hel
    go_enter Try.func21, Try.ntmps21
    go_wp2_with fail
    rw [← HW0.out]
    refine (SC.out).mono ?_
    rintro e w1 ⟨rfl, hw⟩
    obtain rfl := hw
    go_wp2
    go_ret2
    rw [HR.out]
    exact hapS_no H.out HAL.out


theorem rhap_come_n (h : RW w B g F W) {k : Int} (h0 : k ≠ 0) (h1 : k ≠ 1) (n : Int) (v : Value) (ys : List UInt8) (hr : Rd w v (ys.map bv)) (hy : ys.length ≤ maxLen) (hv : 0 < ys.length → ∀ b, v.ownBlock = some b → ¬ F b) :
    Calls Try.prog 21 #[.pointer (some ⟨g, 0, none⟩), .agg #[.int .i64 1, .int .i64 k, .int .i64 n, v]] w (HapS w B g F (W.happen 1 k n ys)) := by
  obtain ⟨ao, ac, rfl, _⟩ := hr.form
  obtain ⟨R, hR⟩ : ∃ R, R = W.happen 1 k n ys := ⟨_, rfl⟩
  rw [← hR]
  obtain ⟨L, hL⟩ : ∃ L, L = ys.length := ⟨_, rfl⟩
  rw [← hL] at hr ⊢
  have HL := Lib.hid hL
  have H := Lib.hid h
  have HRD := Lib.hid hr
  have HV := Lib.hid hv
  have HY := Lib.hid hy
  have hal : Below w.heap.size w (w.alloc (.cells #[.int .i64 1, .int .i64 k, .int .i64 n, .slice ao L ac] 30)) := (Below.refl _ _).alloc (Nat.le_refl _) _
  have hrow := heap_alloc_new w (.cells #[.int .i64 1, .int .i64 k, .int .i64 n, .slice ao L ac] 30)
  obtain ⟨w0, hw0⟩ : ∃ w0, w0 = w.alloc (.cells #[.int .i64 1, .int .i64 k, .int .i64 n, .slice ao L ac] 30) := ⟨_, rfl⟩
  rw [← hw0] at hal hrow
  have HAL := Lib.hid hal
  have HROW := Lib.hid hrow
  have HW0 := Lib.hid hw0
  have H0 := Lib.hid (h.next hal)
  have hel : g < w.heap.size := h.lt
  have e0 : w0.cell? ⟨w.heap.size, 0, none⟩ = some (.int .i64 1) := cell_of_row _ _ _ _ _ _ hrow
  have e1 : w0.cell? ⟨w.heap.size, 1, none⟩ = some (.int .i64 k) := cell_of_row _ _ _ _ _ _ hrow
  have e2 : w0.cell? ⟨w.heap.size, 2, none⟩ = some (.int .i64 n) := cell_of_row _ _ _ _ _ _ hrow
  have e3 : w0.cell? ⟨w.heap.size, 3, none⟩ = some (.slice ao L ac) := cell_of_row _ _ _ _ _ _ hrow
  have HR := Lib.hid (show R = ([], 1, W) from by rw [hR, Wi.Wm.happen1, at_far h0 h1, ← at_far (W := W) h0 h1]; first | (unfold Wi.Cn.come; rw [if_pos (by rw [at_far h0 h1]; decide), Wi.Wm.upd_at]) | (unfold Wi.Cn.fin; rw [if_pos (by rw [at_far h0 h1]; decide), Wi.Wm.upd_at]))
  have SC := Lib.hid (rstate_n H0.out h0 h1)
  have KN := Lib.hid (known_n h0 h1 w0)
  clear hR h0 h1
  clear h hr hv hy hal hrow hw0 hL hel
  go_enter Try.func21, Try.ntmps21
  go_wp2_with fail
  rw [← HW0.out]
  refine (SC.out).mono ?_
  rintro e w1 ⟨rfl, hw⟩
  obtain rfl := hw
  go_wp2_with fail
  refine KN.out.mono ?_
  rintro e w2 ⟨rfl, hw⟩
  obtain rfl := hw
  go_wp2
  go_ret2
  rw [HR.out]
  exact hapS_no H.out HAL.out


theorem rhap_end_n (h : RW w B g F W) {k : Int} (h0 : k ≠ 0) (h1 : k ≠ 1) (n : Int) (v : Value) (ys : List UInt8) (hr : Rd w v (ys.map bv)) (hy : ys.length ≤ maxLen) (hv : 0 < ys.length → ∀ b, v.ownBlock = some b → ¬ F b) :
    Calls Try.prog 21 #[.pointer (some ⟨g, 0, none⟩), .agg #[.int .i64 3, .int .i64 k, .int .i64 n, v]] w (HapS w B g F (W.happen 3 k n ys)) := by
  obtain ⟨ao, ac, rfl, _⟩ := hr.form
  obtain ⟨R, hR⟩ : ∃ R, R = W.happen 3 k n ys := ⟨_, rfl⟩
  rw [← hR]
  obtain ⟨L, hL⟩ : ∃ L, L = ys.length := ⟨_, rfl⟩
  rw [← hL] at hr ⊢
  have HL := Lib.hid hL
  have H := Lib.hid h
  have HRD := Lib.hid hr
  have HV := Lib.hid hv
  have HY := Lib.hid hy
  have hal : Below w.heap.size w (w.alloc (.cells #[.int .i64 3, .int .i64 k, .int .i64 n, .slice ao L ac] 30)) := (Below.refl _ _).alloc (Nat.le_refl _) _
  have hrow := heap_alloc_new w (.cells #[.int .i64 3, .int .i64 k, .int .i64 n, .slice ao L ac] 30)
  obtain ⟨w0, hw0⟩ : ∃ w0, w0 = w.alloc (.cells #[.int .i64 3, .int .i64 k, .int .i64 n, .slice ao L ac] 30) := ⟨_, rfl⟩
  rw [← hw0] at hal hrow
  have HAL := Lib.hid hal
  have HROW := Lib.hid hrow
  have HW0 := Lib.hid hw0
  have H0 := Lib.hid (h.next hal)
  have hel : g < w.heap.size := h.lt
  have e0 : w0.cell? ⟨w.heap.size, 0, none⟩ = some (.int .i64 3) := cell_of_row _ _ _ _ _ _ hrow
  have e1 : w0.cell? ⟨w.heap.size, 1, none⟩ = some (.int .i64 k) := cell_of_row _ _ _ _ _ _ hrow
  have e2 : w0.cell? ⟨w.heap.size, 2, none⟩ = some (.int .i64 n) := cell_of_row _ _ _ _ _ _ hrow
  have e3 : w0.cell? ⟨w.heap.size, 3, none⟩ = some (.slice ao L ac) := cell_of_row _ _ _ _ _ _ hrow
  have HR := Lib.hid (show R = ([], 1, W) from by rw [hR, Wi.Wm.happen3, at_far h0 h1, ← at_far (W := W) h0 h1]; first | (unfold Wi.Cn.come; rw [if_pos (by rw [at_far h0 h1]; decide), Wi.Wm.upd_at]) | (unfold Wi.Cn.fin; rw [if_pos (by rw [at_far h0 h1]; decide), Wi.Wm.upd_at]))
  have SC := Lib.hid (rstate_n H0.out h0 h1)
  have KN := Lib.hid (known_n h0 h1 w0)
  clear hR h0 h1
  clear h hr hv hy hal hrow hw0 hL hel
  go_enter Try.func21, Try.ntmps21
  go_wp2_with fail
  rw [← HW0.out]
  refine (SC.out).mono ?_
  rintro e w1 ⟨rfl, hw⟩
  obtain rfl := hw
  go_wp2_with fail
  refine KN.out.mono ?_
  rintro e w2 ⟨rfl, hw⟩
  obtain rfl := hw
  go_wp2
  go_ret2
  rw [HR.out]
  exact hapS_no H.out HAL.out


theorem rhap_reset_n (h : RW w B g F W) {k : Int} (h0 : k ≠ 0) (h1 : k ≠ 1) (n : Int) (v : Value) (ys : List UInt8) (hr : Rd w v (ys.map bv)) (hy : ys.length ≤ maxLen) (hv : 0 < ys.length → ∀ b, v.ownBlock = some b → ¬ F b) :
    Calls Try.prog 21 #[.pointer (some ⟨g, 0, none⟩), .agg #[.int .i64 4, .int .i64 k, .int .i64 n, v]] w (HapS w B g F (W.happen 4 k n ys)) := by
  obtain ⟨ao, ac, rfl, _⟩ := hr.form
  obtain ⟨R, hR⟩ : ∃ R, R = W.happen 4 k n ys := ⟨_, rfl⟩
  rw [← hR]
  obtain ⟨L, hL⟩ : ∃ L, L = ys.length := ⟨_, rfl⟩
  rw [← hL] at hr ⊢
  have HL := Lib.hid hL
  have H := Lib.hid h
  have HRD := Lib.hid hr
  have HV := Lib.hid hv
  have HY := Lib.hid hy
  have hal : Below w.heap.size w (w.alloc (.cells #[.int .i64 4, .int .i64 k, .int .i64 n, .slice ao L ac] 30)) := (Below.refl _ _).alloc (Nat.le_refl _) _
  have hrow := heap_alloc_new w (.cells #[.int .i64 4, .int .i64 k, .int .i64 n, .slice ao L ac] 30)
  obtain ⟨w0, hw0⟩ : ∃ w0, w0 = w.alloc (.cells #[.int .i64 4, .int .i64 k, .int .i64 n, .slice ao L ac] 30) := ⟨_, rfl⟩
  rw [← hw0] at hal hrow
  have HAL := Lib.hid hal
  have HROW := Lib.hid hrow
  have HW0 := Lib.hid hw0
  have H0 := Lib.hid (h.next hal)
  have hel : g < w.heap.size := h.lt
  have e0 : w0.cell? ⟨w.heap.size, 0, none⟩ = some (.int .i64 4) := cell_of_row _ _ _ _ _ _ hrow
  have e1 : w0.cell? ⟨w.heap.size, 1, none⟩ = some (.int .i64 k) := cell_of_row _ _ _ _ _ _ hrow
  have e2 : w0.cell? ⟨w.heap.size, 2, none⟩ = some (.int .i64 n) := cell_of_row _ _ _ _ _ _ hrow
  have e3 : w0.cell? ⟨w.heap.size, 3, none⟩ = some (.slice ao L ac) := cell_of_row _ _ _ _ _ _ hrow
  have HR := Lib.hid (show R = ([], 1, W) from by rw [hR, Wi.Wm.happen4]; unfold Wi.Cn.rs; rw [if_pos (by rw [at_far h0 h1]; decide), Wi.Wm.upd_at])
  have SC := Lib.hid (rstate_n H0.out h0 h1)
  have OP := ropen_n H0.out h0 h1
  rw [at_far h0 h1] at OP
  have OP := Lib.hid OP
  clear hR h0 h1
  clear h hr hv hy hal hrow hw0 hL hel
  go_enter Try.func21, Try.ntmps21
  go_wp2_with fail
  rw [← HW0.out]
  refine (SC.out).mono ?_
  rintro e w1 ⟨rfl, hw⟩
  obtain rfl := hw
  go_wp2_with fail
  refine OP.out.mono ?_
  rintro e w2 ⟨rfl, hw⟩
  obtain rfl := hw
  go_wp2
  go_ret2
  rw [HR.out]
  exact hapS_no H.out HAL.out


theorem rhap_take_n (h : RW w B g F W) {k : Int} (h0 : k ≠ 0) (h1 : k ≠ 1) (n : Int) (v : Value) (ys : List UInt8) (hr : Rd w v (ys.map bv)) (hy : ys.length ≤ maxLen) (hv : 0 < ys.length → ∀ b, v.ownBlock = some b → ¬ F b) :
    Calls Try.prog 21 #[.pointer (some ⟨g, 0, none⟩), .agg #[.int .i64 2, .int .i64 k, .int .i64 n, v]] w (HapS w B g F (W.happen 2 k n ys)) := by
  obtain ⟨ao, ac, rfl, _⟩ := hr.form
  obtain ⟨R, hR⟩ : ∃ R, R = W.happen 2 k n ys := ⟨_, rfl⟩
  rw [← hR]
  obtain ⟨L, hL⟩ : ∃ L, L = ys.length := ⟨_, rfl⟩
  rw [← hL] at hr ⊢
  have HL := Lib.hid hL
  have H := Lib.hid h
  have HRD := Lib.hid hr
  have HV := Lib.hid hv
  have HY := Lib.hid hy
  have hal : Below w.heap.size w (w.alloc (.cells #[.int .i64 2, .int .i64 k, .int .i64 n, .slice ao L ac] 30)) := (Below.refl _ _).alloc (Nat.le_refl _) _
  have hrow := heap_alloc_new w (.cells #[.int .i64 2, .int .i64 k, .int .i64 n, .slice ao L ac] 30)
  obtain ⟨w0, hw0⟩ : ∃ w0, w0 = w.alloc (.cells #[.int .i64 2, .int .i64 k, .int .i64 n, .slice ao L ac] 30) := ⟨_, rfl⟩
  rw [← hw0] at hal hrow
  have HAL := Lib.hid hal
  have HROW := Lib.hid hrow
  have HW0 := Lib.hid hw0
  have H0 := Lib.hid (h.next hal)
  have hel : g < w.heap.size := h.lt
  have e0 : w0.cell? ⟨w.heap.size, 0, none⟩ = some (.int .i64 2) := cell_of_row _ _ _ _ _ _ hrow
  have e1 : w0.cell? ⟨w.heap.size, 1, none⟩ = some (.int .i64 k) := cell_of_row _ _ _ _ _ _ hrow
  have e2 : w0.cell? ⟨w.heap.size, 2, none⟩ = some (.int .i64 n) := cell_of_row _ _ _ _ _ _ hrow
  have e3 : w0.cell? ⟨w.heap.size, 3, none⟩ = some (.slice ao L ac) := cell_of_row _ _ _ _ _ _ hrow
  have HR := Lib.hid (show R = ([], 1, W) from by rw [hR, Wi.Wm.happen2]; unfold Wi.Cn.tk; rw [if_pos (.inr (by rw [at_far h0 h1]; rfl)), Wi.Wm.upd_at])
  have SC := Lib.hid (rstate_n H0.out h0 h1)
  have WT := rwaits_n H0.out h0 h1
  rw [at_far h0 h1] at WT
  have WT := Lib.hid WT
  clear hR h0 h1
  clear h hr hv hy hal hrow hw0 hL hel
  by_cases hn : n < 1
  · go_enter Try.func21, Try.ntmps21
    go_wp2_with fail
    rw [← HW0.out]
    refine (SC.out).mono ?_
    rintro e w1 ⟨rfl, hw⟩
    obtain rfl := hw
    go_wp2_with fail
    refine WT.out.mono ?_
    rintro e w2 ⟨rfl, hb2⟩
    have hrow2 := (hb2.block _ (Array.getElem?_eq_some_iff.1 HROW.out).1).trans HROW.out
    have a2 : w2.cell? ⟨w.heap.size, 2, none⟩ = some (.int .i64 n) := cell_of_row _ _ _ _ _ _ hrow2
    have B2 := Lib.hid hb2
    clear hb2 hrow2
    go_wp2
    go_ret2
    rw [HR.out]
    exact hapS_no H.out (HAL.out.trans (B2.out.mono HAL.out.size))
  · have hn := eq_false hn
    go_enter Try.func21, Try.ntmps21
    go_wp2_with fail
    rw [← HW0.out]
    refine (SC.out).mono ?_
    rintro e w1 ⟨rfl, hw⟩
    obtain rfl := hw
    go_wp2_with fail
    refine WT.out.mono ?_
    rintro e w2 ⟨rfl, hb2⟩
    have hrow2 := (hb2.block _ (Array.getElem?_eq_some_iff.1 HROW.out).1).trans HROW.out
    have a2 : w2.cell? ⟨w.heap.size, 2, none⟩ = some (.int .i64 n) := cell_of_row _ _ _ _ _ _ hrow2
    have B2 := Lib.hid hb2
    clear hb2 hrow2
    go_wp2
    go_ret2
    rw [HR.out]
    exact hapS_no H.out (HAL.out.trans (B2.out.mono HAL.out.size))

theorem rhap_connect_n (h : RW w B g F W) {k : Int} (h0 : k ≠ 0) (h1 : k ≠ 1) (n : Int) (v : Value) (ys : List UInt8) (hr : Rd w v (ys.map bv)) (hy : ys.length ≤ maxLen) (hv : 0 < ys.length → ∀ b, v.ownBlock = some b → ¬ F b) :
    Calls Try.prog 21 #[.pointer (some ⟨g, 0, none⟩), .agg #[.int .i64 5, .int .i64 k, .int .i64 n, v]] w (HapS w B g F (W.happen 5 k n ys)) := by
  obtain ⟨ao, ac, rfl, _⟩ := hr.form
  obtain ⟨R, hR⟩ : ∃ R, R = W.happen 5 k n ys := ⟨_, rfl⟩
  rw [← hR]
  obtain ⟨L, hL⟩ : ∃ L, L = ys.length := ⟨_, rfl⟩
  rw [← hL] at hr ⊢
  have HL := Lib.hid hL
  have H := Lib.hid h
  have HRD := Lib.hid hr
  have HV := Lib.hid hv
  have HY := Lib.hid hy
  have hal : Below w.heap.size w (w.alloc (.cells #[.int .i64 5, .int .i64 k, .int .i64 n, .slice ao L ac] 30)) := (Below.refl _ _).alloc (Nat.le_refl _) _
  have hrow := heap_alloc_new w (.cells #[.int .i64 5, .int .i64 k, .int .i64 n, .slice ao L ac] 30)
  obtain ⟨w0, hw0⟩ : ∃ w0, w0 = w.alloc (.cells #[.int .i64 5, .int .i64 k, .int .i64 n, .slice ao L ac] 30) := ⟨_, rfl⟩
  rw [← hw0] at hal hrow
  have HAL := Lib.hid hal
  have HROW := Lib.hid hrow
  have HW0 := Lib.hid hw0
  have H0 := Lib.hid (h.next hal)
  have hel : g < w.heap.size := h.lt
  have e0 : w0.cell? ⟨w.heap.size, 0, none⟩ = some (.int .i64 5) := cell_of_row _ _ _ _ _ _ hrow
  have e1 : w0.cell? ⟨w.heap.size, 1, none⟩ = some (.int .i64 k) := cell_of_row _ _ _ _ _ _ hrow
  have e2 : w0.cell? ⟨w.heap.size, 2, none⟩ = some (.int .i64 n) := cell_of_row _ _ _ _ _ _ hrow
  have e3 : w0.cell? ⟨w.heap.size, 3, none⟩ = some (.slice ao L ac) := cell_of_row _ _ _ _ _ _ hrow
  have HR := Lib.hid (show R = ([], 1, W) from by rw [hR]; unfold Wi.Wm.happen; rw [if_neg (by decide), if_neg (by decide), if_neg (by decide), if_neg (by decide), if_pos rfl, if_pos (.inl h1)])
  have SC := Lib.hid (rstate_n H0.out h0 h1)
  have i1 : (k != 1) = true := by simpa using h1
  have i2 : (k == 1) = false := by simpa using h1
  have i3 : (k = 1) = False := eq_false h1
  clear hR h0 h1
  clear h hr hv hy hal hrow hw0 hL hel
  go_enter Try.func21, Try.ntmps21
  go_wp2_with fail
  rw [← HW0.out]
  refine (SC.out).mono ?_
  rintro e w1 ⟨rfl, hw⟩
  obtain rfl := hw
  go_wp2
  go_ret2
  rw [HR.out]
  exact hapS_no H.out HAL.out


theorem rhap_tick (h : RW w B g F W) (k : Int) (n : Int) (v : Value) (ys : List UInt8) (hr : Rd w v (ys.map bv)) (hy : ys.length ≤ maxLen) (hv : 0 < ys.length → ∀ b, v.ownBlock = some b → ¬ F b) :
    Calls Try.prog 21 #[.pointer (some ⟨g, 0, none⟩), .agg #[.int .i64 6, .int .i64 k, .int .i64 n, v]] w (HapS w B g F (W.happen 6 k n ys)) := by
  obtain ⟨ao, ac, rfl, _⟩ := hr.form
  obtain ⟨R, hR⟩ : ∃ R, R = W.happen 6 k n ys := ⟨_, rfl⟩
  rw [← hR]
  obtain ⟨L, hL⟩ : ∃ L, L = ys.length := ⟨_, rfl⟩
  rw [← hL] at hr ⊢
  have HL := Lib.hid hL
  have H := Lib.hid h
  have HRD := Lib.hid hr
  have HV := Lib.hid hv
  have HY := Lib.hid hy
  have hal : Below w.heap.size w (w.alloc (.cells #[.int .i64 6, .int .i64 k, .int .i64 n, .slice ao L ac] 30)) := (Below.refl _ _).alloc (Nat.le_refl _) _
  have hrow := heap_alloc_new w (.cells #[.int .i64 6, .int .i64 k, .int .i64 n, .slice ao L ac] 30)
  obtain ⟨w0, hw0⟩ : ∃ w0, w0 = w.alloc (.cells #[.int .i64 6, .int .i64 k, .int .i64 n, .slice ao L ac] 30) := ⟨_, rfl⟩
  rw [← hw0] at hal hrow
  have HAL := Lib.hid hal
  have HROW := Lib.hid hrow
  have HW0 := Lib.hid hw0
  have H0 := Lib.hid (h.next hal)
  have hel : g < w.heap.size := h.lt
  have e0 : w0.cell? ⟨w.heap.size, 0, none⟩ = some (.int .i64 6) := cell_of_row _ _ _ _ _ _ hrow
  have e1 : w0.cell? ⟨w.heap.size, 1, none⟩ = some (.int .i64 k) := cell_of_row _ _ _ _ _ _ hrow
  have e2 : w0.cell? ⟨w.heap.size, 2, none⟩ = some (.int .i64 n) := cell_of_row _ _ _ _ _ _ hrow
  have e3 : w0.cell? ⟨w.heap.size, 3, none⟩ = some (.slice ao L ac) := cell_of_row _ _ _ _ _ _ hrow
  have SC := Lib.hid (rstate_any H0.out k)
  by_cases h1 : 1 ≤ n
  · by_cases h2 : n ≤ 1073741824
    · have HR := Lib.hid (show R = ([], 0, W) from by rw [hR, Wi.Wm.happen6, if_pos (by omega)])
      clear hR
      clear h hr hv hy hal hrow hw0 hL hel
      go_enter Try.func21, Try.ntmps21
      go_wp2_with fail
      rw [← HW0.out]
      refine (SC.out).mono ?_
      rintro e w1 ⟨rfl, hw⟩
      obtain rfl := hw
      go_wp2
      go_ret2
      rw [HR.out]
      exact ⟨none, 0, rfl, rd_none, Rs.below H.out HAL.out⟩
    · have h2 : 1073741824 < n := by omega
      have HR := Lib.hid (show R = ([], 1, W) from by rw [hR, Wi.Wm.happen6, if_neg (by omega)])
      clear hR
      clear h hr hv hy hal hrow hw0 hL hel
      go_enter Try.func21, Try.ntmps21
      go_wp2_with fail
      rw [← HW0.out]
      refine (SC.out).mono ?_
      rintro e w1 ⟨rfl, hw⟩
      obtain rfl := hw
      go_wp2
      go_ret2
      rw [HR.out]
      exact hapS_no H.out HAL.out
  · have h1 : n < 1 := by omega
    have HR := Lib.hid (show R = ([], 1, W) from by rw [hR, Wi.Wm.happen6, if_neg (by omega)])
    clear hR
    clear h hr hv hy hal hrow hw0 hL hel
    go_enter Try.func21, Try.ntmps21
    go_wp2_with fail
    rw [← HW0.out]
    refine (SC.out).mono ?_
    rintro e w1 ⟨rfl, hw⟩
    obtain rfl := hw
    go_wp2
    go_ret2
    rw [HR.out]
    exact hapS_no H.out HAL.out

theorem rhap_none (h : RW w B g F W) (k : Int) {kd : Int} (h1 : kd ≠ 1) (h2 : kd ≠ 2) (h3 : kd ≠ 3) (h4 : kd ≠ 4) (h5 : kd ≠ 5) (h6 : kd ≠ 6) (n : Int) (v : Value) (ys : List UInt8) (hr : Rd w v (ys.map bv)) (hy : ys.length ≤ maxLen) (hv : 0 < ys.length → ∀ b, v.ownBlock = some b → ¬ F b) :
    Calls Try.prog 21 #[.pointer (some ⟨g, 0, none⟩), .agg #[.int .i64 kd, .int .i64 k, .int .i64 n, v]] w (HapS w B g F (W.happen kd k n ys)) := by
  obtain ⟨ao, ac, rfl, _⟩ := hr.form
  obtain ⟨R, hR⟩ : ∃ R, R = W.happen kd k n ys := ⟨_, rfl⟩
  rw [← hR]
  obtain ⟨L, hL⟩ : ∃ L, L = ys.length := ⟨_, rfl⟩
  rw [← hL] at hr ⊢
  have HL := Lib.hid hL
  have H := Lib.hid h
  have HRD := Lib.hid hr
  have HV := Lib.hid hv
  have HY := Lib.hid hy
  have hal : Below w.heap.size w (w.alloc (.cells #[.int .i64 kd, .int .i64 k, .int .i64 n, .slice ao L ac] 30)) := (Below.refl _ _).alloc (Nat.le_refl _) _
  have hrow := heap_alloc_new w (.cells #[.int .i64 kd, .int .i64 k, .int .i64 n, .slice ao L ac] 30)
  obtain ⟨w0, hw0⟩ : ∃ w0, w0 = w.alloc (.cells #[.int .i64 kd, .int .i64 k, .int .i64 n, .slice ao L ac] 30) := ⟨_, rfl⟩
  rw [← hw0] at hal hrow
  have HAL := Lib.hid hal
  have HROW := Lib.hid hrow
  have HW0 := Lib.hid hw0
  have H0 := Lib.hid (h.next hal)
  have hel : g < w.heap.size := h.lt
  have e0 : w0.cell? ⟨w.heap.size, 0, none⟩ = some (.int .i64 kd) := cell_of_row _ _ _ _ _ _ hrow
  have e1 : w0.cell? ⟨w.heap.size, 1, none⟩ = some (.int .i64 k) := cell_of_row _ _ _ _ _ _ hrow
  have e2 : w0.cell? ⟨w.heap.size, 2, none⟩ = some (.int .i64 n) := cell_of_row _ _ _ _ _ _ hrow
  have e3 : w0.cell? ⟨w.heap.size, 3, none⟩ = some (.slice ao L ac) := cell_of_row _ _ _ _ _ _ hrow
  have HR := Lib.hid (show R = ([], 1, W) from by rw [hR, Wi.Wm.happen_none W k n ys h1 h2 h3 h4 h5 h6])
  have SC := Lib.hid (rstate_any H0.out k)
  have i1 := eq_false h1
  have j1 : (kd == 1) = false := by simpa using h1
  have i2 := eq_false h2
  have j2 : (kd == 2) = false := by simpa using h2
  have i3 := eq_false h3
  have j3 : (kd == 3) = false := by simpa using h3
  have i4 := eq_false h4
  have j4 : (kd == 4) = false := by simpa using h4
  have i5 := eq_false h5
  have j5 : (kd == 5) = false := by simpa using h5
  have i6 := eq_false h6
  have j6 : (kd == 6) = false := by simpa using h6
  clear h1 h2 h3 h4 h5 h6 hR
  clear h hr hv hy hal hrow hw0 hL hel
  go_enter Try.func21, Try.ntmps21
  go_wp2_with fail
  rw [← HW0.out]
  refine (SC.out).mono ?_
  rintro e w1 ⟨rfl, hw⟩
  obtain rfl := hw
  go_wp2
  go_ret2
  rw [HR.out]
  exact hapS_no H.out HAL.out


/-- The reference's 'Happen'. -/
theorem rhappen_any (h : RW w B g F W) (hok : W.Ok) (kd k n : Int) (v : Value) (ys : List UInt8) (hr : Rd w v (ys.map bv)) (hy : ys.length ≤ maxLen) (hv : 0 < ys.length → ∀ b, v.ownBlock = some b → ¬ F b) :
    Calls Try.prog 21 #[.pointer (some ⟨g, 0, none⟩), .agg #[.int .i64 kd, .int .i64 k, .int .i64 n, v]] w (HapS w B g F (W.happen kd k n ys)) := by
  by_cases h6 : kd = 6
  · subst h6; exact rhap_tick h k n v ys hr hy hv
  by_cases h1 : kd = 1
  · subst h1
    by_cases k0 : k = 0
    · subst k0; exact rhap_come_0 h n v ys hr hy hv (hok.at 0).got
    by_cases k1 : k = 1
    · subst k1; exact rhap_come_1 h n v ys hr hy hv (hok.at 1).got
    exact rhap_come_n h k0 k1 n v ys hr hy hv
  by_cases h2 : kd = 2
  · subst h2
    by_cases k0 : k = 0
    · subst k0; exact rhap_take_0 h n v ys hr hy hv
    by_cases k1 : k = 1
    · subst k1; exact rhap_take_1 h n v ys hr hy hv
    exact rhap_take_n h k0 k1 n v ys hr hy hv
  by_cases h3 : kd = 3
  · subst h3
    by_cases k0 : k = 0
    · subst k0; exact rhap_end_0 h n v ys hr hy hv
    by_cases k1 : k = 1
    · subst k1; exact rhap_end_1 h n v ys hr hy hv
    exact rhap_end_n h k0 k1 n v ys hr hy hv
  by_cases h4 : kd = 4
  · subst h4
    by_cases k0 : k = 0
    · subst k0; exact rhap_reset_0 h n v ys hr hy hv
    by_cases k1 : k = 1
    · subst k1; exact rhap_reset_1 h n v ys hr hy hv
    exact rhap_reset_n h k0 k1 n v ys hr hy hv
  by_cases h5 : kd = 5
  · subst h5
    by_cases k0 : k = 0
    · subst k0; exact rhap_connect_0 h n v ys hr hy hv
    by_cases k1 : k = 1
    · subst k1; exact rhap_connect_1 h n v ys hr hy hv hok
    exact rhap_connect_n h k0 k1 n v ys hr hy hv
  exact rhap_none h k h1 h2 h3 h4 h5 h6 n v ys hr hy hv
end
end Go.Proofs.Ytneifmnlailipaa
