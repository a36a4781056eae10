/- The wire: Clone walked. (Laid by wip/tools/gen_wclone.py.) -/
import Derived.Test.YtneifmnlailipaaWireSent
namespace Go.Proofs.Ytneifmnlailipaa
open Go.RowKit

/-- Eight cells stored, one behind the other. -/
theorem put8 {w : World} {g o : Nat} {D : Array Value} {T : TypeId} (h : w.heap[g]? = some (.cells D T (0, 0))) (hs : o + 8 ≤ D.size) (v0 v1 v2 v3 v4 v5 v6 v7 : Value) :
    ∃ D', ((((((((w.setCell ⟨g, o, none⟩ v0).setCell ⟨g, o + 1, none⟩ v1).setCell ⟨g, o + 2, none⟩ v2).setCell ⟨g, o + 3, none⟩ v3).setCell ⟨g, o + 4, none⟩ v4).setCell ⟨g, o + 5, none⟩ v5).setCell ⟨g, o + 6, none⟩ v6).setCell ⟨g, o + 7, none⟩ v7).heap[g]? = some (.cells D' T (0, 0)) ∧ D'.size = D.size ∧ D'[o]? = some v0 ∧ D'[o + 1]? = some v1 ∧ D'[o + 2]? = some v2 ∧ D'[o + 3]? = some v3 ∧ D'[o + 4]? = some v4 ∧ D'[o + 5]? = some v5 ∧ D'[o + 6]? = some v6 ∧ D'[o + 7]? = some v7 ∧ ∀ j, j < o ∨ o + 8 ≤ j → D'[j]? = D[j]? := by
  refine ⟨((((((((D.setIfInBounds (o) v0).setIfInBounds (o + 1) v1).setIfInBounds (o + 2) v2).setIfInBounds (o + 3) v3).setIfInBounds (o + 4) v4).setIfInBounds (o + 5) v5).setIfInBounds (o + 6) v6).setIfInBounds (o + 7) v7), (setCell_row (setCell_row (setCell_row (setCell_row (setCell_row (setCell_row (setCell_row (setCell_row h)))))))), by simp, ?_, ?_, ?_, ?_, ?_, ?_, ?_, ?_, fun j hj => ?_⟩
  all_goals simp only [Array.getElem?_setIfInBounds, Array.size_setIfInBounds]
  · rw [if_neg (by omega)]; rw [if_neg (by omega)]; rw [if_neg (by omega)]; rw [if_neg (by omega)]; rw [if_neg (by omega)]; rw [if_neg (by omega)]; rw [if_neg (by omega)]; rw [if_pos trivial, if_pos (by omega)]
  · rw [if_neg (by omega)]; rw [if_neg (by omega)]; rw [if_neg (by omega)]; rw [if_neg (by omega)]; rw [if_neg (by omega)]; rw [if_neg (by omega)]; rw [if_pos trivial, if_pos (by omega)]
  · rw [if_neg (by omega)]; rw [if_neg (by omega)]; rw [if_neg (by omega)]; rw [if_neg (by omega)]; rw [if_neg (by omega)]; rw [if_pos trivial, if_pos (by omega)]
  · rw [if_neg (by omega)]; rw [if_neg (by omega)]; rw [if_neg (by omega)]; rw [if_neg (by omega)]; rw [if_pos trivial, if_pos (by omega)]
  · rw [if_neg (by omega)]; rw [if_neg (by omega)]; rw [if_neg (by omega)]; rw [if_pos trivial, if_pos (by omega)]
  · rw [if_neg (by omega)]; rw [if_neg (by omega)]; rw [if_pos trivial, if_pos (by omega)]
  · rw [if_neg (by omega)]; rw [if_pos trivial, if_pos (by omega)]
  · rw [if_pos trivial, if_pos (by omega)]
  · rw [if_neg (by omega)]; rw [if_neg (by omega)]; rw [if_neg (by omega)]; rw [if_neg (by omega)]; rw [if_neg (by omega)]; rw [if_neg (by omega)]; rw [if_neg (by omega)]; rw [if_neg (by omega)]

section
variable {w w' : World} {B g o : Nat} {F : Nat → Prop} {D : Array Value} {T : TypeId} {c : Wi.Cn} {most : Int} {zo xo yo : Option Addr} {X O Y zc xc yc : Nat}
/-- A connection that was made of another one's. -/
theorem ca_made (hr : w.heap[g]? = some (.cells D T (0, 0))) (hg : B ≤ g) (e0 : D[o]? = some (.int .i64 (c.st : Int))) (e1 : D[o + 1]? = some (.bool c.dn)) (e2 : D[o + 2]? = some (.int .i64 (c.got : Int))) (e3 : D[o + 3]? = some (.int .i64 most)) (e4 : D[o + 4]? = some (.slice zo X zc)) (e5 : D[o + 5]? = some (.int .i64 (c.t : Int))) (e6 : D[o + 6]? = some (.slice xo O xc)) (e7 : D[o + 7]? = some (.slice yo Y yc))
    (O1 : Own w B (.slice zo X zc) c.xs) (O2 : Own w B (.slice xo O xc) c.old) (O3 : Own w B (.slice yo Y yc) c.wrote) (d1 : Dj (.slice zo X zc) (.slice xo O xc)) (d2 : Dj (.slice zo X zc) (.slice yo Y yc)) (d3 : Dj (.slice xo O xc) (.slice yo Y yc))
    (n1 : (Value.slice zo X zc).ownBlock ≠ some g) (n2 : (Value.slice xo O xc).ownBlock ≠ some g) (n3 : (Value.slice yo Y yc).ownBlock ≠ some g) (ht : c.t ≤ c.xs.length) (hs : c.xs.length ≤ 16777216) (hl : (c.xs.length : Int) ≤ most) (hm : most < 9223372036854775808) (m4 : c.live = true ∨ c.st = 1 → most = 4000) :
    CA w B g o (fun k => (Value.slice zo X zc).ownBlock = some k ∨ (Value.slice xo O xc).ownBlock = some k ∨ (Value.slice yo Y yc).ownBlock = some k) T c := by
  refine ⟨D, _, _, _, most, ⟨hr, e3, e4, e5, O1.r, hg, n1, O1.e, ht, hs, hl, hm⟩, e0, e1, e2, e6, e7, O2, O3, n2, n3, d1, d2, d3, fun k h => .inl h, fun k h => .inr (.inl h), fun k h => .inr (.inr h), fun k hk => ?_, m4⟩
  rcases hk with hk | hk | hk
  · exact ⟨(O1.r.lt k hk).1, (O1.r.lt k hk).2, fun e => n1 (by rw [hk, e])⟩
  · exact ⟨(O2.r.lt k hk).1, (O2.r.lt k hk).2, fun e => n2 (by rw [hk, e])⟩
  · exact ⟨(O3.r.lt k hk).1, (O3.r.lt k hk).2, fun e => n3 (by rw [hk, e])⟩
theorem Own.put8 {v : Value} {xs : List UInt8} (h : Own w B v xs) (hn : v.ownBlock ≠ some g) (v0 v1 v2 v3 v4 v5 v6 v7 : Value) : Own ((((((((w.setCell ⟨g, o, none⟩ v0).setCell ⟨g, o + 1, none⟩ v1).setCell ⟨g, o + 2, none⟩ v2).setCell ⟨g, o + 3, none⟩ v3).setCell ⟨g, o + 4, none⟩ v4).setCell ⟨g, o + 5, none⟩ v5).setCell ⟨g, o + 6, none⟩ v6).setCell ⟨g, o + 7, none⟩ v7) B v xs :=
  ⟨own_set (own_set (own_set (own_set (own_set (own_set (own_set (own_set h.r hn) hn) hn) hn) hn) hn) hn) hn, h.e⟩
theorem tn_set (w : World) (g i : Nat) (v : Value) : Tn (fun k => k = g) w (w.setCell ⟨g, i, none⟩ v) := ⟨rfl, rfl, rfl, by simp [World.setCell], fun k _ h1 => Below.heap_setCell _ _ _ _ (fun e => h1 e)⟩
theorem tn_and {a b c : World} {g : Nat} (h : Tn (fun k => k = g) a b) (k : Tn (fun k => k = g) b c) : Tn (fun k => k = g) a c := h.trans (fun _ h => .inl h) k
theorem put8_tn (w : World) (g o : Nat) (v0 v1 v2 v3 v4 v5 v6 v7 : Value) : Tn (fun k => k = g) w ((((((((w.setCell ⟨g, o, none⟩ v0).setCell ⟨g, o + 1, none⟩ v1).setCell ⟨g, o + 2, none⟩ v2).setCell ⟨g, o + 3, none⟩ v3).setCell ⟨g, o + 4, none⟩ v4).setCell ⟨g, o + 5, none⟩ v5).setCell ⟨g, o + 6, none⟩ v6).setCell ⟨g, o + 7, none⟩ v7) :=
  tn_and (tn_and (tn_and (tn_and (tn_and (tn_and (tn_and (tn_set _ _ _ _) (tn_set _ _ _ _)) (tn_set _ _ _ _)) (tn_set _ _ _ _)) (tn_set _ _ _ _)) (tn_set _ _ _ _)) (tn_set _ _ _ _)) (tn_set _ _ _ _)
end

/-- Two connections of nobody. -/
def Z88 : Array Value := #[.int .i64 0, .bool false, .int .i64 0, .int .i64 0, .slice none 0 0, .int .i64 0, .slice none 0 0, .slice none 0 0, .int .i64 0, .bool false, .int .i64 0, .int .i64 0, .slice none 0 0, .int .i64 0, .slice none 0 0, .slice none 0 0]

/-- Where a wire is cloned: as far as it is made. -/
structure KC (w : World) (W : Wi.Wm) (gc : Nat) (k : Nat) (wr : World) : Prop where
  b : Below w.heap.size w wr
  hg : w.heap.size ≤ gc
  d : ∃ D FA FB, wr.heap[gc]? = some (.cells D 55 (0, 0)) ∧ D.size = 16 ∧ (1 ≤ k → CA wr w.heap.size gc 0 FA 55 W.a.norm) ∧ (2 ≤ k → CA wr w.heap.size gc 8 FB 55 W.b.norm) ∧ (∀ j, FA j → ¬ FB j)
    ∧ (k < 2 → ∀ j, ¬ FB j) ∧ (∀ j, FA j → j < wr.heap.size)
theorem KC.next {w wr w' : World} {W : Wi.Wm} {gc k : Nat} (h : KC w W gc k wr) (hb : Below wr.heap.size wr w') : KC w W gc k w' := by
  obtain ⟨D, FA, FB, h1, h2, h3, h4, h5, h6, h7⟩ := h.d
  exact ⟨h.b.trans (hb.mono h.b.size), h.hg, D, FA, FB, (hb.block _ (Array.getElem?_eq_some_iff.1 h1).1).trans h1, h2, fun e => (h3 e).next hb, fun e => (h4 e).next hb, h5, h6, fun j hj => Nat.lt_of_lt_of_le (h7 j hj) hb.size⟩
theorem KC.cells {w wr : World} {W : Wi.Wm} {gc k : Nat} (h : KC w W gc k wr) (i : Nat) (hi : i < 16) : ∃ v, wr.cell? ⟨gc, i, none⟩ = some v := by
  obtain ⟨D, FA, FB, h1, h2, _⟩ := h.d
  exact ⟨D[i]'(by rw [h2]; exact hi), cell_in h1 (by simp)⟩
theorem KC.fr {w wr : World} {W : Wi.Wm} {gc k : Nat} (h : KC w W gc k wr) (i : Nat) : wr.frozen? ⟨gc, i, none⟩ = false := by
  obtain ⟨D, FA, FB, h1, _⟩ := h.d
  exact frozen_of_row _ _ _ _ _ h1
section
variable {w wr w5 : World} {W : Wi.Wm} {gc : Nat} {most : Int} {zo xo yo : Option Addr} {zc xc yc : Nat}

theorem KC.one (h : KC w W gc 0 wr) (hb : Below wr.heap.size wr w5) (O1 : Own w5 wr.heap.size (.slice zo W.a.norm.xs.length zc) W.a.norm.xs) (O2 : Own w5 wr.heap.size (.slice xo W.a.norm.old.length xc) W.a.norm.old) (O3 : Own w5 wr.heap.size (.slice yo W.a.norm.wrote.length yc) W.a.norm.wrote)
    (d1 : Dj (.slice zo W.a.norm.xs.length zc) (.slice xo W.a.norm.old.length xc)) (d2 : Dj (.slice zo W.a.norm.xs.length zc) (.slice yo W.a.norm.wrote.length yc)) (d3 : Dj (.slice xo W.a.norm.old.length xc) (.slice yo W.a.norm.wrote.length yc))
    (ht : W.a.norm.t ≤ W.a.norm.xs.length) (hs : W.a.norm.xs.length ≤ 16777216) (hl : (W.a.norm.xs.length : Int) ≤ most) (hm : most < 9223372036854775808) (m4 : W.a.norm.live = true ∨ W.a.norm.st = 1 → most = 4000) :
    KC w W gc 1 ((((((((w5.setCell ⟨gc, 0, none⟩ (.int .i64 (W.a.norm.st : Int))).setCell ⟨gc, 1, none⟩ (.bool W.a.norm.dn)).setCell ⟨gc, 2, none⟩ (.int .i64 (W.a.norm.got : Int))).setCell ⟨gc, 3, none⟩ (.int .i64 most)).setCell ⟨gc, 4, none⟩ (.slice zo W.a.norm.xs.length zc)).setCell ⟨gc, 5, none⟩ (.int .i64 (W.a.norm.t : Int))).setCell ⟨gc, 6, none⟩ (.slice xo W.a.norm.old.length xc)).setCell ⟨gc, 7, none⟩ (.slice yo W.a.norm.wrote.length yc)) := by
  have h5 := h.next hb
  have hwr := h.b.size
  have hgl : gc < wr.heap.size := by
    obtain ⟨D, FA, FB, h1, _⟩ := h.d
    exact (Array.getElem?_eq_some_iff.1 h1).1
  obtain ⟨D, FA, FB, h1, h2, h3, h4, h6, h7, h8⟩ := h5.d
  obtain ⟨_, FA0, FB0, _, _, _, _, _, _, _⟩ := h.d
  obtain ⟨D2, k1, k2, a0, a1, a2, a3, a4, a5, a6, a7, kf⟩ := put8 (o := 0) h1 (by omega) (.int .i64 (W.a.norm.st : Int)) (.bool W.a.norm.dn) (.int .i64 (W.a.norm.got : Int)) (.int .i64 most) (.slice zo W.a.norm.xs.length zc) (.int .i64 (W.a.norm.t : Int)) (.slice xo W.a.norm.old.length xc) (.slice yo W.a.norm.wrote.length yc)
  have n1 : (Value.slice zo W.a.norm.xs.length zc).ownBlock ≠ some gc := fun e => by have := (O1.r.lt _ e).1; omega
  have n2 : (Value.slice xo W.a.norm.old.length xc).ownBlock ≠ some gc := fun e => by have := (O2.r.lt _ e).1; omega
  have n3 : (Value.slice yo W.a.norm.wrote.length yc).ownBlock ≠ some gc := fun e => by have := (O3.r.lt _ e).1; omega
  have lo : ∀ {v : Value} {xs : List UInt8}, Own w5 wr.heap.size v xs → Own w5 w.heap.size v xs := fun ho => ⟨ownsRow_lower ho.r hwr, ho.e⟩
  have hca := ca_made (o := 0) k1 h.hg a0 a1 a2 a3 a4 a5 a6 a7 ((lo O1).put8 (o := 0) n1 _ _ _ _ _ _ _ _) ((lo O2).put8 (o := 0) n2 _ _ _ _ _ _ _ _) ((lo O3).put8 (o := 0) n3 _ _ _ _ _ _ _ _) d1 d2 d3 n1 n2 n3 ht hs hl hm m4
  have ht8 := put8_tn w5 gc 0 (.int .i64 (W.a.norm.st : Int)) (.bool W.a.norm.dn) (.int .i64 (W.a.norm.got : Int)) (.int .i64 most) (.slice zo W.a.norm.xs.length zc) (.int .i64 (W.a.norm.t : Int)) (.slice xo W.a.norm.old.length xc) (.slice yo W.a.norm.wrote.length yc)
  have hnew : ∀ j, ((Value.slice zo W.a.norm.xs.length zc).ownBlock = some j ∨ (Value.slice xo W.a.norm.old.length xc).ownBlock = some j ∨ (Value.slice yo W.a.norm.wrote.length yc).ownBlock = some j) → wr.heap.size ≤ j ∧ j < w5.heap.size := fun j hj => by
    rcases hj with hj | hj | hj
    · exact O1.r.lt j hj
    · exact O2.r.lt j hj
    · exact O3.r.lt j hj
  exact ⟨h5.b.trans (ht8.below (fun k hk => by rw [hk]; exact h.hg) h5.b.size), h.hg, D2, _, fun _ => False, k1, k2.trans h2, fun _ => hca, fun e => by omega, fun _ _ e => e, fun _ _ e => e, fun j hj => by simp [World.setCell]; exact (hnew j hj).2⟩

theorem KC.two (h : KC w W gc 1 wr) (hb : Below wr.heap.size wr w5) (O1 : Own w5 wr.heap.size (.slice zo W.b.norm.xs.length zc) W.b.norm.xs) (O2 : Own w5 wr.heap.size (.slice xo W.b.norm.old.length xc) W.b.norm.old) (O3 : Own w5 wr.heap.size (.slice yo W.b.norm.wrote.length yc) W.b.norm.wrote)
    (d1 : Dj (.slice zo W.b.norm.xs.length zc) (.slice xo W.b.norm.old.length xc)) (d2 : Dj (.slice zo W.b.norm.xs.length zc) (.slice yo W.b.norm.wrote.length yc)) (d3 : Dj (.slice xo W.b.norm.old.length xc) (.slice yo W.b.norm.wrote.length yc))
    (ht : W.b.norm.t ≤ W.b.norm.xs.length) (hs : W.b.norm.xs.length ≤ 16777216) (hl : (W.b.norm.xs.length : Int) ≤ most) (hm : most < 9223372036854775808) (m4 : W.b.norm.live = true ∨ W.b.norm.st = 1 → most = 4000) :
    KC w W gc 2 ((((((((w5.setCell ⟨gc, 8, none⟩ (.int .i64 (W.b.norm.st : Int))).setCell ⟨gc, 9, none⟩ (.bool W.b.norm.dn)).setCell ⟨gc, 10, none⟩ (.int .i64 (W.b.norm.got : Int))).setCell ⟨gc, 11, none⟩ (.int .i64 most)).setCell ⟨gc, 12, none⟩ (.slice zo W.b.norm.xs.length zc)).setCell ⟨gc, 13, none⟩ (.int .i64 (W.b.norm.t : Int))).setCell ⟨gc, 14, none⟩ (.slice xo W.b.norm.old.length xc)).setCell ⟨gc, 15, none⟩ (.slice yo W.b.norm.wrote.length yc)) := by
  have h5 := h.next hb
  have hwr := h.b.size
  have hgl : gc < wr.heap.size := by
    obtain ⟨D, FA, FB, h1, _⟩ := h.d
    exact (Array.getElem?_eq_some_iff.1 h1).1
  obtain ⟨D, FA, FB, q1, h2, q3, q4, q5, q6, q7⟩ := h.d
  have h1 := (hb.block _ hgl).trans q1
  have h3 := (q3 (Nat.le_refl _)).next hb
  obtain ⟨D2, k1, k2, a0, a1, a2, a3, a4, a5, a6, a7, kf⟩ := put8 (o := 8) h1 (by omega) (.int .i64 (W.b.norm.st : Int)) (.bool W.b.norm.dn) (.int .i64 (W.b.norm.got : Int)) (.int .i64 most) (.slice zo W.b.norm.xs.length zc) (.int .i64 (W.b.norm.t : Int)) (.slice xo W.b.norm.old.length xc) (.slice yo W.b.norm.wrote.length yc)
  have n1 : (Value.slice zo W.b.norm.xs.length zc).ownBlock ≠ some gc := fun e => by have := (O1.r.lt _ e).1; omega
  have n2 : (Value.slice xo W.b.norm.old.length xc).ownBlock ≠ some gc := fun e => by have := (O2.r.lt _ e).1; omega
  have n3 : (Value.slice yo W.b.norm.wrote.length yc).ownBlock ≠ some gc := fun e => by have := (O3.r.lt _ e).1; omega
  have lo : ∀ {v : Value} {xs : List UInt8}, Own w5 wr.heap.size v xs → Own w5 w.heap.size v xs := fun ho => ⟨ownsRow_lower ho.r hwr, ho.e⟩
  have hca := ca_made (o := 8) k1 h.hg a0 a1 a2 a3 a4 a5 a6 a7 ((lo O1).put8 (o := 8) n1 _ _ _ _ _ _ _ _) ((lo O2).put8 (o := 8) n2 _ _ _ _ _ _ _ _) ((lo O3).put8 (o := 8) n3 _ _ _ _ _ _ _ _) d1 d2 d3 n1 n2 n3 ht hs hl hm m4
  have ht8 := put8_tn w5 gc 8 (.int .i64 (W.b.norm.st : Int)) (.bool W.b.norm.dn) (.int .i64 (W.b.norm.got : Int)) (.int .i64 most) (.slice zo W.b.norm.xs.length zc) (.int .i64 (W.b.norm.t : Int)) (.slice xo W.b.norm.old.length xc) (.slice yo W.b.norm.wrote.length yc)
  have hnew : ∀ j, ((Value.slice zo W.b.norm.xs.length zc).ownBlock = some j ∨ (Value.slice xo W.b.norm.old.length xc).ownBlock = some j ∨ (Value.slice yo W.b.norm.wrote.length yc).ownBlock = some j) → wr.heap.size ≤ j ∧ j < w5.heap.size := fun j hj => by
    rcases hj with hj | hj | hj
    · exact O1.r.lt j hj
    · exact O2.r.lt j hj
    · exact O3.r.lt j hj
  have hga : Cg gc 8 (fun _ => False) w5 (fun _ => False) ((((((((w5.setCell ⟨gc, 8, none⟩ (.int .i64 (W.b.norm.st : Int))).setCell ⟨gc, 9, none⟩ (.bool W.b.norm.dn)).setCell ⟨gc, 10, none⟩ (.int .i64 (W.b.norm.got : Int))).setCell ⟨gc, 11, none⟩ (.int .i64 most)).setCell ⟨gc, 12, none⟩ (.slice zo W.b.norm.xs.length zc)).setCell ⟨gc, 13, none⟩ (.int .i64 (W.b.norm.t : Int))).setCell ⟨gc, 14, none⟩ (.slice xo W.b.norm.old.length xc)).setCell ⟨gc, 15, none⟩ (.slice yo W.b.norm.wrote.length yc)) :=
    ⟨ht8.mono (fun k hk => .inl (.inl hk)), fun C' T' hC => by
      rw [h1] at hC
      simp only [Option.some.injEq, Obj.cells.injEq, and_true] at hC
      obtain ⟨rfl, rfl⟩ := hC
      exact ⟨D2, k1, k2, kf⟩, fun k hk => .inl hk⟩
  exact ⟨h5.b.trans (ht8.below (fun k hk => by rw [hk]; exact h.hg) h5.b.size), h.hg, D2, FA, _, k1, k2.trans h2, fun _ => h3.other hga (by omega) (fun _ _ e => e), fun _ => hca, fun j h1 h2 => by have := q7 j h1; have := (hnew j h2).1; omega, fun e => by omega, fun j hj => by simp [World.setCell]; exact Nat.lt_of_lt_of_le (q7 j hj) hb.size⟩
end

section
variable {w : World} {B g : Nat} {F : Nat → Prop} {W : Wi.Wm}
set_option maxRecDepth 20000 in
set_option maxHeartbeats 4000000 in
/-- 'Clone'. -/
theorem wclone_any (h : WO w B g F W) (hz : W.a.norm.old.length ≤ 16777216 ∧ W.a.norm.wrote.length ≤ 16777216 ∧ W.b.norm.old.length ≤ 16777216 ∧ W.b.norm.wrote.length ≤ 16777216) : Calls Try.prog 18 #[.pointer (some ⟨g, 0, none⟩)] w fun e w' => ∃ gc Fc, e = .returned (.pointer (some ⟨gc, 0, none⟩)) ∧ Below w.heap.size w w' ∧ WO w' w.heap.size gc Fc W := by
  obtain ⟨C, F0, F1, hC, hn, ⟨CA0, sa, soa, swa, mA, hxa⟩, ⟨CB0, sb, sob, swb, mB, hxb⟩, hd, hF⟩ := h
  have C0 := Lib.hid (fun wr (hb : Below w.heap.size w wr) => cclone_any (hxa.next hb) hz.1 hz.2.1)
  have C1 := Lib.hid (fun wr (hb : Below w.heap.size w wr) => cclone_any (hxb.next hb) hz.2.2.1 hz.2.2.2)
  have T0 := Lib.hid (show W.a.norm.t ≤ W.a.norm.xs.length ∧ W.a.norm.xs.length ≤ 16777216 ∧ (W.a.norm.xs.length : Int) ≤ mA ∧ mA < 9223372036854775808 ∧ (W.a.norm.live = true ∨ W.a.norm.st = 1 → mA = 4000) from ⟨hxa.q.ht, hxa.q.hs, hxa.q.hl, hxa.q.hm, hxa.m4⟩)
  have T1 := Lib.hid (show W.b.norm.t ≤ W.b.norm.xs.length ∧ W.b.norm.xs.length ≤ 16777216 ∧ (W.b.norm.xs.length : Int) ≤ mB ∧ mB < 9223372036854775808 ∧ (W.b.norm.live = true ∨ W.b.norm.st = 1 → mB = 4000) from ⟨hxb.q.ht, hxb.q.hs, hxb.q.hl, hxb.q.hm, hxb.m4⟩)
  clear hxa hxb hC hn hd hF hz
  have hb0 : Below w.heap.size w (w.alloc (.cells Z88 55)) := (Below.refl _ _).alloc (Nat.le_refl _) _
  have K0 : KC w W w.heap.size 0 (w.alloc (.cells Z88 55)) := ⟨hb0, Nat.le_refl _, Z88, fun _ => False, fun _ => False, heap_alloc_new _ _, rfl, fun e => by omega, fun e => by omega, fun _ e => e.elim, fun _ _ e => e, fun _ e => e.elim⟩
  have HK0 := Lib.hid K0
  clear hb0 K0
  obtain ⟨gc, hgc⟩ : ∃ gc, gc = w.heap.size := ⟨_, rfl⟩
  have HGC := Lib.hid hgc
  rw [← hgc] at HK0
  clear hgc
  go_enter Try.func18, Try.ntmps18
  go_wp2
  rw [← HGC.out]
  go_loopw [7] (fun i wr => ∃ k : Nat, k ≤ 2 ∧ i = .int .i64 k ∧ Hid (KC w W gc k wr)) (fun i _ => 2 - (intOf i).toNat)
  case atStart => exact ⟨0, by omega, rfl, HK0.out⟩
  case round =>
    obtain ⟨k, hk, rfl, HK⟩ := hrel
    have hcase : k = 0 ∨ k = 1 ∨ k = 2 := by omega
    rcases hcase with rfl | rfl | rfl
    · clear hk
      have HKD := Lib.hid (HK.out.next ((Below.refl _ _).drew))
      go_wp2
      refine wp_region_held_drew (S := fun _ => True) (by kernel_rfl) trivial (fun hH => ?_)
      generalize wr.drew = wd at *
      refine heldTake (i := 0) (v := ?_) rfl (by kernel_rfl) (by kernel_rfl) (fun _ _ _ h => h) (by rfl) trivial (fun w hSw => ?_) ?_; rotate_left; focus ((try dsimp only at hSw); go_simp; try with_reducible rfl)
      try simp only [Act.put, List.setIfInBounds_toArray, List.set_cons_zero, List.set_cons_succ]
      refine heldTake (i := 1) (v := ?_) rfl (by kernel_rfl) (by kernel_rfl) (fun _ _ _ h => h) (by rfl) trivial (fun w hSw => ?_) ?_; rotate_left; focus ((try dsimp only at hSw); go_simp; try with_reducible rfl)
      try simp only [Act.put, List.setIfInBounds_toArray, List.set_cons_zero, List.set_cons_succ]
      refine heldTake (i := 2) (v := ?_) rfl (by kernel_rfl) (by kernel_rfl) (fun _ _ _ h => h) (by rfl) trivial (fun w hSw => ?_) ?_; rotate_left; focus ((try dsimp only at hSw); go_simp; try with_reducible rfl)
      try simp only [Act.put, List.setIfInBounds_toArray, List.set_cons_zero, List.set_cons_succ]
      refine heldTake (i := 3) (v := ?_) rfl (by kernel_rfl) (by kernel_rfl) (fun _ _ _ h => h) (by rfl) trivial (fun w hSw => ?_) ?_; rotate_left; focus ((try dsimp only at hSw); go_simp; try with_reducible rfl)
      try simp only [Act.put, List.setIfInBounds_toArray, List.set_cons_zero, List.set_cons_succ]
      refine heldTake (i := 4) (v := ?_) rfl (by kernel_rfl) (by kernel_rfl) (fun _ _ _ h => h) (by rfl) trivial (fun w hSw => ?_) ?_; rotate_left; focus ((try dsimp only at hSw); go_simp; try with_reducible rfl)
      try simp only [Act.put, List.setIfInBounds_toArray, List.set_cons_zero, List.set_cons_succ]
      refine heldTake (i := 5) (v := ?_) rfl (by kernel_rfl) (by kernel_rfl) (fun _ _ _ h => h) (by rfl) trivial (fun w hSw => ?_) ?_; rotate_left; focus ((try dsimp only at hSw); go_simp; try with_reducible rfl)
      try simp only [Act.put, List.setIfInBounds_toArray, List.set_cons_zero, List.set_cons_succ]
      refine heldTake (i := 6) (v := ?_) rfl (by kernel_rfl) (by kernel_rfl) (fun _ _ _ h => h) (by rfl) trivial (fun w hSw => ?_) ?_; rotate_left; focus ((try dsimp only at hSw); go_simp; try with_reducible rfl)
      try simp only [Act.put, List.setIfInBounds_toArray, List.set_cons_zero, List.set_cons_succ]
      refine heldTake (i := 8) (v := ?_) rfl (by kernel_rfl) (by kernel_rfl) (fun _ _ _ h => h) (by rfl) trivial (fun w hSw => ?_) ?_; rotate_left; focus ((try dsimp only at hSw); go_simp; try with_reducible rfl)
      try simp only [Act.put, List.setIfInBounds_toArray, List.set_cons_zero, List.set_cons_succ]
      refine heldTake (i := 9) (v := ?_) rfl (by kernel_rfl) (by kernel_rfl) (fun _ _ _ h => h) (by rfl) trivial (fun w hSw => ?_) ?_; rotate_left; focus ((try dsimp only at hSw); go_simp; try with_reducible rfl)
      try simp only [Act.put, List.setIfInBounds_toArray, List.set_cons_zero, List.set_cons_succ]
      -- NEXT 7 Op.call { callee := Callee.value (Operand.func 40), args := #[Operand.tmp 16], argTypes := #[52] }
      refine heldNext (i := 7) rfl (by kernel_rfl) (by rfl) (fun K hK => ?_)
      go_simp; go_at_call 40; refine (C0.out _ HKD.out.b).mono ?_; rintro e w5 ⟨zo, zc, xo, xc, yo, yc, rfl, hb5, O1, O2, O3, d1, d2, d3⟩; have K5 := HKD.out.next hb5; first | (refine hK.out _ _ trivial ?_) | (go_wp2_with fail; refine hK.out _ _ trivial ?_); clear hK K
      try simp only [Act.put, List.setIfInBounds_toArray, List.set_cons_zero, List.set_cons_succ]
      refine heldTake (i := 10) (v := ?_) rfl (by kernel_rfl) (by kernel_rfl) (fun _ _ _ h => h) (by rfl) trivial (fun w hSw => ?_) ?_; rotate_left; focus ((try dsimp only at hSw); go_simp; try with_reducible rfl)
      try simp only [Act.put, List.setIfInBounds_toArray, List.set_cons_zero, List.set_cons_succ]
      -- NEXT 11 Op.store 52 (Operand.tmp 20) (Operand.tmp 17)
      refine heldNext (i := 11) rfl (by kernel_rfl) (by rfl) (fun K hK => ?_)
      have KN := HKD.out.one hb5 O1 O2 O3 d1 d2 d3 (T0.out.1) (T0.out.2.1) (T0.out.2.2.1) (T0.out.2.2.2.1) (T0.out.2.2.2.2)
      obtain ⟨u0, hu0⟩ := K5.cells 0 (by omega)
      have fr0 := K5.fr 0
      obtain ⟨u1, hu1⟩ := K5.cells 1 (by omega)
      have fr1 := K5.fr 1
      obtain ⟨u2, hu2⟩ := K5.cells 2 (by omega)
      have fr2 := K5.fr 2
      obtain ⟨u3, hu3⟩ := K5.cells 3 (by omega)
      have fr3 := K5.fr 3
      obtain ⟨u4, hu4⟩ := K5.cells 4 (by omega)
      have fr4 := K5.fr 4
      obtain ⟨u5, hu5⟩ := K5.cells 5 (by omega)
      have fr5 := K5.fr 5
      obtain ⟨u6, hu6⟩ := K5.cells 6 (by omega)
      have fr6 := K5.fr 6
      obtain ⟨u7, hu7⟩ := K5.cells 7 (by omega)
      have fr7 := K5.fr 7
      go_simp
      refine hK.out _ _ trivial ?_
      clear hK K
      try simp only [Act.put, List.setIfInBounds_toArray, List.set_cons_zero, List.set_cons_succ]
      refine wpAnyH_done (by kernel_rfl) ?_ _
      have KN := Lib.hid KN
      clear hu0 fr0 hu1 fr1 hu2 fr2 hu3 fr3 hu4 fr4 hu5 fr5 hu6 fr6 hu7 fr7 K5 O1 O2 O3 d1 d2 d3 hb5 hH HKD HK
      try simp only [Exit.then]
      go_wp2
      go_roundw
      case rel => exact ⟨1, by omega, rfl, KN.out⟩
      case measure => simp [intOf]

    · clear hk
      have HKD := Lib.hid (HK.out.next ((Below.refl _ _).drew))
      go_wp2
      refine wp_region_held_drew (S := fun _ => True) (by kernel_rfl) trivial (fun hH => ?_)
      generalize wr.drew = wd at *
      refine heldTake (i := 0) (v := ?_) rfl (by kernel_rfl) (by kernel_rfl) (fun _ _ _ h => h) (by rfl) trivial (fun w hSw => ?_) ?_; rotate_left; focus ((try dsimp only at hSw); go_simp; try with_reducible rfl)
      try simp only [Act.put, List.setIfInBounds_toArray, List.set_cons_zero, List.set_cons_succ]
      refine heldTake (i := 1) (v := ?_) rfl (by kernel_rfl) (by kernel_rfl) (fun _ _ _ h => h) (by rfl) trivial (fun w hSw => ?_) ?_; rotate_left; focus ((try dsimp only at hSw); go_simp; try with_reducible rfl)
      try simp only [Act.put, List.setIfInBounds_toArray, List.set_cons_zero, List.set_cons_succ]
      refine heldTake (i := 2) (v := ?_) rfl (by kernel_rfl) (by kernel_rfl) (fun _ _ _ h => h) (by rfl) trivial (fun w hSw => ?_) ?_; rotate_left; focus ((try dsimp only at hSw); go_simp; try with_reducible rfl)
      try simp only [Act.put, List.setIfInBounds_toArray, List.set_cons_zero, List.set_cons_succ]
      refine heldTake (i := 3) (v := ?_) rfl (by kernel_rfl) (by kernel_rfl) (fun _ _ _ h => h) (by rfl) trivial (fun w hSw => ?_) ?_; rotate_left; focus ((try dsimp only at hSw); go_simp; try with_reducible rfl)
      try simp only [Act.put, List.setIfInBounds_toArray, List.set_cons_zero, List.set_cons_succ]
      refine heldTake (i := 4) (v := ?_) rfl (by kernel_rfl) (by kernel_rfl) (fun _ _ _ h => h) (by rfl) trivial (fun w hSw => ?_) ?_; rotate_left; focus ((try dsimp only at hSw); go_simp; try with_reducible rfl)
      try simp only [Act.put, List.setIfInBounds_toArray, List.set_cons_zero, List.set_cons_succ]
      refine heldTake (i := 5) (v := ?_) rfl (by kernel_rfl) (by kernel_rfl) (fun _ _ _ h => h) (by rfl) trivial (fun w hSw => ?_) ?_; rotate_left; focus ((try dsimp only at hSw); go_simp; try with_reducible rfl)
      try simp only [Act.put, List.setIfInBounds_toArray, List.set_cons_zero, List.set_cons_succ]
      refine heldTake (i := 6) (v := ?_) rfl (by kernel_rfl) (by kernel_rfl) (fun _ _ _ h => h) (by rfl) trivial (fun w hSw => ?_) ?_; rotate_left; focus ((try dsimp only at hSw); go_simp; try with_reducible rfl)
      try simp only [Act.put, List.setIfInBounds_toArray, List.set_cons_zero, List.set_cons_succ]
      refine heldTake (i := 8) (v := ?_) rfl (by kernel_rfl) (by kernel_rfl) (fun _ _ _ h => h) (by rfl) trivial (fun w hSw => ?_) ?_; rotate_left; focus ((try dsimp only at hSw); go_simp; try with_reducible rfl)
      try simp only [Act.put, List.setIfInBounds_toArray, List.set_cons_zero, List.set_cons_succ]
      refine heldTake (i := 9) (v := ?_) rfl (by kernel_rfl) (by kernel_rfl) (fun _ _ _ h => h) (by rfl) trivial (fun w hSw => ?_) ?_; rotate_left; focus ((try dsimp only at hSw); go_simp; try with_reducible rfl)
      try simp only [Act.put, List.setIfInBounds_toArray, List.set_cons_zero, List.set_cons_succ]
      -- NEXT 7 Op.call { callee := Callee.value (Operand.func 40), args := #[Operand.tmp 16], argTypes := #[52] }
      refine heldNext (i := 7) rfl (by kernel_rfl) (by rfl) (fun K hK => ?_)
      go_simp; go_at_call 40; refine (C1.out _ HKD.out.b).mono ?_; rintro e w5 ⟨zo, zc, xo, xc, yo, yc, rfl, hb5, O1, O2, O3, d1, d2, d3⟩; have K5 := HKD.out.next hb5; first | (refine hK.out _ _ trivial ?_) | (go_wp2_with fail; refine hK.out _ _ trivial ?_); clear hK K
      try simp only [Act.put, List.setIfInBounds_toArray, List.set_cons_zero, List.set_cons_succ]
      refine heldTake (i := 10) (v := ?_) rfl (by kernel_rfl) (by kernel_rfl) (fun _ _ _ h => h) (by rfl) trivial (fun w hSw => ?_) ?_; rotate_left; focus ((try dsimp only at hSw); go_simp; try with_reducible rfl)
      try simp only [Act.put, List.setIfInBounds_toArray, List.set_cons_zero, List.set_cons_succ]
      -- NEXT 11 Op.store 52 (Operand.tmp 20) (Operand.tmp 17)
      refine heldNext (i := 11) rfl (by kernel_rfl) (by rfl) (fun K hK => ?_)
      have KN := HKD.out.two hb5 O1 O2 O3 d1 d2 d3 (T1.out.1) (T1.out.2.1) (T1.out.2.2.1) (T1.out.2.2.2.1) (T1.out.2.2.2.2)
      obtain ⟨u0, hu0⟩ := K5.cells 8 (by omega)
      have fr0 := K5.fr 8
      obtain ⟨u1, hu1⟩ := K5.cells 9 (by omega)
      have fr1 := K5.fr 9
      obtain ⟨u2, hu2⟩ := K5.cells 10 (by omega)
      have fr2 := K5.fr 10
      obtain ⟨u3, hu3⟩ := K5.cells 11 (by omega)
      have fr3 := K5.fr 11
      obtain ⟨u4, hu4⟩ := K5.cells 12 (by omega)
      have fr4 := K5.fr 12
      obtain ⟨u5, hu5⟩ := K5.cells 13 (by omega)
      have fr5 := K5.fr 13
      obtain ⟨u6, hu6⟩ := K5.cells 14 (by omega)
      have fr6 := K5.fr 14
      obtain ⟨u7, hu7⟩ := K5.cells 15 (by omega)
      have fr7 := K5.fr 15
      go_simp
      refine hK.out _ _ trivial ?_
      clear hK K
      try simp only [Act.put, List.setIfInBounds_toArray, List.set_cons_zero, List.set_cons_succ]
      refine wpAnyH_done (by kernel_rfl) ?_ _
      have KN := Lib.hid KN
      clear hu0 fr0 hu1 fr1 hu2 fr2 hu3 fr3 hu4 fr4 hu5 fr5 hu6 fr6 hu7 fr7 K5 O1 O2 O3 d1 d2 d3 hb5 hH HKD HK
      try simp only [Exit.then]
      go_wp2
      go_roundw
      case rel => exact ⟨2, by omega, rfl, KN.out⟩
      case measure => simp [intOf]

    · clear hk
      go_wp2
      go_ret
      obtain ⟨D, FA, FB, h1, h2, h3, h4, h5, _, _⟩ := HK.out.d
      exact ⟨gc, _, rfl, HK.out.b, D, FA, FB, h1, h2, h3 (by omega), h4 (by omega), h5, fun k => Iff.rfl⟩
end
end Go.Proofs.Ytneifmnlailipaa
