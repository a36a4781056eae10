/- A cap made of a row of words, put behind others: what an append of it wants. -/
import Derived.Test.YtomeoploojjacaaDoorCapV
import Derived.Test.YtomeoploojjacaaDoorRowCut
import Derived.Test.YtomeoploojjacaaDoorHeld
namespace Go.Proofs.YtomeoploojjacaaDoor
open Go.RowKit

theorem cell_alloc {w : World} {p : Addr} {v : Value} (h : w.cell? p = some v) (o : Obj) : (w.alloc o).cell? p = some v :=
  (((Below.refl w.heap.size w).alloc (Nat.le_refl _) o).cell (World.block_lt_of_cell? w _ h)).trans h

/-- A row of words that is new, and what it is without its first. -/
structure WR (w0 w : World) (g cap : Nat) (n : List UInt8) (r : List (List UInt8)) (A : Option Addr) : Prop where
  cell : w.cell? ⟨g, 0, none⟩ = some (sv n)
  rd : Rd w (.slice A r.length (cap - 1)) (r.map sv)
  blk : ∀ k, (Value.slice A r.length (cap - 1)).ownBlock = some k → w0.heap.size ≤ k ∧ k < w.heap.size
  le : r.length + 1 ≤ cap
  max : cap ≤ maxLen
  hg : w0.heap.size ≤ g
theorem WR.below {w0 w w' : World} {g cap : Nat} {n : List UInt8} {r : List (List UInt8)} {A : Option Addr} (h : WR w0 w g cap n r A) (hb : Below w.heap.size w w') : WR w0 w' g cap n r A :=
  ⟨(hb.cell (World.block_lt_of_cell? w _ h.cell)).trans h.cell, h.rd.below hb, fun k hk => ⟨(h.blk k hk).1, Nat.lt_of_lt_of_le (h.blk k hk).2 hb.size⟩, h.le, h.max, h.hg⟩
theorem WR.of_own {w0 w : World} {v : Value} {n : List UInt8} {r : List (List UInt8)} (h : w.ownsRow w0.heap.size 9 1 v (n :: r).length ((n :: r).map sv)) :
    ∃ g cap, v = .slice (some ⟨g, 0, none⟩) (r.length + 1) cap ∧ WR w0 w g cap n r (if cap = 1 then some ⟨g, 0, none⟩ else some ⟨g, 1, none⟩) := by
  obtain ⟨g, cap, rfl, h1, h2, h3, h4⟩ := own_pos h (by simp)
  have hlt := h.lt g rfl
  refine ⟨g, cap, by simp, h4 0 _ (by simp), ?_, fun k hk => ?_, by simpa using h2, h3, hlt.1⟩
  · have h5 := (Rd.of_own h).tailV (m := 1) (by simp) (by simp)
    rw [List.map_cons, List.drop_one, List.tail_cons, List.length_cons, Nat.add_sub_cancel, Option.map_some, Addr.add_lit] at h5
    exact h5
  · obtain rfl : g = k := by
      split at hk <;> simpa [Value.ownBlock] using hk
    exact ⟨hlt.1, hlt.2⟩
/-- All that the append wants, behind the words' call. -/
structure PU (w0 : World) (B : Nat) (l : Value) (cs2 : List CapA) (g cap : Nat) (n : List UInt8) (r : List (List UInt8)) (A : Option Addr) (w : World) : Prop where
  oc : OC w B l cs2
  wr : WR w0 w g cap n r A
  lt : ∀ k, l.ownBlock = some k → k < w0.heap.size
  hB : B ≤ w.heap.size
theorem PU.below {w0 w w' : World} {B g cap : Nat} {l : Value} {cs2 : List CapA} {n : List UInt8} {r : List (List UInt8)} {A : Option Addr} (h : PU w0 B l cs2 g cap n r A w) (hb : Below w.heap.size w w') : PU w0 B l cs2 g cap n r A w' :=
  ⟨h.oc.below hb, h.wr.below hb, h.lt, Nat.le_trans h.hB hb.size⟩
theorem PU.push {w0 w : World} {B g cap : Nat} {l : Value} {cs2 : List CapA} {n : List UInt8} {r : List (List UInt8)} {A : Option Addr} (h : PU w0 B l cs2 g cap n r A w) {o : Oper} {a : Act} {K : Act → World → Prop} {Q : Exit → Act → World → Prop}
    (s x : Operand) (ho : o.op = .call { callee := .builtin .append, args := #[s, x], argTypes := #[29, 29] })
    (hs : a.eval s = l) (hx : a.eval x = .slice (some ⟨w.heap.size, 0, none⟩) 1 1) (hn : cs2.length ≤ 1048576)
    (h' : ∀ g2 c2 w', OC w' B (.slice (some ⟨g2, 0, none⟩) (cs2.length + 1) c2) (cs2 ++ [((⟨n, r⟩ : Cp.Cap), Value.slice A r.length (cap - 1))]) → Below B w w' → w'.cell? ⟨g, 0, none⟩ = some (sv n) → K (a.put o.dst (.slice (some ⟨g2, 0, none⟩) (cs2.length + 1) c2)) w') :
    o.wp Tryd.prog a (w.alloc (.cells #[sv n, .slice A r.length (cap - 1)] 35 (0, 0))) K Q := by
  have hal : Below w.heap.size w (w.alloc (.cells #[sv n, .slice A r.length (cap - 1)] 35 (0, 0))) := (Below.refl _ _).alloc (Nat.le_refl _) _
  have h2 := h.below hal
  have hfar : ∀ k, (Value.slice A r.length (cap - 1)).ownBlock = some k → l.ownBlock ≠ some k := fun k hk e => by
    have := (h.wr.blk k hk).1
    have := h.lt k e
    omega
  refine wp_append_cap (⟨n, r⟩, Value.slice A r.length (cap - 1)) s x ho hs h2.oc hx (heap_alloc_new w _) h2.wr.rd rfl (fun k hk => ⟨hfar k hk, (h2.wr.blk k hk).2⟩) hn h2.hB (fun g2 c2 w' h3 h4 => h' g2 c2 w' h3 ?_ ?_)
  · have h5 := (hal.mono h.hB).grown h4 h2.hB (fun k hk => (h.oc.lt k hk).1)
    exact h5
  · have hc := h2.wr.cell
    refine (World.cell?_of_block (h4.block g (World.block_lt_of_cell? _ _ hc) (fun e => ?_))).trans hc
    have := h.lt g e.symm
    have := h.wr.hg
    omega
end Go.Proofs.YtomeoploojjacaaDoor
