/- What an object that lies in several blocks may turn: a footprint. Of no layer. -/
import Derived.Test.YtimieknphedniaaApart
namespace Go.Proofs.Ytimieknphedniaa
open Go.RowKit

/-- Of what was there, the blocks of F alone may have turned. -/
structure Trn (F : Nat → Prop) (w w' : World) : Prop where
  os : w'.os = w.os
  tape : w'.tape = w.tape
  output : w'.output = w.output
  size : w.heap.size ≤ w'.heap.size
  block : ∀ k, k < w.heap.size → ¬ F k → w'.heap[k]? = w.heap[k]?
/-- A footprint later: of the elder one's blocks, and new ones. -/
def Fx (F F' : Nat → Prop) (n : Nat) : Prop := ∀ k, F' k → F k ∨ n ≤ k
section
variable {F F' F'' G : Nat → Prop} {w w' w'' : World} {n m : Nat}
theorem Fx.refl (F : Nat → Prop) (n : Nat) : Fx F F n := fun _ h => .inl h
theorem Fx.trans (h : Fx F F' n) (h' : Fx F' F'' m) (hn : n ≤ m) : Fx F F'' n := fun k hk => by
  rcases h' k hk with h' | h'
  · exact h k h'
  · exact .inr (Nat.le_trans hn h')
theorem Fx.lower (h : Fx F F' n) (hn : m ≤ n) : Fx F F' m := fun k hk => (h k hk).imp id (Nat.le_trans hn)
theorem Trn.refl (F : Nat → Prop) (w : World) : Trn F w w := ⟨rfl, rfl, rfl, Nat.le_refl _, fun _ _ _ => rfl⟩
theorem Trn.of_below (h : Below w.heap.size w w') : Trn F w w' := ⟨h.os, h.tape, h.output, h.size, fun k hk _ => h.block k hk⟩
theorem Trn.trans (h : Trn F w w') (hf : Fx F F' w.heap.size) (k : Trn F' w' w'') : Trn F w w'' :=
  ⟨k.os.trans h.os, k.tape.trans h.tape, k.output.trans h.output, Nat.le_trans h.size k.size, fun i hi h1 => (k.block i (Nat.lt_of_lt_of_le hi h.size) (fun e => by
    rcases hf i e with hf | hf
    · exact h1 hf
    · omega)).trans (h.block i hi h1)⟩
theorem Trn.then (h : Trn F w w') (k : Trn F w' w'') : Trn F w w'' := h.trans (Fx.refl _ _) k
theorem Trn.of_turn {g : Nat} {s : Value} (h : Turn g s w w') (hg : F g) (hs : ∀ k, s.ownBlock = some k → F k) : Trn F w w' :=
  ⟨h.os, h.tape, h.output, h.size, fun k hk h1 => h.block k hk (fun e => h1 (e ▸ hg)) (fun e => h1 (hs k e))⟩
theorem Trn.setCell (h : Trn F w w') {g i : Nat} (hg : F g) (u : Value) : Trn F w (w'.setCell ⟨g, i, none⟩ u) :=
  ⟨h.os, h.tape, h.output, by simpa [World.setCell] using h.size, fun k hk h1 => (Below.heap_setCell _ _ _ _ (fun e => h1 (by rw [show k = g from e]; exact hg))).trans (h.block k hk h1)⟩
theorem Trn.alloc (h : Trn F w w') (o : Obj) : Trn F w (w'.alloc o) :=
  ⟨h.os, h.tape, h.output, Nat.le_trans h.size (by simp), fun k hk h1 => (Below.heap_alloc _ _ _ (Nat.lt_of_lt_of_le hk h.size)).trans (h.block k hk h1)⟩
theorem Trn.more (h : Trn F w w') (hf : ∀ k, F k → F' k) : Trn F' w w' := ⟨h.os, h.tape, h.output, h.size, fun k hk h1 => h.block k hk (fun e => h1 (hf k e))⟩
theorem Trn.below {B : Nat} (h : Trn F w w') (hF : ∀ k, F k → B ≤ k) (hB : B ≤ w.heap.size) : Below B w w' :=
  ⟨h.os, h.tape, h.output, h.size, fun k hk => h.block k (by omega) (fun e => by have := hF k e; omega)⟩
/-- What is read past a footprint. -/
theorem Trn.rd (h : Trn F w w') {v : Value} {vs : List Value} (hr : Rd w v vs) (hv : ∀ k, v.ownBlock = some k → ¬ F k) : Rd w' v vs := by
  rcases hr with hr | ⟨b, o, cap, e, g1, g2, g3⟩
  · exact .inl hr
  · refine .inr ⟨b, o, cap, e, g1, g2, fun j u hj => ?_⟩
    have hc := g3 j u hj
    exact (World.cell?_of_block (h.block b (World.block_lt_of_cell? w _ hc) (hv b (by rw [e]; rfl)))).trans hc
theorem Trn.own (h : Trn F w w') {B n : Nat} {v : Value} {e : TypeId} {vs : List Value} (ho : w.ownsRow B e 1 v n vs) (hv : ∀ k, v.ownBlock = some k → ¬ F k) : w'.ownsRow B e 1 v n vs := by
  refine ⟨ho.1, ?_⟩
  rcases ho.2 with hn | ⟨b, cap, cur, rfl, hb, hh, r⟩
  · exact .inl hn
  · refine .inr ⟨b, cap, cur, rfl, hb, ?_, r⟩
    rw [h.block b (Array.getElem?_eq_some_iff.1 hh).1 (hv b rfl)]
    exact hh
/-- Two footprints apart. -/
def Ft (F G : Nat → Prop) : Prop := ∀ k, F k → ¬ G k
theorem Ft.symm (h : Ft F G) : Ft G F := fun k h1 h2 => h k h2 h1
theorem Ft.next (h : Ft F G) (hf : Fx F F' n) (hg : ∀ k, G k → k < n) : Ft F' G := fun k hk e => by
  rcases hf k hk with hf | hf
  · exact h k hf e
  · have := hg k e; omega
end
end Go.Proofs.Ytimieknphedniaa
