/- Who waits, in a block of its own. -/
import Derived.Test.YtimieknphedniaaPipeO
namespace Go.Proofs.Ytimieknphedniaa
open Go.RowKit

structure WB (w : World) (b : Nat) (x : Wt) : Prop where
  blk : w.heap[b]? = some (.cells #[.string x.text, .string x.codes, .bool x.body, .int .i64 x.due] 31 (0, 0))
section
variable {w w' : World} {b : Nat} {x : Wt}
theorem WB.lt (h : WB w b x) : b < w.heap.size := (Array.getElem?_eq_some_iff.1 h.blk).1
theorem WB.same (h : WB w b x) (e : w'.heap[b]? = w.heap[b]?) : WB w' b x := ⟨e.trans h.blk⟩
theorem WB.next (h : WB w b x) (hb : Below w.heap.size w w') : WB w' b x := h.same (hb.block _ h.lt)
theorem WB.apart {F : Nat → Prop} (h : WB w b x) (hT : Trn F w w') (hF : ¬ F b) : WB w' b x := h.same (hT.block _ h.lt hF)
theorem WB.c0 (h : WB w b x) : w.cell? ⟨b, 0, none⟩ = some (.string x.text) := cell_of_row _ _ _ _ _ _ h.blk
theorem WB.c1 (h : WB w b x) : w.cell? ⟨b, 1, none⟩ = some (.string x.codes) := cell_of_row _ _ _ _ _ _ h.blk
theorem WB.c2 (h : WB w b x) : w.cell? ⟨b, 2, none⟩ = some (.bool x.body) := cell_of_row _ _ _ _ _ _ h.blk
theorem WB.c3 (h : WB w b x) : w.cell? ⟨b, 3, none⟩ = some (.int .i64 x.due) := cell_of_row _ _ _ _ _ _ h.blk
theorem WB.froz (h : WB w b x) (i : Nat) : w.frozen? ⟨b, i, none⟩ = false := frozen_of_row _ _ _ _ _ h.blk
theorem WB.new (w : World) (x : Wt) : WB (w.alloc (.cells #[.string x.text, .string x.codes, .bool x.body, .int .i64 x.due] 31)) w.heap.size x := ⟨heap_alloc_new _ _⟩
/-- Stored over. -/
theorem WB.put (h : WB w b x) (y : Wt) : WB (setN w b 0 y.cells) b y := ⟨setN_heap y.cells [] x.cells w h.blk rfl⟩
theorem setN_below {q B : Nat} (hq : B ≤ q) (vs : List Value) (i : Nat) {w w' : World} (h : Below B w w') : Below B w (setN w' q i vs) := by
  induction vs generalizing i w' with
  | nil => exact h
  | cons v vs ih => exact ih (i + 1) (h.setCell hq v)
/-- A new block, as it is made, and as it is stored. -/
structure WM (w w1 w2 : World) (x : Wt) : Prop where
  z0 : w1.cell? ⟨w.heap.size, 0, none⟩ = some (.string ⟨#[]⟩)
  z1 : w1.cell? ⟨w.heap.size, 1, none⟩ = some (.string ⟨#[]⟩)
  z2 : w1.cell? ⟨w.heap.size, 2, none⟩ = some (.bool false)
  z3 : w1.cell? ⟨w.heap.size, 3, none⟩ = some (.int .i64 0)
  zf : ∀ i, w1.frozen? ⟨w.heap.size, i, none⟩ = false
  wb : WB w2 w.heap.size x
  hb : Below w.heap.size w w2
theorem want_made (w : World) (x : Wt) : ∃ w1 w2, w.alloc (.cells #[.string ⟨#[]⟩, .string ⟨#[]⟩, .bool false, .int .i64 0] 31) = w1
    ∧ (((w1.setCell ⟨w.heap.size, 0, none⟩ (.string x.text)).setCell ⟨w.heap.size, 1, none⟩ (.string x.codes)).setCell ⟨w.heap.size, 2, none⟩ (.bool x.body)).setCell ⟨w.heap.size, 3, none⟩ (.int .i64 x.due) = w2 ∧ WM w w1 w2 x := by
  have h := WB.new w Wt.zero
  exact ⟨_, _, rfl, rfl, ⟨h.c0, h.c1, h.c2, h.c3, h.froz, h.put x, setN_below (Nat.le_refl _) x.cells 0 ((Below.refl _ w).alloc (Nat.le_refl _) _)⟩⟩
end
end Go.Proofs.Ytimieknphedniaa
