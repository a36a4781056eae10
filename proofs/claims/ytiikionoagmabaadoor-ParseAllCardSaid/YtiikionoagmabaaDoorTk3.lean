/- A token as a value; one in a block of its own (layer 14). -/
import Derived.Test.YtiikionoagmabaaDoorBa
import Derived.Test.YtiikionoagmabaaDoorPA
import Derived.RangeFuncRecord
namespace Go.Proofs.YtiikionoagmabaaDoor
open Go.RowKit

/-- A token, as a value: its kind, its text, its place. -/
def tkv (k : Nat) (t : List UInt8) (p : Nat) : Value := .agg #[.int .i64 (k : Int), .string ⟨t.toArray⟩, .int .i64 (p : Int)]

/-- A token in a block of its own. -/
def Tk3 (w : World) (b : Nat) (k : Nat) (t : List UInt8) (p : Nat) : Prop := w.heap[b]? = some (.cells #[.int .i64 (k : Int), .string ⟨t.toArray⟩, .int .i64 (p : Int)] 53 (0, 0))
section
variable {w w' : World} {b k p : Nat} {t : List UInt8}
theorem Tk3.c0 (h : Tk3 w b k t p) : w.cell? ⟨b, 0, none⟩ = some (.int .i64 (k : Int)) := by unfold Tk3 at h; simp [World.cell?, h]
theorem Tk3.c1 (h : Tk3 w b k t p) : w.cell? ⟨b, 1, none⟩ = some (.string ⟨t.toArray⟩) := by unfold Tk3 at h; simp [World.cell?, h]
theorem Tk3.c2 (h : Tk3 w b k t p) : w.cell? ⟨b, 2, none⟩ = some (.int .i64 (p : Int)) := by unfold Tk3 at h; simp [World.cell?, h]
theorem Tk3.fr (h : Tk3 w b k t p) (i : Nat) : w.frozen? ⟨b, i, none⟩ = false := by unfold Tk3 at h; simp [World.frozen?, h]
theorem Tk3.new (w : World) (k : Nat) (t : List UInt8) (p : Nat) : Tk3 (w.alloc (.cells #[.int .i64 (k : Int), .string ⟨t.toArray⟩, .int .i64 (p : Int)] 53)) w.heap.size k t p := World.alloc_heap_new w _
theorem Tk3.same (h : Tk3 w b k t p) (e : w'.heap[b]? = w.heap[b]?) : Tk3 w' b k t p := e.trans h
theorem Tk3.lt (h : Tk3 w b k t p) : b < w.heap.size := (Array.getElem?_eq_some_iff.1 h).1
theorem Tk3.below (h : Tk3 w b k t p) (hb : Below w.heap.size w w') : Tk3 w' b k t p := h.same (hb.block _ h.lt)
theorem Tk3.alloc (h : Tk3 w b k t p) (o : Obj) : Tk3 (w.alloc o) b k t p := (Below.heap_alloc _ _ _ h.lt).trans h
/-- All three cells stored. -/
theorem Tk3.set (h : Tk3 w b k t p) (k' : Nat) (t' : List UInt8) (p' : Nat) :
    Tk3 (((w.setCell ⟨b, 0, none⟩ (.int .i64 (k' : Int))).setCell ⟨b, 1, none⟩ (.string ⟨t'.toArray⟩)).setCell ⟨b, 2, none⟩ (.int .i64 (p' : Int))) b k' t' p' := by
  unfold Tk3 at *
  simp [World.setCell, Array.getElem?_modify, h]
theorem Tk3.setP (h : Tk3 w b k t p) (p' : Nat) : Tk3 (w.setCell ⟨b, 2, none⟩ (.int .i64 (p' : Int))) b k t p' := by
  unfold Tk3 at *
  simp [World.setCell, Array.getElem?_modify, h]
end
theorem below_set3t {n : Nat} {w w' : World} {b : Nat} (h : Below n w w') (hb : n ≤ b) (u0 u1 u2 : Value) : Below n w (((w'.setCell ⟨b, 0, none⟩ u0).setCell ⟨b, 1, none⟩ u1).setCell ⟨b, 2, none⟩ u2) :=
  ((h.setCell (p := ⟨b, 0, none⟩) hb u0).setCell (p := ⟨b, 1, none⟩) hb u1).setCell (p := ⟨b, 2, none⟩) hb u2
end Go.Proofs.YtiikionoagmabaaDoor
