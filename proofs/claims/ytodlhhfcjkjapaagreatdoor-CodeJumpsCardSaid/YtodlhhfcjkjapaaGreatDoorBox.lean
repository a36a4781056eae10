/- A variable in a block of its own. Of no layer. -/
import Derived.Test.YtodlhhfcjkjapaaGreatDoorRd
import Derived.RangeFuncRecord
namespace Go.Proofs.YtodlhhfcjkjapaaGreatDoor
open Go.RowKit
def Box (w : World) (b : Nat) (t : TypeId) (v : Value) : Prop := w.heap[b]? = some (.cells #[v] t (0, 0))
theorem Box.cell {w : World} {b : Nat} {t : TypeId} {v : Value} (h : Box w b t v) : w.cell? ⟨b, 0, none⟩ = some v := by
 unfold Box at h; simp [World.cell?, h]
theorem Box.frozen {w : World} {b : Nat} {t : TypeId} {v : Value} (h : Box w b t v) : w.frozen? ⟨b, 0, none⟩ = false := by
 unfold Box at h; simp [World.frozen?, h]
theorem Box.same {w w' : World} {b : Nat} {t : TypeId} {v : Value} (h : Box w b t v) (e : w'.heap[b]? = w.heap[b]?) : Box w' b t v := e.trans h
theorem Box.set {w : World} {b : Nat} {t : TypeId} {v : Value} (h : Box w b t v) (u : Value) : Box (w.setCell ⟨b, 0, none⟩ u) b t u := by
 unfold Box at *
 simp [World.setCell, Array.getElem?_modify, h]
theorem Box.other {w : World} {b b' : Nat} {t : TypeId} {v : Value} (h : Box w b t v) (hn : b ≠ b') (u : Value) : Box (w.setCell ⟨b', 0, none⟩ u) b t v := (Below.heap_setCell _ _ _ _ hn).trans h
theorem Box.new (w : World) (t : TypeId) (v : Value) : Box (w.alloc (.cells #[v] t)) w.heap.size t v := World.alloc_heap_new w _
theorem Box.alloc {w : World} {b : Nat} {t : TypeId} {v : Value} (h : Box w b t v) (o : Obj) : Box (w.alloc o) b t v := (Below.heap_alloc _ _ _ (Array.getElem?_eq_some_iff.1 h).1).trans h
theorem Box.lt {w : World} {b : Nat} {t : TypeId} {v : Value} (h : Box w b t v) : b < w.heap.size := (Array.getElem?_eq_some_iff.1 h).1
end Go.Proofs.YtodlhhfcjkjapaaGreatDoor
