/- What a line says, as a value; a struct of it in a block of its own. -/
import Derived.Test.YthlbociimbpgkaaDoorBa
import Derived.Test.YthlbociimbpgkaaDoorLineP
import Derived.RangeFuncRecord
namespace Go.Proofs.YthlbociimbpgkaaDoor
open Go.RowKit

/-- What a line says, as a value. -/
def stv (o : Option Ln.Sa) : Value := match o with
  | some s => .agg #[.string (ba s.code), .bool s.more, .string (ba s.text)]
  | none => .agg #[.string ⟨#[]⟩, .bool false, .string ⟨#[]⟩]

/-- A struct of what a line says, in a block of its own. -/
def St3 (w : World) (b : Nat) (c : ByteArray) (m : Bool) (t : ByteArray) : Prop := w.heap[b]? = some (.cells #[.string c, .bool m, .string t] 115 (0, 0))
theorem St3.c0 {w : World} {b : Nat} {c t : ByteArray} {m : Bool} (h : St3 w b c m t) : w.cell? ⟨b, 0, none⟩ = some (.string c) := by unfold St3 at h; simp [World.cell?, h]
theorem St3.c1 {w : World} {b : Nat} {c t : ByteArray} {m : Bool} (h : St3 w b c m t) : w.cell? ⟨b, 1, none⟩ = some (.bool m) := by unfold St3 at h; simp [World.cell?, h]
theorem St3.c2 {w : World} {b : Nat} {c t : ByteArray} {m : Bool} (h : St3 w b c m t) : w.cell? ⟨b, 2, none⟩ = some (.string t) := by unfold St3 at h; simp [World.cell?, h]
theorem St3.fr {w : World} {b : Nat} {c t : ByteArray} {m : Bool} (h : St3 w b c m t) (i : Nat) : w.frozen? ⟨b, i, none⟩ = false := by unfold St3 at h; simp [World.frozen?, h]
theorem St3.new (w : World) (c t : ByteArray) (m : Bool) : St3 (w.alloc (.cells #[.string c, .bool m, .string t] 115)) w.heap.size c m t := World.alloc_heap_new w _
theorem St3.same {w w' : World} {b : Nat} {c t : ByteArray} {m : Bool} (h : St3 w b c m t) (e : w'.heap[b]? = w.heap[b]?) : St3 w' b c m t := e.trans h
theorem St3.lt {w : World} {b : Nat} {c t : ByteArray} {m : Bool} (h : St3 w b c m t) : b < w.heap.size := (Array.getElem?_eq_some_iff.1 h).1
theorem St3.alloc {w : World} {b : Nat} {c t : ByteArray} {m : Bool} (h : St3 w b c m t) (o : Obj) : St3 (w.alloc o) b c m t := (Below.heap_alloc _ _ _ h.lt).trans h
/-- All three cells stored. -/
theorem St3.set {w : World} {b : Nat} {c t : ByteArray} {m : Bool} (h : St3 w b c m t) (c' t' : ByteArray) (m' : Bool) :
    St3 (((w.setCell ⟨b, 0, none⟩ (.string c')).setCell ⟨b, 1, none⟩ (.bool m')).setCell ⟨b, 2, none⟩ (.string t')) b c' m' t' := by
  unfold St3 at *
  simp [World.setCell, Array.getElem?_modify, h]
theorem below_set3 {n : Nat} {w w' : World} {b : Nat} (h : Below n w w') (hb : n ≤ b) (u0 u1 u2 : Value) : Below n w (((w'.setCell ⟨b, 0, none⟩ u0).setCell ⟨b, 1, none⟩ u1).setCell ⟨b, 2, none⟩ u2) :=
  ((h.setCell (p := ⟨b, 0, none⟩) hb u0).setCell (p := ⟨b, 1, none⟩) hb u1).setCell (p := ⟨b, 2, none⟩) hb u2

theorem stv_form (o : Option Ln.Sa) : ∃ c m t, stv o = .agg #[.string c, .bool m, .string t] := by
  cases o with
  | none => exact ⟨_, _, _, rfl⟩
  | some s => exact ⟨_, _, _, rfl⟩

end Go.Proofs.YthlbociimbpgkaaDoor
