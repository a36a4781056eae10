/- Texts and their bytes: of no type of the program. -/
import Derived.Test.YtomeoploojjacaaDoorRd
import Derived.Laws.IdiomStrings
import Derived.Lib.Strings
namespace Go.Proofs.YtomeoploojjacaaDoor
open Go.RowKit

/-- '[]byte(s)' reads as s's bytes. -/
theorem Rd.bytes (w : World) (s : ByteArray) (cap : Nat) (hc : s.size ≤ cap) (hm : cap ≤ maxLen) (t : TypeId) (fr : Nat × Nat) : Rd (w.alloc (.cells (bytesRow s cap) t fr)).drew (.slice (some ⟨w.heap.size, 0, none⟩) s.size cap) (s.data.toList.map bv) := by
  refine .inr ⟨w.heap.size, 0, cap, by rw [List.length_map, ← Lib.size_eq], by rw [List.length_map, ← Lib.size_eq]; exact hc, hm, fun j u hj => ?_⟩
  have hj2 : j < s.size := by
    have := (List.getElem?_eq_some_iff.1 hj).1
    rwa [List.length_map, ← Lib.size_eq] at this
  rw [Nat.zero_add]
  show (w.alloc (.cells (bytesRow s cap) t fr)).cell? _ = _
  rw [cell_of_row _ _ _ _ _ _ (heap_alloc_new w _), bytesRow_at s cap j hj2, ← hj, List.getElem?_map, List.getElem?_eq_getElem (by rw [← Lib.size_eq]; exact hj2)]
  rfl

theorem sv_join (a b : List UInt8) : ∃ p q : ByteArray, sv a = .string p ∧ sv b = .string q ∧ sv (a ++ b) = .string (p ++ q) ∧ p.data.toList = a ∧ q.data.toList = b :=
  ⟨⟨a.toArray⟩, ⟨b.toArray⟩, rfl, rfl, by rw [ByteArray.mk_append_mk]; simp [sv], rfl, rfl⟩
end Go.Proofs.YtomeoploojjacaaDoor
