/- Texts in a new block, as a variadic call makes them. -/
import Derived.Test.YtonophhhndhhhaaDoorRd
namespace Go.Proofs.YtonophhhndhhhaaDoor
open Go.RowKit

theorem Rd.texts (w : World) (ts : List ByteArray) (t : TypeId) (fr : Nat × Nat) (n : Nat) (hn : n = ts.length) (hl : n ≤ 1000) : Rd (w.alloc (.cells (ts.map Value.string).toArray t fr)) (.slice (some ⟨w.heap.size, 0, none⟩) n n) (ts.map Value.string) := by
  refine .inr ⟨_, 0, n, by rw [List.length_map, hn], by rw [List.length_map]; omega, by unfold maxLen; omega, fun j u hj => ?_⟩
  rw [cell_of_row _ _ _ _ _ _ (heap_alloc_new w _), Nat.zero_add]
  simpa using hj
end Go.Proofs.YtonophhhndhhhaaDoor
