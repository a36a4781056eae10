/- The library's variable MaxLen: some number. -/
import Derived.Test.YtomeoploojjacaaDoorRd
import Derived.Shelf.Vars
namespace Go.Proofs.YtomeoploojjacaaDoor
open Go.RowKit

/-- The library's variable holds some number. -/
def MX (w : World) : Prop := ∃ m, w.cell? ⟨0, 0, none⟩ = some (.int .i64 m)
theorem MX.keep {w w' : World} (h : MX w) (hk : ∀ p v, w.cell? p = some v → p.block = 0 → w'.cell? p = some v) : MX w' := by
  obtain ⟨m, hm⟩ := h
  exact ⟨m, hk _ _ hm rfl⟩
theorem MX.below {w w' : World} (h : MX w) (hb : Below w.heap.size w w') : MX w' := h.keep fun _ _ hp _ => (hb.cell (World.block_lt_of_cell? w _ hp)).trans hp
theorem MX.lt {w : World} (h : MX w) : 0 < w.heap.size := by
  obtain ⟨m, hm⟩ := h
  exact World.block_lt_of_cell? w _ hm
theorem mx_of_shape {W : World} (h : W.ShapedOpen Tryd.prog) : MX W :=
  cell_of_shapedOpen_int (t := 3) (zero := #[.int .i64 0]) h (of_decide_eq_true (by kernel_rfl)) (by kernel_rfl) rfl (by kernel_rfl) (by kernel_rfl) Tryd.underlying3
theorem MX.of_shape {W : World} (h : W.ShapedOpen Tryd.prog) : MX W := mx_of_shape h
end Go.Proofs.YtomeoploojjacaaDoor
