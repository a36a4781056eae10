/- text.Digits walked, out of the library's Itoa (the shelf's). -/
import Derived.Test.YtonophhhndhhhaaDoorRd
import Derived.Test.YtonophhhndhhhaaDoorShelf
import Derived.Lib.LaidTab
namespace Go.Proofs.YtonophhhndhhhaaDoor
open Go.RowKit

/-- The library's table of powers of ten stands. -/
def TB (w : World) : Prop := Lib.TabIs Tryd.prog w "internal/strconv.uint64pow10" .u64 Lib.pow10Tab
theorem gPow : Tryd.prog.globalNamed "internal/strconv.uint64pow10" = some 2 := by kernel_rfl
theorem TB.below {w w' : World} (h : TB w) (hb : Below w.heap.size w w') : TB w' := by
  have hlt : 2 < w.heap.size := World.block_lt_of_cell? w _ (Lib.TabIs.cell h gPow 0 (by decide))
  exact var?_below hb gPow hlt h

theorem below_grow0 (w : World) (k : Nat) (os : Array Obj) : Below w.heap.size w (Sort.grow (w.drewN k) os) := by
  refine ⟨rfl, rfl, rfl, ?_, fun i hi => ?_⟩
  · show w.heap.size ≤ (w.heap ++ os).size
    simp
  · show (w.heap ++ os)[i]? = _
    rw [Array.getElem?_append_left hi]

theorem digits_any (n : Int) (w : World) (ht : TB w) (h0 : -9223372036854775808 ≤ n) (h1 : n ≤ 9223372036854775807) :
    Calls Tryd.prog 26 #[.int .i64 n] w fun e w' => e = .returned (.string ⟨(Lib.itoa n).toArray⟩) ∧ Below w.heap.size w w' := by
  go_enter Tryd.func26, Tryd.ntmps26
  go_wp2_with fail
  refine (Tryd.strconv_Itoa n h0 h1 _ ht).mono ?_
  rintro e w' ⟨rfl, k, os, rfl⟩
  go_wp2
  go_ret
  exact ⟨rfl, below_grow0 _ _ _⟩


end Go.Proofs.YtonophhhndhhhaaDoor
