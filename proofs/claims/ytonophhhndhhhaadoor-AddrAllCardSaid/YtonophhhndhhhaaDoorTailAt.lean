/- A text, byte by byte: of no layer. -/
import Derived.Test.YtonophhhndhhhaaDoorPure
import Derived.Lib.Strings
namespace Go.Proofs.YtonophhhndhhhaaDoor
open Go.RowKit

theorem snoc_at (s : ByteArray) (k : Nat) (h : k < s.size) : s.data.toList.take (k + 1) = s.data.toList.take k ++ [s[k]'h] := by
  rw [List.take_succ_eq_append_getElem (by rw [← Lib.size_eq]; exact h)]
  rfl
theorem tail_at (s : ByteArray) (k : Nat) (h : k < s.size) : s.data.toList = s.data.toList.take k ++ (s[k]'h) :: s.data.toList.drop (k + 1) := by
  have e := (List.take_append_drop (k + 1) s.data.toList).symm
  rw [snoc_at s k h, List.append_assoc] at e
  exact e
theorem all_take (s : ByteArray) : s.data.toList.take s.size = s.data.toList := by rw [Lib.size_eq, List.take_length]
end Go.Proofs.YtonophhhndhhhaaDoor
