/- Bytes as a text: cut, joined. Of no layer. -/
import Derived.Test.YtodlhhfcjkjapaaGreatDoorRd
import Derived.Lib.Strings
import Derived.Lib.Walk
namespace Go.Proofs.YtodlhhfcjkjapaaGreatDoor
open Go.RowKit
def ba (l : List UInt8) : ByteArray := ⟨l.toArray⟩
theorem ba_list (l : List UInt8) : (ba l).data.toList = l := rfl
theorem ba_extract (l : List UInt8) (a b : Nat) : (⟨l.toArray⟩ : ByteArray).extract a b = ⟨((l.take b).drop a).toArray⟩ := by
 apply ByteArray.ext
 rw [ByteArray.data_extract]
 simp [List.drop_take]
end Go.Proofs.YtodlhhfcjkjapaaGreatDoor
