/- Bytes as a text: cut, joined. Of no layer. -/
import Derived.Test.YthlbociimbpgkaaDoorRd
import Derived.Lib.Strings
import Derived.Lib.Walk
namespace Go.Proofs.YthlbociimbpgkaaDoor
open Go.RowKit

/-- Bytes as a text. -/
def ba (l : List UInt8) : ByteArray := ⟨l.toArray⟩
theorem ba_list (l : List UInt8) : (ba l).data.toList = l := rfl
theorem ba_self (s : ByteArray) : ba s.data.toList = s := rfl
theorem ba_size (l : List UInt8) : (ba l).size = l.length := rfl

theorem ba_extract (l : List UInt8) (a b : Nat) : (⟨l.toArray⟩ : ByteArray).extract a b = ⟨((l.take b).drop a).toArray⟩ := by
  apply ByteArray.ext
  rw [ByteArray.data_extract]
  simp [List.drop_take]

theorem one_append (a b : Array UInt8) : (⟨a⟩ : ByteArray) ++ ⟨b⟩ = ⟨a ++ b⟩ := by
  apply ByteArray.ext
  simp

theorem ba_append (a b : List UInt8) : ba a ++ ba b = ba (a ++ b) := by
  rw [ba, ba, one_append]
  simp [ba]
end Go.Proofs.YthlbociimbpgkaaDoor
