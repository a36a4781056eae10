/- '[]byte(s)', the new block under a name. -/
import Derived.Test.YtomeoploojjacaaDoorRdB
import Derived.Test.YtomeoploojjacaaDoorRdStr
namespace Go.Proofs.YtomeoploojjacaaDoor
open Go.RowKit

theorem to_bytes (w : World) (s : ByteArray) (hs : s.size ≤ maxLen) : ∃ w' cap, (convert 9 23 (.string s)).run Tryd.prog w = .ok (.slice (some ⟨w.heap.size, 0, none⟩) s.size cap) w' ∧
    Rd w' (.slice (some ⟨w.heap.size, 0, none⟩) s.size cap) (s.data.toList.map bv) ∧ Below w.heap.size w w' := by
  have hcv := run_bytes_of_string (P := Tryd.prog) w 9 23 5 s Tryd.underlying9 Tryd.underlying23 Tryd.underlying5
  exact ⟨_, _, hcv, Rd.bytes w s _ (grownCap_ge w s.size 0 5) (grownCap_le_maxLen w s.size 0 5 hs) _ _, ((Below.refl _ _).alloc (Nat.le_refl _) _).drew⟩

/-- A text of these bytes. -/
theorem sv_ba (s : ByteArray) : sv s.data.toList = .string s := by
  cases s
  rfl
theorem sv_eq {l : List UInt8} {s : ByteArray} (h : s.data.toList = l) : sv l = .string s := by rw [← h, sv_ba]
theorem ba_app (a b : ByteArray) : (a ++ b).data.toList = a.data.toList ++ b.data.toList := by simp
end Go.Proofs.YtomeoploojjacaaDoor
