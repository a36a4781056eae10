/- '[]byte(s)', the new block under a name. -/
import Derived.Test.YthfefbpfgepbjaaRdB
import Derived.Test.YthfefbpfgepbjaaRdStr
namespace Go.Proofs.Ythfefbpfgepbjaa
open Go.RowKit

theorem to_bytes (w : World) (s : ByteArray) (hs : s.size ≤ maxLen) : ∃ w' cap, (convert 9 22 (.string s)).run Try.prog w = .ok (.slice (some ⟨w.heap.size, 0, none⟩) s.size cap) w' ∧
    Rd w' (.slice (some ⟨w.heap.size, 0, none⟩) s.size cap) (s.data.toList.map bv) ∧ Below w.heap.size w w' := by
  have hcv := run_bytes_of_string (P := Try.prog) w 9 22 5 s Try.underlying9 Try.underlying22 Try.underlying5
  exact ⟨_, _, hcv, Rd.bytes w s _ (grownCap_ge w s.size 0 5) (grownCap_le_maxLen w s.size 0 5 hs) _ _, ((Below.refl _ _).alloc (Nat.le_refl _) _).drew⟩

/-- A text of these bytes. -/
theorem sv_ba (s : ByteArray) : sv s.data.toList = .string s := by
  cases s
  rfl
theorem sv_eq {l : List UInt8} {s : ByteArray} (h : s.data.toList = l) : sv l = .string s := by rw [← h, sv_ba]
theorem ba_app (a b : ByteArray) : (a ++ b).data.toList = a.data.toList ++ b.data.toList := by simp
end Go.Proofs.Ythfefbpfgepbjaa
