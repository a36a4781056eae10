/- An empty row of texts of the call's own. -/
import Derived.Test.YthlbociimbpgkaaDoorStrs
import Derived.Test.YthlbociimbpgkaaDoorPJ
namespace Go.Proofs.YthlbociimbpgkaaDoor
open Go.RowKit

theorem own_empty (w : World) (B : Nat) (hB : B ≤ w.heap.size) : (w.alloc (.cells #[] 9)).ownsRow B 9 1 (.slice (some ⟨w.heap.size, 0, none⟩) 0 0) 0 [] :=
  World.ownsRow_made (base := B) w #[] 0 hB (Nat.zero_le _) rfl
end Go.Proofs.YthlbociimbpgkaaDoor
