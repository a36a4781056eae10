/- The reference's sines walked. -/
import Derived.Test.YtjogdflhpciciaaDoorDigestRef
import Derived.StillTailTactics
namespace Go.Proofs.YtjogdflhpciciaaDoor
open Go.RowKit

def ksA : Array Value := (Md5.ks.map fun n : Nat => uv n).toArray
def ssA : Array Value := (Md5.ss.map fun n : Nat => Value.int .i64 (n : Int)).toArray
theorem ksA_at {i : Nat} (h : i < 64) : ksA[i]? = some (.int .u32 (Md5.ks.getD i 0 : Int)) := by
  unfold ksA
  rw [List.getElem?_toArray, List.getElem?_map, List.getD_eq_getElem?_getD, List.getElem?_eq_getElem (show i < Md5.ks.length from h)]
  rfl
theorem ssA_at {i : Nat} (h : i < 16) : ssA[i]? = some (.int .i64 (Md5.ss.getD i 0 : Int)) := by
  unfold ssA
  rw [List.getElem?_toArray, List.getElem?_map, List.getD_eq_getElem?_getD, List.getElem?_eq_getElem (show i < Md5.ss.length from h)]
  rfl

theorem sines_any (w : World) :
    Calls Tryd.prog 41 #[] w fun e w' => e = .returned (.slice (some ⟨w.heap.size, 0, none⟩) 64 64) ∧ w'.heap[w.heap.size]? = some (.cells ksA 48) ∧ Below w.heap.size w w' := by
  go_enter Tryd.func41, Tryd.ntmps41
  go_wp2
  go_ret
  exact ⟨rfl, heap_alloc_new _ _, (Below.refl _ _).alloc (Nat.le_refl _) _⟩

end Go.Proofs.YtjogdflhpciciaaDoor
