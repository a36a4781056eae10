/- Several cells of a block stored, one by one; of no type of the program. -/
import Derived.Test.YtimieknphedniaaFoot
namespace Go.Proofs.Ytimieknphedniaa
open Go.RowKit

def setN (w : World) (q : Nat) : Nat → List Value → World
  | _, [] => w
  | i, v :: vs => setN (w.setCell ⟨q, i, none⟩ v) q (i + 1) vs
theorem setN_trn {F : Nat → Prop} {q : Nat} (hq : F q) : ∀ (vs : List Value) (i : Nat) {w w' : World}, Trn F w w' → Trn F w (setN w' q i vs)
  | [], _, _, _, h => h
  | v :: vs, i, _, _, h => setN_trn hq vs (i + 1) (h.setCell hq v)
theorem setN_other {q k : Nat} (hk : k ≠ q) : ∀ (vs : List Value) (i : Nat) {w : World}, (setN w q i vs).heap[k]? = w.heap[k]?
  | [], _, _ => rfl
  | _ :: vs, i, _ => (setN_other hk vs (i + 1)).trans (Below.heap_setCell _ _ _ _ hk)
theorem setN_heap {q : Nat} {t : TypeId} : ∀ (vs pre C : List Value) (w : World), w.heap[q]? = some (.cells (pre ++ C).toArray t (0, 0)) → C.length = vs.length → (setN w q pre.length vs).heap[q]? = some (.cells (pre ++ vs).toArray t (0, 0))
  | [], pre, C, w, h, hl => by
    obtain rfl : C = [] := List.length_eq_zero_iff.1 hl
    exact h
  | v :: vs, pre, C, w, h, hl => by
    cases C with
    | nil => simp at hl
    | cons c C =>
      have h2 := setCell_row (i := pre.length) (u := v) h
      rw [List.setIfInBounds_toArray, List.set_append_right _ _ (Nat.le_refl _), Nat.sub_self, List.set_cons_zero, show pre ++ v :: C = (pre ++ [v]) ++ C by simp] at h2
      have := setN_heap vs (pre ++ [v]) C _ h2 (by simpa using hl)
      rw [List.length_append] at this
      rw [show pre ++ v :: vs = (pre ++ [v]) ++ vs by simp]
      exact this
/-- Those that are stored have others behind them. -/
theorem setN_mid {q : Nat} {t : TypeId} : ∀ (vs pre C R : List Value) (w : World), w.heap[q]? = some (.cells (pre ++ (C ++ R)).toArray t (0, 0)) → C.length = vs.length → (setN w q pre.length vs).heap[q]? = some (.cells (pre ++ (vs ++ R)).toArray t (0, 0))
  | [], pre, C, R, w, h, hl => by
    obtain rfl : C = [] := List.length_eq_zero_iff.1 hl
    exact h
  | v :: vs, pre, C, R, w, h, hl => by
    cases C with
    | nil => simp at hl
    | cons c C =>
      have h2 := setCell_row (i := pre.length) (u := v) h
      rw [List.setIfInBounds_toArray, List.set_append_right _ _ (Nat.le_refl _), Nat.sub_self, List.cons_append, List.set_cons_zero, show pre ++ v :: (C ++ R) = (pre ++ [v]) ++ (C ++ R) by simp] at h2
      have := setN_mid vs (pre ++ [v]) C R _ h2 (by simpa using hl)
      rw [List.length_append] at this
      rw [List.cons_append, show pre ++ v :: (vs ++ R) = (pre ++ [v]) ++ (vs ++ R) by simp]
      exact this
end Go.Proofs.Ytimieknphedniaa
