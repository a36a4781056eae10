/- The texts CodeBr, CodeJu, one behind the other. -/
import Derived.Test.YtodlhhfcjkjapaaGreatDoorDP
namespace Go.Proofs.YtodlhhfcjkjapaaGreatDoor
namespace Cd
def stopW : List UInt8 := [115, 116, 111, 112, 59]
def manyW : Nat → List UInt8
 | 0 => []
 | n + 1 => manyW n ++ stopW
def isOp (l : List Op) (i k : Nat) (to : Nat) : Bool := match l[i]? with
 | some o => decide (o.kind = k) && decide (o.to = (to : Int))
 | none => false
end Cd
end Go.Proofs.YtodlhhfcjkjapaaGreatDoor
namespace Go.Proofs.YtodlhhfcjkjapaaGreatDoor
namespace Cd
def sideW : Nat → List UInt8
 | 0 => []
 | i + 1 => sideW i ++ ([108, 97, 98, 101, 108, 32, 120] ++ [UInt8.ofNat (97 + i), 59])
def jumpT (n m i : Nat) : List UInt8 := [109, 111, 100, 101, 32, 112, 111, 112, 51, 59, 111, 110, 32, 108, 59] ++ manyW n ++ sideW i ++ [108, 97, 98, 101, 108, 32, 108, 59] ++ manyW m ++ [103, 111, 116, 111, 32, 108, 59]
def jumpOk (n m i : Nat) : Bool := match source (jumpT n m i) with
 | .error _ => false
 | .ok (l, _) => decide (l.length = n + m + 3) && isOp l 0 15 (1 + n) && isOp l (1 + n + m) 18 (1 + n)
theorem jump_law0 : ∀ (m : Fin 10) (i : Fin 6), jumpOk 0 m.val i.val = true := by decide +kernel
theorem jump_law1 : ∀ (m : Fin 10) (i : Fin 6), jumpOk 1 m.val i.val = true := by decide +kernel
theorem jump_law2 : ∀ (m : Fin 10) (i : Fin 6), jumpOk 2 m.val i.val = true := by decide +kernel
theorem jump_law3 : ∀ (m : Fin 10) (i : Fin 6), jumpOk 3 m.val i.val = true := by decide +kernel
theorem jump_law4 : ∀ (m : Fin 10) (i : Fin 6), jumpOk 4 m.val i.val = true := by decide +kernel
theorem jump_law5 : ∀ (m : Fin 10) (i : Fin 6), jumpOk 5 m.val i.val = true := by decide +kernel
theorem jump_law6 : ∀ (m : Fin 10) (i : Fin 6), jumpOk 6 m.val i.val = true := by decide +kernel
theorem jump_law7 : ∀ (m : Fin 10) (i : Fin 6), jumpOk 7 m.val i.val = true := by decide +kernel
theorem jump_law8 : ∀ (m : Fin 10) (i : Fin 6), jumpOk 8 m.val i.val = true := by decide +kernel
theorem jump_law9 : ∀ (m : Fin 10) (i : Fin 6), jumpOk 9 m.val i.val = true := by decide +kernel
theorem jump_law {n m i : Nat} (hn : n < 10) (hm : m < 10) (hi : i < 6) : jumpOk n m i = true := by
 have h : n = 0 ∨ n = 1 ∨ n = 2 ∨ n = 3 ∨ n = 4 ∨ n = 5 ∨ n = 6 ∨ n = 7 ∨ n = 8 ∨ n = 9 := by omega
 rcases h with rfl | rfl | rfl | rfl | rfl | rfl | rfl | rfl | rfl | rfl
 ·exact jump_law0 ⟨m, hm⟩ ⟨i, hi⟩
 ·exact jump_law1 ⟨m, hm⟩ ⟨i, hi⟩
 ·exact jump_law2 ⟨m, hm⟩ ⟨i, hi⟩
 ·exact jump_law3 ⟨m, hm⟩ ⟨i, hi⟩
 ·exact jump_law4 ⟨m, hm⟩ ⟨i, hi⟩
 ·exact jump_law5 ⟨m, hm⟩ ⟨i, hi⟩
 ·exact jump_law6 ⟨m, hm⟩ ⟨i, hi⟩
 ·exact jump_law7 ⟨m, hm⟩ ⟨i, hi⟩
 ·exact jump_law8 ⟨m, hm⟩ ⟨i, hi⟩
 ·exact jump_law9 ⟨m, hm⟩ ⟨i, hi⟩
end Cd
end Go.Proofs.YtodlhhfcjkjapaaGreatDoor
