/- The scripts of CodeBranches, in plain words (layer 18; 160 s). (Laid in round 16, ahead of stage 18.) -/
import Derived.Test.YtodlhhfcjkjapaaGreatDoorDP
namespace Go.Proofs.YtodlhhfcjkjapaaGreatDoor
namespace Cd
def stopW : List UInt8 := [115, 116, 111, 112, 59]
def manyW : Nat → List UInt8
 | 0 => []
 | n + 1 => manyW n ++ stopW
def branchT (a b c : Nat) : List UInt8 := [109, 111, 100, 101, 32, 115, 109, 116, 112, 59] ++ manyW a ++ [105, 102, 32, 99, 97, 112, 32, 34, 120, 34, 32, 123] ++ manyW b ++ [125, 32, 101, 108, 115, 101, 32, 123] ++ manyW c ++ [125]
def isOp (l : List Op) (i k : Nat) (to : Nat) : Bool := match l[i]? with
 | some o => decide (o.kind = k) && decide (o.to = (to : Int))
 | none => false
def branchOk (a b c : Nat) : Bool := match source (branchT a b c) with
 | .error _ => false
 | .ok (l, _) => decide (l.length = a + 1 + b + (if c = 0 then 0 else 1) + c + 1) && isOp l a 5 (a + 1 + b + (if c = 0 then 0 else 1)) && (decide (c = 0) || isOp l (a + 1 + b) 18 (a + 2 + b + c))
theorem branch_law0 : ∀ (b c : Fin 10), branchOk 0 b.val c.val = true := by decide +kernel
theorem branch_law1 : ∀ (b c : Fin 10), branchOk 1 b.val c.val = true := by decide +kernel
theorem branch_law2 : ∀ (b c : Fin 10), branchOk 2 b.val c.val = true := by decide +kernel
theorem branch_law3 : ∀ (b c : Fin 10), branchOk 3 b.val c.val = true := by decide +kernel
theorem branch_law4 : ∀ (b c : Fin 10), branchOk 4 b.val c.val = true := by decide +kernel
theorem branch_law5 : ∀ (b c : Fin 10), branchOk 5 b.val c.val = true := by decide +kernel
theorem branch_law6 : ∀ (b c : Fin 10), branchOk 6 b.val c.val = true := by decide +kernel
theorem branch_law7 : ∀ (b c : Fin 10), branchOk 7 b.val c.val = true := by decide +kernel
theorem branch_law8 : ∀ (b c : Fin 10), branchOk 8 b.val c.val = true := by decide +kernel
theorem branch_law9 : ∀ (b c : Fin 10), branchOk 9 b.val c.val = true := by decide +kernel
theorem branch_law {a b c : Nat} (ha : a < 10) (hb : b < 10) (hc : c < 10) : branchOk a b c = true := by
 have h : a = 0 ∨ a = 1 ∨ a = 2 ∨ a = 3 ∨ a = 4 ∨ a = 5 ∨ a = 6 ∨ a = 7 ∨ a = 8 ∨ a = 9 := by omega
 rcases h with rfl | rfl | rfl | rfl | rfl | rfl | rfl | rfl | rfl | rfl
 ·exact branch_law0 ⟨b, hb⟩ ⟨c, hc⟩
 ·exact branch_law1 ⟨b, hb⟩ ⟨c, hc⟩
 ·exact branch_law2 ⟨b, hb⟩ ⟨c, hc⟩
 ·exact branch_law3 ⟨b, hb⟩ ⟨c, hc⟩
 ·exact branch_law4 ⟨b, hb⟩ ⟨c, hc⟩
 ·exact branch_law5 ⟨b, hb⟩ ⟨c, hc⟩
 ·exact branch_law6 ⟨b, hb⟩ ⟨c, hc⟩
 ·exact branch_law7 ⟨b, hb⟩ ⟨c, hc⟩
 ·exact branch_law8 ⟨b, hb⟩ ⟨c, hc⟩
 ·exact branch_law9 ⟨b, hb⟩ ⟨c, hc⟩
end Cd
end Go.Proofs.YtodlhhfcjkjapaaGreatDoor
