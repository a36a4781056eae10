/- isBlank walked. -/
import Derived.Test.YtodlhhfcjkjapaaGreatDoorRd
import Derived.Test.YtodlhhfcjkjapaaGreatDoorPN
import Derived.WalkKit
import Derived.WalkSpells
import Derived.WalkSmall
import Derived.WalkLawsBesides
import Derived.Outline
import Derived.Lib.Hide
namespace Go.Proofs.YtodlhhfcjkjapaaGreatDoor
open Go.RowKit
def blankB (r : Int) : Bool := r == 32 || r == 9
theorem blank_any (r : Int) (w : World) :
  Calls Tryz.prog 108 #[.int .i32 r] w fun e w' => e = .returned (.bool (blankB r)) ∧ w = w' := by
 go_enter Tryz.func108, Tryz.ntmps108
 go_wp2
 all_goals (go_ret; refine ⟨?_, rfl⟩; simp_all [blankB])
theorem low_blk {s : ByteArray} {pos r n : Nat} {seg : List UInt8} (h : Tx.Rune s pos r n seg) (hb : blankB r = true) : ∃ b, seg = [b] ∧ n = 1 ∧ Tx.blk b = true := by
 have hr : r < 128 := by simp [blankB] at hb; omega
 obtain ⟨b, rfl, rfl⟩ := h.low hr
 refine ⟨b, rfl, by have := h.len; simpa using this.symm, ?_⟩
 simp [blankB] at hb
 simp [Tx.blk]
 omega
theorem high_blk {s : ByteArray} {pos r n : Nat} {seg : List UInt8} (h : Tx.Rune s pos r n seg) (hb : blankB r = false) : ∀ b ∈ seg, Tx.blk b = false := by
 intro b hb2
 by_cases hr : r < 128
 ·obtain ⟨c, rfl, rfl⟩ := h.low hr
  simp at hb2
  subst hb2
  simp [blankB] at hb
  simp [Tx.blk]
  omega
 ·have := h.high (by omega) b hb2
  simp [Tx.blk]
  omega
end Go.Proofs.YtodlhhfcjkjapaaGreatDoor
