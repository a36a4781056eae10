/- The library's Index of one byte (strings.Index, stringslite.Index), and Cut by one. -/
import Derived.Test.YtodlhhfcjkjapaaGreatDoorBa
import Derived.Test.YtodlhhfcjkjapaaGreatDoorBits
import Derived.Test.YtodlhhfcjkjapaaGreatDoorShelf
import Derived.BigQuiet
import Derived.Deep.QuietTactic
namespace Go.Proofs.YtodlhhfcjkjapaaGreatDoor
open Go.RowKit
theorem ix_at (c : UInt8) : ∀ l : List UInt8, (Lib.indexByte l c = -1 ∧ ∀ x ∈ l, x ≠ c) ∨ ∃ k : Nat, k < l.length ∧ Lib.indexByte l c = (k : Int) ∧ (∀ x ∈ l.take k, x ≠ c) ∧ l = l.take k ++ c :: l.drop (k + 1)
 | [] => .inl ⟨rfl, by simp⟩
 | b :: l => by
  rw [Lib.indexByte]
  by_cases hb : b = c
  ·subst hb
   exact .inr ⟨0, by simp, by simp, by simp, rfl⟩
  ·have e : (b == c) = false := by simpa using hb
   rw [e]
   rcases ix_at c l with ⟨h1, h2⟩ | ⟨k, h1, h2, h3, h4⟩
   ·exact .inl ⟨by simp [h1], by simpa using ⟨hb, h2⟩⟩
   ·refine .inr ⟨k + 1, by simp; omega, ?_, by simpa using ⟨hb, h3⟩, by simpa using h4⟩
    rw [h2]
    have : ((k : Int) == -1) = false := by simp
    simp [this]
def cut1 (c : UInt8) (l : List UInt8) : List UInt8 × List UInt8 × Bool :=
 if Lib.indexByte l c < 0 then (l, [], false) else (l.take (Lib.indexByte l c).toNat, l.drop ((Lib.indexByte l c).toNat + 1), true)
theorem cut1_at (c : UInt8) (l : List UInt8) : ((∀ x ∈ l, x ≠ c) ∧ cut1 c l = (l, [], false)) ∨ ∃ k : Nat, k < l.length ∧ (∀ x ∈ l.take k, x ≠ c) ∧ l = l.take k ++ c :: l.drop (k + 1) ∧ cut1 c l = (l.take k, l.drop (k + 1), true) := by
 rcases ix_at c l with ⟨h1, h2⟩ | ⟨k, h1, h2, h3, h4⟩
 ·exact .inl ⟨h2, by unfold cut1; rw [h1]; rfl⟩
 ·refine .inr ⟨k, h1, h3, h4, ?_⟩
  unfold cut1
  rw [h2, if_neg (by omega)]
  rfl
set_option maxHeartbeats 1000000 in
theorem sliteCut_any (l : List UInt8) (c : UInt8) (hl : l.length ≤ 16777216) (w : World) :
  Calls Tryz.prog 103 #[.string ⟨l.toArray⟩, .string ⟨#[c]⟩] w fun e w' => e = .returned (.tuple #[sv (cut1 c l).1, sv (cut1 c l).2.1, .bool (cut1 c l).2.2]) ∧ ∃ q, w' = w.drewN q := by
 have hi := Tryz.stringslite_Index_one ⟨l.toArray⟩ c w
 have hz : (⟨l.toArray⟩ : ByteArray).size = l.length := rfl
 have hz1 : (⟨#[c]⟩ : ByteArray).size = 1 := rfl
 have hx : ∀ a b, (⟨l.toArray⟩ : ByteArray).extract a b = ⟨((l.take b).drop a).toArray⟩ := ba_extract l
 rcases ix_at c l with ⟨h1, h2⟩ | ⟨k, h1, h2, h3, h4⟩
 ·have e0 : Lib.indexByte (⟨l.toArray⟩ : ByteArray).data.toList c = -1 := h1
  rw [e0] at hi
  have ec : cut1 c l = (l, [], false) := by unfold cut1; rw [h1]; rfl
  rw [ec]
  clear h1 h2 e0 ec
  go_enter Tryz.func103, Tryz.ntmps103
  go_wp2_with (go_at_call 118; refine hi.mono ?_; rintro e w' ⟨rfl, hw⟩; rw [hw])
  go_ret3
  exact ⟨rfl, 0, rfl⟩
 ·have e0 : Lib.indexByte (⟨l.toArray⟩ : ByteArray).data.toList c = (k : Int) := h2
  rw [e0] at hi
  have ec : cut1 c l = (l.take k, l.drop (k + 1), true) := by unfold cut1; rw [h2, if_neg (by omega)]; rfl
  rw [ec]
  have hk : (0 : Int) ≤ k := by omega
  have hw1 : IntKind.i64.wrap ((k : Int) + 1) = ((k + 1 : Nat) : Int) := by rw [wraps_i64 _ (by omega) (by omega)]; omega
  have hk1 : (k : Int) ≤ (l.length : Int) := by omega
  have hk2 : ((k + 1 : Nat) : Int) ≤ (l.length : Int) := by omega
  clear h2 h3 h4 e0 ec
  go_enter Tryz.func103, Tryz.ntmps103
  go_wp2_with (go_at_call 118; refine hi.mono ?_; rintro e w' ⟨rfl, hw⟩; rw [hw])
  go_quiet (fail)
  simp only [Exit.then]
  go_wp2
  go_ret3
  exact ⟨by simp [sv], nq, rfl⟩
set_option maxHeartbeats 1000000 in
theorem sCut_any (l : List UInt8) (c : UInt8) (hl : l.length ≤ 16777216) (w : World) :
  Calls Tryz.prog 84 #[.string ⟨l.toArray⟩, .string ⟨#[c]⟩] w fun e w' => e = .returned (.tuple #[sv (cut1 c l).1, sv (cut1 c l).2.1, .bool (cut1 c l).2.2]) ∧ ∃ q, w' = w.drewN q := by
 have hi := sliteCut_any l c hl w
 go_enter Tryz.func84, Tryz.ntmps84
 go_wp2_with (go_at_call 103; refine hi.mono ?_; rintro e w' ⟨rfl, q, hw⟩; rw [hw])
 go_ret3
 exact ⟨rfl, q, rfl⟩
end Go.Proofs.YtodlhhfcjkjapaaGreatDoor
