/- Numbers, in plain words (layer 1). -/
import Derived.Test.YtiikionoagmabaaDoorPure
import Derived.WalkKit
namespace Go.Proofs.YtiikionoagmabaaDoor
open Go.RowKit

namespace Tx
def dig (b : UInt8) : Bool := decide (48 ≤ b.toNat) && decide (b.toNat ≤ 57)
def digits (l : List UInt8) : Bool := l.all dig
def val (l : List UInt8) : Nat := l.foldl (fun a b => a * 10 + (b.toNat - 48)) 0
theorem digits_app (a b : List UInt8) : digits (a ++ b) = (digits a && digits b) := by simp [digits]
theorem val_snoc (l : List UInt8) (b : UInt8) : val (l ++ [b]) = val l * 10 + (b.toNat - 48) := by simp [val]
theorem val_lt' : ∀ (n : Nat) (l : List UInt8), l.length = n → digits l = true → val l < 10 ^ n
  | 0, l, hl, _ => by
    obtain rfl : l = [] := List.length_eq_zero_iff.1 hl
    show 0 < 1; omega
  | n + 1, l, hl, hd => by
    have hne : l ≠ [] := fun e => by rw [e] at hl; cases hl
    obtain ⟨a, b, rfl⟩ : ∃ a b, l = a ++ [b] := ⟨l.dropLast, l.getLast hne, (List.dropLast_concat_getLast hne).symm⟩
    rw [digits_app] at hd
    simp only [Bool.and_eq_true] at hd
    have h1 := val_lt' n a (by simpa using hl) hd.1
    have h2 : b.toNat ≤ 57 := by have := hd.2; simp [digits, dig] at this; exact this.2
    rw [val_snoc, Nat.pow_succ]
    omega
theorem val_lt {l : List UInt8} (h : l.length ≤ 9) (hd : digits l = true) : val l < 1000000000 :=
  Nat.lt_of_lt_of_le (val_lt' _ l rfl hd) (Nat.pow_le_pow_right (by decide) h)

def number (l : List UInt8) (most : Int) : Int × Bool := if (1 ≤ l.length ∧ l.length ≤ 9 ∧ digits l = true) ∧ (val l : Int) ≤ most then (val l, true) else (0, false)
theorem number_bad {l : List UInt8} {most : Int} (h : ¬ (1 ≤ l.length ∧ l.length ≤ 9 ∧ digits l = true)) : number l most = (0, false) := if_neg (fun e => h e.1)
end Tx
/-- A number, and whether it is one, as a result. -/
def two (p : Int × Bool) : Value := .tuple #[.int .i64 p.1, .bool p.2]
end Go.Proofs.YtiikionoagmabaaDoor
