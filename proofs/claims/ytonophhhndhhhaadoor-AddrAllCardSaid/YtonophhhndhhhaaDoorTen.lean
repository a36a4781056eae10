/- The ten digits; strings.IndexByte in them. -/
import Derived.Test.YtonophhhndhhhaaDoorPure
import Derived.Test.YtonophhhndhhhaaDoorRd
import Derived.Test.YtonophhhndhhhaaDoorShelf
import Derived.Test.YtonophhhndhhhaaDoorRuneP
import Derived.Test.YtonophhhndhhhaaDoorScope
import Derived.Lib.OthersKept
import Derived.BigQuiet
import Derived.Deep.QuietTactic
import Derived.WalkSpells
import Derived.WalkSmall
import Derived.WalkLawsBesides
namespace Go.Proofs.YtonophhhndhhhaaDoor
open Go.RowKit

def ten : ByteArray := ⟨#[48, 49, 50, 51, 52, 53, 54, 55, 56, 57]⟩
theorem ten_low : ∀ b ∈ ten.data.toList, b.toNat < 128 := by decide
theorem ib_none (c : UInt8) : ∀ {l : List UInt8}, (∀ b ∈ l, b ≠ c) → Lib.indexByte l c = -1
  | [], _ => rfl
  | b :: l, h => by
    have e : (b == c) = false := beq_eq_false_iff_ne.2 (h b (by simp))
    have ih := ib_none c (l := l) (fun x hx => h x (by simp [hx]))
    rw [Lib.indexByte, e, ih]
    rfl
theorem ten_none (i : Nat) (c : Int) (hc : 128 ≤ c) (hc2 : c < 256) (w : World) : Calls Tryd.prog 45 #[.string (ten.extract i 10), .int .u8 c] w fun e w' => e = .returned (.int .i64 (-1)) ∧ w' = w := by
  refine (Tryd.strings_IndexByte _ c w).mono ?_
  rintro e' w' ⟨rfl, rfl⟩
  refine ⟨?_, rfl⟩
  have hl : ∀ b ∈ (ten.extract i 10).data.toList, b ≠ c.toNat.toUInt8 := by
    intro b hb e
    rw [ByteArray.data_extract, Array.toList_extract, List.extract_eq_take_drop] at hb
    have h1 := ten_low b (List.mem_of_mem_drop (List.mem_of_mem_take hb))
    rw [e, UInt8.toNat_ofNat'] at h1
    omega
  rw [ib_none _ hl]

end Go.Proofs.YtonophhhndhhhaaDoor
