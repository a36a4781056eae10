/- The texts RefDigits, IntLow, one behind the other. -/
import Derived.Test.YtiikionoagmabaaDoorRd
import Derived.Lib.ItoaLen
import Derived.Lib.Walk
import Derived.Laws.BitsLemmas
/- The reference's Digits walked. -/
namespace Go.Proofs.YtiikionoagmabaaDoor
open Go.RowKit

theorem ten_at : ∀ d : Nat, d < 10 → (⟨#[48, 49, 50, 51, 52, 53, 54, 55, 56, 57]⟩ : ByteArray).extract d (d + 1) = ⟨[UInt8.ofNat (48 + d)].toArray⟩ := by
  intro d hd
  have h : ∀ d : Fin 10, (⟨#[48, 49, 50, 51, 52, 53, 54, 55, 56, 57]⟩ : ByteArray).extract d.val (d.val + 1) = ⟨[UInt8.ofNat (48 + d.val)].toArray⟩ := by decide +kernel
  exact h ⟨d, hd⟩

theorem dec_end {u : Nat} (h : u < 10) : Lib.decDigits u = [UInt8.ofNat (48 + u % 10)] := by
  rw [Lib.decDigits, dif_pos h, Nat.mod_eq_of_lt h]
theorem dec_more {u : Nat} (h : ¬ u < 10) : Lib.decDigits u = Lib.decDigits (u / 10) ++ [UInt8.ofNat (48 + u % 10)] := by
  conv => lhs; rw [Lib.decDigits]
  rw [dif_neg h]

/-- What holds at the head of a round: k digits are there. -/
structure DInv (u0 u k : Nat) (acc : List UInt8) : Prop where
  eq : Lib.decDigits u ++ acc = Lib.decDigits u0
  small : u < 10 ^ (20 - k)
  more : 0 < k → 0 < u
  len : acc.length ≤ k
  top : u ≤ 9223372036854775808

theorem DInv.start {u0 : Nat} (h : u0 ≤ 9223372036854775808) : DInv u0 u0 0 [] := ⟨by simp, by show u0 < 10 ^ 20; omega, fun h => absurd h (by omega), Nat.le_refl _, h⟩
theorem DInv.go {u0 u k : Nat} {acc : List UInt8} (h : DInv u0 u k acc) : k < 20 := by
  rcases Nat.lt_or_ge k 20 with h1 | h1
  · exact h1
  · have h2 := h.small
    rw [show 20 - k = 0 from by omega] at h2
    have := h.more (by omega)
    omega
theorem DInv.last {u0 u k : Nat} {acc : List UInt8} (h : DInv u0 u k acc) (hu : u < 10) : UInt8.ofNat (48 + u % 10) :: acc = Lib.decDigits u0 := by
  rw [← h.eq, dec_end hu]; rfl
theorem DInv.step {u0 u k : Nat} {acc : List UInt8} (h : DInv u0 u k acc) (hu : ¬ u < 10) : DInv u0 (u / 10) (k + 1) (UInt8.ofNat (48 + u % 10) :: acc) := by
  refine ⟨?_, ?_, fun _ => by omega, by have := h.len; simp; omega, by have := h.top; omega⟩
  · rw [← h.eq, dec_more hu, List.append_assoc]; rfl
  · have h1 := h.small
    have h2 := h.go
    rw [show 20 - k = (20 - (k + 1)) + 1 from by omega, Nat.pow_succ] at h1
    omega

theorem DInv.quo {u0 u k : Nat} {acc : List UInt8} (h : DInv u0 u k acc) : IntKind.u64.wrap ((u : Int) / 10) = (u : Int) / 10 := by
  have := h.top
  exact IntWalk.u64_in _ ⟨by omega, by omega⟩

theorem dig_cat (u : Nat) (acc : List UInt8) : Value.string ((⟨#[48, 49, 50, 51, 52, 53, 54, 55, 56, 57]⟩ : ByteArray).extract (u % 10) (u % 10 + 1) ++ ⟨acc.toArray⟩) = .string ⟨(UInt8.ofNat (48 + u % 10) :: acc).toArray⟩ := by
  rw [ten_at _ (Nat.mod_lt _ (by decide)), ByteArray.mk_append_mk]
  rfl
theorem dig_sign (u : Nat) (acc : List UInt8) : Ending.returned (Value.string ((⟨#[45]⟩ : ByteArray) ++ ((⟨#[48, 49, 50, 51, 52, 53, 54, 55, 56, 57]⟩ : ByteArray).extract (u % 10) (u % 10 + 1) ++ ⟨acc.toArray⟩))) = .returned (.string ⟨(45 :: UInt8.ofNat (48 + u % 10) :: acc).toArray⟩) := by
  rw [ten_at _ (Nat.mod_lt _ (by decide)), ByteArray.mk_append_mk]
  have h := ByteArray.mk_append_mk [45] ([UInt8.ofNat (48 + u % 10)] ++ acc)
  exact congrArg (fun b => Ending.returned (Value.string b)) h

theorem ref_digits (n : Int) (w : World) (h0 : -9223372036854775808 ≤ n) (h1 : n ≤ 9223372036854775807) :
    Calls Tryd.prog 21 #[.int .i64 n] w fun e w' => e = .returned (.string ⟨(Lib.itoa n).toArray⟩) ∧ w = w' := by
  obtain ⟨u0, hu0⟩ : ∃ u0 : Nat, u0 = n.natAbs := ⟨_, rfl⟩
  have hu1 : u0 ≤ 9223372036854775808 := by omega
  have HST := Lib.hid (DInv.start hu1)
  by_cases hn : n < 0
  · obtain ⟨X, hX⟩ : ∃ X, IntKind.u64.wrap n = X := ⟨_, rfl⟩
    have hX2 : IntKind.u64.wrap (-X) = (u0 : Int) := by
      rw [← hX, IntKind.wrap_u64, IntKind.wrap_u64]
      omega
    have HIT := Lib.hid (show Lib.itoa n = 45 :: Lib.decDigits u0 by rw [Lib.itoa, if_pos hn, hu0])
    clear hu0 hu1
    go_enter Tryd.func21, Tryd.ntmps21
    go_wp2_with fail
    go_loop [3, 4, 5] (fun x a i => ∃ (u k : Nat) (acc : List UInt8), k ≤ 20 ∧ i = .int .i64 k ∧ x = .int .u64 u ∧ a = .string ⟨acc.toArray⟩ ∧ DInv u0 u k acc) (fun _ _ i => 21 - (intOf i).toNat)
    case atStart => exact ⟨u0, 0, [], by omega, rfl, rfl, rfl, HST.out⟩
    case round =>
      obtain ⟨u, k, acc, hk, rfl, rfl, rfl, hI⟩ := hrel
      have g1 := hI.go
      have g2 := hI.len
      have hq := hI.quo
      by_cases hu : u < 10
      · have hz : ((u : Int) / 10 == 0) = true := by simp; omega
        have HL := Lib.hid (hI.last hu)
        go_wp2
        go_ret
        refine ⟨?_, rfl⟩
        rw [HIT.out, ← HL.out]
        exact dig_sign _ _
      · have hz : ((u : Int) / 10 == 0) = false := by simp; omega
        have HS := Lib.hid (hI.step hu)
        go_wp2
        go_round
        case rel => exact ⟨u / 10, k + 1, _, by omega, by go_num, by go_num, dig_cat _ _, HS.out⟩
        case measure => simp [intOf]; omega
  · have hX : IntKind.u64.wrap n = (u0 : Int) := by
      rw [IntKind.wrap_u64]
      omega
    have HIT := Lib.hid (show Lib.itoa n = Lib.decDigits u0 by rw [Lib.itoa, if_neg hn, hu0]; congr 1; omega)
    clear hu0 hu1
    go_enter Tryd.func21, Tryd.ntmps21
    go_wp2_with fail
    go_loop [3, 4, 5] (fun x a i => ∃ (u k : Nat) (acc : List UInt8), k ≤ 20 ∧ i = .int .i64 k ∧ x = .int .u64 u ∧ a = .string ⟨acc.toArray⟩ ∧ DInv u0 u k acc) (fun _ _ i => 21 - (intOf i).toNat)
    case atStart => exact ⟨u0, 0, [], by omega, rfl, rfl, rfl, HST.out⟩
    case round =>
      obtain ⟨u, k, acc, hk, rfl, rfl, rfl, hI⟩ := hrel
      have g1 := hI.go
      have g2 := hI.len
      have hq := hI.quo
      by_cases hu : u < 10
      · have hz : ((u : Int) / 10 == 0) = true := by simp; omega
        have HL := Lib.hid (hI.last hu)
        go_wp2
        go_ret
        refine ⟨?_, rfl⟩
        rw [HIT.out, ← HL.out]
        exact congrArg Ending.returned (dig_cat _ _)
      · have hz : ((u : Int) / 10 == 0) = false := by simp; omega
        have HS := Lib.hid (hI.step hu)
        go_wp2
        go_round
        case rel => exact ⟨u / 10, k + 1, _, by omega, by go_num, by go_num, dig_cat _ _, HS.out⟩
        case measure => simp [intOf]; omega

end Go.Proofs.YtiikionoagmabaaDoor

/- 'x & (2^k - 1)' of an int that may be negative. -/
namespace Go.Proofs.YtiikionoagmabaaDoor
open Go.RowKit
theorem i64_low (k : Nat) (M : Int) (hM : (BitVec.ofInt 64 M).toNat = 2 ^ k - 1) (hk : (2 : Int) ^ k = M + 1) (hM0 : 0 ≤ M) (hM1 : M < 9223372036854775807) (n : Int) : bits .and .i64 n M = n % (M + 1) := by
  have key : (BitVec.ofInt 64 n &&& BitVec.ofInt 64 M).toNat = (n % ((2 ^ 64 : Nat) : Int)).toNat % 2 ^ k := by
    rw [BitVec.toNat_and, BitVec.toNat_ofInt, hM, Nat.and_two_pow_sub_one_eq_mod]
  show IntKind.i64.wrap ((BitVec.ofInt 64 n &&& BitVec.ofInt 64 M).toNat : Nat) = n % (M + 1)
  have h2 : ((2 ^ k : Nat) : Int) = M + 1 := by rw [← hk]; simp
  rw [key, Int.natCast_emod, h2, Int.toNat_of_nonneg (Int.emod_nonneg _ (by decide)), IntKind.wrap_i64]
  have hd : n % ((2 ^ 64 : Nat) : Int) % (M + 1) = n % (M + 1) := by
    refine Int.emod_emod_of_dvd n ?_
    rw [← h2]
    refine Int.natCast_dvd_natCast.2 (Nat.pow_dvd_pow 2 ?_)
    rcases Nat.lt_or_ge 64 k with h | h
    · exfalso
      have : 2 ^ 64 ≤ 2 ^ k := Nat.pow_le_pow_right (by decide) (by omega)
      have h3 : ((2 ^ 64 : Nat) : Int) ≤ ((2 ^ k : Nat) : Int) := Int.ofNat_le.2 this
      rw [h2] at h3
      have : ((2 ^ 64 : Nat) : Int) = 18446744073709551616 := by decide
      omega
    · exact h
  rw [hd]
  have a := Int.emod_nonneg n (show M + 1 ≠ 0 by omega)
  have b := Int.emod_lt_of_pos n (show 0 < M + 1 by omega)
  generalize n % (M + 1) = r at *
  omega
theorem i64_29 (n : Int) : bits .and .i64 n 536870911 = n % 536870912 := i64_low 29 536870911 (by decide) (by decide) (by decide) (by decide) n
end Go.Proofs.YtiikionoagmabaaDoor
