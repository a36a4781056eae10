/- The reference's Digits walked. -/
import Derived.Test.YtkpahkcamgmlnaaDoorRd
import Derived.Lib.ItoaLen
import Derived.Lib.Walk
namespace Go.Proofs.YtkpahkcamgmlnaaDoor
open Go.RowKit

theorem ten_at : ∀ d : Nat, d < 10 → (⟨#[48, 49, 50, 51, 52, 53, 54, 55, 56, 57]⟩ : ByteArray).extract d (d + 1) = ⟨[UInt8.ofNat (48 + d)].toArray⟩ := by
  intro d hd
  have h : ∀ d : Fin 10, (⟨#[48, 49, 50, 51, 52, 53, 54, 55, 56, 57]⟩ : ByteArray).extract d.val (d.val + 1) = ⟨[UInt8.ofNat (48 + d.val)].toArray⟩ := by decide +kernel
  exact h ⟨d, hd⟩

theorem dec_end {u : Nat} (h : u < 10) : Lib.decDigits u = [UInt8.ofNat (48 + u % 10)] := by
  rw [Lib.decDigits, dif_pos h, Nat.mod_eq_of_lt h]
theorem dec_more {u : Nat} (h : ¬ u < 10) : Lib.decDigits u = Lib.decDigits (u / 10) ++ [UInt8.ofNat (48 + u % 10)] := by
  conv => lhs; rw [Lib.decDigits]
  rw [dif_neg h]

/-- What holds at the head of a round: k digits are there. -/
structure DInv (u0 u k : Nat) (acc : List UInt8) : Prop where
  eq : Lib.decDigits u ++ acc = Lib.decDigits u0
  small : u < 10 ^ (20 - k)
  more : 0 < k → 0 < u
  len : acc.length ≤ k
  top : u ≤ 9223372036854775808

theorem DInv.start {u0 : Nat} (h : u0 ≤ 9223372036854775808) : DInv u0 u0 0 [] := ⟨by simp, by show u0 < 10 ^ 20; omega, fun h => absurd h (by omega), Nat.le_refl _, h⟩
theorem DInv.go {u0 u k : Nat} {acc : List UInt8} (h : DInv u0 u k acc) : k < 20 := by
  rcases Nat.lt_or_ge k 20 with h1 | h1
  · exact h1
  · have h2 := h.small
    rw [show 20 - k = 0 from by omega] at h2
    have := h.more (by omega)
    omega
theorem DInv.last {u0 u k : Nat} {acc : List UInt8} (h : DInv u0 u k acc) (hu : u < 10) : UInt8.ofNat (48 + u % 10) :: acc = Lib.decDigits u0 := by
  rw [← h.eq, dec_end hu]; rfl
theorem DInv.step {u0 u k : Nat} {acc : List UInt8} (h : DInv u0 u k acc) (hu : ¬ u < 10) : DInv u0 (u / 10) (k + 1) (UInt8.ofNat (48 + u % 10) :: acc) := by
  refine ⟨?_, ?_, fun _ => by omega, by have := h.len; simp; omega, by have := h.top; omega⟩
  · rw [← h.eq, dec_more hu, List.append_assoc]; rfl
  · have h1 := h.small
    have h2 := h.go
    rw [show 20 - k = (20 - (k + 1)) + 1 from by omega, Nat.pow_succ] at h1
    omega

theorem DInv.quo {u0 u k : Nat} {acc : List UInt8} (h : DInv u0 u k acc) : IntKind.u64.wrap ((u : Int) / 10) = (u : Int) / 10 := by
  have := h.top
  exact IntWalk.u64_in _ ⟨by omega, by omega⟩

theorem dig_cat (u : Nat) (acc : List UInt8) : Value.string ((⟨#[48, 49, 50, 51, 52, 53, 54, 55, 56, 57]⟩ : ByteArray).extract (u % 10) (u % 10 + 1) ++ ⟨acc.toArray⟩) = .string ⟨(UInt8.ofNat (48 + u % 10) :: acc).toArray⟩ := by
  rw [ten_at _ (Nat.mod_lt _ (by decide)), ByteArray.mk_append_mk]
  rfl
theorem dig_sign (u : Nat) (acc : List UInt8) : Ending.returned (Value.string ((⟨#[45]⟩ : ByteArray) ++ ((⟨#[48, 49, 50, 51, 52, 53, 54, 55, 56, 57]⟩ : ByteArray).extract (u % 10) (u % 10 + 1) ++ ⟨acc.toArray⟩))) = .returned (.string ⟨(45 :: UInt8.ofNat (48 + u % 10) :: acc).toArray⟩) := by
  rw [ten_at _ (Nat.mod_lt _ (by decide)), ByteArray.mk_append_mk]
  have h := ByteArray.mk_append_mk [45] ([UInt8.ofNat (48 + u % 10)] ++ acc)
  exact congrArg (fun b => Ending.returned (Value.string b)) h

theorem ref_digits (n : Int) (w : World) (h0 : -9223372036854775808 ≤ n) (h1 : n ≤ 9223372036854775807) :
    Calls Tryd.prog 22 #[.int .i64 n] w fun e w' => e = .returned (.string ⟨(Lib.itoa n).toArray⟩) ∧ w = w' := by
  obtain ⟨u0, hu0⟩ : ∃ u0 : Nat, u0 = n.natAbs := ⟨_, rfl⟩
  have hu1 : u0 ≤ 9223372036854775808 := by omega
  have HST := Lib.hid (DInv.start hu1)
  by_cases hn : n < 0
  · obtain ⟨X, hX⟩ : ∃ X, IntKind.u64.wrap n = X := ⟨_, rfl⟩
    have hX2 : IntKind.u64.wrap (-X) = (u0 : Int) := by
      rw [← hX, IntKind.wrap_u64, IntKind.wrap_u64]
      omega
    have HIT := Lib.hid (show Lib.itoa n = 45 :: Lib.decDigits u0 by rw [Lib.itoa, if_pos hn, hu0])
    clear hu0 hu1
    go_enter Tryd.func22, Tryd.ntmps22
    go_wp2_with fail
    go_loop [3, 4, 5] (fun x a i => ∃ (u k : Nat) (acc : List UInt8), k ≤ 20 ∧ i = .int .i64 k ∧ x = .int .u64 u ∧ a = .string ⟨acc.toArray⟩ ∧ DInv u0 u k acc) (fun _ _ i => 21 - (intOf i).toNat)
    case atStart => exact ⟨u0, 0, [], by omega, rfl, rfl, rfl, HST.out⟩
    case round =>
      obtain ⟨u, k, acc, hk, rfl, rfl, rfl, hI⟩ := hrel
      have g1 := hI.go
      have g2 := hI.len
      have hq := hI.quo
      by_cases hu : u < 10
      · have hz : ((u : Int) / 10 == 0) = true := by simp; omega
        have HL := Lib.hid (hI.last hu)
        go_wp2
        go_ret
        refine ⟨?_, rfl⟩
        rw [HIT.out, ← HL.out]
        exact dig_sign _ _
      · have hz : ((u : Int) / 10 == 0) = false := by simp; omega
        have HS := Lib.hid (hI.step hu)
        go_wp2
        go_round
        case rel => exact ⟨u / 10, k + 1, _, by omega, by go_num, by go_num, dig_cat _ _, HS.out⟩
        case measure => simp [intOf]; omega
  · have hX : IntKind.u64.wrap n = (u0 : Int) := by
      rw [IntKind.wrap_u64]
      omega
    have HIT := Lib.hid (show Lib.itoa n = Lib.decDigits u0 by rw [Lib.itoa, if_neg hn, hu0]; congr 1; omega)
    clear hu0 hu1
    go_enter Tryd.func22, Tryd.ntmps22
    go_wp2_with fail
    go_loop [3, 4, 5] (fun x a i => ∃ (u k : Nat) (acc : List UInt8), k ≤ 20 ∧ i = .int .i64 k ∧ x = .int .u64 u ∧ a = .string ⟨acc.toArray⟩ ∧ DInv u0 u k acc) (fun _ _ i => 21 - (intOf i).toNat)
    case atStart => exact ⟨u0, 0, [], by omega, rfl, rfl, rfl, HST.out⟩
    case round =>
      obtain ⟨u, k, acc, hk, rfl, rfl, rfl, hI⟩ := hrel
      have g1 := hI.go
      have g2 := hI.len
      have hq := hI.quo
      by_cases hu : u < 10
      · have hz : ((u : Int) / 10 == 0) = true := by simp; omega
        have HL := Lib.hid (hI.last hu)
        go_wp2
        go_ret
        refine ⟨?_, rfl⟩
        rw [HIT.out, ← HL.out]
        exact congrArg Ending.returned (dig_cat _ _)
      · have hz : ((u : Int) / 10 == 0) = false := by simp; omega
        have HS := Lib.hid (hI.step hu)
        go_wp2
        go_round
        case rel => exact ⟨u / 10, k + 1, _, by omega, by go_num, by go_num, dig_cat _ _, HS.out⟩
        case measure => simp [intOf]; omega

end Go.Proofs.YtkpahkcamgmlnaaDoor
