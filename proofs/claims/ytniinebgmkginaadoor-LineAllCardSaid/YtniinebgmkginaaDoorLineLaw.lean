/- The small functions of the laws of layer 10, walked. -/
import Derived.Test.YtniinebgmkginaaDoorLineStatus
import Derived.Test.YtniinebgmkginaaDoorBits
import Derived.Laws.StructEq
import Derived.BigQuiet
import Derived.Deep.QuietTactic
namespace Go.Proofs.YtniinebgmkginaaDoor
open Go.RowKit

/-- 'n & 1023' of any int. -/
theorem and_1023 (n : Int) : bits .and .i64 n 1023 = n % 1024 := by
  have h : (BitVec.ofInt 64 n &&& BitVec.ofInt 64 1023).toNat = (n % 1024).toNat := by
    rw [BitVec.toNat_and, BitVec.toNat_ofInt, BitVec.toNat_ofInt]
    rw [show (1023 % ((2 ^ 64 : Nat) : Int)).toNat = 2 ^ 10 - 1 from by decide, Nat.and_two_pow_sub_one_eq_mod]
    omega
  show IntKind.i64.wrap (((BitVec.ofInt 64 n &&& BitVec.ofInt 64 1023).toNat : Nat) : Int) = _
  rw [h, wraps_i64 _ (by omega) (by omega)]
  omega

set_option maxHeartbeats 1000000 in
theorem short_any (l : List UInt8) (hl : l.length ≤ maxLen) (w : World) :
    Calls Tryd.prog 9 #[.string (ba l)] w fun e w' => e = .returned (.string (ba (l.take 200))) ∧ w' = w := by
  unfold maxLen at hl
  have hz : (ba l).size = l.length := rfl
  by_cases h : (200 : Int) < l.length
  · have hx : (ba l).extract 0 200 = ba (l.take 200) := by rw [ba, ba_extract]; simp [ba]
    have h2 : (200 : Int) ≤ l.length := by omega
    go_enter Tryd.func9, Tryd.ntmps9
    go_wp2
    go_ret
    exact ⟨rfl, rfl⟩
  · have hx : ba l = ba (l.take 200) := by rw [List.take_of_length_le (by omega)]
    rw [← hx]
    clear hx
    go_enter Tryd.func9, Tryd.ntmps9
    go_wp2
    go_ret
    exact ⟨rfl, rfl⟩

theorem stHeld : Tryd.prog.stoodInHeld 25 = false := by kernel_rfl
theorem stGuard : Tryd.prog.eqGuardType Tryd.prog.depth 25 = false := by kernel_rfl

set_option maxHeartbeats 2000000 in
theorem shown_any (w : World) : Calls Tryd.prog 8 #[] w fun e w' => e = .returned (.bool true) ∧ Below w.heap.size w w' := by
  have hS : ∀ w, Calls Tryd.prog 10 #[.int .i64 1, .string ⟨#[50, 53, 48, 45, 83, 73, 90, 69, 32, 57]⟩] w fun e w' => e = .returned (.tuple #[.agg #[.string ⟨#[50, 53, 48]⟩, .bool true, .string ⟨#[83, 73, 90, 69, 32, 57]⟩], .bool true]) ∧ Below w.heap.size w w' := status_any 1 [50, 53, 48, 45, 83, 73, 90, 69, 32, 57] (by decide)
  have q2 := stHeld
  have q3 := stGuard
  have hS := hS w
  go_enter Tryd.func8, Tryd.ntmps8
  go_wp2_with (go_at_call 10; refine hS.mono ?_; rintro e w1 ⟨rfl, hb⟩; clear hS)
  go_ret
  exact ⟨rfl, (hb.alloc hb.size _).alloc (by rw [World.size_alloc]; have := hb.size; omega) _⟩

theorem dig_at : ∀ a : Fin 10, (⟨#[48, 49, 50, 51, 52, 53, 54, 55, 56, 57]⟩ : ByteArray).extract a.val (a.val + 1) = ⟨#[UInt8.ofNat (48 + a.val)]⟩ := by decide +kernel
theorem one_append (a b : Array UInt8) : (⟨a⟩ : ByteArray) ++ ⟨b⟩ = ⟨a ++ b⟩ := by
  apply ByteArray.ext
  simp

set_option maxHeartbeats 4000000 in
/-- 'digits' of a number from 100 to 999. -/
theorem digits_any (N : Nat) (h1 : 100 ≤ N) (h2 : N < 1000) (w : World) :
    Calls Tryd.prog 16 #[.int .i64 (N : Int)] w fun e w' => e = .returned (.string (ba (Ln.codeOf N))) ∧ ∃ q, w' = w.drewN q := by
  unfold Ln.codeOf
  obtain ⟨a, ha⟩ : ∃ a, a = N / 100 := ⟨_, rfl⟩
  obtain ⟨b, hb⟩ : ∃ b, b = N / 10 % 10 := ⟨_, rfl⟩
  obtain ⟨c, hc⟩ : ∃ c, c = N % 10 := ⟨_, rfl⟩
  obtain ⟨m, hm⟩ : ∃ m, m = N / 10 := ⟨_, rfl⟩
  rw [← ha, ← hb, ← hc]
  have e1 : (N : Int).tdiv 100 = (a : Int) := by rw [Int.tdiv_eq_ediv_of_nonneg (by omega)]; omega
  have e2 : (N : Int).tdiv 10 = (m : Int) := by rw [Int.tdiv_eq_ediv_of_nonneg (by omega)]; omega
  have e3 : (m : Int).tmod 10 = (b : Int) := by rw [Int.tmod_eq_emod_of_nonneg (by omega)]; omega
  have e4 : (N : Int).tmod 10 = (c : Int) := by rw [Int.tmod_eq_emod_of_nonneg (by omega)]; omega
  have w1 : IntKind.i64.wrap (a : Int) = (a : Int) := wraps_i64 _ (by omega) (by omega)
  have w2 : IntKind.i64.wrap (m : Int) = (m : Int) := wraps_i64 _ (by omega) (by omega)
  have w3 : IntKind.i64.wrap (b : Int) = (b : Int) := wraps_i64 _ (by omega) (by omega)
  have w4 : IntKind.i64.wrap (c : Int) = (c : Int) := wraps_i64 _ (by omega) (by omega)
  have p1 : IntKind.i64.wrap ((a : Int) + 1) = ((a + 1 : Nat) : Int) := by rw [wraps_i64 _ (by omega) (by omega)]; omega
  have p2 : IntKind.i64.wrap ((b : Int) + 1) = ((b + 1 : Nat) : Int) := by rw [wraps_i64 _ (by omega) (by omega)]; omega
  have p3 : IntKind.i64.wrap ((c : Int) + 1) = ((c + 1 : Nat) : Int) := by rw [wraps_i64 _ (by omega) (by omega)]; omega
  have x1 := dig_at ⟨a, by omega⟩
  have x2 := dig_at ⟨b, by omega⟩
  have x3 := dig_at ⟨c, by omega⟩
  simp only at x1 x2 x3
  have l1 : a ≤ 9 := by omega
  have l2 : b ≤ 9 := by omega
  have l3 : c ≤ 9 := by omega
  clear ha hb hc hm h1 h2
  go_enter Tryd.func16, Tryd.ntmps16
  go_wp2
  go_quiet (fail)
  simp only [Exit.then]
  go_wp2
  go_ret
  refine ⟨?_, nq, rfl⟩
  show Ending.returned (.string (⟨#[48 + UInt8.ofNat a]⟩ ++ ⟨#[48 + UInt8.ofNat b]⟩ ++ ⟨#[48 + UInt8.ofNat c]⟩)) = _
  rw [one_append, one_append]
  simp [ba]
end Go.Proofs.YtniinebgmkginaaDoor
