/- A place that a law makes, number by number (layer 13). -/
import Derived.Test.YtonophhhndhhhaaDoorALawA
import Derived.Test.YtonophhhndhhhaaDoorARefT
import Derived.Laws.BitsLemmas
namespace Go.Proofs.YtonophhhndhhhaaDoor
open Go.RowKit

theorem i64_low (k : Nat) (M : Int) (hM : (BitVec.ofInt 64 M).toNat = 2 ^ k - 1) (hk : (2 : Int) ^ k = M + 1) (hM0 : 0 ≤ M) (hM1 : M < 9223372036854775807) (n : Int) : bits .and .i64 n M = n % (M + 1) := by
  have key : (BitVec.ofInt 64 n &&& BitVec.ofInt 64 M).toNat = (n % ((2 ^ 64 : Nat) : Int)).toNat % 2 ^ k := by
    rw [BitVec.toNat_and, BitVec.toNat_ofInt, hM, Nat.and_two_pow_sub_one_eq_mod]
  show IntKind.i64.wrap ((BitVec.ofInt 64 n &&& BitVec.ofInt 64 M).toNat : Nat) = n % (M + 1)
  have h2 : ((2 ^ k : Nat) : Int) = M + 1 := by rw [← hk]; simp
  rw [key, Int.natCast_emod, h2, Int.toNat_of_nonneg (Int.emod_nonneg _ (by decide)), IntKind.wrap_i64]
  have hd : n % ((2 ^ 64 : Nat) : Int) % (M + 1) = n % (M + 1) := by
    refine Int.emod_emod_of_dvd n ?_
    rw [← h2]
    refine Int.natCast_dvd_natCast.2 (Nat.pow_dvd_pow 2 ?_)
    rcases Nat.lt_or_ge 64 k with h | h
    · exfalso
      have : 2 ^ 64 ≤ 2 ^ k := Nat.pow_le_pow_right (by decide) (by omega)
      have h3 : ((2 ^ 64 : Nat) : Int) ≤ ((2 ^ k : Nat) : Int) := Int.ofNat_le.2 this
      rw [h2] at h3
      have : ((2 ^ 64 : Nat) : Int) = 18446744073709551616 := by decide
      omega
    · exact h
  rw [hd]
  have a := Int.emod_nonneg n (show M + 1 ≠ 0 by omega)
  have b := Int.emod_lt_of_pos n (show 0 < M + 1 by omega)
  generalize n % (M + 1) = r at *
  omega
theorem i64_255 (n : Int) : bits .and .i64 n 255 = n % 256 := i64_low 8 255 (by decide) (by decide) (by decide) (by decide) n
theorem i64_1023 (n : Int) : bits .and .i64 n 1023 = n % 1024 := i64_low 10 1023 (by decide) (by decide) (by decide) (by decide) n
theorem i64_18 (n : Int) : bits .and .i64 n 262143 = n % 262144 := i64_low 18 262143 (by decide) (by decide) (by decide) (by decide) n
theorem i64_20 (n : Int) : bits .and .i64 n 1048575 = n % 1048576 := i64_low 20 1048575 (by decide) (by decide) (by decide) (by decide) n

/-- The first k numbers are there. -/
def part (m : Nat → Nat) (k : Nat) (p : Int) : Ad.Ad := ⟨if 0 < k then (m 0 : Int) else 0, if 1 < k then (m 1 : Int) else 0, if 2 < k then (m 2 : Int) else 0, if 3 < k then (m 3 : Int) else 0, p⟩
theorem part_zero (m : Nat → Nat) (p : Int) : part m 0 p = ⟨0, 0, 0, 0, p⟩ := rfl
theorem part_four (m : Nat → Nat) (p : Int) : part m 4 p = ⟨(m 0 : Int), (m 1 : Int), (m 2 : Int), (m 3 : Int), p⟩ := rfl
theorem AB.num {w : World} {g : Nat} {m : Nat → Nat} {k : Nat} {p : Int} (h : AB w g (part m k p)) (hk : k < 4) : AB (w.setCell ⟨g, k, none⟩ (.int .i64 (m k : Int))) g (part m (k + 1) p) := by
  refine ⟨(setCell_row h.blk).trans ?_⟩
  match k, hk with
  | 0, _ => rfl
  | 1, _ => rfl
  | 2, _ => rfl
  | 3, _ => rfl
theorem AB.cellk {w : World} {g : Nat} {x : Ad.Ad} (h : AB w g x) {k : Nat} (hk : k < 4) : (w.cell? ⟨g, k, none⟩).isSome = true := by
  match k, hk with
  | 0, _ => rw [h.c0]; rfl
  | 1, _ => rw [h.c1]; rfl
  | 2, _ => rw [h.c2]; rfl
  | 3, _ => rw [h.c3]; rfl
theorem AB.someCell {w : World} {g : Nat} {x : Ad.Ad} (h : AB w g x) {k : Nat} (hk : k < 4) : ∃ n : Int, w.cell? ⟨g, k, none⟩ = some (.int .i64 n) := by
  match k, hk with
  | 0, _ => exact ⟨_, h.c0⟩
  | 1, _ => exact ⟨_, h.c1⟩
  | 2, _ => exact ⟨_, h.c2⟩
  | 3, _ => exact ⟨_, h.c3⟩

/-- The digits of the first k numbers, a comma behind each. -/
def hostD (m : Nat → Nat) : Nat → List UInt8
  | 0 => []
  | k + 1 => hostD m k ++ Lib.decDigits (m k) ++ [44]
theorem hostD_len (m : Nat → Nat) (hm : ∀ k, m k ≤ 255) : ∀ k, (hostD m k).length ≤ 31 * k
  | 0 => by simp [hostD]
  | k + 1 => by
    have ih := hostD_len m hm k
    have := itoaN_len (m k) (by have := hm k; omega)
    simp only [hostD, List.length_append, List.length_cons, List.length_nil]
    omega
theorem fit_of (m : Nat → Nat) (hm : ∀ k, m k ≤ 255) (e f : Nat) (he : e ≤ 255) (hf : f ≤ 255) (p : Int) (hp : p = e * 256 + f) : Ad.Fit ⟨(m 0 : Int), (m 1 : Int), (m 2 : Int), (m 3 : Int), p⟩ (m 0) (m 1) (m 2) (m 3) e f :=
  ⟨rfl, rfl, rfl, rfl, hp, hm 0, hm 1, hm 2, hm 3, he, hf⟩
theorem hostD_text {m : Nat → Nat} {e f : Nat} {x : Ad.Ad} (h : Ad.Fit x (m 0) (m 1) (m 2) (m 3) e f) : hostD m 4 ++ Lib.decDigits e ++ [44] ++ Lib.decDigits f = Ad.text x := by
  rw [h.text]
  simp [hostD, Ad.commas]
theorem fit_aw {x : Ad.Ad} {a b c d e f : Nat} (h : Ad.Fit x a b c d e f) : AW x := by
  have := h.ha; have := h.hb; have := h.hc; have := h.hd; have := h.he; have := h.la; have := h.lb; have := h.lc; have := h.ld; have := h.le; have := h.lf
  refine ⟨?_, ?_, ?_, ?_, ?_⟩ <;> omega
theorem fit_len {x : Ad.Ad} {a b c d e f : Nat} (h : Ad.Fit x a b c d e f) : (Ad.text x).length ≤ 200 := by
  have la := itoaN_len a (by have := h.la; omega)
  have lb := itoaN_len b (by have := h.lb; omega)
  have lc := itoaN_len c (by have := h.lc; omega)
  have ld := itoaN_len d (by have := h.ld; omega)
  have le := itoaN_len e (by have := h.le; omega)
  have lf := itoaN_len f (by have := h.lf; omega)
  rw [h.text]
  simp [Ad.commas]
  omega
theorem fit_pasv {x : Ad.Ad} {a b c d e f : Nat} (h : Ad.Fit x a b c d e f) : Ad.pasv (Ad.text x) = if x.port = 0 then none else some x := by
  have := h.back (s := []) (r := []) (fun b hb => by cases hb) (fun c hc => by cases hc) (by simp)
  simpa using this
end Go.Proofs.YtonophhhndhhhaaDoor
