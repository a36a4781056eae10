/- Numbers with noughts ahead, commas between; plain (layer 13, AddrSix). -/
import Derived.Test.YtonophhhndhhhaaDoorAddrP
namespace Go.Proofs.YtonophhhndhhhaaDoor
namespace Ad
open Tx

/-- A number's digits, noughts ahead. -/
def dgt (v c : Nat → Nat) (k : Nat) : List UInt8 := List.replicate (c k) 48 ++ Lib.decDigits (v k)
/-- The first k, a comma between. -/
def joinS (v c : Nat → Nat) : Nat → List UInt8
  | 0 => []
  | k + 1 => joinS v c k ++ (if 0 < k then [44] else []) ++ dgt v c k
def fineB (v c : Nat → Nat) : Nat → Bool
  | 0 => true
  | k + 1 => if k < 6 then fineB v c k && decide ((dgt v c k).length ≤ 3) && decide (v k ≤ 255) else fineB v c k
def lastN (v : Nat → Nat) : Nat → Nat
  | 0 => 0
  | k + 1 => if k < 6 then v k else lastN v k
def portN (v : Nat → Nat) : Nat → Nat
  | 0 => 0
  | k + 1 => if k < 6 then lastN v k * 256 + v k else portN v k

theorem dec_four {n : Nat} (h : n ≤ 1023) : (Lib.decDigits n).length ≤ 4 := by
  obtain ⟨_, _, h3, _, _⟩ := dec_facts n n (Nat.le_refl _)
  rcases Nat.lt_or_ge 4 (Lib.decDigits n).length with hg | hg
  · exfalso
    rcases Nat.eq_zero_or_pos n with rfl | hp
    · rw [Lib.decDigits] at hg
      simp at hg
    · have h6 := h3 hp
      have : 10 ^ 4 ≤ 10 ^ ((Lib.decDigits n).length - 1) := Nat.pow_le_pow_right (by decide) (by omega)
      omega
  · exact hg
theorem dgt_len {v c : Nat → Nat} (hv : ∀ k, v k ≤ 1023) (hc : ∀ k, c k ≤ 3) (k : Nat) : 1 ≤ (dgt v c k).length ∧ (dgt v c k).length ≤ 7 := by
  have := dec_four (hv k)
  have := dec_pos (v k)
  have := hc k
  simp only [dgt, List.length_append, List.length_replicate]
  omega
theorem dgt_digits (v c : Nat → Nat) (k : Nat) : digits (dgt v c k) = true := by
  rw [dgt, digits_app, digits_nulls, dec_all]
  rfl
theorem dgt_number {v c : Nat → Nat} (hv : ∀ k, v k ≤ 1023) (hc : ∀ k, c k ≤ 3) (k : Nat) : number (dgt v c k) 255 = if v k ≤ 255 then ((v k : Int), true) else (0, false) := by
  have hl := dgt_len hv hc k
  have hval : val (dgt v c k) = v k := by rw [dgt, val_nulls, dec_val]
  unfold number
  rw [hval]
  by_cases h : v k ≤ 255
  · rw [if_pos h, if_pos ⟨⟨hl.1, by omega, dgt_digits v c k⟩, by omega⟩]
  · rw [if_neg h, if_neg (fun e => h (by have := e.2; omega))]
theorem dgt_okd {v c : Nat → Nat} (hv : ∀ k, v k ≤ 1023) (hc : ∀ k, c k ≤ 3) (k : Nat) : okd (dgt v c k) = (decide ((dgt v c k).length ≤ 3) && decide (v k ≤ 255)) := by
  unfold okd
  rw [dgt_number hv hc]
  by_cases h : v k ≤ 255
  · rw [if_pos h, decide_eq_true h, Bool.and_comm]
  · rw [if_neg h, decide_eq_false h, Bool.and_comm]
theorem joinS_len {v c : Nat → Nat} (hv : ∀ k, v k ≤ 1023) (hc : ∀ k, c k ≤ 3) : ∀ k, (joinS v c k).length ≤ 8 * k
  | 0 => by simp [joinS]
  | k + 1 => by
    have ih := joinS_len hv hc k
    have := dgt_len hv hc k
    simp only [joinS, List.length_append]
    split <;> simp <;> omega
theorem joinS_form (v c : Nat → Nat) : ∀ k, joinS v c (k + 1) = dgt v c 0 ++ commas ((List.range k).map fun i => dgt v c (i + 1))
  | 0 => by simp [joinS, commas]
  | k + 1 => by
    rw [joinS, joinS_form v c k, if_pos (by omega), List.range_succ, List.map_append]
    simp [commas]
theorem lastN_le {v : Nat → Nat} (hv : ∀ k, v k ≤ 1023) : ∀ k, lastN v k ≤ 1023
  | 0 => by simp [lastN]
  | k + 1 => by
    have := lastN_le hv k
    have := hv k
    unfold lastN
    split <;> omega
theorem portN_le {v : Nat → Nat} (hv : ∀ k, v k ≤ 1023) : ∀ k, portN v k ≤ 1048575
  | 0 => by simp [portN]
  | k + 1 => by
    have := portN_le hv k
    have := lastN_le hv k
    have := hv k
    unfold portN
    split <;> omega

theorem six_law {v c : Nat → Nat} (hv : ∀ k, v k ≤ 1023) (hc : ∀ k, c k ≤ 3) (N : Nat) (hN : N ≤ 8) :
    pasv ([97, 116, 32] ++ (joinS v c N ++ [46])) = if fineB v c N = true ∧ 6 ≤ N ∧ 0 < portN v N then some ⟨(v 0 : Int), (v 1 : Int), (v 2 : Int), (v 3 : Int), (portN v N : Int)⟩ else none := by
  have hs : ∀ b ∈ ([97, 116, 32] : List UInt8), dig b = false := by decide
  have hst : Stop [46] := fun c hc => by
    obtain rfl : (46 : UInt8) = c := by simpa using hc
    rfl
  have hh : ([46] : List UInt8).head? ≠ some 44 := by decide
  cases N with
  | zero =>
    rw [if_neg (fun e => by have := e.2.1; omega)]
    rfl
  | succ M =>
    have h6 := six_app hs (dgt_digits v c 0) (fun e => by have := (dgt_len hv hc 0).1; rw [e] at this; simp at this) (D := (List.range M).map fun i => dgt v c (i + 1)) (r := [46])
      (by intro x hx; obtain ⟨i, _, rfl⟩ := List.mem_map.1 hx; exact dgt_digits v c _) hst hh
    unfold pasv
    rw [joinS_form, List.append_assoc, h6]
    by_cases hM : 5 ≤ M
    · have ht : (((List.range M).map fun i => dgt v c (i + 1)).take 5) = [dgt v c 1, dgt v c 2, dgt v c 3, dgt v c 4, dgt v c 5] := by
        rcases (show M = 5 ∨ M = 6 ∨ M = 7 by omega) with rfl | rfl | rfl <;> rfl
      have hf : fineB v c (M + 1) = (okd (dgt v c 0) && okd (dgt v c 1) && okd (dgt v c 2) && okd (dgt v c 3) && okd (dgt v c 4) && okd (dgt v c 5)) := by
        have e6 : fineB v c 6 = (okd (dgt v c 0) && okd (dgt v c 1) && okd (dgt v c 2) && okd (dgt v c 3) && okd (dgt v c 4) && okd (dgt v c 5)) := by
          simp [fineB, dgt_okd hv hc, Bool.and_assoc]
        rcases (show M = 5 ∨ M = 6 ∨ M = 7 by omega) with rfl | rfl | rfl
        · exact e6
        · rw [← e6]; rfl
        · rw [← e6]; rfl
      have hp : portN v (M + 1) = v 4 * 256 + v 5 := by
        rcases (show M = 5 ∨ M = 6 ∨ M = 7 by omega) with rfl | rfl | rfl <;> simp [portN, lastN]
      rw [ht, hf, hp]
      simp only [List.length_map, List.length_range, List.all_cons, List.all_nil, Bool.and_true, List.map_cons, List.map_nil]
      by_cases ho : okd (dgt v c 0) = true ∧ (okd (dgt v c 1) && (okd (dgt v c 2) && (okd (dgt v c 3) && (okd (dgt v c 4) && okd (dgt v c 5))))) = true
      · have hall : ∀ k, okd (dgt v c k) = true → (number (dgt v c k) 255).1 = (v k : Int) := by
          intro k hk
          rw [dgt_okd hv hc] at hk
          simp only [Bool.and_eq_true, decide_eq_true_eq] at hk
          rw [dgt_number hv hc, if_pos hk.2]
        obtain ⟨o0, o15⟩ := ho
        simp only [Bool.and_eq_true] at o15
        obtain ⟨o1, o2, o3, o4, o5⟩ := o15
        rw [if_pos ⟨o0, hM, by simp [o1, o2, o3, o4, o5]⟩, hall 0 o0, hall 1 o1, hall 2 o2, hall 3 o3, hall 4 o4, hall 5 o5]
        simp only [Option.bind_some, place, o0, o1, o2, o3, o4, o5, Bool.and_self, true_and]
        by_cases h0 : v 4 * 256 + v 5 = 0
        · rw [if_pos (by omega), if_neg (by omega)]
        · rw [if_neg (by omega), if_pos (by omega)]
          simp
      · rw [if_neg (fun e => ho ⟨e.1, e.2.2⟩), if_neg (fun e => ho (by
          have := e.1
          simp only [Bool.and_eq_true] at this ⊢
          obtain ⟨⟨⟨⟨⟨a0, a1⟩, a2⟩, a3⟩, a4⟩, a5⟩ := this
          exact ⟨a0, a1, a2, a3, a4, a5⟩))]
        rfl
    · rw [if_neg (fun e => hM (by simpa using e.2.1)), if_neg (fun e => by have := e.2.1; omega)]
      rfl
end Ad
end Go.Proofs.YtonophhhndhhhaaDoor
