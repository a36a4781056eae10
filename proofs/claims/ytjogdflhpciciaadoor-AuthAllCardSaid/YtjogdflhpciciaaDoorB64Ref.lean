/- rejoinderref02.Put walked. -/
import Derived.Test.YtjogdflhpciciaaDoorB64TakeP
namespace Go.Proofs.YtjogdflhpciciaaDoor
open Go.RowKit

/-- The k-th byte of a third that begins at i, as a number; 0 behind the end. -/
def thirdN (xs : List UInt8) (i j : Nat) : Nat := (xs.getD (i + j) 0).toNat
/-- The number of the first j of three bytes. -/
def preN (xs : List UInt8) (i : Nat) : Nat → Nat
  | 0 => 0
  | j + 1 => preN xs i j * 256 + thirdN xs i j

theorem preN_small (xs : List UInt8) (i j : Nat) (h : j ≤ 3) : preN xs i j < 16777216 ∧ (j < 3 → preN xs i j < 65536) := by
  have h0 : thirdN xs i 0 < 256 := UInt8.toNat_lt _
  have h1 : thirdN xs i 1 < 256 := UInt8.toNat_lt _
  have h2 : thirdN xs i 2 < 256 := UInt8.toNat_lt _
  match j, h with
  | 0, _ => simp only [preN]; omega
  | 1, _ => simp only [preN]; omega
  | 2, _ => simp only [preN]; omega
  | 3, _ => simp only [preN]; omega

theorem preN_row (xs : List UInt8) (i : Nat) : preN xs i 3 = B64.rowOf ((xs.drop i).take 3) := by
  have e : ∀ j, j < 3 → thirdN xs i j = (((xs.drop i).take 3).getD j 0).toNat := by
    intro j hj
    unfold thirdN
    congr 1
    rw [List.getD_eq_getElem?_getD, List.getD_eq_getElem?_getD, List.getElem?_take, if_pos hj, List.getElem?_drop]
  simp only [preN, B64.rowOf, e 0 (by omega), e 1 (by omega), e 2 (by omega)]
  try omega

/-- What is left of the number when k letters are written. -/
def leftN (row k : Nat) : Nat := row * 64 ^ k % 16777216
theorem leftN_step {row k : Nat} (hr : row < 16777216) (hk : k < 4) : leftN row k % 262144 * 64 = leftN row (k + 1) ∧ leftN row k / 262144 = row / 64 ^ (3 - k) % 64 ∧ leftN row k < 16777216 := by
  match k, hk with
  | 0, _ => simp only [leftN]; omega
  | 1, _ => simp only [leftN]; omega
  | 2, _ => simp only [leftN]; omega
  | 3, _ => simp only [leftN]; omega

theorem leftN_zero {row : Nat} (hr : row < 16777216) : row = leftN row 0 := by
  rw [leftN, Nat.pow_zero, Nat.mul_one, Nat.mod_eq_of_lt hr]

/-- The first k letters of the third. -/
def someL (m row k : Nat) : List UInt8 := (List.range k).map (B64.lat m row)
theorem someL_step (m row k : Nat) : someL m row (k + 1) = someL m row k ++ [B64.lat m row k] := by
  rw [someL, List.range_succ, List.map_append]
  rfl
theorem someL_four (xs : List UInt8) : someL xs.length (B64.rowOf xs) 4 = B64.four xs := rfl

/-- A text as a value, one letter more. -/
theorem sv_app (a b : List UInt8) : sv (a ++ b) = .string ((⟨a.toArray⟩ : ByteArray) ++ ⟨b.toArray⟩) := by
  rw [ByteArray.mk_append_mk, sv]

theorem preN_next {xs : List UInt8} {p K : Nat} (h : p ≤ K) : preN xs p (K + 1 - p) = preN xs p (K - p) * 256 + (xs.getD K 0).toNat := by
  obtain ⟨j, rfl⟩ : ∃ j, K = p + j := ⟨K - p, by omega⟩
  rw [show p + j + 1 - p = j + 1 by omega, show p + j - p = j by omega]
  rfl

theorem take_third {xs : List UInt8} {p : Nat} (h : p < xs.length) (h3 : p % 3 = 0) : B64.put (xs.take (p + 3)) = B64.put (xs.take p) ++ B64.four ((xs.drop p).take 3) := by
  have e : xs.take (p + 3) = xs.take p ++ (xs.drop p).take 3 := by rw [List.take_add]
  have hne : (xs.drop p).take 3 ≠ [] := fun e => by
    have := congrArg List.length e
    rw [List.length_take, List.length_drop] at this
    simp at this
    omega
  rw [e, B64.put_app _ _ (by rw [List.length_take]; omega), B64.put_few hne (by rw [List.length_take]; omega)]

theorem refPut_any (v : Value) (xs : List UInt8) (w : World) (h : Rd w v (xs.map bv)) (hs : xs.length ≤ 1048576) :
    Calls Tryd.prog 24 #[v] w fun e w' => e = .returned (sv (B64.put xs)) ∧ w = w' := by
  obtain ⟨ao, cap, rfl, hcap, hc⟩ := h.form
  obtain ⟨L, hL⟩ : ∃ L, L = xs.length := ⟨_, rfl⟩
  rw [← hL] at hs hcap hc ⊢
  have HL := Lib.hid hL
  have HC := Lib.hid hc
  clear hL hc h
  go_enter Tryd.func24, Tryd.ntmps24
  go_wp2
  go_loop [3, 4] (fun s i => ∃ (S : ByteArray) (p : Nat), s = .string S ∧ i = .int .i64 p ∧ p ≤ L + 2 ∧ p % 3 = 0 ∧ Hid (S.data.toList = B64.put (xs.take p))) (fun _ i => L + 3 - (intOf i).toNat)
  case atStart => exact ⟨⟨#[]⟩, 0, rfl, rfl, by omega, rfl, rfl⟩
  case round =>
    obtain ⟨S, p, rfl, rfl, hp, hp3, hS⟩ := hrel
    by_cases hlt : p < L
    · obtain ⟨b, o, rfl, hm, hc⟩ := HC.out (by omega)
      unfold maxLen at hm
      have HC2 := Lib.hid hc
      clear hc
      go_wp2
      go_loop [5, 6, 7] (fun n m k => ∃ (N M K : Nat), n = .int .i64 N ∧ m = .int .i64 M ∧ k = .int .i64 K ∧ p ≤ K ∧ K ≤ p + 3 ∧ M ≤ 3 ∧ Hid (N = preN xs p (K - p)) ∧ Hid (M = min K L - p)) (fun _ _ k => p + 3 - (intOf k).toNat)
      case atStart => exact ⟨0, 0, p, rfl, rfl, rfl, Nat.le_refl _, by omega, by omega, by rw [Nat.sub_self]; rfl, by show 0 = min p L - p; omega⟩
      case round =>
        obtain ⟨N, M, K, rfl, rfl, rfl, hK1, hK2, hM3, hN, hM⟩ := hrel
        by_cases hK : K < p + 3
        · obtain ⟨hN1, hN2⟩ := preN_small xs p (K - p) (by omega)
          rw [← hN.out] at hN1 hN2
          have hN3 := hN2 (by omega)
          clear hN1 hN2
          by_cases hKL : K < L
          · have hc := HC2.out K hKL
            unfold bv at hc
            have ht : (xs.getD K 0).toNat < 256 := UInt8.toNat_lt _
            obtain ⟨t, het⟩ : ∃ t, t = (xs.getD K 0).toNat := ⟨_, rfl⟩
            rw [← het] at hc ht
            have HT := Lib.hid het
            clear het
            go_wp2
            go_round
            case rel =>
              refine ⟨N * 256 + t, M + 1, K + 1, by go_num, by go_num, by go_num, by omega, by omega, by have := hM.out; omega, ?_, ?_⟩
              · show _ = _
                rw [preN_next hK1, ← hN.out, HT.out]
              · show _ = _
                have := hM.out; omega
            case measure => simp [intOf]; omega
          · go_wp2
            go_round
            case rel =>
              refine ⟨N * 256, M, K + 1, by go_num, rfl, by go_num, by omega, by omega, hM3, ?_, ?_⟩
              · show _ = _
                have e0 : xs.getD K 0 = 0 := by rw [List.getD_eq_getElem?_getD, List.getElem?_eq_none (by have := HL.out; omega)]; rfl
                rw [preN_next hK1, ← hN.out, e0]
                simp
              · show _ = _
                have := hM.out; omega
            case measure => simp [intOf]; omega
        · obtain rfl : K = p + 3 := by omega
          have hrow : N = B64.rowOf ((xs.drop p).take 3) := by rw [hN.out, show p + 3 - p = 3 by omega, preN_row]
          have hlen : ((xs.drop p).take 3).length = M := by rw [List.length_take, List.length_drop]; have := hM.out; have := HL.out; omega
          obtain ⟨hr, _⟩ := preN_small xs p 3 (by omega)
          rw [show preN xs p 3 = N by rw [preN_row, hrow]] at hr
          have hput := take_third (xs := xs) (p := p) (by have := HL.out; omega) hp3
          rw [← someL_four, hlen, ← hrow] at hput
          have HPUT := Lib.hid hput
          have hM1 : 1 ≤ M := by have := hM.out; omega
          have hSs : S.size ≤ 1500000 := by
            rw [Lib.size_eq, hS.out, B64.put_len, List.length_take]; omega
          clear hrow hlen hput hN hM hM3
          go_wp2
          go_loop [3, 5, 8] (fun s n k => ∃ (S2 : ByteArray) (N2 K2 : Nat), s = .string S2 ∧ n = .int .i64 N2 ∧ k = .int .i64 K2 ∧ K2 ≤ 4 ∧ Hid (N2 = leftN N K2) ∧ Hid (S2.data.toList = B64.put (xs.take p) ++ someL M N K2) ∧ S2.size ≤ 1500000 + K2) (fun _ _ k => 4 - (intOf k).toNat)
          case atStart => exact ⟨S, N, 0, rfl, rfl, rfl, by omega, leftN_zero hr, by show _ = _; rw [hS.out]; exact (List.append_nil _).symm, hSs⟩
          case round =>
            obtain ⟨S2, N2, K2, rfl, rfl, rfl, hK2', hN2, hS2, hS2s⟩ := hrel
            by_cases hK4 : K2 < 4
            · obtain ⟨g1, g2, g3⟩ := leftN_step hr hK4
              rw [← hN2.out] at g1 g2 g3
              have HG1 := Lib.hid g1
              have hv : N / 64 ^ (3 - K2) % 64 < 64 := Nat.mod_lt _ (by decide)
              clear g1
              by_cases hKM : K2 ≤ M
              · have hlat : B64.lat M N K2 = B64.lt (N / 64 ^ (3 - K2) % 64) := by rw [B64.lat, if_pos hKM]
                generalize N / 64 ^ (3 - K2) % 64 = q at g2 hv hlat
                have hdiv : (N2 : Int) / 262144 = (q : Int) := by omega
                have HLAT := Lib.hid hlat
                clear hlat g2
                go_wp2_with fail
                refine (letter_any q hv _).mono ?_
                rintro e w' ⟨rfl, rfl⟩
                rw [sv]
                go_wp2
                go_round
                case rel =>
                  refine ⟨S2 ++ ⟨#[B64.lt q]⟩, N2 % 262144 * 64, K2 + 1, rfl, by go_num, by go_num, by omega, HG1.out, ?_, by rw [ByteArray.size_append']; show S2.size + 1 ≤ _; omega⟩
                  show _ = _
                  rw [someL_step, ← List.append_assoc, ← hS2.out, HLAT.out]
                  simp
                case measure => simp [intOf]; omega
              · have HLAT := Lib.hid (show B64.lat M N K2 = 61 by rw [B64.lat, if_neg hKM])
                clear g2
                go_wp2
                go_round
                case rel =>
                  refine ⟨S2 ++ ⟨#[61]⟩, N2 % 262144 * 64, K2 + 1, rfl, by go_num, by go_num, by omega, HG1.out, ?_, by rw [ByteArray.size_append']; show S2.size + 1 ≤ _; omega⟩
                  show _ = _
                  rw [someL_step, ← List.append_assoc, ← hS2.out, HLAT.out]
                  simp
                case measure => simp [intOf]; omega
            · obtain rfl : K2 = 4 := by omega
              have HS2 := Lib.hid hS2.out
              clear hN2 hS2
              go_wp2
              go_round
              case rel =>
                refine ⟨S2, p + 3, rfl, by go_num, by omega, by omega, ?_⟩
                show _ = _
                rw [HS2.out, HPUT.out]
              case measure => simp [intOf]; omega
    · have hfin : S.data.toList = B64.put xs := by rw [hS.out, List.take_of_length_le (by have := HL.out; omega)]
      have hsv : Value.string S = sv (B64.put xs) := by rw [← hfin]; rfl
      have HSV := Lib.hid hsv
      clear hfin hsv hS
      go_wp2
      go_ret
      exact ⟨congrArg Ending.returned HSV.out, rfl⟩

end Go.Proofs.YtjogdflhpciciaaDoor
