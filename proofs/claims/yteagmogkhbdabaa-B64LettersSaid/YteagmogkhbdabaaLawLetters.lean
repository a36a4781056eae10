/- The law B64Letters walked. -/
import Derived.Test.YteagmogkhbdabaaLawRows
namespace Go.Proofs.Yteagmogkhbdabaa
open Go.RowKit

theorem lawLetters (v0 : Value) (x0 : List UInt8) (h0 : x0.length ≤ maxLen) (w : World) (r0 : Rd w v0 (x0.map bv)) :
    Calls Try.prog 6 #[v0] w fun e w' => e = .returned (.bool true) ∧ Below w.heap.size w w' := by
  go_enter Try.func6, Try.ntmps6
  go_wp2_with fail
  refine (shown_any _).mono ?_
  rintro e w1 ⟨rfl, hb1⟩
  have s0 := r0.below hb1
  clear r0
  go_wp2_with fail
  refine (short_any v0 x0 _ s0 h0).mono ?_
  rintro e w1' ⟨va, rfl, ra, rfl⟩
  clear s0
  have la : (x0.take 600).length ≤ 600 := List.length_take_le _ _
  generalize x0.take 600 = xa at ra la
  obtain ⟨ao, cap, rfl, hcap, _⟩ := ra.form
  obtain ⟨L, hL⟩ : ∃ L, L = xa.length := ⟨_, rfl⟩
  rw [← hL] at ra la hcap ⊢
  have HL := Lib.hid hL
  clear hL
  go_wp2_with fail
  refine (putb_any _ _ _ ra (by rw [← HL.out]; omega)).mono ?_
  rintro e w2 ⟨rfl, hb2⟩
  have c2 : Below w.heap.size w w2 := hb1.trans (hb2.mono hb1.size)
  clear hb1 hb2 ra
  obtain ⟨ls, hls, hlt⟩ := B64.put_form xa
  obtain ⟨S, hS⟩ : ∃ S : ByteArray, S = ⟨(B64.put xa).toArray⟩ := ⟨_, rfl⟩
  have e1 : sv (B64.put xa) = .string S := by rw [hS]; rfl
  have hN : S.data.toList = ls ++ List.replicate ((3 - xa.length % 3) % 3) 61 := by rw [hS]; exact hls
  rw [e1]
  obtain ⟨f, hf⟩ : ∃ f, f = (3 - xa.length % 3) % 3 := ⟨_, rfl⟩
  rw [← hf] at hN
  obtain ⟨A, hA⟩ : ∃ A, A = ls.length := ⟨_, rfl⟩
  obtain ⟨N, hNs⟩ : ∃ N, N = S.size := ⟨_, rfl⟩
  have hNA : N = A + f := by rw [hNs, Lib.size_eq, hN, List.length_append, List.length_replicate, hA]
  have hNb : N ≤ 1000 := by
    rw [hNs, hS]
    show (B64.put xa).toArray.size ≤ _
    rw [List.size_toArray, B64.put_len, ← HL.out]; omega
  have hat : ∀ k, k < N → (k < A ∧ ∃ i, i < 64 ∧ S.data.toList.getD k 0 = B64.lt i) ∨ (A ≤ k ∧ S.data.toList.getD k 0 = 61) := by
    intro k hk
    rw [hN]
    by_cases hk2 : k < A
    · left
      refine ⟨hk2, ?_⟩
      rw [List.getD_eq_getElem?_getD, List.getElem?_append_left (by omega), List.getElem?_eq_getElem (by omega)]
      exact hlt _ (List.getElem_mem _)
    · right
      refine ⟨by omega, ?_⟩
      rw [List.getD_eq_getElem?_getD, List.getElem?_append_right (by omega), List.getElem?_replicate, if_pos (by omega)]
      rfl
  have hfL : (f : Int) = (3 - (L : Int) % 3) % 3 := by have := HL.out; omega
  have HAT := Lib.hid hat
  have HNA := Lib.hid hNA
  have HFL := Lib.hid hfL
  have HNS := Lib.hid hNs
  clear hls hlt hS e1 hN hf hA hNA hat hfL
  go_wp2
  have hSz : S.size = N := hNs.symm
  clear hNs
  go_loop [6, 5] (fun i g => ∃ k q : Nat, k ≤ N ∧ i = .int .i64 k ∧ g = .int .i64 q ∧ Hid (q = k - A)) (fun i _ => N - (intOf i).toNat)
  case atStart => exact ⟨0, 0, Nat.zero_le _, rfl, rfl, by show 0 = 0 - A; omega⟩
  case round =>
    obtain ⟨k, q, hk, rfl, rfl, hq⟩ := hrel
    by_cases hlt : k < N
    · have hks : k < S.size := by rw [← HNS.out]; exact hlt
      rcases HAT.out k hlt with ⟨hkA, i, hi, hSk⟩ | ⟨hkA, hSk⟩
      · have hq0 : q ≤ 0 := by have := hq.out; omega
        have hrd := B64.lt_read ⟨i, hi⟩
        simp only at hrd
        have hx : (S[k]'hks).toNat = (B64.lt i).toNat := by rw [byte_at, hSk]
        generalize (B64.lt i).toNat = u at hrd hx
        clear hSk
        rcases hrd with ⟨r1, r2, r3⟩ | ⟨r1, r2, r3⟩ | ⟨r1, r2, r3⟩ | ⟨rfl, r3⟩ | ⟨rfl, r3⟩
        all_goals
          clear r3
          go_wp2
          go_round
          case rel => exact ⟨k + 1, q, by omega, by go_num, rfl, by show q = k + 1 - A; omega⟩
          case measure => simp [intOf]; omega
      · have hx : (S[k]'hks).toNat = 61 := by rw [byte_at, hSk]; rfl
        have hqb : q ≤ 1000 := by have := hq.out; omega
        clear hSk
        go_wp2
        go_round
        case rel => exact ⟨k + 1, q + 1, by omega, by go_num, by go_num, by show q + 1 = k + 1 - A; have := hq.out; omega⟩
        case measure => simp [intOf]; omega
    · have hqf : (q : Int) = (3 - (L : Int) % 3) % 3 := by
        rw [← HFL.out]; have := hq.out; have := HNA.out; omega
      go_wp2
      go_ret
      exact ⟨rfl, c2⟩
end Go.Proofs.Yteagmogkhbdabaa
