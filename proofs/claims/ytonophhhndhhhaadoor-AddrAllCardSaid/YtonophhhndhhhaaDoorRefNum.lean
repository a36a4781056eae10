/- The reference's Number walked. -/
import Derived.Test.YtonophhhndhhhaaDoorNumP
import Derived.Test.YtonophhhndhhhaaDoorTailAt
import Derived.Test.YtonophhhndhhhaaDoorRd
namespace Go.Proofs.YtonophhhndhhhaaDoor
open Go.RowKit

theorem ref_number_no (s : ByteArray) (k : Nat) (h : k < s.size) (most : Int) (hb : ¬ (48 ≤ (s[k]'h).toNat ∧ (s[k]'h).toNat ≤ 57)) : Tx.number s.data.toList most = (0, false) := by
  refine Tx.number_bad fun e => ?_
  have h3 := e.2.2
  rw [tail_at s k h, Tx.digits_app] at h3
  have : Tx.dig (s[k]'h) = false := by simp [Tx.dig]; omega
  simp [Tx.digits, this] at h3

theorem ref_number (s : ByteArray) (most : Int) (w : World) (hs : s.size ≤ 1048576) :
    Calls Tryd.prog 23 #[.string s, .int .i64 most] w fun e w' => e = .returned (two (Tx.number s.data.toList most)) ∧ w = w' := by
  have hl : s.data.toList.length = s.size := (Lib.size_eq s).symm
  by_cases hsz : 1 ≤ s.size ∧ s.size ≤ 9
  · obtain ⟨hs1, hs9⟩ := hsz
    have HL := Lib.hid hl
    clear hl
    go_enter Tryd.func23, Tryd.ntmps23
    go_wp2
    go_loop [6, 7] (fun n i => ∃ k v : Nat, k ≤ s.size ∧ i = .int .i64 k ∧ n = .int .i64 v ∧ Tx.digits (s.data.toList.take k) = true ∧ v = Tx.val (s.data.toList.take k)) (fun _ i => s.size - (intOf i).toNat)
    case atStart => exact ⟨0, 0, Nat.zero_le _, rfl, rfl, rfl, rfl⟩
    case round =>
      obtain ⟨k, v, hk, rfl, rfl, hd, hv⟩ := hrel
      have gv : v < 1000000000 := by
        rw [hv]
        exact Tx.val_lt (by rw [List.length_take]; omega) hd
      have HDD := Lib.hid hd
      have HV := Lib.hid hv
      clear hd hv
      by_cases hlt : k < s.size
      · by_cases h1 : 48 ≤ (s[k]'hlt).toNat
        · by_cases h2 : (s[k]'hlt).toNat ≤ 57
          · go_wp2
            go_round
            case rel =>
              refine ⟨k + 1, v * 10 + ((s[k]'hlt).toNat - 48), by omega, by go_num, by go_num, ?_, ?_⟩
              · rw [snoc_at s k hlt, Tx.digits_app, HDD.out]
                simp [Tx.digits, Tx.dig, h1, h2]
              · rw [snoc_at s k hlt, Tx.val_snoc, HV.out]
            case measure => simp [intOf]; omega
          · have HF := Lib.hid (ref_number_no s k hlt most (by omega))
            go_wp2
            go_ret2
            exact ⟨by rw [HF.out]; rfl, rfl⟩
        · have HF := Lib.hid (ref_number_no s k hlt most (by omega))
          go_wp2
          go_ret2
          exact ⟨by rw [HF.out]; rfl, rfl⟩
      · obtain rfl : k = s.size := by omega
        have hd := HDD.out
        have hv := HV.out
        rw [all_take] at hd hv
        by_cases hm : (v : Int) ≤ most
        · have HE := Lib.hid (show Tx.number s.data.toList most = ((v : Int), true) by rw [hv] at hm ⊢; exact if_pos ⟨⟨by have := HL.out; omega, by have := HL.out; omega, hd⟩, hm⟩)
          clear hd hv
          go_wp2
          go_ret2
          exact ⟨by rw [HE.out]; rfl, rfl⟩
        · have HE := Lib.hid (show Tx.number s.data.toList most = (0, false) by rw [hv] at hm; exact if_neg (fun e => hm e.2))
          clear hd hv
          go_wp2
          go_ret2
          exact ⟨by rw [HE.out]; rfl, rfl⟩
  · have HE := Lib.hid (Tx.number_bad (l := s.data.toList) (most := most) (fun e => hsz ⟨by omega, by omega⟩))
    clear hl
    rcases (show s.size < 1 ∨ 9 < s.size from by omega) with h0 | h9
    · clear hsz
      go_enter Tryd.func23, Tryd.ntmps23
      go_wp2
      go_ret2
      exact ⟨by rw [HE.out]; rfl, rfl⟩
    · clear hsz
      go_enter Tryd.func23, Tryd.ntmps23
      go_wp2
      go_ret2
      exact ⟨by rw [HE.out]; rfl, rfl⟩

end Go.Proofs.YtonophhhndhhhaaDoor
