/- The small functions of the laws of layer 13, walked: short, bare, digits. -/
import Derived.Test.YtonophhhndhhhaaDoorRefDigits
import Derived.Test.YtonophhhndhhhaaDoorAddrP
import Derived.Test.YtonophhhndhhhaaDoorBa
import Derived.Test.YtonophhhndhhhaaDoorBits
import Derived.WalkSpells
import Derived.WalkSmall
import Derived.WalkLawsBesides
namespace Go.Proofs.YtonophhhndhhhaaDoor
open Go.RowKit

set_option maxHeartbeats 1000000 in
theorem short_any (l : List UInt8) (hl : l.length ≤ maxLen) (w : World) :
    Calls Tryd.prog 9 #[.string ⟨l.toArray⟩] w fun e w' => e = .returned (.string ⟨(l.take 200).toArray⟩) ∧ w' = w := by
  unfold maxLen at hl
  have hz : (⟨l.toArray⟩ : ByteArray).size = l.length := rfl
  by_cases h : (200 : Int) < l.length
  · have hx : (⟨l.toArray⟩ : ByteArray).extract 0 200 = ⟨(l.take 200).toArray⟩ := by rw [ba_extract]; simp
    have h2 : (200 : Int) ≤ l.length := by omega
    go_enter Tryd.func9, Tryd.ntmps9
    go_wp2
    go_ret
    exact ⟨rfl, rfl⟩
  · have hx : (⟨l.toArray⟩ : ByteArray) = ⟨(l.take 200).toArray⟩ := by rw [List.take_of_length_le (by omega)]
    rw [← hx]
    clear hx
    go_enter Tryd.func9, Tryd.ntmps9
    go_wp2
    go_ret
    exact ⟨rfl, rfl⟩

theorem itoaN_len (u : Nat) (hu : u < 10 ^ 20) : (Lib.decDigits u).length ≤ 30 := by
  obtain ⟨_, _, h3, _, _⟩ := Tx.dec_facts u u (Nat.le_refl _)
  rcases Nat.eq_zero_or_pos u with rfl | hp
  · rw [Lib.decDigits]; simp
  · have h6 := h3 hp
    rcases Nat.lt_or_ge 20 (Lib.decDigits u).length with hg | hg
    · have : 10 ^ 20 ≤ 10 ^ ((Lib.decDigits u).length - 1) := Nat.pow_le_pow_right (by decide) (by omega)
      omega
    · omega

set_option maxHeartbeats 2000000 in
/-- The digits of a number that is not below 0. -/
theorem ldigits_any : ∀ (f n : Nat), n ≤ f → n ≤ 1048576 → ∀ w, Calls Tryd.prog 17 #[.int .i64 (n : Int)] w fun e w' => e = .returned (.string ⟨(Lib.decDigits n).toArray⟩) ∧ w = w' := by
  intro f
  induction f with
  | zero =>
    intro n hn hb w
    obtain rfl : n = 0 := by omega
    have ht := ten_at 0 (by omega)
    have hd := dec_end (u := 0) (by omega)
    rw [hd]
    go_enter Tryd.func17, Tryd.ntmps17
    go_wp2
    go_ret
    exact ⟨rfl, rfl⟩
  | succ f ih =>
    intro n hn hb w
    by_cases h10 : n < 10
    · have ht := ten_at n h10
      have hd := dec_end h10
      rw [Nat.mod_eq_of_lt h10] at hd
      rw [hd]
      have h9 : ((9 : Int) < (n : Int)) = False := eq_false (by omega)
      have hn10 : (n : Int) + 1 ≤ 10 := by omega
      have w1 : IntKind.i64.wrap ((n : Int) + 1) = (n : Int) + 1 := IntWalk.i64_in _ ⟨by omega, by omega⟩
      clear hd ih
      go_enter Tryd.func17, Tryd.ntmps17
      go_wp2
      go_ret
      exact ⟨by simp, rfl⟩
    · have hm := dec_more h10
      have hr := dec_end (u := n % 10) (Nat.mod_lt _ (by decide))
      rw [Nat.mod_mod] at hr
      rw [← hr] at hm
      have iq := fun w => ih (n / 10) (by omega) (by omega) w
      have ir := fun w => ih (n % 10) (by omega) (by omega) w
      have h9 : ((9 : Int) < (n : Int)) = True := eq_true (by omega)
      obtain ⟨q, hq⟩ : ∃ q, q = n / 10 := ⟨_, rfl⟩
      obtain ⟨r, hrr⟩ : ∃ r, r = n % 10 := ⟨_, rfl⟩
      rw [← hq, ← hrr] at hm
      rw [← hq] at iq
      rw [← hrr] at ir
      have e1 : (n : Int).tdiv 10 = (q : Int) := by rw [Int.tdiv_eq_ediv_of_nonneg (by omega)]; omega
      have e2 : (n : Int).tmod 10 = (r : Int) := by rw [Int.tmod_eq_emod_of_nonneg (by omega)]; omega
      have e3 : (n : Int) / 10 = (q : Int) := by omega
      have e4 : (n : Int) % 10 = (r : Int) := by omega
      have w1 : IntKind.i64.wrap (q : Int) = (q : Int) := wraps_i64 _ (by omega) (by omega)
      have lq : (Lib.decDigits q).length ≤ 30 := by
        have h := itoaN_len q (by omega)
        exact h
      have lr : (Lib.decDigits r).length ≤ 30 := itoaN_len r (by omega)
      have hc := ByteArray.mk_append_mk (Lib.decDigits q) (Lib.decDigits r)
      rw [← hm] at hc
      generalize Lib.decDigits n = D at *
      generalize Lib.decDigits q = Q at *
      generalize Lib.decDigits r = R at *
      have z1 : (⟨Q.toArray⟩ : ByteArray).size = Q.length := rfl
      have z2 : (⟨R.toArray⟩ : ByteArray).size = R.length := rfl
      clear hm hr hq hrr ih
      go_enter Tryd.func17, Tryd.ntmps17
      go_wp2_with fail
      refine (iq _).mono ?_
      rintro e w' ⟨rfl, rfl⟩
      clear iq
      go_wp2_with fail
      refine (ir _).mono ?_
      rintro e w' ⟨rfl, rfl⟩
      clear ir
      go_wp2
      go_ret
      exact ⟨rfl, rfl⟩

/-- What is no digit, of the first 200 bytes. -/
def bareL (l : List UInt8) : List UInt8 := (l.take 200).filter fun b => !Tx.dig b
theorem bareL_len (l : List UInt8) : (bareL l).length ≤ 200 := Nat.le_trans (List.length_filter_le _ _) (by rw [List.length_take]; omega)
theorem bareL_no (l : List UInt8) : ∀ b ∈ bareL l, Tx.dig b = false := by
  intro b hb
  have := (List.mem_filter.1 hb).2
  simpa using this
theorem bare_more {l : List UInt8} {k : Nat} {c : UInt8} (hc : l[k]? = some c) : (l.take (k + 1)).filter (fun b => !Tx.dig b) = (l.take k).filter (fun b => !Tx.dig b) ++ (if Tx.dig c = true then [] else [c]) := by
  rw [List.take_add_one, hc, List.filter_append]
  cases h : Tx.dig c <;> simp [h]

set_option maxHeartbeats 2000000 in
theorem bare_any (l : List UInt8) (hl : l.length ≤ maxLen) (w : World) :
    Calls Tryd.prog 16 #[.string ⟨l.toArray⟩] w fun e w' => e = .returned (.string ⟨(bareL l).toArray⟩) ∧ w' = w := by
  unfold maxLen at hl
  have hz : (⟨l.toArray⟩ : ByteArray).size = l.length := rfl
  go_enter Tryd.func16, Tryd.ntmps16
  go_wp2_with fail
  go_loop [3, 4] (fun s3 s4 => ∃ k : Nat, k ≤ l.length ∧ k ≤ 200 ∧ s3 = .string ⟨((l.take k).filter fun b => !Tx.dig b).toArray⟩ ∧ s4 = .int .i64 k) (fun _ s4 => 201 - (intOf s4).toNat)
  case atStart => exact ⟨0, by omega, by omega, by simp, rfl⟩
  case round =>
    obtain ⟨k, hk, hk2, rfl, rfl⟩ := hrel
    by_cases h1 : k < l.length ∧ k < 200
    · obtain ⟨h1, h2⟩ := h1
      have g1 : (k : Int) < (l.length : Int) := by omega
      have g2 : (k : Int) < 200 := by omega
      obtain ⟨c, hc⟩ : ∃ c, l[k]? = some c := ⟨_, List.getElem?_eq_getElem h1⟩
      have HM := Lib.hid (bare_more hc)
      have hx : ∀ h, ((⟨l.toArray⟩ : ByteArray)[k]'h).toNat = c.toNat := fun h => by rw [byte_at]; simp [hc]
      have hx2 : (⟨l.toArray⟩ : ByteArray).extract k (k + 1) = ⟨[c].toArray⟩ := by
        rw [ba_extract, List.take_add_one, hc, List.drop_left' (by rw [List.length_take]; omega)]
        rfl
      obtain ⟨n, hn⟩ : ∃ n, c.toNat = n := ⟨_, rfl⟩
      have hdg : Tx.dig c = (decide (48 ≤ n) && decide (n ≤ 57)) := by rw [← hn]; rfl
      rw [hn] at hx
      have hlen : ((l.take k).filter fun b => !Tx.dig b).length ≤ 200 := Nat.le_trans (List.length_filter_le _ _) (by rw [List.length_take]; omega)
      obtain ⟨A, hA⟩ : ∃ A, ((l.take k).filter fun b => !Tx.dig b) = A := ⟨_, rfl⟩
      rw [hA] at HM hlen ⊢
      have z1 : (⟨A.toArray⟩ : ByteArray).size = A.length := rfl
      have z2 : (⟨[c].toArray⟩ : ByteArray).size = 1 := rfl
      have e1 := ByteArray.mk_append_mk A [c]
      by_cases c1 : n < 48
      · have f1 : ((n : Int) < 48) = True := eq_true (by omega)
        have hd : Tx.dig c = false := by rw [hdg]; first | (simp; done) | (simp; omega)
        rw [hd, if_neg (by simp)] at HM
        clear hc hA hn hdg hd
        go_wp2
        go_round
        case rel => exact ⟨k + 1, by omega, by omega, by rw [HM.out] <;> exact congrArg Value.string e1, by go_num⟩
        case measure => simp [intOf]; omega
      · have f1 : ((n : Int) < 48) = False := eq_false (by omega)
        by_cases c2 : 57 < n
        · have f2 : ((57 : Int) < (n : Int)) = True := eq_true (by omega)
          have hd : Tx.dig c = false := by rw [hdg]; first | (simp; done) | (simp; omega)
          rw [hd, if_neg (by simp)] at HM
          clear hc hA hn hdg hd
          go_wp2
          go_round
          case rel => exact ⟨k + 1, by omega, by omega, by rw [HM.out] <;> exact congrArg Value.string e1, by go_num⟩
          case measure => simp [intOf]; omega
        · have f2 : ((57 : Int) < (n : Int)) = False := eq_false (by omega)
          have hd : Tx.dig c = true := by rw [hdg]; first | (simp; done) | (simp; omega)
          rw [hd, if_pos rfl, List.append_nil] at HM
          clear hc hA hn hdg hd
          go_wp2
          go_round
          case rel => exact ⟨k + 1, by omega, by omega, by rw [HM.out], by go_num⟩
          case measure => simp [intOf]; omega
    · have HE := Lib.hid (show (l.take k).filter (fun b => !Tx.dig b) = bareL l by
        unfold bareL
        rcases (show k = l.length ∨ k = 200 by omega) with h | h
        · rw [h, List.take_length, List.take_of_length_le (by omega)]
        · rw [h])
      rcases (show ¬ k < l.length ∨ (k < l.length ∧ ¬ k < 200) by omega) with h | ⟨h, h2⟩
      · have g1 : ¬ (k : Int) < (l.length : Int) := by omega
        go_wp2
        go_ret
        exact ⟨by rw [HE.out]; rfl, rfl⟩
      · have g1 : (k : Int) < (l.length : Int) := by omega
        have g2 : ¬ (k : Int) < 200 := by omega
        go_wp2
        go_ret
        exact ⟨by rw [HE.out]; rfl, rfl⟩
end Go.Proofs.YtonophhhndhhhaaDoor
