/- The reference's digit and number walked (layer 13). -/
import Derived.Test.YtonophhhndhhhaaDoorAddrP
import Derived.Test.YtonophhhndhhhaaDoorBa
import Derived.Test.YtonophhhndhhhaaDoorRd
import Derived.WalkSpells
import Derived.WalkSmall
import Derived.WalkLawsBesides
import Derived.Lib.Hide
namespace Go.Proofs.YtonophhhndhhhaaDoor
open Go.RowKit

namespace Ad
open Tx
/-- Is there a digit at a place? -/
def rdig (l : List UInt8) (k : Nat) : Bool := match l[k]? with
  | some b => dig b
  | none => false
theorem rdig_none {l : List UInt8} {k : Nat} (h : ¬ k < l.length) : rdig l k = false := by
  unfold rdig
  rw [List.getElem?_eq_none (by omega)]
theorem rdig_some {l : List UInt8} {k : Nat} (h : k < l.length) : rdig l k = dig (l[k]'h) := by
  unfold rdig
  rw [List.getElem?_eq_getElem h]
theorem rdig_cons (c : UInt8) (l : List UInt8) (k : Nat) : rdig (c :: l) (k + 1) = rdig l k := rfl
theorem rdig_drop (l : List UInt8) (a k : Nat) : rdig (l.drop a) k = rdig l (a + k) := by
  unfold rdig
  rw [List.getElem?_drop]
theorem rdig_run : ∀ (m : List UInt8) (j : Nat), j ≤ (run m).length → rdig m j = decide (j < (run m).length)
  | [], j, h => by
    obtain rfl : j = 0 := by simpa [run] using h
    rfl
  | c :: m, j, h => by
    cases hc : dig c
    · have hr : run (c :: m) = [] := by simp [run, hc]
      rw [hr] at h ⊢
      obtain rfl : j = 0 := by simpa using h
      rw [rdig_some (by simp)]
      exact hc
    · have hr : run (c :: m) = c :: run m := by simp [run, hc]
      rw [hr] at h ⊢
      cases j with
      | zero => rw [rdig_some (by simp)]; exact hc
      | succ j =>
        rw [rdig_cons, rdig_run m j (by simpa using h)]
        simp
theorem run_len (m : List UInt8) : (run m).length ≤ m.length := by
  have := congrArg List.length (show run m ++ past m = m from List.takeWhile_append_dropWhile)
  rw [List.length_append] at this
  omega
theorem run_take (m : List UInt8) : m.take (run m).length = run m := by
  conv => lhs; rw [show m = run m ++ past m from List.takeWhile_append_dropWhile.symm]
  rw [show ((run (run m ++ past m)).length) = (run m).length by rw [show run m ++ past m = m from List.takeWhile_append_dropWhile]]
  simp
end Ad

theorem rdigit_any (l : List UInt8) (k : Nat) (_hl : l.length ≤ 1048576) (w : World) :
    Calls Tryd.prog 21 #[.string ⟨l.toArray⟩, .int .i64 (k : Int)] w fun e w' => e = .returned (.bool (Ad.rdig l k)) ∧ w = w' := by
  have hz : (⟨l.toArray⟩ : ByteArray).size = l.length := rfl
  by_cases hlt : k < l.length
  · rw [Ad.rdig_some hlt]
    obtain ⟨c, hc⟩ : ∃ c, l[k]'hlt = c := ⟨_, rfl⟩
    have hx : ∀ h, (⟨l.toArray⟩ : ByteArray)[k]'h = c := fun h => by rw [byte_at]; simp [List.getElem?_eq_getElem hlt, hc]
    rw [hc]
    clear hc
    have h1 : (k : Int) < (l.length : Int) := by omega
    have hk0 : (0 : Int) ≤ (k : Int) := by omega
    have hd : Tx.dig c = (decide (48 ≤ c.toNat) && decide (c.toNat ≤ 57)) := rfl
    rw [hd]
    obtain ⟨n, hn⟩ : ∃ n, c.toNat = n := ⟨_, rfl⟩
    have hx2 : ∀ h, ((⟨l.toArray⟩ : ByteArray)[k]'h).toNat = n := fun h => by rw [hx]; exact hn
    rw [hn]
    clear hd hx hn
    by_cases h2 : 48 ≤ n
    · have e1 : ((48 : Int) ≤ (n : Int)) = True := eq_true (by omega)
      by_cases h3 : n ≤ 57
      · have e2 : ((n : Int) ≤ 57) = True := eq_true (by omega)
        rw [show (decide (48 ≤ n) && decide (n ≤ 57)) = true by simp [h2, h3]]
        clear h2 h3
        go_enter Tryd.func21, Tryd.ntmps21
        go_wp2
        go_ret
        exact ⟨rfl, rfl⟩
      · have e2 : ((n : Int) ≤ 57) = False := eq_false (by omega)
        rw [show (decide (48 ≤ n) && decide (n ≤ 57)) = false by simp [h3]]
        clear h2 h3
        go_enter Tryd.func21, Tryd.ntmps21
        go_wp2
        go_ret
        exact ⟨rfl, rfl⟩
    · have e1 : ((48 : Int) ≤ (n : Int)) = False := eq_false (by omega)
      rw [show (decide (48 ≤ n) && decide (n ≤ 57)) = false by simp [h2]]
      clear h2
      go_enter Tryd.func21, Tryd.ntmps21
      go_wp2
      go_ret
      exact ⟨rfl, rfl⟩
  · rw [Ad.rdig_none hlt]
    have h1 : ¬ (k : Int) < (l.length : Int) := by omega
    clear hlt
    go_enter Tryd.func21, Tryd.ntmps21
    go_wp2
    go_ret
    exact ⟨rfl, rfl⟩

set_option maxHeartbeats 1000000 in
theorem rnumber_any (l : List UInt8) (a : Nat) (hl : l.length ≤ 1048576) (ha : a ≤ l.length) (w : World) :
    Calls Tryd.prog 22 #[.string ⟨l.toArray⟩, .int .i64 (a : Int)] w fun e w' =>
      e = .returned (.tuple #[.string ⟨(Ad.run (l.drop a)).toArray⟩, .int .i64 ((a + (Ad.run (l.drop a)).length : Nat) : Int)]) ∧ w = w' := by
  have hz : (⟨l.toArray⟩ : ByteArray).size = l.length := rfl
  have hx : (⟨l.toArray⟩ : ByteArray).extract a (a + (Ad.run (l.drop a)).length) = ⟨(Ad.run (l.drop a)).toArray⟩ := by
    rw [ba_extract, List.drop_take, Nat.add_sub_cancel_left, Ad.run_take]
  have DI := Lib.hid (fun k wx => rdigit_any l k hl wx)
  have RN := Lib.hid (fun j h => (Ad.rdig_drop l a j).symm.trans (Ad.rdig_run (l.drop a) j h))
  have hRl : a + (Ad.run (l.drop a)).length ≤ l.length := by
    have := Ad.run_len (l.drop a)
    rw [List.length_drop] at this
    omega
  generalize Ad.run (l.drop a) = R at *
  obtain ⟨r, hr⟩ : ∃ r, R.length = r := ⟨_, rfl⟩
  rw [hr] at RN hRl hx ⊢
  clear hr
  go_enter Tryd.func22, Tryd.ntmps22
  go_wp2_with fail
  go_loop [6] (fun e => ∃ j : Nat, j ≤ r ∧ e = .int .i64 ((a + j : Nat) : Int)) (fun e => a + r - (intOf e).toNat)
  case atStart => exact ⟨0, by omega, by simp⟩
  case round =>
    obtain ⟨j, hj, rfl⟩ := hrel
    have hd := DI.out (a + j)
    rw [RN.out j hj] at hd
    by_cases hlt : j < r
    · rw [decide_eq_true hlt] at hd
      go_wp2_with (go_at_call 21; refine (hd _).mono ?_; rintro e w' ⟨rfl, rfl⟩)
      go_round
      case rel => exact ⟨j + 1, by omega, by go_num⟩
      case measure => simp [intOf]; omega
    · rw [decide_eq_false hlt] at hd
      obtain rfl : j = r := by omega
      have h1 : (0 : Int) ≤ (a : Int) := by omega
      have h2 : (a : Int) ≤ ((a + j : Nat) : Int) := by omega
      have h3 : ((a + j : Nat) : Int) ≤ (l.length : Int) := by omega
      go_wp2_with (go_at_call 21; refine (hd _).mono ?_; rintro e w' ⟨rfl, rfl⟩)
      refine bodyPost_ret (v := .tuple #[.string ⟨R.toArray⟩, .int .i64 ((a + j : Nat) : Int)]) (by simp [results, Tryd.results22, go_sem, hx]) rfl ⟨rfl, rfl⟩
end Go.Proofs.YtonophhhndhhhaaDoor
