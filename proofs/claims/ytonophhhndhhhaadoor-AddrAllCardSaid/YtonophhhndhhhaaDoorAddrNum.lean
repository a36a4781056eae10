/- addr.number walked; strings.CutPrefix, HasPrefix; addr.isMark (layer 13). -/
import Derived.Test.YtonophhhndhhhaaDoorAddrP
import Derived.Test.YtonophhhndhhhaaDoorLeftSet
import Derived.Test.YtonophhhndhhhaaDoorNumber
namespace Go.Proofs.YtonophhhndhhhaaDoor
open Go.RowKit

namespace Ad
open Tx
/-- A number ahead, what is behind, and whether it is one. -/
def numb (most : Int) (k : Nat) (l : List UInt8) : Int × List UInt8 × Bool :=
  if (run l).length ≤ k then ((number (run l) most).1, past l, (number (run l) most).2) else (0, past l, false)
theorem num_of_numb (most : Int) (k : Nat) (l : List UInt8) : num most k l = if (numb most k l).2.2 = true then some ((numb most k l).1, (numb most k l).2.1) else none := by
  unfold num numb
  by_cases h : (run l).length ≤ k
  · simp [h]
  · simp [h]
theorem run_past (l : List UInt8) : run l ++ past l = l := List.takeWhile_append_dropWhile
end Ad
theorem ten_dig : (⟨#[48, 49, 50, 51, 52, 53, 54, 55, 56, 57]⟩ : ByteArray).data.toList.contains = Tx.dig := by
  funext b
  have h : ∀ b : Fin 256, ([48, 49, 50, 51, 52, 53, 54, 55, 56, 57] : List UInt8).contains (UInt8.ofNat b.val) = Tx.dig (UInt8.ofNat b.val) := by decide +kernel
  have := h ⟨b.toNat, UInt8.toNat_lt b⟩
  simpa using this
theorem ten_ascii : ∀ (j : Nat) b, (⟨#[48, 49, 50, 51, 52, 53, 54, 55, 56, 57]⟩ : ByteArray).data.toList[j]? = some b → b.toNat < 128 := by
  intro j b h
  have := List.mem_of_getElem? h
  have h2 : ∀ b ∈ ([48, 49, 50, 51, 52, 53, 54, 55, 56, 57] : List UInt8), b.toNat < 128 := by decide
  exact h2 b this

theorem trim_ten (l : List UInt8) (hl : l.length ≤ 16777216) (w : World) :
    Calls Tryd.prog 49 #[.string ⟨l.toArray⟩, .string ⟨#[48, 49, 50, 51, 52, 53, 54, 55, 56, 57]⟩] w fun e w' => e = .returned (.string ⟨(Ad.past l).toArray⟩) ∧ Below w.heap.size w w' := by
  have := sTrimLeft ls l hl ⟨#[48, 49, 50, 51, 52, 53, 54, 55, 56, 57]⟩ (by decide) (by decide) ten_ascii w
  rw [ten_dig] at this
  exact this

set_option maxHeartbeats 1000000 in
theorem anum_any (l : List UInt8) (hl : l.length ≤ 1048576) (k : Nat) (most : Int) (w : World) :
    Calls Tryd.prog 34 #[.string ⟨l.toArray⟩, .int .i64 k, .int .i64 most] w fun e w' =>
      e = .returned (.tuple #[.int .i64 (Ad.numb most k l).1, .string ⟨(Ad.numb most k l).2.1.toArray⟩, .bool (Ad.numb most k l).2.2]) ∧ Below w.heap.size w w' := by
  have ht := trim_ten l (by omega) w
  have hrp := Ad.run_past l
  obtain ⟨nb, hnb⟩ : ∃ nb, Ad.numb most k l = nb := ⟨_, rfl⟩
  rw [hnb]
  unfold Ad.numb at hnb
  generalize Ad.run l = R at *
  generalize Ad.past l = P at *
  have hL : l.length = R.length + P.length := by rw [← hrp, List.length_append]
  have hz : (⟨l.toArray⟩ : ByteArray).size = R.length + P.length := hL
  have hz2 : (⟨P.toArray⟩ : ByteArray).size = P.length := rfl
  have hz3 : (⟨R.toArray⟩ : ByteArray).size = R.length := rfl
  have hsub : IntKind.i64.wrap (((R.length + P.length : Nat) : Int) - (P.length : Int)) = (R.length : Int) := by
    rw [IntWalk.i64_in _ ⟨by omega, by omega⟩]; omega
  have hsub2 : (((R.length + P.length : Nat) : Int) - (P.length : Int)) = (R.length : Int) := by omega
  have hsub3 : ((R.length : Int) + (P.length : Int) - (P.length : Int)) = (R.length : Int) := by omega
  have hx : (⟨l.toArray⟩ : ByteArray).extract 0 R.length = ⟨R.toArray⟩ := by rw [ba_extract, ← hrp]; simp
  have hn := fun w => number_any ⟨R.toArray⟩ most w (by show R.length ≤ _; omega)
  have hRl : R.length ≤ 1048576 := by omega
  have hPl : P.length ≤ 1048576 := by omega
  have HL := Lib.hid hL
  clear hL hrp
  by_cases hR : R.length ≤ k
  · rw [if_pos hR] at hnb
    have hle : ((k : Int) < (R.length : Int)) = False := eq_false (by omega)
    have hle2 : decide ((k : Int) < (R.length : Int)) = false := decide_eq_false (by omega)
    subst hnb
    go_enter Tryd.func34, Tryd.ntmps34
    go_wp2_with fail
    refine ht.mono ?_
    rintro e w1 ⟨rfl, hb1⟩
    have HB1 := Lib.hid hb1
    clear hb1 ht
    go_wp2_with fail
    refine (hn _).mono ?_
    rintro e w2 ⟨rfl, hb2⟩
    have HB2 := Lib.hid (HB1.out.trans (hb2.mono HB1.out.size))
    clear hb2 hn
    unfold two
    go_wp2
    refine bodyPost_ret (v := .tuple #[.int .i64 (Tx.number R most).1, .string ⟨P.toArray⟩, .bool (Tx.number R most).2]) (by simp [results, Tryd.results34, go_sem]) rfl ⟨rfl, HB2.out⟩
  · rw [if_neg hR] at hnb
    have hle : ((k : Int) < (R.length : Int)) = True := eq_true (by omega)
    have hle2 : decide ((k : Int) < (R.length : Int)) = true := decide_eq_true (by omega)
    subst hnb
    clear hn
    go_enter Tryd.func34, Tryd.ntmps34
    go_wp2_with fail
    refine ht.mono ?_
    rintro e w1 ⟨rfl, hb1⟩
    have HB1 := Lib.hid hb1
    clear hb1 ht
    go_wp2
    refine bodyPost_ret (v := .tuple #[.int .i64 0, .string ⟨P.toArray⟩, .bool false]) (by simp [results, Tryd.results34, go_sem]) rfl ⟨rfl, HB1.out⟩

/-- May it be a sign? -/
theorem mark_any (c : UInt8) (w : World) :
    Calls Tryd.prog 38 #[.int .u8 (c.toNat : Int)] w fun e w' => e = .returned (.bool (decide (33 ≤ c.toNat) && decide (c.toNat ≤ 126) && !Tx.dig c)) ∧ w = w' := by
  have hd : Tx.dig c = (decide (48 ≤ c.toNat) && decide (c.toNat ≤ 57)) := rfl
  rw [hd]
  obtain ⟨n, hn⟩ : ∃ n, c.toNat = n := ⟨_, rfl⟩
  rw [hn]
  clear hn hd
  by_cases h1 : 33 ≤ n
  · by_cases h2 : n ≤ 126
    · by_cases h3 : n < 48
      · have e1 : ((33 : Int) ≤ (n : Int)) = True := eq_true (by omega)
        have e2 : ((n : Int) ≤ 126) = True := eq_true (by omega)
        have e3 : ((n : Int) < 48) = True := eq_true (by omega)
        have f : (decide (33 ≤ n) && decide (n ≤ 126) && !(decide (48 ≤ n) && decide (n ≤ 57))) = true := by simp [h1, h2]; omega
        rw [f]
        clear f h1 h2 h3
        go_enter Tryd.func38, Tryd.ntmps38
        go_wp2
        go_ret
        exact ⟨rfl, rfl⟩
      · by_cases h4 : 57 < n
        · have e1 : ((33 : Int) ≤ (n : Int)) = True := eq_true (by omega)
          have e2 : ((n : Int) ≤ 126) = True := eq_true (by omega)
          have e3 : ((n : Int) < 48) = False := eq_false (by omega)
          have e4 : ((57 : Int) < (n : Int)) = True := eq_true (by omega)
          have f : (decide (33 ≤ n) && decide (n ≤ 126) && !(decide (48 ≤ n) && decide (n ≤ 57))) = true := by simp [h1, h2]; omega
          rw [f]
          clear f h1 h2 h3 h4
          go_enter Tryd.func38, Tryd.ntmps38
          go_wp2
          go_ret
          exact ⟨rfl, rfl⟩
        · have e1 : ((33 : Int) ≤ (n : Int)) = True := eq_true (by omega)
          have e2 : ((n : Int) ≤ 126) = True := eq_true (by omega)
          have e3 : ((n : Int) < 48) = False := eq_false (by omega)
          have e4 : ((57 : Int) < (n : Int)) = False := eq_false (by omega)
          have f : (decide (33 ≤ n) && decide (n ≤ 126) && !(decide (48 ≤ n) && decide (n ≤ 57))) = false := by simp [h1, h2]; omega
          rw [f]
          clear f h1 h2 h3 h4
          go_enter Tryd.func38, Tryd.ntmps38
          go_wp2
          go_ret
          exact ⟨rfl, rfl⟩
    · have e1 : ((33 : Int) ≤ (n : Int)) = True := eq_true (by omega)
      have e2 : ((n : Int) ≤ 126) = False := eq_false (by omega)
      have f : (decide (33 ≤ n) && decide (n ≤ 126) && !(decide (48 ≤ n) && decide (n ≤ 57))) = false := by simp [h2]
      rw [f]
      clear f h1 h2
      go_enter Tryd.func38, Tryd.ntmps38
      go_wp2
      go_ret
      exact ⟨rfl, rfl⟩
  · have e1 : ((33 : Int) ≤ (n : Int)) = False := eq_false (by omega)
    have f : (decide (33 ≤ n) && decide (n ≤ 126) && !(decide (48 ≤ n) && decide (n ≤ 57))) = false := by simp [h1]
    rw [f]
    clear f h1
    go_enter Tryd.func38, Tryd.ntmps38
    go_wp2
    go_ret
    exact ⟨rfl, rfl⟩

/-- 'strings.CutPrefix' by a comma. -/
theorem comma_any (l : List UInt8) (w : World) :
    Calls Tryd.prog 35 #[.string ⟨l.toArray⟩, .string ⟨#[44]⟩] w fun e w' => e = .returned (.tuple #[.string ⟨(if l.head? = some 44 then l.tail else l).toArray⟩, .bool (decide (l.head? = some 44))]) ∧ w' = w := by
  refine (Tryd.strings_CutPrefix ⟨l.toArray⟩ ⟨#[44]⟩ w).mono ?_
  rintro e w' ⟨rfl, rfl⟩
  refine ⟨?_, rfl⟩
  have hp : Lib.hasPrefix l [44] = decide (l.head? = some 44) := by
    cases l with
    | nil => rfl
    | cons c l =>
      by_cases h : c = 44
      · subst h; simp [Lib.hasPrefix, List.isPrefixOf]
      · have : ((44 : UInt8) == c) = false := beq_eq_false_iff_ne.2 (fun e => h e.symm)
        simp [Lib.hasPrefix, List.isPrefixOf, this, h]
  have ht : Lib.trimPrefix l [44] = (if l.head? = some 44 then l.tail else l) := by
    unfold Lib.trimPrefix
    rw [hp]
    by_cases h : l.head? = some 44
    · simp [h]
    · simp [h]
  show Ending.returned (.tuple #[.string ⟨(Lib.trimPrefix l [44]).toArray⟩, .bool (Lib.hasPrefix l [44])]) = _
  rw [hp, ht]
end Go.Proofs.YtonophhhndhhhaaDoor
