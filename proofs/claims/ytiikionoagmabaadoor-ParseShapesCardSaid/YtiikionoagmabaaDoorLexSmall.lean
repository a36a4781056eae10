/- lex's isPlain, stands, run, bounded walked (layer 14). -/
import Derived.Test.YtiikionoagmabaaDoorTk3
import Derived.Test.YtiikionoagmabaaDoorPA
import Derived.Test.YtiikionoagmabaaDoorBits
import Derived.Test.YtiikionoagmabaaDoorShelf
import Derived.Test.YtiikionoagmabaaDoorLeftSet
namespace Go.Proofs.YtiikionoagmabaaDoor
open Go.RowKit

namespace Lx
/-- Where it is among those behind a backslash. -/
theorem turned_at (e : UInt8) : (Lib.indexByte [92, 34, 110, 114, 116] e = -1 ∧ turned e = none) ∨ ∃ (k : Nat) (t : UInt8), k < 5 ∧ Lib.indexByte [92, 34, 110, 114, 116] e = (k : Int) ∧ turned e = some t ∧ ∀ h, (⟨#[92, 34, 10, 13, 9]⟩ : ByteArray)[k]'h = t := by
  by_cases h0 : e = 92
  · subst h0; exact .inr ⟨0, 92, by decide, rfl, rfl, fun _ => rfl⟩
  by_cases h1 : e = 34
  · subst h1; exact .inr ⟨1, 34, by decide, rfl, rfl, fun _ => rfl⟩
  by_cases h2 : e = 110
  · subst h2; exact .inr ⟨2, 10, by decide, rfl, rfl, fun _ => rfl⟩
  by_cases h3 : e = 114
  · subst h3; exact .inr ⟨3, 13, by decide, rfl, rfl, fun _ => rfl⟩
  by_cases h4 : e = 116
  · subst h4; exact .inr ⟨4, 9, by decide, rfl, rfl, fun _ => rfl⟩
  refine .inl ⟨?_, by unfold turned; rw [if_neg h0, if_neg h1, if_neg h2, if_neg h3, if_neg h4]⟩
  have g : ∀ a : UInt8, ¬ e = a → (a == e) = false := fun a h => beq_eq_false_iff_ne.2 fun q => h q.symm
  simp [Lib.indexByte, g _ h0, g _ h1, g _ h2, g _ h3, g _ h4]
end Lx

set_option maxHeartbeats 1000000 in
theorem plain_any (c : UInt8) (w : World) : Calls Tryd.prog 75 #[.int .u8 (c.toNat : Int)] w fun e w' => e = .returned (.bool (Lx.pl c)) ∧ w = w' := by
  unfold Lx.pl
  obtain ⟨n, hn⟩ : ∃ n, c.toNat = n := ⟨_, rfl⟩
  rw [hn]
  clear hn
  by_cases h1 : 32 ≤ n
  · by_cases h2 : n ≤ 126
    · have e1 : ((32 : Int) ≤ (n : Int)) = True := eq_true (by omega)
      have e2 : ((n : Int) ≤ 126) = True := eq_true (by omega)
      rw [decide_eq_true h1, decide_eq_true h2]
      clear h1 h2
      go_enter Tryd.func75, Tryd.ntmps75
      go_wp2
      go_ret
      exact ⟨rfl, rfl⟩
    · have e1 : ((32 : Int) ≤ (n : Int)) = True := eq_true (by omega)
      have e2 : ((n : Int) ≤ 126) = False := eq_false (by omega)
      rw [decide_eq_true h1, decide_eq_false h2]
      clear h1 h2
      go_enter Tryd.func75, Tryd.ntmps75
      go_wp2
      go_ret
      exact ⟨rfl, rfl⟩
  · have e1 : ((32 : Int) ≤ (n : Int)) = False := eq_false (by omega)
    rw [decide_eq_false h1, Bool.false_and]
    clear h1
    go_enter Tryd.func75, Tryd.ntmps75
    go_wp2
    go_ret
    exact ⟨rfl, rfl⟩

set_option maxHeartbeats 1000000 in
theorem sindex_any (s : ByteArray) (c : UInt8) (w : World) : Calls Tryd.prog 74 #[.string s, .int .u8 (c.toNat : Int)] w fun e w' => e = .returned (.int .i64 (Lib.indexByte s.data.toList c)) ∧ w = w' := by
  have h := Tryd.stringslite_IndexByte s (c.toNat : Int) w
  rw [show ((c.toNat : Int)).toNat.toUInt8 = c by simp] at h
  go_enter Tryd.func74, Tryd.ntmps74
  go_wp2_with (go_at_call 76; refine h.mono ?_; rintro e w' ⟨rfl, hw⟩; rw [hw])
  go_ret
  exact ⟨rfl, rfl⟩

set_option maxHeartbeats 2000000 in
theorem stands_any (c : UInt8) (r : List UInt8) (hl : r.length ≤ 16777216) (w : World) :
    Calls Tryd.prog 65 #[.string ⟨(c :: r).toArray⟩] w fun e w' => e = .returned (.tuple #[.int .u8 ((Lx.stand c r).1.toNat : Int), .int .i64 ((Lx.stand c r).2 : Int)]) ∧ w = w' := by
  obtain ⟨q, hq⟩ : ∃ q, q = c :: r := ⟨_, rfl⟩
  have hz : (⟨q.toArray⟩ : ByteArray).size = r.length + 1 := by show q.toArray.size = _; rw [hq]; simp
  have hx : ∀ h, (⟨q.toArray⟩ : ByteArray)[0]'h = c := fun h => by rw [byte_at, hq]; rfl
  rw [← hq]
  by_cases hc : c = 92
  · subst hc
    have h92 : ((92 : UInt8).toNat : Int) = 92 := rfl
    cases r with
    | nil =>
      show Calls _ _ _ _ fun e w' => e = .returned (.tuple #[.int .u8 0, .int .i64 0]) ∧ _
      clear hq
      simp only [List.length_nil] at hz
      go_enter Tryd.func65, Tryd.ntmps65
      go_wp2
      go_ret2
      exact ⟨rfl, rfl⟩
    | cons e r =>
      have hx1 : ∀ h, (⟨q.toArray⟩ : ByteArray)[1]'h = e := fun h => by rw [byte_at, hq]; rfl
      have hz2 : (⟨q.toArray⟩ : ByteArray).size = r.length + 1 + 1 := hz
      have hS := fun w => sindex_any ⟨#[92, 34, 110, 114, 116]⟩ e w
      have hL : ((1 : Int) < (r.length : Int) + 1 + 1) = True := eq_true (by omega)
      have hrl : r.length + 1 ≤ 16777216 := hl
      rcases Lx.turned_at e with ⟨h1, h2⟩ | ⟨k, t, hk, h1, h2, h3⟩
      · rw [show (⟨#[92, 34, 110, 114, 116]⟩ : ByteArray).data.toList = [92, 34, 110, 114, 116] from rfl, h1] at hS
        have hst : Lx.stand 92 (e :: r) = (0, 0) := by unfold Lx.stand; rw [if_pos rfl]; dsimp only; rw [h2]
        rw [hst]
        show Calls _ _ _ _ fun e w' => e = .returned (.tuple #[.int .u8 0, .int .i64 0]) ∧ _
        clear hq hst h1 h2 hz hl
        go_enter Tryd.func65, Tryd.ntmps65
        go_wp2_with (go_at_call 74; refine (hS _).mono ?_; rintro e w' ⟨rfl, rfl⟩)
        go_ret2
        exact ⟨rfl, rfl⟩
      · rw [show (⟨#[92, 34, 110, 114, 116]⟩ : ByteArray).data.toList = [92, 34, 110, 114, 116] from rfl, h1] at hS
        have hst : Lx.stand 92 (e :: r) = (t, 2) := by unfold Lx.stand; rw [if_pos rfl]; dsimp only; rw [h2]
        rw [hst]
        show Calls _ _ _ _ fun e w' => e = .returned (.tuple #[.int .u8 (t.toNat : Int), .int .i64 2]) ∧ _
        have hk0 : (0 : Int) ≤ (k : Int) := by omega
        have hk5 : (k : Int) < 5 := by omega
        clear hq hst h1 h2 hz hl
        go_enter Tryd.func65, Tryd.ntmps65
        go_wp2_with (go_at_call 74; refine (hS _).mono ?_; rintro e w' ⟨rfl, rfl⟩)
        go_ret2
        exact ⟨rfl, rfl⟩
  · have hP := fun w => plain_any c w
    have hc2 : ¬ ((c.toNat : Int) = 92) := fun e => hc (UInt8.toNat_inj.1 (by show c.toNat = 92; omega))
    have hc3 : ((c.toNat : Int) == 92) = false := beq_eq_false_iff_ne.2 hc2
    have hc4 : ((c.toNat : Int) = 92) = False := eq_false hc2
    obtain ⟨p, hp⟩ : ∃ p, Lx.pl c = p := ⟨_, rfl⟩
    have hst : Lx.stand c r = if p = true then (c, 1) else (0, 0) := by unfold Lx.stand; rw [if_neg hc, hp]
    rw [hp] at hP
    rw [hst]
    cases p
    · show Calls _ _ _ _ fun e w' => e = .returned (.tuple #[.int .u8 0, .int .i64 0]) ∧ _
      clear hq hst hp hc
      go_enter Tryd.func65, Tryd.ntmps65
      go_wp2_with (go_at_call 75; refine (hP _).mono ?_; rintro e w' ⟨rfl, rfl⟩)
      go_ret2
      exact ⟨rfl, rfl⟩
    · show Calls _ _ _ _ fun e w' => e = .returned (.tuple #[.int .u8 (c.toNat : Int), .int .i64 1]) ∧ _
      clear hq hst hp hc
      go_enter Tryd.func65, Tryd.ntmps65
      go_wp2_with (go_at_call 75; refine (hP _).mono ?_; rintro e w' ⟨rfl, rfl⟩)
      go_ret2
      exact ⟨rfl, rfl⟩

/-- All of a set that stands ahead. -/
theorem take_drop_len (p : UInt8 → Bool) (l : List UInt8) : l.length = (l.takeWhile p).length + (l.dropWhile p).length := by
  conv => lhs; rw [← List.takeWhile_append_dropWhile (p := p) (l := l)]
  rw [List.length_append]
theorem take_take_len (p : UInt8 → Bool) : ∀ l : List UInt8, l.take (l.takeWhile p).length = l.takeWhile p
  | [] => rfl
  | c :: l => by
    rw [List.takeWhile_cons]
    split
    · rw [List.length_cons, List.take_succ_cons, take_take_len p l]
    · rfl
set_option maxHeartbeats 1000000 in
theorem run_any (l : List UInt8) (hl : l.length ≤ 16777216) (chars : ByteArray) (h2 : 2 ≤ chars.size) (hcs : chars.size < 4294967281) (hascii : ∀ (j : Nat) b, chars.data.toList[j]? = some b → b.toNat < 128) (w : World) :
    Calls Tryd.prog 53 #[.string ⟨l.toArray⟩, .string chars] w fun e w' => e = .returned (.string ⟨(l.takeWhile chars.data.toList.contains).toArray⟩) ∧ Below w.heap.size w w' := by
  have ht := sTrimLeft ls l hl chars h2 hcs hascii w
  clear hascii h2 hcs
  have hsum := take_drop_len chars.data.toList.contains l
  have hx : (⟨l.toArray⟩ : ByteArray).extract 0 (l.takeWhile chars.data.toList.contains).length = ⟨(l.takeWhile chars.data.toList.contains).toArray⟩ := by
    rw [ba_extract]
    simp only [List.drop_zero]
    rw [take_take_len]
  generalize l.takeWhile chars.data.toList.contains = R at *
  generalize l.dropWhile chars.data.toList.contains = D at *
  have hz : (⟨l.toArray⟩ : ByteArray).size = R.length + D.length := hsum
  have hz2 : (⟨D.toArray⟩ : ByteArray).size = D.length := rfl
  have hsub3 : ((R.length : Int) + (D.length : Int) - (D.length : Int)) = (R.length : Int) := by omega
  have hsub2 : (((R.length + D.length : Nat) : Int) - (D.length : Int)) = (R.length : Int) := by omega
  have hRl : R.length ≤ 16777216 := by omega
  have hDl : D.length ≤ 16777216 := by omega
  clear hsum hl
  go_enter Tryd.func53, Tryd.ntmps53
  go_wp2_with (go_at_call 64; refine ht.mono ?_; rintro e w' ⟨rfl, hb⟩)
  go_ret
  exact ⟨rfl, hb⟩

set_option maxHeartbeats 1000000 in
theorem bounded_any (k : Nat) (l : List UInt8) (_hl : l.length ≤ 16777216) (m f : Nat) (w : World) :
    Calls Tryd.prog 52 #[.int .i64 (k : Int), .string ⟨l.toArray⟩, .int .i64 (m : Int), .int .i64 (f : Int)] w fun e w' =>
      e = .returned (if m < l.length then .tuple #[tkv 0 [] 0, .int .i64 0, .int .i64 (f : Int)] else .tuple #[tkv k l 0, .int .i64 (l.length : Int), .int .i64 0]) ∧ Below w.heap.size w w' := by
  have hz : (⟨l.toArray⟩ : ByteArray).size = l.length := rfl
  by_cases h : m < l.length
  · rw [if_pos h]
    have h1 : ((m : Int) < (l.length : Int)) = True := eq_true (by omega)
    clear h
    go_enter Tryd.func52, Tryd.ntmps52
    go_wp2
    refine bodyPost_ret (v := .tuple #[tkv 0 [] 0, .int .i64 0, .int .i64 (f : Int)]) (by simp [results, Tryd.results52, go_sem, tkv]) rfl ⟨rfl, (Below.refl _ w).alloc (Nat.le_refl _) _⟩
  · rw [if_neg h]
    have h1 : ((m : Int) < (l.length : Int)) = False := eq_false (by omega)
    clear h
    go_enter Tryd.func52, Tryd.ntmps52
    go_wp2
    refine bodyPost_ret (v := .tuple #[tkv k l 0, .int .i64 (l.length : Int), .int .i64 0]) (by simp [results, Tryd.results52, go_sem, tkv]) rfl ⟨rfl, (Below.refl _ w).alloc (Nat.le_refl _) _⟩
end Go.Proofs.YtiikionoagmabaaDoor
