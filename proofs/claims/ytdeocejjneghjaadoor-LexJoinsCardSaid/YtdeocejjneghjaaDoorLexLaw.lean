/- The small functions of the laws of layer 14, walked; '==' of tokens. -/
import Derived.Test.YtdeocejjneghjaaDoorLexAll
import Derived.Laws.StructEq
namespace Go.Proofs.YtdeocejjneghjaaDoor
open Go.RowKit

namespace Lx
theorem go_err (n : Nat) : ∀ (f k : Nat) (l : List UInt8) {p e : Nat}, go n f k l = .error (p, e) → e ≠ 0 ∧ p ≤ n
  | 0, k, l, p, e, h => by cases h
  | f + 1, k, [], p, e, h => by cases h
  | f + 1, k, c :: l, p, e, h => by
    rw [go] at h
    cases hx : next c l with
    | error x => rw [hx] at h; cases h; exact ⟨next_err0 hx, Nat.sub_le _ _⟩
    | ok x =>
      obtain ⟨kd, t, r⟩ := x
      rw [hx] at h
      dsimp only at h
      split at h
      · cases h; exact ⟨by decide, Nat.zero_le _⟩
      · split at h
        · next hg => cases h; exact go_err n f (k + 1) _ hg
        · cases h
theorem all_err {l : List UInt8} {p e : Nat} (h : all l = .error (p, e)) : e ≠ 0 ∧ p ≤ l.length := by
  unfold all at h
  split at h
  · cases h; exact ⟨by decide, Nat.zero_le _⟩
  · exact go_err _ _ _ _ h
theorem go_place (n : Nat) : ∀ (f k : Nat) (l : List UInt8) {ts : List Tok}, go n f k l = .ok ts → ∀ t ∈ ts, t.place ≤ n
  | 0, k, l, ts, h => by cases h; simp
  | f + 1, k, [], ts, h => by cases h; simp
  | f + 1, k, c :: l, ts, h => by
    rw [go] at h
    cases hx : next c l with
    | error x => rw [hx] at h; cases h
    | ok x =>
      obtain ⟨kd, t, r⟩ := x
      rw [hx] at h
      dsimp only at h
      split at h
      · cases h
      · split at h
        · cases h
        · next hg =>
          cases h
          intro u hu
          rcases List.mem_cons.1 hu with rfl | hu
          · exact Nat.sub_le _ _
          · exact go_place n f (k + 1) _ hg u hu
theorem all_place {l : List UInt8} {ts : List Tok} (h : all l = .ok ts) : ∀ t ∈ ts, t.place ≤ l.length := by
  unfold all at h
  split at h
  · cases h
  · exact go_place _ _ _ _ h
/-- As many tokens as may be. -/
theorem all_few {l : List UInt8} {ts : List Tok} (h : all l = .ok ts) : ts.length ≤ 401 := by
  unfold all at h
  split at h
  · cases h
  · have h2 := go_count l.length 0 _ _ _ h
    rw [Nat.add_zero, h] at h2
    split at h2
    · omega
    · cases h2
end Lx
theorem tokGuard : Tryd.prog.eqGuardType Tryd.prog.depth 31 = false := by kernel_rfl
theorem tokHeld : Tryd.prog.stoodInHeld 31 = false := by kernel_rfl
theorem tok_same (k : Int) (t : ByteArray) (p : Int) (w : World) : (Op.equalIn 10000 31 (.agg #[.int .i64 k, .string t, .int .i64 p]) (.agg #[.int .i64 k, .string t, .int .i64 p])).run Tryd.prog w = .ok true w := by
  obtain ⟨F0, F1, F2, hf, n0, n1, n2, t0, t1, t2, o0, o1, o2⟩ : ∃ F0 F1 F2 : Field, Tryd.prog.fieldsOf 31 = #[F0, F1, F2] ∧ F0.name ≠ "_" ∧ F1.name ≠ "_" ∧ F2.name ≠ "_" ∧ F0.type = 3 ∧ F1.type = 9 ∧ F2.type = 3 ∧ F0.offset = 0 ∧ F1.offset = 1 ∧ F2.offset = 2 :=
    ⟨_, _, _, by rw [Program.fieldsOf, Tryd.underlying31], by decide, by decide, by decide, rfl, rfl, rfl, rfl, rfl, rfl⟩
  have hu : Tryd.prog.underlying 31 = some (.struct (Tryd.prog.fieldsOf 31)) := by rw [Program.fieldsOf, Tryd.underlying31]
  have h1 := fun x y w => run_equalIn_int (P := Tryd.prog) w 9998 3 .i64 .i64 x y Tryd.underlying3
  have h2 := fun x y w => run_equalIn_string (P := Tryd.prog) w 9998 9 x y Tryd.underlying9
  have i1 := Tryd.isAgg3
  have i2 := Tryd.isAgg9
  rw [run_equalIn_struct w 9999 31 _ _ hu tokHeld, hf]
  simp [Op.eqFields, n0, n1, n2, t0, t1, t2, o0, o1, o2, part, i1, i2, h1, h2]

theorem short_any (s : ByteArray) (hs : s.size ≤ maxLen) (w : World) :
    Calls Tryd.prog 8 #[.string s] w fun e w' => e = .returned (.string ⟨(s.data.toList.take 2100).toArray⟩) ∧ w = w' := by
  unfold maxLen at hs
  have hl := Lib.size_eq s
  obtain ⟨L, hL⟩ : ∃ L, s.size = L := ⟨_, rfl⟩
  rw [hL] at hs
  have hz : s.size = L := hL
  by_cases hlt : 2100 < L
  · have hx : s.extract 0 2100 = ⟨(s.data.toList.take 2100).toArray⟩ := by
      have := ba_extract s.data.toList 0 2100
      simpa using this
    have h1 : ((2100 : Int) < (L : Int)) = True := eq_true (by omega)
    have h2 : (2100 : Int) ≤ (L : Int) := by omega
    rw [← hx]
    clear hx hlt hL hl
    go_enter Tryd.func8, Tryd.ntmps8
    go_wp2
    go_ret
    exact ⟨rfl, rfl⟩
  · have e : (⟨(s.data.toList.take 2100).toArray⟩ : ByteArray) = s := by
      rw [List.take_of_length_le (by rw [← hl]; omega)]
    have h1 : ((2100 : Int) < (L : Int)) = False := eq_false (by omega)
    rw [e]
    clear e hlt hL hl
    go_enter Tryd.func8, Tryd.ntmps8
    go_wp2
    go_ret
    exact ⟨rfl, rfl⟩

set_option maxHeartbeats 2000000 in
theorem shown_any (w : World) : Calls Tryd.prog 7 #[] w fun e w' => e = .returned (.bool true) ∧ Below w.heap.size w w' := by
  have ha := all_any [108, 101, 116, 32, 97, 32, 61, 32, 34, 120, 34, 59] (by decide) w
  rw [Lx.all_shown] at ha
  unfold AllP at ha
  have hx : ((⟨#[120]⟩ : ByteArray).toList == (⟨#[120]⟩ : ByteArray).toList) = true := by rw [Lib.toList_data]; rfl
  go_enter Tryd.func7, Tryd.ntmps7
  go_wp2_with fail
  refine ha.mono ?_
  rintro e w1 ⟨hb, v, rfl, hv⟩
  obtain ⟨ao, cap, rfl, hc⟩ := hv.form
  obtain ⟨g, rfl, c0, _, _⟩ := hc 0 _ rfl
  obtain ⟨g', hg, c3, c4, _⟩ := hc 3 _ rfl
  cases hg
  obtain ⟨g', hg, _, _, c5⟩ := hc 5 _ rfl
  cases hg
  simp only [Nat.zero_mul, Nat.reduceMul, Nat.reduceAdd] at c0 c3 c4 c5
  have HB := Lib.hid hb
  clear hc hv hb ha
  simp only [List.length_cons, List.length_nil, Nat.reduceAdd]
  go_wp2
  go_ret
  exact ⟨rfl, HB.out⟩
end Go.Proofs.YtdeocejjneghjaaDoor
