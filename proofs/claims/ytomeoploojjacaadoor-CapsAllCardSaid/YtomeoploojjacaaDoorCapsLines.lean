/- caps.lines walked. -/
import Derived.Test.YtomeoploojjacaaDoorCapsIn
import Derived.Test.YtomeoploojjacaaDoorCapsSplit
import Derived.Test.YtomeoploojjacaaDoorMx
import Derived.Test.YtomeoploojjacaaDoorRdB
import Derived.Test.YtomeoploojjacaaDoorShelf
namespace Go.Proofs.YtomeoploojjacaaDoor
open Go.RowKit
namespace Cp
theorem splitGo_mem : ∀ (n : Nat) (l cur : List UInt8), l.length ≤ n → ∀ x ∈ splitGo cur l, x.length ≤ cur.length + l.length := by
  intro n
  induction n with
  | zero =>
    intro l cur h x hx
    obtain rfl : l = [] := List.length_eq_zero_iff.1 (by omega)
    rw [splitGo, List.mem_singleton] at hx
    subst hx
    exact Nat.le_refl _
  | succ n ih =>
    intro l cur h x hx
    match l, h, hx with
    | [], _, hx =>
      rw [splitGo, List.mem_singleton] at hx
      subst hx
      exact Nat.le_refl _
    | [c], _, hx =>
      rw [splitGo, List.mem_singleton] at hx
      subst hx
      simp
    | c :: d :: r, h, hx =>
      simp only [List.length_cons] at h ⊢
      rw [splitGo] at hx
      split at hx
      · rcases List.mem_cons.1 hx with rfl | hx
        · omega
        · have := ih r [] (by omega) x hx
          simp only [List.length_nil] at this
          omega
      · have := ih (d :: r) (cur ++ [c]) (by simp only [List.length_cons]; omega) x hx
        simp only [List.length_append, List.length_cons, List.length_nil] at this
        omega
theorem count_each (proto : Int) {ls : List (List UInt8)} {xs : List UInt8} {m : Nat} (h : ∀ x ∈ ls, x.length ≤ m) (h2 : xs.length ≤ m) : ∀ x ∈ count proto ls xs, x.length ≤ m := by
  intro x hx
  unfold count at hx
  split at hx
  · exact h x (List.mem_of_mem_drop hx)
  · split at hx
    · exact h x (List.mem_of_mem_drop ((List.dropLast_sublist _).subset hx))
    · split at hx
      · have := splitGo_mem _ xs [] (Nat.le_refl _) x hx
        simp only [List.length_nil] at this
        omega
      · cases hx
end Cp
set_option maxHeartbeats 1000000 in
theorem lines_any (proto : Int) (code : ByteArray) (lv bo : Value) (ls : List (List UInt8)) (xs : List UInt8) (w : World) (hl : Rd w lv (ls.map sv)) (hb : Rd w bo (xs.map bv)) (h1 : ls.length ≤ 1000) (h2 : xs.length ≤ 1000) (hm : MX w) :
    Calls Tryd.prog 20 #[.int .i64 proto, .agg #[.string code, lv, bo]] w fun e w' => ∃ v, e = .returned v ∧ Rd w' v ((Cp.count proto ls xs).map sv) ∧ Below w.heap.size w w' := by
  have hal : Below w.heap.size w (w.alloc (.cells #[.string code, lv, bo] 25 (0, 0))) := (Below.refl _ _).alloc (Nat.le_refl _) _
  obtain ⟨w1, hw1⟩ : ∃ w1, w1 = w.alloc (.cells #[.string code, lv, bo] 25 (0, 0)) := ⟨_, rfl⟩
  rw [← hw1] at hal
  have HAL := Lib.hid hal
  by_cases p1 : proto = 1
  · have C := Lib.hid (inner_any 0 (by decide) lv _ w1 (hl.below hal) (by rw [List.length_map]; omega))
    have e : Cp.count proto ls xs = ls.drop 1 := by unfold Cp.count; rw [if_pos p1]
    have e2 : ((ls.map sv).drop 1).take ((ls.map sv).length - 1 - 0) = (ls.drop 1).map sv := by
      rw [List.take_of_length_le (by simp), List.map_drop]
    rw [e2] at C
    rw [e]
    generalize ls.drop 1 = R at C ⊢
    rw [hw1] at C HAL
    subst p1
    clear hl hb e e2 hal hw1
    go_enter Tryd.func20, Tryd.ntmps20
    go_wp2_with fail
    refine C.out.mono ?_
    rintro e w' ⟨v, rfl, hr, rfl⟩
    go_wp2
    go_ret
    exact ⟨_, rfl, hr, HAL.out⟩
  · by_cases p3 : proto = 3
    · have C := Lib.hid (inner_any 1 (by decide) lv _ w1 (hl.below hal) (by rw [List.length_map]; omega))
      have e : Cp.count proto ls xs = (ls.drop 1).dropLast := by unfold Cp.count; rw [if_neg p1, if_pos p3]
      have e2 : ((ls.map sv).drop 1).take ((ls.map sv).length - 1 - 1) = ((ls.drop 1).dropLast).map sv := by
        rw [List.dropLast_eq_take, List.map_take, List.map_drop, List.length_map, List.length_drop]
      rw [e2] at C
      rw [e]
      generalize (ls.drop 1).dropLast = R at C ⊢
      rw [hw1] at C HAL
      subst p3
      clear hl hb e e2 hal hw1 p1
      go_enter Tryd.func20, Tryd.ntmps20
      go_wp2_with fail
      refine C.out.mono ?_
      rintro e w' ⟨v, rfl, hr, rfl⟩
      go_wp2
      go_ret
      exact ⟨_, rfl, hr, HAL.out⟩
    · by_cases p2 : proto = 2
      · have e : Cp.count proto ls xs = Cp.linesOf xs := by unfold Cp.count; rw [if_neg p1, if_neg p3, if_pos p2]
        have hcv := Lib.hid (bytes_string (hb.below hal))
        obtain ⟨m, hm⟩ := hm.below hal
        have hS := Tryd.strings_Split ⟨xs.toArray⟩ ⟨#[13, 10]⟩ m w1 (by rw [Lib.size_eq]; show xs.length < _; omega) hm (by decide)
        have hrow := Cp.splitB_rows ⟨xs.toArray⟩
        have hcnt := Cp.countB_lines ⟨xs.toArray⟩
        have hlen := Cp.linesOf_len xs
        have e0 : (⟨xs.toArray⟩ : ByteArray).data.toList = xs := rfl
        rw [e0] at hrow hcnt
        rw [hrow, hcnt] at hS
        rw [e]
        generalize Cp.linesOf xs = R at *
        have HS := Lib.hid hS
        have hal2 : ∀ o, Below w1.heap.size w1 (w1.alloc o) := fun o => (Below.refl _ _).alloc (Nat.le_refl _) o
        have HF := Lib.hid (show Rd (w1.alloc (.cells (R.map fun l => Value.string ⟨l.toArray⟩).toArray 9 (0, 0))) (.slice (some ⟨w1.heap.size, 0, none⟩) R.length R.length) (R.map sv) from
          .inr ⟨_, 0, R.length, by rw [List.length_map], by rw [List.length_map]; exact Nat.le_refl _, by unfold maxLen; omega, fun j u hj => by
            rw [cell_of_row _ _ _ _ _ _ (heap_alloc_new w1 _), Nat.zero_add]
            simpa [sv] using hj⟩)
        have HB2 := Lib.hid (hal.trans ((hal2 (.cells (R.map fun l => Value.string ⟨l.toArray⟩).toArray 9 (0, 0))).mono hal.size))
        have hsz : w1.heap.size = w.heap.size + 1 := by rw [hw1]; simp
        rw [hsz] at HS HF
        subst p2
        rw [hw1] at hcv HS HF HB2
        have hcv2 := hcv.out
        unfold sv at hcv2
        clear hl hb e hal hw1 p1 p3 hrow hcnt e0 hS hal2 hcv hm hsz
        go_enter Tryd.func20, Tryd.ntmps20
        go_wp2_with fail
        refine HS.out.mono ?_
        rintro e w' ⟨rfl, rfl⟩
        go_wp2
        go_ret
        exact ⟨_, rfl, HF.out, HB2.out⟩
      · have e : Cp.count proto ls xs = [] := by unfold Cp.count; rw [if_neg p1, if_neg p3, if_neg p2]
        rw [e]
        have q1 : (proto == 1) = false := beq_eq_false_iff_ne.2 p1
        have q2 : (proto == 2) = false := beq_eq_false_iff_ne.2 p2
        have q3 : (proto == 3) = false := beq_eq_false_iff_ne.2 p3
        rw [hw1] at HAL
        clear hl hb e hal hw1 hm
        go_enter Tryd.func20, Tryd.ntmps20
        go_wp2
        go_ret
        exact ⟨_, rfl, .inl ⟨rfl, _, _, fun _ => rfl, rfl⟩, HAL.out⟩
end Go.Proofs.YtomeoploojjacaaDoor
