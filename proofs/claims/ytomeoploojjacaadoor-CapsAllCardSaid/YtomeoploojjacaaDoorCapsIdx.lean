/- slices.Index, Contains of texts walked. -/
import Derived.Test.YtomeoploojjacaaDoorCapsP
import Derived.Test.YtomeoploojjacaaDoorRowCut
import Derived.Test.YtomeoploojjacaaDoorStrs
namespace Go.Proofs.YtomeoploojjacaaDoor
open Go.RowKit

theorem any_take_all {α : Type} {xs : List α} {p : α → Bool} {k : Nat} (h : (xs.take k).any p = false) (hk : xs.length ≤ k) : xs.any p = false := by
  rwa [List.take_of_length_le hk] at h
theorem any_take_more {xs : List (List UInt8)} {p : List UInt8 → Bool} {k : Nat} (h : (xs.take k).any p = false) (hk : k < xs.length) (hp : p (xs.getD k []) = false) : (xs.take (k + 1)).any p = false := by
  have e : xs[k] = xs.getD k [] := by rw [List.getD_eq_getElem?_getD, List.getElem?_eq_getElem hk]; rfl
  rw [List.take_succ_eq_append_getElem hk, List.any_append, h, e]
  simpa using hp
theorem any_hit {xs : List (List UInt8)} {p : List UInt8 → Bool} {k : Nat} (hk : k < xs.length) (hp : p (xs.getD k []) = true) : xs.any p = true :=
  List.any_eq_true.2 ⟨_, (show xs.getD k [] ∈ xs by rw [List.getD_eq_getElem?_getD, List.getElem?_eq_getElem hk]; exact List.getElem_mem _), hp⟩
theorem contains_any (xs : List (List UInt8)) (x : List UInt8) : xs.contains x = xs.any (fun y => x == y) := by rw [List.contains_eq_any_beq]

theorem index_any (v : Value) (xs : List (List UInt8)) (x : List UInt8) (w : World) (h : Rd w v (xs.map sv)) (hl : xs.length ≤ 1048576) :
    Calls Tryd.prog 35 #[v, sv x] w fun e w' => ∃ r : Int, e = .returned (.int .i64 r) ∧ decide (0 ≤ r) = xs.contains x ∧ w' = w := by
  obtain ⟨ao, cap, rfl, hc1, _, hc3⟩ := h.formV
  rw [List.length_map] at hc1 hc3 ⊢
  obtain ⟨N, hN⟩ : ∃ N, N = xs.length := ⟨_, rfl⟩
  rw [← hN] at hl hc1 hc3 ⊢
  have HN := Lib.hid hN
  have HC := Lib.hid hc3
  clear hN hc3 h
  unfold sv
  go_enter Tryd.func35, Tryd.ntmps35
  go_wp2
  go_loopw [5, 8] (fun _ i wr => ∃ k : Nat, k ≤ N ∧ i = .int .i64 k ∧ Hid ((xs.take k).any (fun y => x == y) = false) ∧ wr = w) (fun _ i _ => N - (intOf i).toNat)
  case atStart => exact ⟨0, Nat.zero_le _, rfl, rfl, rfl⟩
  case round =>
    obtain ⟨k, hk, rfl, HE, rfl⟩ := hrel
    by_cases hlt : k < N
    · obtain ⟨b, o, rfl, hm, hc⟩ := HC.out (by omega)
      have hcx := hc k _ (svs_at (by rw [← HN.out]; exact hlt))
      unfold maxLen at hm
      clear hc
      obtain ⟨y, hy⟩ : ∃ y, y = xs.getD k [] := ⟨_, rfl⟩
      rw [← hy, sv] at hcx
      have HY := Lib.hid hy
      clear hy
      by_cases hxy : x = y
      · have hb : (x == y) = true := beq_iff_eq.2 hxy
        have HB := Lib.hid hb
        clear hxy
        go_wp2
        go_ret
        refine ⟨_, rfl, ?_, rfl⟩
        rw [contains_any, any_hit (k := k) (by rw [← HN.out]; exact hlt) (by rw [← HY.out]; exact HB.out)]
        exact decide_eq_true (by omega)
      · have hb : (x == y) = false := beq_eq_false_iff_ne.2 hxy
        have HB := Lib.hid hb
        clear hxy
        go_wp2
        go_roundw
        case rel => exact ⟨k + 1, by omega, by go_num, any_take_more HE.out (by rw [← HN.out]; exact hlt) (by rw [← HY.out]; exact HB.out), trivial⟩
        case measure => simp [intOf]; omega
    · go_wp2
      go_ret
      refine ⟨_, rfl, ?_, rfl⟩
      rw [contains_any, any_take_all HE.out (by have := HN.out; omega)]
      rfl

theorem has_any (v : Value) (xs : List (List UInt8)) (x : List UInt8) (w : World) (h : Rd w v (xs.map sv)) (hl : xs.length ≤ 1048576) :
    Calls Tryd.prog 27 #[v, sv x] w fun e w' => e = .returned (.bool (xs.contains x)) ∧ w' = w := by
  have C := index_any v xs x w h hl
  generalize xs.contains x = B at C ⊢
  unfold sv at C ⊢
  go_enter Tryd.func27, Tryd.ntmps27
  go_wp2_with fail
  refine C.mono ?_
  rintro e w' ⟨r, rfl, hr, rfl⟩
  by_cases h0 : 0 ≤ r
  · obtain rfl : B = true := by rw [← hr]; exact decide_eq_true h0
    clear hr
    go_wp2
    go_ret
    exact ⟨rfl, rfl⟩
  · obtain rfl : B = false := by rw [← hr]; exact decide_eq_false h0
    clear hr
    go_wp2
    go_ret
    exact ⟨ret_b (decide_eq_false (by omega)), rfl⟩
end Go.Proofs.YtomeoploojjacaaDoor
