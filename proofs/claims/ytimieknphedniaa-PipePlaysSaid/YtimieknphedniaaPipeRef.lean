/- The reference's pipe: Head, Due, Window, walked. -/
import Derived.Test.YtimieknphedniaaWantApp
import Derived.Test.YtimieknphedniaaPipeD
namespace Go.Proofs.Ytimieknphedniaa
open Go.RowKit

theorem ywindow_any (p a : Int) (b : Bool) (w : World) : Calls Try.prog 19 #[.int .i64 p, .int .i64 a, .bool b] w fun e w' => e = .returned (.int .i64 (Pi.window (p == 3) b a)) ∧ w = w' := by
  unfold Pi.window
  by_cases h : p = 3
  · subst h
    show Calls _ _ _ _ fun e w' => e = .returned (.int .i64 1) ∧ _
    go_enter Try.func19, Try.ntmps19
    go_wp2
    go_ret
    exact ⟨rfl, rfl⟩
  · have h1 : (p == 3) = false := beq_eq_false_iff_ne.2 h
    have h2 : (p = 3) = False := eq_false h
    rw [h1]
    cases b with
    | false =>
      show Calls _ _ _ _ fun e w' => e = .returned (.int .i64 1) ∧ _
      go_enter Try.func19, Try.ntmps19
      go_wp2
      go_ret
      exact ⟨rfl, rfl⟩
    | true =>
      show Calls _ _ _ _ fun e w' => e = .returned (.int .i64 (min (max a 1) 8)) ∧ _
      go_enter Try.func19, Try.ntmps19
      go_wp2
      all_goals
        go_ret
        exact ⟨ret_i (by omega), rfl⟩

section
variable {w : World} {B g : Nat} {s : Value} {l : List Wt}
theorem ydue_any (h : YO w B g s l) (hl8 : l.length ≤ 8) : Calls Try.prog 17 #[.pointer (some ⟨g, 0, none⟩)] w fun e w' => e = .returned (.int .i64 (Pi.due (dues l))) ∧ w = w' := by
  obtain ⟨ao, cap, hs, hcap, hc⟩ := h.form
  have c0 := h.c0
  subst hs
  have hst : ∀ k x, l[k]? = some x → Pi.due ((dues l).take (k + 1)) = min (Pi.due ((dues l).take k)) x.due := fun k x hk => by
    obtain ⟨hkl, rfl⟩ := List.getElem?_eq_some_iff.1 hk
    have := Pi.due_take (dues l) k (by rw [dues, List.length_map]; exact hkl)
    simpa [dues] using this
  have hall : (dues l).take l.length = dues l := List.take_of_length_le (by simp [dues])
  have hxx : ∀ k x, l[k]? = some x → ∃ b, ao = some ⟨b, 0, none⟩ ∧ w.cell? ⟨b, k * 4 + 3, none⟩ = some (.int .i64 x.due) := fun k x hk => by
    have hk0 := (List.getElem?_eq_some_iff.1 hk).1
    obtain ⟨b, e, _, hcc⟩ := hc (by omega)
    exact ⟨b, e, hcc k x hk 3 _ rfl⟩
  have HX := Lib.hid hxx
  have HS := Lib.hid hst
  clear hst h hc hxx
  generalize hn : l.length = n at *
  have HN := Lib.hid hn
  clear hn
  have HA := Lib.hid hall
  clear hall
  go_enter Try.func17, Try.ntmps17
  go_wp2
  go_loop [3, 4] (fun d i => ∃ k : Nat, k ≤ n ∧ i = .int .i64 (k : Int) ∧ d = .int .i64 (Pi.due ((dues l).take k))) (fun _ i => n - (intOf i).toNat)
  case atStart => exact ⟨0, Nat.zero_le _, rfl, rfl⟩
  case round =>
    obtain ⟨k, hk, rfl, rfl⟩ := hrel
    by_cases hlt : k < n
    · obtain ⟨x, hx⟩ : ∃ x, l[k]? = some x := ⟨_, List.getElem?_eq_getElem (by rw [HN.out]; exact hlt)⟩
      obtain ⟨b, rfl, y0⟩ := HX.out k x hx
      have hst := HS.out k x hx
      obtain ⟨e, he⟩ : ∃ e, e = x.due := ⟨_, rfl⟩
      rw [← he] at y0 hst
      have HST := Lib.hid hst
      clear hst hx he
      generalize Pi.due ((dues l).take k) = D at *
      have hkn : (k : Int) < (n : Int) := by omega
      go_wp2
      go_roundw
      case rel => exact ⟨k + 1, hlt, by go_num, by rw [HST.out]; exact congrArg (Value.int .i64) (by omega)⟩
      case measure => simp [intOf]; omega
    · obtain rfl : k = n := by omega
      rw [HA.out]
      go_wp2
      go_ret
      exact ⟨rfl, rfl⟩

theorem yhead_none (h : YO w B g s []) : Calls Try.prog 14 #[.pointer (some ⟨g, 0, none⟩)] w fun e w' => e = .returned (.tuple #[Wt.zero.val, .bool false]) ∧ Below w.heap.size w w' := by
  obtain ⟨ao, cap, hs, _, _⟩ := h.form
  obtain ⟨w1, hw1⟩ : ∃ x, w.alloc (.cells #[.string ⟨#[]⟩, .string ⟨#[]⟩, .bool false, .int .i64 0] 31) = x := ⟨_, rfl⟩
  have hz : WB w1 w.heap.size Wt.zero := by rw [← hw1]; exact WB.new w Wt.zero
  have hB : Below w.heap.size w w1 := by rw [← hw1]; exact (Below.refl _ w).alloc (Nat.le_refl _) _
  have c0 := (h.next hB).c0
  rw [hs] at c0
  have z0 := hz.c0
  have z1 := hz.c1
  have z2 := hz.c2
  have z3 := hz.c3
  have zf := hz.froz
  dsimp only [Wt.zero, List.length_nil] at z0 z1 z2 z3 c0
  obtain ⟨w3, hw3⟩ : ∃ x, (((w1.setCell ⟨w.heap.size, 0, none⟩ (.string ⟨#[]⟩)).setCell ⟨w.heap.size, 1, none⟩ (.string ⟨#[]⟩)).setCell ⟨w.heap.size, 2, none⟩ (.bool false)).setCell ⟨w.heap.size, 3, none⟩ (.int .i64 0) = x := ⟨_, rfl⟩
  have hw : WB w3 w.heap.size Wt.zero := by rw [← hw3]; exact hz.put Wt.zero
  have HB3 := Lib.hid (show Below w.heap.size w w3 by rw [← hw3]; exact setN_below (Nat.le_refl _) Wt.zero.cells 0 hB)
  have d0 := hw.c0
  have d1 := hw.c1
  have d2 := hw.c2
  have d3 := hw.c3
  dsimp only [Wt.zero] at d0 d1 d2 d3
  clear h hz hB hw hs
  show Calls _ _ _ _ fun e w' => e = .returned (.tuple #[.agg #[.string ⟨#[]⟩, .string ⟨#[]⟩, .bool false, .int .i64 0], .bool false]) ∧ _
  go_enter Try.func14, Try.ntmps14
  go_wp2
  refine bodyPost_ret (v := .tuple #[.agg #[.string ⟨#[]⟩, .string ⟨#[]⟩, .bool false, .int .i64 0], .bool false]) (by simp [results, Try.results14, go_sem, d0, d1, d2, d3]) rfl ⟨rfl, HB3.out⟩
theorem yhead_any {x : Wt} (h : YO w B g s (x :: l)) : Calls Try.prog 14 #[.pointer (some ⟨g, 0, none⟩)] w fun e w' => e = .returned (.tuple #[x.val, .bool true]) ∧ Below w.heap.size w w' := by
  obtain ⟨w1, hw1⟩ : ∃ x, w.alloc (.cells #[.string ⟨#[]⟩, .string ⟨#[]⟩, .bool false, .int .i64 0] 31) = x := ⟨_, rfl⟩
  have hz : WB w1 w.heap.size Wt.zero := by rw [← hw1]; exact WB.new w Wt.zero
  have hB : Below w.heap.size w w1 := by rw [← hw1]; exact (Below.refl _ w).alloc (Nat.le_refl _) _
  have h1 := h.next hB
  obtain ⟨ao, cap, hs, hcap, hc⟩ := h1.form
  obtain ⟨b, rfl, _, hc⟩ := hc (by simp)
  have k0 := hc 0 x rfl 0 _ rfl
  have k1 := hc 0 x rfl 1 _ rfl
  have k2 := hc 0 x rfl 2 _ rfl
  have k3 := hc 0 x rfl 3 _ rfl
  simp only [Nat.zero_mul, Nat.zero_add] at k0 k1 k2 k3
  have c0 := h1.c0
  rw [hs] at c0
  rw [List.length_cons] at c0
  generalize l.length = n at *
  obtain ⟨xt, xc, xb, xd⟩ := x
  have z0 := hz.c0
  have z1 := hz.c1
  have z2 := hz.c2
  have z3 := hz.c3
  have zf := hz.froz
  dsimp only [Wt.zero] at z0 z1 z2 z3 k0 k1 k2 k3
  obtain ⟨w3, hw3⟩ : ∃ x, (((w1.setCell ⟨w.heap.size, 0, none⟩ (.string xt)).setCell ⟨w.heap.size, 1, none⟩ (.string xc)).setCell ⟨w.heap.size, 2, none⟩ (.bool xb)).setCell ⟨w.heap.size, 3, none⟩ (.int .i64 xd) = x := ⟨_, rfl⟩
  have hw : WB w3 w.heap.size ⟨xt, xc, xb, xd⟩ := by rw [← hw3]; exact hz.put ⟨xt, xc, xb, xd⟩
  have HB3 := Lib.hid (show Below w.heap.size w w3 by rw [← hw3]; exact setN_below (Nat.le_refl _) (Wt.mk xt xc xb xd).cells 0 hB)
  have d0 := hw.c0
  have d1 := hw.c1
  have d2 := hw.c2
  have d3 := hw.c3
  dsimp only at d0 d1 d2 d3
  have hn1 : ((n : Int) + 1 == 0) = false := beq_eq_false_iff_ne.2 (by omega)
  have hn2 : ((n : Int) + 1 = 0) = False := eq_false (by omega)
  clear h hz hB hw hs h1 hc hcap
  unfold Wt.val
  go_enter Try.func14, Try.ntmps14
  go_wp2
  refine bodyPost_ret (v := .tuple #[.agg #[.string xt, .string xc, .bool xb, .int .i64 xd], .bool true]) (by simp [results, Try.results14, go_sem, d0, d1, d2, d3]) rfl ⟨rfl, HB3.out⟩
end
end Go.Proofs.Ytimieknphedniaa
