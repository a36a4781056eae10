/- The small functions of the laws of layer 2, walked. -/
import Derived.Test.YteagmogkhbdabaaB64Put
import Derived.Lib.SlBytesConst
namespace Go.Proofs.Yteagmogkhbdabaa
open Go.RowKit

/-- A slice cut to its first m, whatever its address. -/
theorem Rd.cut {w : World} {ao : Option Addr} {L cap m : Nat} {xs : List UInt8} (h : Rd w (.slice ao L cap) (xs.map bv)) (hL : L = xs.length) (hm : m ≤ L) : Rd w (.slice ao m cap) ((xs.take m).map bv) := by
  rcases Nat.eq_zero_or_pos L with h0 | hp
  · obtain rfl : m = 0 := by omega
    rw [List.take_zero]
    rcases h with ⟨_, ao', cap', h1, e⟩ | ⟨b, o, cap', e, _⟩
    · simp only [Value.slice.injEq] at e
      obtain ⟨rfl, _, rfl⟩ := e
      exact .inl ⟨rfl, _, _, h1, rfl⟩
    · simp only [Value.slice.injEq] at e
      obtain ⟨rfl, _, rfl⟩ := e
      exact .inl ⟨rfl, _, _, (fun h => by cases h), rfl⟩
  · obtain ⟨ao', cap', e, _, hc⟩ := h.form
    simp only [Value.slice.injEq] at e
    obtain ⟨rfl, _, rfl⟩ := e
    obtain ⟨b, o, rfl, _⟩ := hc (by omega)
    exact h.head hL hm hp

theorem short_any (v : Value) (xs : List UInt8) (w : World) (h : Rd w v (xs.map bv)) (hs : xs.length ≤ maxLen) :
    Calls Try.prog 9 #[v] w fun e w' => ∃ v', e = .returned v' ∧ Rd w v' ((xs.take 600).map bv) ∧ w = w' := by
  unfold maxLen at hs
  obtain ⟨ao, cap, rfl, hcap, hc⟩ := h.form
  obtain ⟨L, hL⟩ : ∃ L, L = xs.length := ⟨_, rfl⟩
  rw [← hL] at hs hcap h hc ⊢
  by_cases hlt : 600 < L
  · obtain ⟨b, o, rfl, hm, _⟩ := hc (by omega)
    unfold maxLen at hm
    have hr := h.head (m := 600) hL (by omega) (by omega)
    have HL := Lib.hid hL
    clear hL hc h
    go_enter Try.func9, Try.ntmps9
    go_wp2
    go_ret
    exact ⟨_, rfl, hr, rfl⟩
  · have e : xs.take 600 = xs := List.take_of_length_le (by omega)
    rw [e]
    have HL := Lib.hid hL
    clear hL hc e
    go_enter Try.func9, Try.ntmps9
    go_wp2
    go_ret
    exact ⟨_, rfl, h, rfl⟩

theorem put_ab : B64.put [0, 16, 131] = [65, 66, 67, 68] := by decide +kernel
theorem put_f : B64.put [102] = [90, 103, 61, 61] := by decide +kernel

/-- Bytes in a new block. -/
theorem Rd.made (w : World) (l : List UInt8) (t : TypeId) (fr : Nat × Nat) (n : Nat) (hn : n = l.length) (hl : n ≤ 1000) : Rd (w.alloc (.cells (l.map bv).toArray t fr)) (.slice (some ⟨w.heap.size, 0, none⟩) n n) (l.map bv) := by
  refine .inr ⟨_, 0, n, by rw [List.length_map, hn], by rw [List.length_map]; omega, by unfold maxLen; omega, fun j u hj => ?_⟩
  rw [cell_of_row _ _ _ _ _ _ (heap_alloc_new w _), Nat.zero_add]
  simpa using hj

theorem shown_any (w : World) : Calls Try.prog 8 #[] w fun e w' => e = .returned (.bool true) ∧ Below w.heap.size w w' := by
  have kc := fun (w : World) (C : Array Value) (n c : Nat) => Lib.run_convert_bytes_const (P := Try.prog) w 22 5 C n c Try.underlying22 Try.underlying5
  go_enter Try.func8, Try.ntmps8
  go_wp2_with fail
  refine (putb_any _ [0, 16, 131] _ (Rd.made _ [0, 16, 131] _ _ 3 rfl (by decide)) (by decide)).mono ?_
  rintro e w1 ⟨rfl, hb1⟩
  rw [put_ab, sv]
  go_wp2_with fail
  refine (putb_any _ [102] _ (Rd.made _ [102] _ _ 1 rfl (by decide)) (by decide)).mono ?_
  rintro e w2 ⟨rfl, hb2⟩
  rw [put_f, sv]
  have c1 : Below w.heap.size w w1 := ((Below.refl _ _).alloc (Nat.le_refl _) _).trans (hb1.mono (by simp))
  have c2 : Below w.heap.size w w2 := (c1.alloc c1.size _).trans (hb2.mono (by have := c1.size; simp; omega))
  clear hb1 hb2
  go_wp2
  go_ret
  exact ⟨rfl, c2⟩

end Go.Proofs.Yteagmogkhbdabaa
