/- Slices of bytes, cut: of no type of the program. -/
import Derived.Test.YtimieknphedniaaRd
namespace Go.Proofs.Ytimieknphedniaa
open Go.RowKit

/-- A slice cut to its first m. -/
theorem Rd.head {w : World} {b o L cap m : Nat} {xs : List UInt8} (h : Rd w (.slice (some ⟨b, o, none⟩) L cap) (xs.map bv)) (hL : L = xs.length) (hm : m ≤ L) (hp : 0 < L) : Rd w (.slice (some ⟨b, o, none⟩) m cap) ((xs.take m).map bv) := by
  rcases h with ⟨e, _⟩ | ⟨b', o', cap', e, h1, h2, h3⟩
  · have : xs = [] := by simpa using e
    subst this
    subst hL
    cases hp
  · simp only [Value.slice.injEq, Option.some.injEq, Addr.mk.injEq, and_true] at e
    obtain ⟨⟨rfl, rfl⟩, _, rfl⟩ := e
    rw [List.length_map] at h1
    refine .inr ⟨b, o, cap, by rw [List.length_map, List.length_take, Nat.min_eq_left (by omega)], by rw [List.length_map, List.length_take]; omega, h2, fun j u hj => h3 j u ?_⟩
    rw [List.map_take, List.getElem?_take] at hj
    split at hj
    · exact hj
    · cases hj

/-- A slice without its first m. -/
theorem Rd.rest {w : World} {b o L cap m : Nat} {xs : List UInt8} (h : Rd w (.slice (some ⟨b, o, none⟩) L cap) (xs.map bv)) (hL : L = xs.length) (hm : m < L) : Rd w (.slice (some ⟨b, o + m, none⟩) (L - m) (cap - m)) ((xs.drop m).map bv) := by
  rcases h with ⟨e, _⟩ | ⟨b', o', cap', e, h1, h2, h3⟩
  · have : xs = [] := by simpa using e
    subst this
    subst hL
    cases hm
  · simp only [Value.slice.injEq, Option.some.injEq, Addr.mk.injEq, and_true] at e
    obtain ⟨⟨rfl, rfl⟩, _, rfl⟩ := e
    rw [List.length_map] at h1
    refine .inr ⟨b, o + m, cap - m, by rw [List.length_map, List.length_drop, hL], by rw [List.length_map, List.length_drop]; omega, by omega, fun j u hj => ?_⟩
    rw [Nat.add_assoc]
    refine h3 (m + j) u ?_
    rw [List.map_drop, List.getElem?_drop] at hj
    exact hj

/-- A slice without its first m, as the model writes it. -/
theorem Rd.tail {w : World} {b o L cap m : Nat} {xs : List UInt8} (h : Rd w (.slice (some ⟨b, o, none⟩) L cap) (xs.map bv)) (hL : L = xs.length) (hm : m ≤ L) (hc : L ≤ cap) :
    Rd w (.slice (if cap = m then some ⟨b, o, none⟩ else some ⟨b, o + m, none⟩) (L - m) (cap - m)) ((xs.drop m).map bv) := by
  by_cases hlt : m < L
  · rw [if_neg (by omega)]
    exact h.rest hL hlt
  · have e : xs.drop m = [] := List.drop_of_length_le (by omega)
    rw [e, show L - m = 0 by omega]
    refine .inl ⟨rfl, _, _, fun h => ?_, rfl⟩
    split at h <;> cases h

/-- A slice cut to its first m, whatever its address. -/
theorem Rd.cut {w : World} {ao : Option Addr} {L cap m : Nat} {xs : List UInt8} (h : Rd w (.slice ao L cap) (xs.map bv)) (hL : L = xs.length) (hm : m ≤ L) : Rd w (.slice ao m cap) ((xs.take m).map bv) := by
  rcases Nat.eq_zero_or_pos L with h0 | hp
  · obtain rfl : m = 0 := by omega
    rw [List.take_zero]
    rcases h with ⟨_, ao', cap', h1, e⟩ | ⟨b, o, cap', e, _⟩
    · simp only [Value.slice.injEq] at e
      obtain ⟨rfl, _, rfl⟩ := e
      exact .inl ⟨rfl, _, _, h1, rfl⟩
    · simp only [Value.slice.injEq] at e
      obtain ⟨rfl, _, rfl⟩ := e
      exact .inl ⟨rfl, _, _, (fun h => by cases h), rfl⟩
  · obtain ⟨ao', cap', e, _, hc⟩ := h.form
    simp only [Value.slice.injEq] at e
    obtain ⟨rfl, _, rfl⟩ := e
    obtain ⟨b, o, rfl, _⟩ := hc (by omega)
    exact h.head hL hm hp

/-- A slice without its first m, whatever its address, as the model writes it. -/
theorem Rd.tailAny {w : World} {ao : Option Addr} {L cap m : Nat} {xs : List UInt8} (h : Rd w (.slice ao L cap) (xs.map bv)) (hL : L = xs.length) (hm : m ≤ L) :
    Rd w (.slice (if cap = m then ao else Option.map (fun x => x.add m) ao) (L - m) (cap - m)) ((xs.drop m).map bv) := by
  rcases Nat.eq_zero_or_pos L with h0 | hp
  · obtain rfl : m = 0 := by omega
    have hx : xs = [] := List.eq_nil_of_length_eq_zero (by omega)
    subst hx
    rw [show L - 0 = 0 by omega]
    refine .inl ⟨rfl, _, _, fun he => ?_, rfl⟩
    by_cases hc : cap = 0
    · omega
    · rw [if_neg hc] at he
      have hao : ao = none := by cases ao with | none => rfl | some a => cases he
      subst hao
      rcases h with ⟨_, ao', cap', h1, e⟩ | ⟨b, o, cap', e, _⟩
      · simp only [Value.slice.injEq] at e
        obtain ⟨rfl, _, rfl⟩ := e
        exact absurd (h1 rfl) hc
      · simp at e
  · obtain ⟨ao', cap', e, hcap, hc⟩ := h.form
    simp only [Value.slice.injEq] at e
    obtain ⟨rfl, _, rfl⟩ := e
    obtain ⟨b, o, rfl, _⟩ := hc (by omega)
    have := h.tail hL hm (by omega)
    simpa only [Option.map_some, Addr.add_lit] using this

/-- Bytes in a new block. -/
theorem Rd.made (w : World) (l : List UInt8) (t : TypeId) (fr : Nat × Nat) (n : Nat) (hn : n = l.length) (hl : n ≤ 1000) : Rd (w.alloc (.cells (l.map bv).toArray t fr)) (.slice (some ⟨w.heap.size, 0, none⟩) n n) (l.map bv) := by
  refine .inr ⟨_, 0, n, by rw [List.length_map, hn], by rw [List.length_map]; omega, by unfold maxLen; omega, fun j u hj => ?_⟩
  rw [cell_of_row _ _ _ _ _ _ (heap_alloc_new w _), Nat.zero_add]
  simpa using hj

end Go.Proofs.Ytimieknphedniaa
