/- Slices of whatever cells, cut at either side: of no type of the program. -/
import Derived.Test.YtiikionoagmabaaDoorRd
namespace Go.Proofs.YtiikionoagmabaaDoor
open Go.RowKit

theorem Rd.formV {w : World} {v : Value} {vs : List Value} (h : Rd w v vs) : ∃ ao cap, v = .slice ao vs.length cap ∧ vs.length ≤ cap ∧ (ao = none → cap = 0) ∧ (0 < vs.length → ∃ b o, ao = some ⟨b, o, none⟩ ∧ cap ≤ maxLen ∧ ∀ j u, vs[j]? = some u → w.cell? ⟨b, o + j, none⟩ = some u) := by
  rcases h with ⟨rfl, ao, cap, h1, h⟩ | ⟨b, o, cap, h, h1, h2, h3⟩
  · exact ⟨ao, cap, h, Nat.zero_le _, h1, fun h => by cases h⟩
  · exact ⟨some ⟨b, o, none⟩, cap, h, h1, (fun h => by cases h), fun _ => ⟨b, o, rfl, h2, h3⟩⟩
/-- Without its first m, as the model writes it. -/
theorem Rd.tailV {w : World} {ao : Option Addr} {L cap m : Nat} {vs : List Value} (h : Rd w (.slice ao L cap) vs) (hL : L = vs.length) (hm : m ≤ L) :
    Rd w (.slice (if cap = m then ao else Option.map (fun x => x.add m) ao) (L - m) (cap - m)) (vs.drop m) := by
  rcases Nat.lt_or_ge m L with hlt | hge
  · obtain ⟨ao', cap', e, hcap, _, hc⟩ := h.formV
    simp only [Value.slice.injEq] at e
    obtain ⟨rfl, _, rfl⟩ := e
    obtain ⟨b, o, rfl, hm2, hc⟩ := hc (by omega)
    rw [if_neg (by omega), Option.map_some, Addr.add_lit]
    refine .inr ⟨b, o + m, cap - m, by rw [List.length_drop, hL], by rw [List.length_drop]; omega, by omega, fun j u hj => ?_⟩
    rw [List.getElem?_drop] at hj
    rw [Nat.add_assoc]
    exact hc _ _ hj
  · have e : vs.drop m = [] := List.drop_of_length_le (by omega)
    obtain ⟨ao', cap', e', hcap, hz, _⟩ := h.formV
    simp only [Value.slice.injEq] at e'
    obtain ⟨rfl, _, rfl⟩ := e'
    rw [e, show L - m = 0 by omega]
    refine .inl ⟨rfl, _, _, fun he => ?_, rfl⟩
    split at he
    · omega
    · cases ao with
      | none => have := hz rfl; omega
      | some a => cases he
theorem Rd.cutW {w : World} {ao : Option Addr} {L cap m : Nat} {vs : List Value} (h : Rd w (.slice ao L cap) vs) (hL : L = vs.length) (hm : m ≤ L) : Rd w (.slice ao m cap) (vs.take m) := by
  rcases Nat.eq_zero_or_pos m with h0 | hp
  · subst h0
    obtain ⟨ao', cap', e', _, hz, _⟩ := h.formV
    simp only [Value.slice.injEq] at e'
    obtain ⟨rfl, _, rfl⟩ := e'
    exact .inl ⟨List.take_zero, _, _, hz, rfl⟩
  · obtain ⟨ao', cap', e', hcap, _, hc⟩ := h.formV
    simp only [Value.slice.injEq] at e'
    obtain ⟨rfl, _, rfl⟩ := e'
    obtain ⟨b, o, rfl, hm2, hc⟩ := hc (by omega)
    refine .inr ⟨b, o, cap, by rw [List.length_take, Nat.min_eq_left (by omega)], by rw [List.length_take]; omega, hm2, fun j u hj => hc j u ?_⟩
    rw [List.getElem?_take] at hj
    split at hj
    · exact hj
    · cases hj
/-- Where it lies, cut or not. -/
theorem tail_block {ao : Option Addr} {cap m n n' c c' k : Nat} (h : (Value.slice (if cap = m then ao else Option.map (fun x => x.add m) ao) n' c').ownBlock = some k) : (Value.slice ao n c).ownBlock = some k := by
  cases ao with
  | none => split at h <;> simp [Value.ownBlock] at h
  | some a =>
    split at h
    · exact h
    · obtain ⟨b, o, sp⟩ := a
      have e : (Addr.add ⟨b, o, sp⟩ m).block = b := by unfold Addr.add; split <;> rfl
      simp only [Option.map_some, Value.ownBlock, e] at h ⊢
      exact h
end Go.Proofs.YtiikionoagmabaaDoor
