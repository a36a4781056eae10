/- A row of the call's own, and a block of other cells: apart; a store beside it. -/
import Derived.Test.YtimieknphedniaaRd
namespace Go.Proofs.Ytimieknphedniaa
open Go.RowKit

theorem own_not {w : World} {B n g : Nat} {e t : TypeId} {v : Value} {xs : List Value} {C : Array Value} {fr : Nat × Nat} (h : w.ownsRow B e 1 v n xs) (hg : w.heap[g]? = some (.cells C t fr)) (ht : e ≠ t) : v.ownBlock ≠ some g := by
  rcases h.2 with ⟨rfl, _⟩ | ⟨b, cap, cur, rfl, _, hh, _⟩
  · intro h; cases h
  · intro e2
    have e3 : b = g := by simpa [Value.ownBlock] using e2
    subst e3
    rw [hh] at hg
    simp only [Option.some.injEq, Obj.cells.injEq] at hg
    exact ht hg.2.1
theorem own_setCell {w : World} {B n g i : Nat} {e : TypeId} {v u : Value} {xs : List Value} (h : w.ownsRow B e 1 v n xs) (hg : v.ownBlock ≠ some g) : (w.setCell ⟨g, i, none⟩ u).ownsRow B e 1 v n xs := by
  refine ⟨h.1, ?_⟩
  rcases h.2 with hn | ⟨b, cap, cur, rfl, hb, hh, r⟩
  · exact .inl hn
  · refine .inr ⟨b, cap, cur, rfl, hb, ?_, r⟩
    rw [Below.heap_setCell _ _ _ _ (fun e => hg (by show some b = _; rw [e]))]
    exact hh
theorem own_form {w : World} {B n : Nat} {v : Value} {vs : List Value} {e : TypeId} (h : w.ownsRow B e 1 v n vs) : ∃ ao cap, v = .slice ao n cap := by
  rcases h.2 with ⟨e, hn⟩ | ⟨b, cap, cur, e, _, _, h1, h2, _⟩
  · exact ⟨none, 0, by rw [e, hn]⟩
  · exact ⟨_, cap, e⟩
end Go.Proofs.Ytimieknphedniaa
