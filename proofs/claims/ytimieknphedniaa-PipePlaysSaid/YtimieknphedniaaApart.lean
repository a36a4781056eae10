/- Rows of the call's own apart: what they may become, past what turned. -/
import Derived.Test.YtimieknphedniaaQueue
import Derived.Test.YtimieknphedniaaOwnSet
namespace Go.Proofs.Ytimieknphedniaa
open Go.RowKit

/-- What a row may have become: none, itself, or a new one. -/
def Nx (s s' : Value) (n : Nat) : Prop := s'.ownBlock = none ∨ s'.ownBlock = s.ownBlock ∨ ∃ k, s'.ownBlock = some k ∧ n ≤ k
theorem Nx.refl (s : Value) (n : Nat) : Nx s s n := .inr (.inl rfl)
theorem Nx.trans {s s' s'' : Value} {n m : Nat} (h : Nx s s' n) (h' : Nx s' s'' m) (hn : n ≤ m) : Nx s s'' n := by
  rcases h' with h' | h' | ⟨k, h', hk⟩
  · exact .inl h'
  · rcases h with h | h | ⟨k, h, hk⟩
    · exact .inl (h'.trans h)
    · exact .inr (.inl (h'.trans h))
    · exact .inr (.inr ⟨k, h'.trans h, hk⟩)
  · exact .inr (.inr ⟨k, h', Nat.le_trans hn hk⟩)
theorem Nx.lower {s s' : Value} {n m : Nat} (h : Nx s s' n) (hn : m ≤ n) : Nx s s' m := by
  rcases h with h | h | ⟨k, h, hk⟩
  · exact .inl h
  · exact .inr (.inl h)
  · exact .inr (.inr ⟨k, h, Nat.le_trans hn hk⟩)
theorem Turn.trans3 {g : Nat} {s s' : Value} {a b c : World} (h : Turn g s a b) (hs : Nx s s' a.heap.size) (k : Turn g s' b c) : Turn g s a c := by
  refine ⟨k.os.trans h.os, k.tape.trans h.tape, k.output.trans h.output, Nat.le_trans h.size k.size, fun i hi h1 h2 => (k.block i (Nat.lt_of_lt_of_le hi h.size) h1 ?_).trans (h.block i hi h1 h2)⟩
  rcases hs with hs | hs | ⟨k, hs, hk⟩
  · rw [hs]; intro e; cases e
  · rw [hs]; exact h2
  · rw [hs]
    intro e
    cases e
    omega
/-- Two rows apart. -/
def Ap (s s' : Value) : Prop := ∀ k, s.ownBlock = some k → s'.ownBlock ≠ some k
theorem Ap.symm {s s' : Value} (h : Ap s s') : Ap s' s := fun k h1 h2 => h k h2 h1
theorem Ap.next {s s' t : Value} {n : Nat} (h : Ap s t) (hn : Nx s s' n) (ht : ∀ k, t.ownBlock = some k → k < n) : Ap s' t := by
  rcases hn with hn | hn | ⟨k, hn, hk⟩
  · intro k hk; rw [hn] at hk; cases hk
  · intro k hk; rw [hn] at hk; exact h k hk
  · intro j hj e
    rw [hn] at hj
    cases hj
    have := ht _ e
    omega
theorem Ap.none {s t : Value} (h : s.ownBlock = none) : Ap s t := fun k hk => by rw [h] at hk; cases hk
theorem Ap.fresh {s t : Value} {n : Nat} (hs : ∀ k, s.ownBlock = some k → n ≤ k) (ht : ∀ k, t.ownBlock = some k → k < n) : Ap s t := fun k hk e => by
  have := hs k hk
  have := ht k e
  omega

/-- Rows of cells of unlike types are apart. -/
theorem own_apart {w : World} {B B' n n' : Nat} {e e' : TypeId} {v v' : Value} {xs xs' : List Value} (h : w.ownsRow B e 1 v n xs) (h' : w.ownsRow B' e' 1 v' n' xs') (he : e ≠ e') : Ap v v' := by
  rcases h.2 with ⟨rfl, _⟩ | ⟨b, cap, cur, rfl, _, hh, _⟩
  · exact Ap.none rfl
  · rcases h'.2 with ⟨rfl, _⟩ | ⟨b', cap', cur', rfl, _, hh', _⟩
    · exact (Ap.none rfl).symm
    · intro k hk e2
      have e1 : b = k := by simpa [Value.ownBlock] using hk
      have e3 : b' = k := by simpa [Value.ownBlock] using e2
      subst e1
      subst e3
      rw [hh] at hh'
      simp only [Option.some.injEq, Obj.cells.injEq] at hh'
      exact he hh'.2.1
/-- A row past what turned. -/
theorem Turn.past {g B n : Nat} {s : Value} {w w' : World} (h : Turn g s w w') {v : Value} {e : TypeId} {vs : List Value} (ho : w.ownsRow B e 1 v n vs) (h1 : v.ownBlock ≠ some g) (h2 : Ap v s) : w'.ownsRow B e 1 v n vs :=
  h.own ho h1 (by
    cases hv : v.ownBlock with
    | none => exact .inl rfl
    | some k => exact .inr (fun e => h2 k hv e.symm))

theorem fturn_setCell (w : World) (g i : Nat) (s u : Value) : Turn g s w (w.setCell ⟨g, i, none⟩ u) :=
  ⟨rfl, rfl, rfl, by simp [World.setCell], fun k _ h1 _ => Below.heap_setCell _ _ _ _ h1⟩
end Go.Proofs.Ytimieknphedniaa
