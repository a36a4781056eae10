/- A framer as a law has it. -/
import Derived.Test.YthfefbpfgepbjaaDoorFramerPutD
namespace Go.Proofs.YthfefbpfgepbjaaDoor
open Go.RowKit

/-- What is read in whatever world of a class, or lies apart from a framer. -/
theorem Rd.past {w w' : World} {g : Nat} {s v : Value} {vs : List Value} (h : Rd w v vs) (hT : Turn g s w w') (h1 : v.ownBlock ≠ some g) (h2 : Ap s v) : Rd w' v vs := by
  rcases h with h | ⟨b, o, cap, e, g1, g2, g3⟩
  · exact .inl h
  · refine .inr ⟨b, o, cap, e, g1, g2, fun j u hj => hT.cell (g3 j u hj) ?_ ?_⟩
    · rintro rfl
      rw [e] at h1
      exact h1 rfl
    · intro e2
      have := h2 _ e2
      rw [e] at this
      exact this rfl

/-- A framer, where below the law's beginning nothing has turned. -/
structure FL (W : World) (g : Nat) (s : Value) (most : Int) (f : Li.Fm) (wr : World) : Prop where
  o : FO wr W.heap.size g s most f
  b : Below W.heap.size W wr
section
variable {W wr w' : World} {g : Nat} {s : Value} {most : Int} {f : Li.Fm}
theorem FL.next (h : FL W g s most f wr) (hb : Below wr.heap.size wr w') : FL W g s most f w' := ⟨h.o.next hb, h.b.trans (hb.mono h.b.size)⟩
theorem FL.below (h : FL W g s most f wr) (hT : Turn g s wr w') : Below W.heap.size W w' := h.b.trans (h.o.turn hT h.b.size)
theorem FL.new (hb : Below W.heap.size W wr) (m : Int) (hm : m < 9223372036854775808) :
    Calls Tryd.prog 6 #[.int .i64 m] wr fun e w' => e = .returned (.pointer (some ⟨wr.heap.size, 0, none⟩)) ∧ FL W wr.heap.size (.slice none 0 0) (max 0 m) Li.start w' ∧ Below wr.heap.size wr w' := by
  refine (fnew_any m hm wr).mono ?_
  rintro e w' ⟨rfl, h1, h2⟩
  exact ⟨rfl, ⟨h2.lower hb.size, hb.trans (h1.mono hb.size)⟩, h1⟩
/-- 'Put' of bytes that lie apart. -/
theorem FL.put (h : FL W g s most f wr) (ht : LT W) (v : Value) (xs : List UInt8) (hr : ∀ wx, Turn g s wr wx → Rd wx v (xs.map bv)) (hn : f.ls.length + xs.length ≤ 1048576) {ls : List (List UInt8)} {f' : Li.Fm} (hp : f.put most xs = (ls, f')) :
    Calls Tryd.prog 8 #[.pointer (some ⟨g, 0, none⟩), v] wr fun e w' => ∃ s' lo lc, e = .returned (.tuple #[.slice lo ls.length lc, .int .i64 (f'.err : Int)]) ∧ FL W g s' most f' w' ∧ w'.ownsRow wr.heap.size 9 1 (.slice lo ls.length lc) ls.length (ls.map sv) ∧ Turn g s wr w' ∧ Nx s s' wr.heap.size := by
  refine (fput_any h.o v xs hr (fun wx hx => ht.below (h.below hx)) hn h.b.size).mono ?_
  rintro e w' ⟨s', lv, rfl, hP⟩
  rw [hp] at hP ⊢
  obtain ⟨lo, lc, rfl⟩ : ∃ lo lc, lv = .slice lo ls.length lc := by
    rcases hP.l.2 with ⟨e, h0⟩ | ⟨b, cp, cur, e, _⟩
    · exact ⟨none, 0, by rw [e, show ls.length = 0 from h0]⟩
    · exact ⟨_, _, e⟩
  exact ⟨s', lo, lc, rfl, ⟨hP.o, h.below hP.t⟩, hP.l, hP.t, hP.n⟩
/-- Bytes that lay there when the law began. -/
theorem FL.old (h : FL W g s most f wr) {v : Value} {xs : List UInt8} (hv : Rd W v (xs.map bv)) : ∀ wx, Turn g s wr wx → Rd wx v (xs.map bv) := fun wx hx => hv.below (h.below hx)
theorem FL.rest (h : FL W g s most f wr) {r : Nat} (hr : r = f.ls.length) : Calls Tryd.prog 10 #[.pointer (some ⟨g, 0, none⟩)] wr fun e w' => e = .returned (.int .i64 (r : Int)) ∧ wr = w' := by
  rw [hr]; exact frest_any h.o
/-- Bytes in a block just made. -/
theorem FL.fresh (h : FL W g s most f wr) (l : List UInt8) (t : TypeId) (fr : Nat × Nat) (n : Nat) (hn : n = l.length) (hl : n ≤ 1000) :
    FL W g s most f (wr.alloc (.cells (l.map bv).toArray t fr)) ∧ ∀ wx, Turn g s (wr.alloc (.cells (l.map bv).toArray t fr)) wx → Rd wx (.slice (some ⟨wr.heap.size, 0, none⟩) n n) (l.map bv) := by
  refine ⟨h.next ((Below.refl _ _).alloc (Nat.le_refl _) _), fun wx hx => (Rd.made wr l t fr n hn hl).past hx ?_ ?_⟩
  · intro e
    have e : wr.heap.size = g := by simpa [Value.ownBlock] using e
    have := h.o.lt
    omega
  · intro k hk e
    have e : wr.heap.size = k := by simpa [Value.ownBlock] using e
    have := (h.o.slt k hk).2
    omega
end

/-- A text of a row that the call owns. -/
theorem own_at {w : World} {B n : Nat} {e : TypeId} {lo : Option Addr} {lc : Nat} {vs : List Value} (h : w.ownsRow B e 1 (.slice lo n lc) n vs) (hn : 0 < n) : ∃ b, lo = some ⟨b, 0, none⟩ ∧ n ≤ lc ∧ lc ≤ maxLen ∧ B ≤ b ∧ ∀ j u, vs[j]? = some u → w.cell? ⟨b, j, none⟩ = some u := by
  obtain ⟨b, cap, e1, h1, h2, h3, h4⟩ := own_pos h hn
  simp only [Value.slice.injEq] at e1
  obtain ⟨rfl, _, rfl⟩ := e1
  exact ⟨b, rfl, h2, h3, h1, h4⟩

end Go.Proofs.YthfefbpfgepbjaaDoor
