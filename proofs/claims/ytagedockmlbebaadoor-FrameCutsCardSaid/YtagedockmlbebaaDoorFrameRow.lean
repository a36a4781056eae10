/- A framer, a row of bytes and a row of texts, side by side. -/
import Derived.Test.YtagedockmlbebaaDoorFrameLaw
namespace Go.Proofs.YtagedockmlbebaaDoor
open Go.RowKit

section
variable {W wr w' : World} {g : Nat} {s s' : Value} {most : Int} {f f' : Li.Fm}
/-- Another row grows. -/
theorem FL.grown {v : Value} (h : FL W g s most f wr) (hg : wr.grownBy w' v.ownBlock) (h1 : v.ownBlock ≠ some g) (h2 : Ap s v) (h3 : ∀ k, v.ownBlock = some k → W.heap.size ≤ k) : FL W g s most f w' := by
  refine ⟨⟨(hg.block g h.o.lt (fun e => h1 e.symm)).trans h.o.c, h.o.o.kept hg ?_, h.o.hg, h.o.ne, h.o.hs, h.o.h0, h.o.hm, h.o.ok⟩, h.b.grown hg h.b.size h3⟩
  cases hs : s.ownBlock with
  | none => exact .inl rfl
  | some k => exact .inr (fun e => h2 k hs e.symm)
/-- What lies in new memory stays behind a Put. -/
theorem FL.past_new (h : FL W g s most f wr) {v : Value} {vs : List Value} (hr : Rd w' v vs) {n : Nat} (hv : v.ownBlock = some n) (hn : wr.heap.size ≤ n) : ∀ wx, Turn g s w' wx → Rd wx v vs := fun wx hx =>
  hr.past hx (by rw [hv]; intro e; cases e; have := h.o.lt; omega) (fun k hk e => by rw [hv] at e; cases e; have := (h.o.slt _ hk).2; omega)

/-- A framer; all bytes, and all lines, so far. -/
structure FP (W : World) (g : Nat) (s : Value) (most : Int) (f : Li.Fm) (va : Value) (all : List UInt8) (vg : Value) (got : List (List UInt8)) (wr : World) : Prop where
  l : FL W g s most f wr
  a : wr.ownsRow W.heap.size 5 1 va all.length (all.map bv)
  r : wr.ownsRow W.heap.size 9 1 vg got.length (got.map sv)
  ap : Ap s va
variable {va va' vg vg' : Value} {all ys : List UInt8} {got ls : List (List UInt8)}
theorem FP.next (h : FP W g s most f va all vg got wr) (hb : Below wr.heap.size wr w') : FP W g s most f va all vg got w' := ⟨h.l.next hb, own_below h.a hb, own_below h.r hb, h.ap⟩
theorem FP.turn (h : FP W g s most f va all vg got wr) (hl : FL W g s' most f' w') (hT : Turn g s wr w') (hn : Nx s s' wr.heap.size) : FP W g s' most f' va all vg got w' :=
  ⟨hl, hT.past h.a (own_not h.a h.l.o.c (by decide)) h.ap.symm, hT.past h.r (own_not h.r h.l.o.c (by decide)) (own_apart h.r h.l.o.o (by decide)), h.ap.next hn (fun k hk => (h.a.lt k hk).2)⟩
theorem FP.more (h : FP W g s most f va all vg got wr) (ho : w'.ownsRow W.heap.size 5 1 va' (all.length + ys.length) (all.map bv ++ ys.map bv)) (hg : wr.grownBy w' va.ownBlock)
    (hw : va' = va ∨ ∃ g' cap, va' = .slice (some ⟨g', 0, none⟩) (all.length + ys.length) cap ∧ (va.ownBlock = some g' ∨ g' = wr.heap.size)) : FP W g s most f va' (all ++ ys) vg got w' := by
  refine ⟨h.l.grown hg (own_not h.a h.l.o.c (by decide)) h.ap (fun k hk => (h.a.lt k hk).1), by simpa using ho, h.r.kept hg ?_, ?_⟩
  · have := own_apart h.r h.a (by decide)
    cases hs : vg.ownBlock with
    | none => exact .inl rfl
    | some k => exact .inr (fun e => this k hs e.symm)
  · rcases hw with rfl | ⟨g', cap, rfl, hw | hw⟩
    · exact h.ap
    · intro k hk e
      exact h.ap k hk (hw.trans e)
    · intro k hk e
      have e : g' = k := by simpa [Value.ownBlock] using e
      have := (h.l.o.slt k hk).2
      omega
theorem FP.lines (h : FP W g s most f va all vg got wr) (ho : w'.ownsRow W.heap.size 9 1 vg' (got.length + ls.length) (got.map sv ++ ls.map sv)) (hg : wr.grownBy w' vg.ownBlock) : FP W g s most f va all vg' (got ++ ls) w' := by
  refine ⟨h.l.grown hg (own_not h.r h.l.o.c (by decide)) (own_apart h.r h.l.o.o (by decide)).symm (fun k hk => (h.r.lt k hk).1), h.a.kept hg ?_, by simpa using ho, h.ap⟩
  have := own_apart h.a h.r (by decide)
  cases hs : va.ownBlock with
  | none => exact .inl rfl
  | some k => exact .inr (fun e => this k hs e.symm)
theorem FP.allRd (h : FP W g s most f va all vg got wr) : ∀ wx, Turn g s wr wx → Rd wx va (all.map bv) := fun wx hx => (Rd.of_own h.a).past hx (own_not h.a h.l.o.c (by decide)) h.ap
end
theorem own_form {w : World} {B n : Nat} {e : TypeId} {v : Value} {vs : List Value} (h : w.ownsRow B e 1 v n vs) : ∃ ao cap, v = .slice ao n cap := by
  rcases h.2 with ⟨e, hn⟩ | ⟨b, cap, cur, e, _⟩
  · exact ⟨none, 0, by rw [e, hn]⟩
  · exact ⟨_, cap, e⟩
end Go.Proofs.YtagedockmlbebaaDoor
