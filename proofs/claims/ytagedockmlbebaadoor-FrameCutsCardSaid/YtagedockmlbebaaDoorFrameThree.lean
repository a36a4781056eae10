/- Three framers, and rows of lines, side by side. -/
import Derived.Test.YtagedockmlbebaaDoorFrameRow
namespace Go.Proofs.YtagedockmlbebaaDoor
open Go.RowKit

theorem PS.lines {w wr w' : World} {B g : Nat} {s0 s lv lv' : Value} {most : Int} {f : Li.Fm} {lines ls : List (List UInt8)} (h : PS w wr B g s0 s lv most f lines) (hl : w'.ownsRow w.heap.size 9 1 lv' (lines.length + ls.length) (lines.map sv ++ ls.map sv)) (hg : wr.grownBy w' lv.ownBlock) : PS w w' B g s0 s lv' most f (lines ++ ls) := by
  have hgl : some g ≠ lv.ownBlock := fun e => own_not h.l h.o.c (by decide) e.symm
  refine ⟨⟨(hg.block _ h.o.lt hgl).trans h.o.c, ?_, h.o.hg, h.o.ne, h.o.hs, h.o.h0, h.o.hm, h.o.ok⟩, by simpa using hl, ?_, h.n⟩
  · refine h.o.o.kept hg ?_
    have := own_apart h.l h.o.o (by decide)
    cases hs : s.ownBlock with
    | none => exact .inl rfl
    | some k => exact .inr (fun e => this k e.symm hs)
  · refine ⟨hg.os.trans h.t.os, hg.tape.trans h.t.tape, hg.output.trans h.t.output, Nat.le_trans h.t.size hg.size, fun k hk h1 h2 => (hg.block k (Nat.lt_of_lt_of_le hk h.t.size) (fun e => ?_)).trans (h.t.block k hk h1 h2)⟩
    have := (h.l.lt k e.symm).1
    omega

/-- Three framers of lines of as many bytes; rows that were told. -/
structure C3 (W : World) (m : Int) (g1 g2 g3 : Nat) (s1 s2 s3 : Value) (f1 f2 f3 : Li.Fm) (rows : List (Value × List (List UInt8))) (wr : World) : Prop where
  b : Below W.heap.size W wr
  a1 : FO wr W.heap.size g1 s1 m f1
  a2 : FO wr W.heap.size g2 s2 m f2
  a3 : FO wr W.heap.size g3 s3 m f3
  n12 : g1 ≠ g2
  n13 : g1 ≠ g3
  n23 : g2 ≠ g3
  p12 : Ap s1 s2
  p13 : Ap s1 s3
  p23 : Ap s2 s3
  r : ∀ x ∈ rows, wr.ownsRow W.heap.size 9 1 x.1 x.2.length (x.2.map sv)
section
variable {W wr w' : World} {m : Int} {g1 g2 g3 : Nat} {s1 s2 s3 s' : Value} {f1 f2 f3 f' : Li.Fm} {rows : List (Value × List (List UInt8))}
theorem C3.next (h : C3 W m g1 g2 g3 s1 s2 s3 f1 f2 f3 rows wr) (hb : Below wr.heap.size wr w') : C3 W m g1 g2 g3 s1 s2 s3 f1 f2 f3 rows w' :=
  ⟨h.b.trans (hb.mono h.b.size), h.a1.next hb, h.a2.next hb, h.a3.next hb, h.n12, h.n13, h.n23, h.p12, h.p13, h.p23, fun x hx => own_below (h.r x hx) hb⟩
theorem rows_past {rows : List (Value × List (List UInt8))} {g B : Nat} {s : Value} {f : Li.Fm} (hr : ∀ x ∈ rows, wr.ownsRow B 9 1 x.1 x.2.length (x.2.map sv)) (ho : FO wr W.heap.size g s m f) (hT : Turn g s wr w') :
    ∀ x ∈ rows, w'.ownsRow B 9 1 x.1 x.2.length (x.2.map sv) := fun x hx => hT.past (hr x hx) (own_not (hr x hx) ho.c (by decide)) (own_apart (hr x hx) ho.o (by decide))
theorem C3.turn1 (h : C3 W m g1 g2 g3 s1 s2 s3 f1 f2 f3 rows wr) (ho : FO w' W.heap.size g1 s' m f') (hT : Turn g1 s1 wr w') (hn : Nx s1 s' wr.heap.size) : C3 W m g1 g2 g3 s' s2 s3 f' f2 f3 rows w' :=
  ⟨h.b.trans (h.a1.turn hT h.b.size), ho, h.a2.apart h.a1 hT h.n12.symm h.p12.symm, h.a3.apart h.a1 hT h.n13.symm h.p13.symm, h.n12, h.n13, h.n23,
    h.p12.next hn (fun k hk => (h.a2.slt k hk).2), h.p13.next hn (fun k hk => (h.a3.slt k hk).2), h.p23, rows_past h.r h.a1 hT⟩
theorem C3.turn2 (h : C3 W m g1 g2 g3 s1 s2 s3 f1 f2 f3 rows wr) (ho : FO w' W.heap.size g2 s' m f') (hT : Turn g2 s2 wr w') (hn : Nx s2 s' wr.heap.size) : C3 W m g1 g2 g3 s1 s' s3 f1 f' f3 rows w' :=
  ⟨h.b.trans (h.a2.turn hT h.b.size), h.a1.apart h.a2 hT h.n12 h.p12, ho, h.a3.apart h.a2 hT h.n23.symm h.p23.symm, h.n12, h.n13, h.n23,
    (h.p12.symm.next hn (fun k hk => (h.a1.slt k hk).2)).symm, h.p13, h.p23.next hn (fun k hk => (h.a3.slt k hk).2), rows_past h.r h.a2 hT⟩
theorem C3.turn3 (h : C3 W m g1 g2 g3 s1 s2 s3 f1 f2 f3 rows wr) (ho : FO w' W.heap.size g3 s' m f') (hT : Turn g3 s3 wr w') (hn : Nx s3 s' wr.heap.size) : C3 W m g1 g2 g3 s1 s2 s' f1 f2 f' rows w' :=
  ⟨h.b.trans (h.a3.turn hT h.b.size), h.a1.apart h.a3 hT h.n13 h.p13, h.a2.apart h.a3 hT h.n23 h.p23, ho, h.n12, h.n13, h.n23,
    h.p12, (h.p13.symm.next hn (fun k hk => (h.a1.slt k hk).2)).symm, (h.p23.symm.next hn (fun k hk => (h.a2.slt k hk).2)).symm, rows_past h.r h.a3 hT⟩
theorem C3.push (h : C3 W m g1 g2 g3 s1 s2 s3 f1 f2 f3 rows wr) {v : Value} {ls : List (List UInt8)} (ho : wr.ownsRow W.heap.size 9 1 v ls.length (ls.map sv)) : C3 W m g1 g2 g3 s1 s2 s3 f1 f2 f3 ((v, ls) :: rows) wr :=
  ⟨h.b, h.a1, h.a2, h.a3, h.n12, h.n13, h.n23, h.p12, h.p13, h.p23, fun x hx => by
    rcases List.mem_cons.1 hx with rfl | hx
    · exact ho
    · exact h.r x hx⟩
/-- A younger framer turns. -/
theorem C3.other (h : C3 W m g1 g2 g3 s1 s2 s3 f1 f2 f3 rows wr) {g4 n : Nat} {s4 : Value} {f4 : Li.Fm} (h4 : FO wr n g4 s4 m f4) (hn : W.heap.size ≤ n) (k1 : g1 < n) (k2 : g2 < n) (k3 : g3 < n) (q1 : ∀ k, s1.ownBlock = some k → k < n) (q2 : ∀ k, s2.ownBlock = some k → k < n) (q3 : ∀ k, s3.ownBlock = some k → k < n) (hT : Turn g4 s4 wr w') : C3 W m g1 g2 g3 s1 s2 s3 f1 f2 f3 rows w' := by
  have hg := h4.hg
  have ap : ∀ t : Value, (∀ k, t.ownBlock = some k → k < n) → Ap t s4 := fun t ht => (Ap.fresh (fun k hk => (h4.slt k hk).1) ht).symm
  exact ⟨h.b.trans ((h4.lower hn).turn hT h.b.size), h.a1.apart h4 hT (by omega) (ap _ q1), h.a2.apart h4 hT (by omega) (ap _ q2), h.a3.apart h4 hT (by omega) (ap _ q3), h.n12, h.n13, h.n23, h.p12, h.p13, h.p23, rows_past h.r (h4.lower hn) hT⟩
end
end Go.Proofs.YtagedockmlbebaaDoor
