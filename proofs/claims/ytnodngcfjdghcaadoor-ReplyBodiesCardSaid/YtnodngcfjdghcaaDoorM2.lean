/- Two makers side by side. -/
import Derived.Test.YtnodngcfjdghcaaDoorMkLineAny
namespace Go.Proofs.YtnodngcfjdghcaaDoor
open Go.RowKit

structure M2 (W : World) (gm : Nat) (Fm : Nat → Prop) (p : Int) (sm : Option Rp.Mid) (go : Nat) (Fo : Nat → Prop) (q : Int) (so : Option Rp.Mid) (wr : World) : Prop where
  m : ML W gm Fm p sm wr
  o : ML W go Fo q so wr
  ap : Ft Fm Fo
/-- What is told, and lies apart from both. -/
def Tk (w : World) (F G : Nat → Prop) (v : Value) (vs : List Value) : Prop := Rd w v vs ∧ ∀ k, v.ownBlock = some k → k < w.heap.size ∧ ¬ F k ∧ ¬ G k
section
variable {W wr w' : World} {gm go : Nat} {Fm Fo F' : Nat → Prop} {p q : Int} {sm so : Option Rp.Mid}
theorem M2.next (h : M2 W gm Fm p sm go Fo q so wr) (hb : Below wr.heap.size wr w') : M2 W gm Fm p sm go Fo q so w' := ⟨h.m.next hb, h.o.next hb, h.ap⟩
theorem M2.swap (h : M2 W gm Fm p sm go Fo q so wr) : M2 W go Fo q so gm Fm p sm wr := ⟨h.o, h.m, h.ap.symm⟩
theorem M2.new (hb : Below W.heap.size W wr) (h : ML W gm Fm p sm wr) (q : Int) :
    Calls Tryd.prog 10 #[.int .i64 q] wr fun e w' => e = .returned (.pointer (some ⟨wr.heap.size, 0, none⟩)) ∧ M2 W gm Fm p sm wr.heap.size (fun k => k = wr.heap.size) q none w' ∧ Below wr.heap.size wr w' := by
  refine (ML.new hb q).mono ?_
  rintro e w' ⟨rfl, h1, h2⟩
  exact ⟨rfl, ⟨h.next h2, h1, fun k hk e => by have := (h.o.lt k hk).2; have e : k = wr.heap.size := e; omega⟩, h2⟩
/-- What Line does, of the first one. -/
def LnT (W : World) (gm : Nat) (Fm : Nat → Prop) (p : Int) (go : Nat) (Fo : Nat → Prop) (q : Int) (so : Option Rp.Mid) (wr : World) (o : Rp.Out) (e : Ending) (w' : World) : Prop :=
  ∃ F' lo lc bo bc, e = .returned (.tuple #[.agg #[.string (ba (Rp.outRe o).code), .slice lo (Rp.outRe o).lines.length lc, .slice bo (Rp.outRe o).body.length bc], .bool (Rp.outDone o), .int .i64 (Rp.outErr o : Int)]) ∧ M2 W gm F' p (Rp.outSt o) go Fo q so w' ∧ Trn Fm wr w' ∧
    Tk w' F' Fo (.slice lo (Rp.outRe o).lines.length lc) ((Rp.outRe o).lines.map sv) ∧ Tk w' F' Fo (.slice bo (Rp.outRe o).body.length bc) ((Rp.outRe o).body.map bv)
theorem M2.line (h : M2 W gm Fm p sm go Fo q so wr) (s : List UInt8) (hs : s.length ≤ 1000000) (body : Bool) :
    Calls Tryd.prog 12 #[.pointer (some ⟨gm, 0, none⟩), .string (ba s), .bool body] wr (LnT W gm Fm p go Fo q so wr (Rp.step p sm s body)) := by
  refine (h.m.line s hs body).mono ?_
  rintro e w' ⟨F', lo, lc, bo, bc, rfl, h1, h2, h3, h4, h5⟩
  have hap : ∀ k, (Fm k ∨ wr.heap.size ≤ k) → ¬ Fo k := by
    rintro k (hk | hk) e
    · exact h.ap k hk e
    · have := (h.o.o.lt k e).2; omega
  refine ⟨F', lo, lc, bo, bc, rfl, ⟨h1, h.o.past h2 (fun k hk e => h.ap k e hk) (fun k hk => (h.m.o.lt k hk).1), fun k hk => hap k (h3 k hk)⟩, h2, ⟨h4.1, fun k hk => ⟨(h4.2 k hk).2.1, (h4.2 k hk).2.2, hap k (h4.2 k hk).1⟩⟩, ⟨h5.1, fun k hk => ⟨(h5.2 k hk).2.1, (h5.2 k hk).2.2, hap k (h5.2 k hk).1⟩⟩⟩
/-- What was told stays, where the other one goes on. -/
theorem Tk.past {w w' : World} {F G : Nat → Prop} {v : Value} {vs : List Value} (h : Tk w F G v vs) (ht : Trn G w w') : Rd w' v vs := ht.rd h.1 (fun k hk => (h.2 k hk).2.2)
theorem Tk.next {w w' : World} {F G : Nat → Prop} {v : Value} {vs : List Value} (h : Tk w F G v vs) (hb : Below w.heap.size w w') : Tk w' F G v vs := ⟨h.1.below hb, fun k hk => ⟨Nat.lt_of_lt_of_le (h.2 k hk).1 hb.size, (h.2 k hk).2⟩⟩
end
end Go.Proofs.YtnodngcfjdghcaaDoor
