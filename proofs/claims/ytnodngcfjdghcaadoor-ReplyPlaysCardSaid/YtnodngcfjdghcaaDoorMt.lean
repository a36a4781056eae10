/- A maker, and a row of texts that it has not. -/
import Derived.Test.YtnodngcfjdghcaaDoorMkLineAny
namespace Go.Proofs.YtnodngcfjdghcaaDoor
open Go.RowKit

/-- A maker, and a row of texts that it has not. -/
structure MT (W : World) (g : Nat) (F : Nat → Prop) (p : Int) (st : Option Rp.Mid) (v : Value) (vs : List Value) (wr : World) : Prop where
  m : ML W g F p st wr
  r : Rd wr v vs
  a : ∀ k, v.ownBlock = some k → k < wr.heap.size ∧ ¬ F k
section
variable {W wr w' : World} {g : Nat} {F F' : Nat → Prop} {p : Int} {st : Option Rp.Mid} {v : Value} {vs : List Value}
theorem MT.next (h : MT W g F p st v vs wr) (hb : Below wr.heap.size wr w') : MT W g F p st v vs w' :=
  ⟨h.m.next hb, h.r.below hb, fun k hk => ⟨Nat.lt_of_lt_of_le (h.a k hk).1 hb.size, (h.a k hk).2⟩⟩
/-- What Line does. -/
theorem MT.line (h : MT W g F p st v vs wr) (s : List UInt8) (hs : s.length ≤ 1000000) (body : Bool) {o : Rp.Out} (ho : Rp.step p st s body = o) :
    Calls Tryd.prog 12 #[.pointer (some ⟨g, 0, none⟩), .string (ba s), .bool body] wr fun e w' =>
      ∃ F' lo lc bo bc, e = .returned (.tuple #[.agg #[.string (ba (Rp.outRe o).code), .slice lo (Rp.outRe o).lines.length lc, .slice bo (Rp.outRe o).body.length bc], .bool (Rp.outDone o), .int .i64 (Rp.outErr o : Int)]) ∧ MT W g F' p (Rp.outSt o) v vs w' ∧
        Rd w' (.slice lo (Rp.outRe o).lines.length lc) ((Rp.outRe o).lines.map sv) ∧ Rd w' (.slice bo (Rp.outRe o).body.length bc) ((Rp.outRe o).body.map bv) := by
  subst ho
  refine (h.m.line s hs body).mono ?_
  rintro e w' ⟨F', lo, lc, bo, bc, rfl, h1, h2, h3, h4, h5⟩
  exact ⟨F', lo, lc, bo, bc, rfl, ⟨h1, h2.rd h.r (fun k hk => (h.a k hk).2), fun k hk => ⟨Nat.lt_of_lt_of_le (h.a k hk).1 h2.size, fun e => by
    rcases h3 k e with e | e
    · exact (h.a k hk).2 e
    · have := (h.a k hk).1; omega⟩⟩, h4.1, h5.1⟩
end
end Go.Proofs.YtnodngcfjdghcaaDoor
