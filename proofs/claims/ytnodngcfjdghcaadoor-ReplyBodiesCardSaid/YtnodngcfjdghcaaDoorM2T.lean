/- Two makers, and rows of texts that neither has. -/
import Derived.Test.YtnodngcfjdghcaaDoorM2
import Derived.Test.YtnodngcfjdghcaaDoorReplyLaw
namespace Go.Proofs.YtnodngcfjdghcaaDoor
open Go.RowKit

section
variable {W wr w' : World} {gm go : Nat} {Fm Fo F' : Nat → Prop} {p q : Int} {sm so : Option Rp.Mid} {v : Value} {vs : List Value}
/-- What Line does, of the first one; and where its footprint comes from. -/
theorem M2.line2 (h : M2 W gm Fm p sm go Fo q so wr) (s : List UInt8) (hs : s.length ≤ 1000000) (body : Bool) {o : Rp.Out} (ho : Rp.step p sm s body = o) :
    Calls Tryd.prog 12 #[.pointer (some ⟨gm, 0, none⟩), .string (ba s), .bool body] wr fun e w' =>
      ∃ F' lo lc bo bc, e = .returned (.tuple #[.agg #[.string (ba (Rp.outRe o).code), .slice lo (Rp.outRe o).lines.length lc, .slice bo (Rp.outRe o).body.length bc], .bool (Rp.outDone o), .int .i64 (Rp.outErr o : Int)]) ∧ M2 W gm F' p (Rp.outSt o) go Fo q so w' ∧ Trn Fm wr w' ∧ Fx Fm F' wr.heap.size ∧
        Tk w' F' Fo (.slice lo (Rp.outRe o).lines.length lc) ((Rp.outRe o).lines.map sv) ∧ Tk w' F' Fo (.slice bo (Rp.outRe o).body.length bc) ((Rp.outRe o).body.map bv) := by
  subst ho
  refine (h.m.line s hs body).mono ?_
  rintro e w' ⟨F', lo, lc, bo, bc, rfl, h1, h2, h3, h4, h5⟩
  have hap : ∀ k, (Fm k ∨ wr.heap.size ≤ k) → ¬ Fo k := by
    rintro k (hk | hk) e
    · exact h.ap k hk e
    · have := (h.o.o.lt k e).2; omega
  exact ⟨F', lo, lc, bo, bc, rfl, ⟨h1, h.o.past h2 (fun k hk e => h.ap k e hk) (fun k hk => (h.m.o.lt k hk).1), fun k hk => hap k (h3 k hk)⟩, h2, h3, ⟨h4.1, fun k hk => ⟨(h4.2 k hk).2.1, (h4.2 k hk).2.2, hap k (h4.2 k hk).1⟩⟩, ⟨h5.1, fun k hk => ⟨(h5.2 k hk).2.1, (h5.2 k hk).2.2, hap k (h5.2 k hk).1⟩⟩⟩
theorem Tk.swap (h : Tk wr Fm Fo v vs) : Tk wr Fo Fm v vs := ⟨h.1, fun k hk => ⟨(h.2 k hk).1, (h.2 k hk).2.2, (h.2 k hk).2.1⟩⟩
/-- A row that neither has stays, where the first one goes on. -/
theorem Tk.step (h : Tk wr Fm Fo v vs) (ht : Trn Fm wr w') (hx : Fx Fm F' wr.heap.size) : Tk w' F' Fo v vs :=
  ⟨ht.rd h.1 (fun k hk => (h.2 k hk).2.1), fun k hk => ⟨Nat.lt_of_lt_of_le (h.2 k hk).1 ht.size, fun e => by
    rcases hx k e with e | e
    · exact (h.2 k hk).2.1 e
    · have := (h.2 k hk).1; omega, (h.2 k hk).2.2⟩⟩
/-- A new row. -/
theorem M2.row (h : M2 W gm Fm p sm go Fo q so wr) {n : Nat} {e : TypeId} (ho : w'.ownsRow wr.heap.size e 1 v n vs) : Tk w' Fm Fo v vs :=
  ⟨.of_own ho, fun k hk => ⟨(ho.lt k hk).2, fun e => by have := (h.m.o.lt k e).2; have := (ho.lt k hk).1; omega, fun e => by have := (h.o.o.lt k e).2; have := (ho.lt k hk).1; omega⟩⟩
/-- A text of a row. -/
theorem Tk.text {xs : List (List UInt8)} {lo : Option Addr} {n lc k : Nat} (h : Tk wr Fm Fo (.slice lo n lc) (xs.map sv)) (hk : k < n) (hn : n = xs.length) : ∃ b o, lo = some ⟨b, o, none⟩ ∧ n ≤ lc ∧ lc ≤ maxLen ∧ wr.cell? ⟨b, o + k, none⟩ = some (.string (ba (xs.getD k []))) := by
  obtain ⟨b, o, e, h1, h2, h3⟩ := rd_at h.1 (by omega)
  exact ⟨b, o, e, h1, h2, h3 k _ (svs_at (by omega))⟩
end
theorem getD_mem {xs : List (List UInt8)} {k : Nat} (h : k < xs.length) : xs.getD k [] ∈ xs := by
  rw [List.getD_eq_getElem?_getD, List.getElem?_eq_getElem h]
  exact List.getElem_mem h
end Go.Proofs.YtnodngcfjdghcaaDoor
