/- Two makers, a body of the reference's, and a row of texts that none of them has. -/
import Derived.Test.YtnodngcfjdghcaaDoorM2T
import Derived.Test.YtnodngcfjdghcaaDoorStuffRefBody
namespace Go.Proofs.YtnodngcfjdghcaaDoor
open Go.RowKit

/-- The footprint of a body of the reference's. -/
def FB (g : Nat) (s : Value) : Nat → Prop := fun k => k = g ∨ s.ownBlock = some k
section
variable {w w' : World} {B B' g : Nat} {s s' : Value} {most : Int} {b : St.Bd}
theorem RO.fb (h : RO w B g s most b) : ∀ k, FB g s k → B ≤ k ∧ k < w.heap.size := by
  rintro k (rfl | hk)
  · exact ⟨h.hg, h.lt⟩
  · exact h.slt k hk
theorem RO.trn {G : Nat → Prop} (h : RO w B g s most b) (ht : Trn G w w') (ha : ∀ k, FB g s k → ¬ G k) : RO w' B g s most b :=
  ⟨(ht.block g h.lt (ha g (.inl rfl))).trans h.c, ht.own h.o (fun k hk => ha k (.inr hk)), h.hg, h.h0, h.hm⟩
theorem RO.lower (h : RO w B g s most b) (hB : B' ≤ B) : RO w B' g s most b := ⟨h.c, ownsRow_lower h.o hB, Nat.le_trans hB h.hg, h.h0, h.hm⟩
theorem FB.fx {n : Nat} (h : Nx s s' n) : Fx (FB g s) (FB g s') n := by
  rintro k (rfl | hk)
  · exact .inl (.inl rfl)
  · rcases h with h | h | ⟨i, h, hi⟩
    · rw [h] at hk; cases hk
    · exact .inl (.inr (by rw [← h]; exact hk))
    · rw [h] at hk; cases hk; exact .inr hi
end
structure B3 (W : World) (gm : Nat) (Fm : Nat → Prop) (p : Int) (sm : Option Rp.Mid) (go : Nat) (Fo : Nat → Prop) (q : Int) (so : Option Rp.Mid) (gw : Nat) (sw : Value) (b : St.Bd) (v : Value) (vs : List Value) (wr : World) : Prop where
  m : M2 W gm Fm p sm go Fo q so wr
  w : RO wr W.heap.size gw sw 1000 b
  am : ∀ k, FB gw sw k → ¬ Fm k
  ao : ∀ k, FB gw sw k → ¬ Fo k
  r : Tk wr Fm Fo v vs
  ar : ∀ k, v.ownBlock = some k → ¬ FB gw sw k
section
variable {W wr w' : World} {gm go gw : Nat} {Fm Fo F' : Nat → Prop} {p q : Int} {sm so : Option Rp.Mid} {sw v : Value} {b : St.Bd} {vs : List Value}
theorem B3.swap (h : B3 W gm Fm p sm go Fo q so gw sw b v vs wr) : B3 W go Fo q so gm Fm p sm gw sw b v vs wr := ⟨h.m.swap, h.w, h.ao, h.am, h.r.swap, h.ar⟩
theorem B3.next (h : B3 W gm Fm p sm go Fo q so gw sw b v vs wr) (hb : Below wr.heap.size wr w') : B3 W gm Fm p sm go Fo q so gw sw b v vs w' := ⟨h.m.next hb, h.w.next hb, h.am, h.ao, h.r.next hb, h.ar⟩
/-- What Line of a maker does there. -/
theorem B3.line (h : B3 W gm Fm p sm go Fo q so gw sw b v vs wr) (s : List UInt8) (hs : s.length ≤ 1000000) (body : Bool) {o : Rp.Out} (ho : Rp.step p sm s body = o) :
    Calls Tryd.prog 12 #[.pointer (some ⟨gm, 0, none⟩), .string (ba s), .bool body] wr fun e w' =>
      ∃ F' lo lc bo bc, e = .returned (.tuple #[.agg #[.string (ba (Rp.outRe o).code), .slice lo (Rp.outRe o).lines.length lc, .slice bo (Rp.outRe o).body.length bc], .bool (Rp.outDone o), .int .i64 (Rp.outErr o : Int)]) ∧ B3 W gm F' p (Rp.outSt o) go Fo q so gw sw b v vs w' ∧
        Tk w' F' Fo (.slice lo (Rp.outRe o).lines.length lc) ((Rp.outRe o).lines.map sv) ∧ Tk w' F' Fo (.slice bo (Rp.outRe o).body.length bc) ((Rp.outRe o).body.map bv) := by
  refine (h.m.line2 s hs body ho).mono ?_
  rintro e w' ⟨F', lo, lc, bo, bc, rfl, h1, h2, h3, h4, h5⟩
  refine ⟨F', lo, lc, bo, bc, rfl, ⟨h1, h.w.trn h2 h.am, fun k hk e => ?_, h.ao, h.r.step h2 h3, h.ar⟩, h4, h5⟩
  rcases h3 k e with e | e
  · exact h.am k hk e
  · have := (h.w.fb k hk).2; omega
/-- The same, and what may have turned. -/
theorem B3.line2 (h : B3 W gm Fm p sm go Fo q so gw sw b v vs wr) (s : List UInt8) (hs : s.length ≤ 1000000) (body : Bool) {o : Rp.Out} (ho : Rp.step p sm s body = o) :
    Calls Tryd.prog 12 #[.pointer (some ⟨gm, 0, none⟩), .string (ba s), .bool body] wr fun e w' =>
      ∃ F' lo lc bo bc, e = .returned (.tuple #[.agg #[.string (ba (Rp.outRe o).code), .slice lo (Rp.outRe o).lines.length lc, .slice bo (Rp.outRe o).body.length bc], .bool (Rp.outDone o), .int .i64 (Rp.outErr o : Int)]) ∧ B3 W gm F' p (Rp.outSt o) go Fo q so gw sw b v vs w' ∧ Trn Fm wr w' := by
  refine (h.m.line2 s hs body ho).mono ?_
  rintro e w' ⟨F', lo, lc, bo, bc, rfl, h1, h2, h3, _, _⟩
  refine ⟨F', lo, lc, bo, bc, rfl, ⟨h1, h.w.trn h2 h.am, fun k hk e => ?_, h.ao, h.r.step h2 h3, h.ar⟩, h2⟩
  rcases h3 k e with e | e
  · exact h.am k hk e
  · have := (h.w.fb k hk).2; omega
/-- 'New' of the reference's body. -/
theorem B3.new (h : M2 W gm Fm p sm go Fo q so wr) (hr : Tk wr Fm Fo v vs) :
    Calls Tryd.prog 18 #[.int .i64 1000] wr fun e w' => e = .returned (.pointer (some ⟨wr.heap.size, 0, none⟩)) ∧ B3 W gm Fm p sm go Fo q so wr.heap.size (.slice none 0 0) ⟨[], 0⟩ v vs w' := by
  refine (rnew_any 1000 (by decide) wr).mono ?_
  rintro e w' ⟨rfl, hb, ho⟩
  have hf : ∀ {k}, FB wr.heap.size (.slice none 0 0) k → k = wr.heap.size := by
    rintro k (e | e)
    · exact e
    · cases e
  refine ⟨rfl, h.next hb, ho.lower h.m.b.size, fun k hk e => ?_, fun k hk e => ?_, hr.next hb, fun k hk e => ?_⟩
  · have := hf hk; have := (h.m.o.lt k e).2; omega
  · have := hf hk; have := (h.o.o.lt k e).2; omega
  · have := hf e; have := (hr.2 k hk).1; omega
/-- 'Line' of the reference's body. -/
theorem B3.want (h : B3 W gm Fm p sm go Fo q so gw sw b v vs wr) (t : List UInt8) (h1 : b.bs.length ≤ 1000000) (h2 : b.n ≤ 1000000) (h3 : t.length ≤ 1000000) :
    Calls Tryd.prog 19 #[.pointer (some ⟨gw, 0, none⟩), .string (ba t)] wr fun e w' =>
      ∃ sw', e = .returned (.tuple #[.bool (b.line 1000 t).1, .int .i64 ((b.line 1000 t).2.1 : Int)]) ∧ B3 W gm Fm p sm go Fo q so gw sw' (b.line 1000 t).2.2 v vs w' := by
  refine (rline_any wr W.heap.size gw sw 1000 b (ba t) h.w h1 h2 h3 h.m.m.b.size).mono ?_
  rintro e w' ⟨s', rfl, ho, hT, hN⟩
  have ht : Trn (FB gw sw) wr w' := Trn.of_turn hT (.inl rfl) (fun k hk => .inr hk)
  have hx : Fx (FB gw sw) (FB gw s') wr.heap.size := FB.fx hN
  have hG : ∀ k, FB gw sw k → W.heap.size ≤ k := fun k hk => (h.w.fb k hk).1
  refine ⟨s', rfl, ⟨h.m.m.past ht (fun k hk e => h.am k e hk) hG, h.m.o.past ht (fun k hk e => h.ao k e hk) hG, h.m.ap⟩, ho, fun k hk e => ?_, fun k hk e => ?_, ⟨ht.rd h.r.1 h.ar, fun k hk => ⟨Nat.lt_of_lt_of_le (h.r.2 k hk).1 ht.size, (h.r.2 k hk).2⟩⟩, fun k hk e => ?_⟩
  · rcases hx k hk with hk | hk
    · exact h.am k hk e
    · have := (h.m.m.o.lt k e).2; omega
  · rcases hx k hk with hk | hk
    · exact h.ao k hk e
    · have := (h.m.o.o.lt k e).2; omega
  · rcases hx k e with e | e
    · exact h.ar k hk e
    · have := (h.r.2 k hk).1; omega
end
/-- A row of texts cut to its first m. -/
theorem Rd.cutV {w : World} {ao : Option Addr} {L cap m : Nat} {vs : List Value} (h : Rd w (.slice ao L cap) vs) (hL : L = vs.length) (hm : m ≤ L) : Rd w (.slice ao m cap) (vs.take m) := by
  rcases Nat.eq_zero_or_pos m with h0 | hp
  · subst h0
    rcases h with ⟨_, ao', cap', h1, e⟩ | ⟨b, o, cap', e, _⟩
    · simp only [Value.slice.injEq] at e
      obtain ⟨rfl, _, rfl⟩ := e
      exact .inl ⟨List.take_zero, _, _, h1, rfl⟩
    · simp only [Value.slice.injEq] at e
      obtain ⟨rfl, _, rfl⟩ := e
      exact .inl ⟨List.take_zero, _, _, (fun h => by cases h), rfl⟩
  · rcases h with ⟨e, _⟩ | ⟨b, o, cap', e, h1, h2, h3⟩
    · subst e
      simp only [List.length_nil] at hL
      omega
    · simp only [Value.slice.injEq] at e
      obtain ⟨rfl, _, rfl⟩ := e
      refine .inr ⟨b, o, cap, by rw [List.length_take, Nat.min_eq_left (by omega)], by rw [List.length_take]; omega, h2, fun j u hj => h3 j u ?_⟩
      rw [List.getElem?_take] at hj
      split at hj
      · exact hj
      · cases hj
end Go.Proofs.YtnodngcfjdghcaaDoor
