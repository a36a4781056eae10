/- The reference's two connections as they lie in memory. -/
import Derived.Test.YtneifmnlailipaaWireKeep
import Derived.Test.YtneifmnlailipaaQueueRefTakeW
namespace Go.Proofs.Ytneifmnlailipaa
open Go.RowKit

/-- What is read stays, where its block does. -/
theorem Rd.kept {w w' : World} {v : Value} {ys : List UInt8} (h : Rd w v (ys.map bv)) (hb : ∀ k, v.ownBlock = some k → w'.heap[k]? = w.heap[k]?) : Rd w' v (ys.map bv) := by
  rcases h with h | ⟨b, o, cap, rfl, h1, h2, h3⟩
  · exact .inl h
  · refine .inr ⟨b, o, cap, rfl, h1, h2, fun j u hj => ?_⟩
    exact (World.cell?_of_block (a := ⟨b, o + j, none⟩) (hb b rfl)).trans (h3 j u hj)
theorem RO.kept {w w' : World} {B g t : Nat} {s : Value} {most : Int} {xs : List UInt8} (h : RO w B g s most xs t) (hg : w'.heap[g]? = w.heap[g]?) (hs : ∀ k, s.ownBlock = some k → w'.heap[k]? = w.heap[k]?) : RO w' B g s most xs t := by
  refine ⟨hg.trans h.c, ⟨h.o.1, ?_⟩, h.hg, h.ne, h.ht, h.hs, h.hl, h.hm⟩
  rcases h.o.2 with hn | ⟨b, cap, cur, rfl, hb, hh, r⟩
  · exact .inl hn
  · exact .inr ⟨b, cap, cur, rfl, hb, (hs b rfl).trans hh, r⟩

/-- Block g holds the reference's connection, from o on; its queue lies in block gq. -/
structure RX (w : World) (B g o : Nat) (F : Nat → Prop) (C : Array Value) (T : TypeId) (gq : Nat) (s so sw : Value) (c : Wi.Cn) : Prop where
  q : RO w B gq s 4000 c.xs c.t
  h : w.heap[g]? = some (.cells C T (0, 0))
  e0 : C[o]? = some (.int .i64 (c.st : Int))
  e1 : C[o + 1]? = some (.int .i64 (c.got : Int))
  e2 : C[o + 2]? = some (.bool c.dn)
  e3 : C[o + 3]? = some (.pointer (some ⟨gq, 0, none⟩))
  e4 : C[o + 4]? = some so
  e5 : C[o + 5]? = some sw
  ro : Rd w so (c.old.map bv)
  rw : Rd w sw (c.wrote.map bv)
  no : so.ownBlock ≠ some gq
  nw : sw.ownBlock ≠ some gq
  hg : B ≤ g
  fq : F gq
  fs : ∀ k, s.ownBlock = some k → F k
  fo : ∀ k, so.ownBlock = some k → F k
  fw : ∀ k, sw.ownBlock = some k → F k
  fF : ∀ k, F k → B ≤ k ∧ k < w.heap.size ∧ k ≠ g
section
variable {w w' : World} {B g o gq : Nat} {F : Nat → Prop} {C C' : Array Value} {T : TypeId} {s so sw : Value} {c : Wi.Cn}
theorem RX.lt (h : RX w B g o F C T gq s so sw c) : g < w.heap.size := (Array.getElem?_eq_some_iff.1 h.h).1
theorem RX.c0 (h : RX w B g o F C T gq s so sw c) : w.cell? ⟨g, o, none⟩ = some (.int .i64 (c.st : Int)) := cell_in h.h h.e0
theorem RX.c1 (h : RX w B g o F C T gq s so sw c) : w.cell? ⟨g, o + 1, none⟩ = some (.int .i64 (c.got : Int)) := cell_in h.h h.e1
theorem RX.c2 (h : RX w B g o F C T gq s so sw c) : w.cell? ⟨g, o + 2, none⟩ = some (.bool c.dn) := cell_in h.h h.e2
theorem RX.c3 (h : RX w B g o F C T gq s so sw c) : w.cell? ⟨g, o + 3, none⟩ = some (.pointer (some ⟨gq, 0, none⟩)) := cell_in h.h h.e3
theorem RX.c4 (h : RX w B g o F C T gq s so sw c) : w.cell? ⟨g, o + 4, none⟩ = some so := cell_in h.h h.e4
theorem RX.c5 (h : RX w B g o F C T gq s so sw c) : w.cell? ⟨g, o + 5, none⟩ = some sw := cell_in h.h h.e5
theorem RX.f (h : RX w B g o F C T gq s so sw c) (i : Nat) : w.frozen? ⟨g, i, none⟩ = false := frozen_of_row _ _ _ _ _ h.h
theorem RX.moved (h : RX w B g o F C T gq s so sw c) (hs : w.heap.size ≤ w'.heap.size) (hg : w'.heap[g]? = some (.cells C' T (0, 0))) (hC : ∀ j, j < 6 → C'[o + j]? = C[o + j]?) (hF : ∀ k, F k → w'.heap[k]? = w.heap[k]?) : RX w' B g o F C' T gq s so sw c :=
  ⟨h.q.kept (hF _ h.fq) (fun k hk => hF k (h.fs k hk)), hg, (hC 0 (by omega)).trans h.e0, (hC 1 (by omega)).trans h.e1, (hC 2 (by omega)).trans h.e2, (hC 3 (by omega)).trans h.e3, (hC 4 (by omega)).trans h.e4, (hC 5 (by omega)).trans h.e5, h.ro.kept (fun k hk => hF k (h.fo k hk)), h.rw.kept (fun k hk => hF k (h.fw k hk)), h.no, h.nw, h.hg, h.fq, h.fs, h.fo, h.fw, fun k hk => ⟨(h.fF k hk).1, Nat.lt_of_lt_of_le (h.fF k hk).2.1 hs, (h.fF k hk).2.2⟩⟩
theorem RX.kept (h : RX w B g o F C T gq s so sw c) (hs : w.heap.size ≤ w'.heap.size) (hg : w'.heap[g]? = w.heap[g]?) (hF : ∀ k, F k → w'.heap[k]? = w.heap[k]?) : RX w' B g o F C T gq s so sw c :=
  h.moved hs (hg.trans h.h) (fun _ _ => rfl) hF
theorem RX.next (h : RX w B g o F C T gq s so sw c) (hb : Below w.heap.size w w') : RX w' B g o F C T gq s so sw c :=
  h.kept hb.size (hb.block g h.lt) (fun k hk => hb.block k (h.fF k hk).2.1)
/-- One of the first three is stored. -/
theorem RX.cell {i : Nat} {v : Value} (h : RX w B g o F C T gq s so sw c) (hi : i < 3) (c' : Wi.Cn) (hx : c'.xs = c.xs) (ht : c'.t = c.t) (ho : c'.old = c.old) (hw : c'.wrote = c.wrote)
    (f0 : (if i = 0 then v else .int .i64 (c.st : Int)) = .int .i64 (c'.st : Int)) (f1 : (if i = 1 then v else .int .i64 (c.got : Int)) = .int .i64 (c'.got : Int)) (f2 : (if i = 2 then v else .bool c.dn) = .bool c'.dn) :
    RX (w.setCell ⟨g, o + i, none⟩ v) B g o F (C.setIfInBounds (o + i) v) T gq s so sw c' := by
  have at' : ∀ j u, C[o + j]? = some u → (C.setIfInBounds (o + i) v)[o + j]? = some (if i = j then v else u) := fun j u hu => by
    by_cases e : i = j
    · subst e
      rw [if_pos rfl]
      exact set_eq hu
    · rw [if_neg e, set_ne (by omega)]
      exact hu
  have a0 := at' 0 _ h.e0
  have a1 := at' 1 _ h.e1
  have a2 := at' 2 _ h.e2
  rw [f0] at a0
  rw [f1] at a1
  rw [f2] at a2
  have far : ∀ j, 3 ≤ j → (C.setIfInBounds (o + i) v)[o + j]? = C[o + j]? := fun j hj => set_ne (by omega)
  have hb : ∀ k, F k → (w.setCell ⟨g, o + i, none⟩ v).heap[k]? = w.heap[k]? := fun k hk => Below.heap_setCell _ _ _ _ (h.fF k hk).2.2
  refine ⟨?_, setCell_row h.h, a0, a1, a2, (far 3 (by omega)).trans h.e3, (far 4 (by omega)).trans h.e4, (far 5 (by omega)).trans h.e5, ?_, ?_, h.no, h.nw, h.hg, h.fq, h.fs, h.fo, h.fw, fun k hk => ?_⟩
  · rw [hx, ht]; exact h.q.kept (hb _ h.fq) (fun k hk => hb k (h.fs k hk))
  · rw [ho]; exact h.ro.kept (fun k hk => hb k (h.fo k hk))
  · rw [hw]; exact h.rw.kept (fun k hk => hb k (h.fw k hk))
  · have := h.fF k hk
    exact ⟨this.1, by simp [World.setCell]; exact this.2.1, this.2.2⟩
end

/-- What lies in block g from o on, 6 cells, and in the blocks of F, has turned; nothing else has. -/
structure Cr (g o : Nat) (F : Nat → Prop) (w : World) (F' : Nat → Prop) (w' : World) : Prop where
  tn : Tn (fun k => k = g ∨ F k) w w'
  blk : ∀ C T, w.heap[g]? = some (.cells C T (0, 0)) → ∃ C', w'.heap[g]? = some (.cells C' T (0, 0)) ∧ C'.size = C.size ∧ ∀ j, j < o ∨ o + 6 ≤ j → C'[j]? = C[j]?
  new : ∀ k, F' k → F k ∨ w.heap.size ≤ k
theorem Cr.of_below {g o : Nat} {F : Nat → Prop} {w w' : World} (h : Below w.heap.size w w') (hg : g < w.heap.size) : Cr g o F w F w' :=
  ⟨.of_below h, fun C T hC => ⟨C, (h.block g hg).trans hC, rfl, fun _ _ => rfl⟩, fun _ h => .inl h⟩
theorem Cr.trans {g o : Nat} {F F' F'' : Nat → Prop} {a b c : World} (h : Cr g o F a F' b) (k : Cr g o F' b F'' c) : Cr g o F a F'' c := by
  refine ⟨h.tn.trans (fun i hi => ?_) k.tn, fun C T hC => ?_, fun i hi => ?_⟩
  · rcases hi with rfl | hi
    · exact .inl (.inl rfl)
    · exact (h.new i hi).imp .inr id
  · obtain ⟨C1, h1, h2, h3⟩ := h.blk C T hC
    obtain ⟨C2, k1, k2, k3⟩ := k.blk C1 T h1
    exact ⟨C2, k1, k2.trans h2, fun j hj => (k3 j hj).trans (h3 j hj)⟩
  · rcases k.new i hi with hi | hi
    · exact h.new i hi
    · exact .inr (Nat.le_trans h.tn.size hi)
theorem Cr.set {g o i : Nat} {F : Nat → Prop} {w : World} {v : Value} (hi : i < 6) : Cr g o F w F (w.setCell ⟨g, o + i, none⟩ v) :=
  ⟨⟨rfl, rfl, rfl, by simp [World.setCell], fun k _ h1 => Below.heap_setCell _ _ _ _ (fun e => h1 (.inl e))⟩, fun C T hC => ⟨_, setCell_row hC, by simp, fun j hj => set_ne (by omega)⟩, fun _ h => .inl h⟩

/-- The queue of a connection has turned. -/
theorem RX.queue {w w' : World} {B g o gq : Nat} {F : Nat → Prop} {C : Array Value} {T : TypeId} {s s' so sw : Value} {c : Wi.Cn} (h : RX w B g o F C T gq s so sw c) (c' : Wi.Cn) (hq : RO w' B gq s' 4000 c'.xs c'.t) (hT : Turn gq (.slice none 0 0) w w') (hs : ∀ k, s'.ownBlock = some k → F k ∨ w.heap.size ≤ k)
    (f0 : c'.st = c.st) (f1 : c'.got = c.got) (f2 : c'.dn = c.dn) (ho : c'.old = c.old) (hw : c'.wrote = c.wrote) :
    RX w' B g o (fun k => F k ∨ s'.ownBlock = some k) C T gq s' so sw c' ∧ Cr g o F w (fun k => F k ∨ s'.ownBlock = some k) w' := by
  have hqg : gq ≠ g := (h.fF _ h.fq).2.2
  have kp : ∀ k, k < w.heap.size → k ≠ gq → w'.heap[k]? = w.heap[k]? := fun k h1 h2 => hT.block k h1 h2 (fun e => by cases e)
  refine ⟨⟨hq, (kp g h.lt hqg.symm).trans h.h, by rw [f0]; exact h.e0, by rw [f1]; exact h.e1, by rw [f2]; exact h.e2, h.e3, h.e4, h.e5, ?_, ?_, h.no, h.nw, h.hg, .inl h.fq, fun k hk => .inr hk, fun k hk => .inl (h.fo k hk), fun k hk => .inl (h.fw k hk), fun k hk => ?_⟩, ⟨.of_turn hT (.inr h.fq) (fun k e => by cases e), fun C' T' hC => ⟨C', (kp g h.lt hqg.symm).trans hC, rfl, fun _ _ => rfl⟩, fun k hk => ?_⟩⟩
  · rw [ho]; exact h.ro.kept (fun k hk => kp k (h.fF k (h.fo k hk)).2.1 (fun e => h.no (by rw [hk, e])))
  · rw [hw]; exact h.rw.kept (fun k hk => kp k (h.fF k (h.fw k hk)).2.1 (fun e => h.nw (by rw [hk, e])))
  · rcases hk with hk | hk
    · exact ⟨(h.fF k hk).1, Nat.lt_of_lt_of_le (h.fF k hk).2.1 hT.size, (h.fF k hk).2.2⟩
    · have h2 := hq.slt k hk
      refine ⟨h2.1, h2.2, fun e => ?_⟩
      rcases hs k hk with h3 | h3
      · exact (h.fF k h3).2.2 e
      · have := h.lt
        omega
  · rcases hk with hk | hk
    · exact .inl hk
    · exact hs k hk

/-- The reference's connection, where what it lies in is not told. -/
def RA (w : World) (B g o : Nat) (F : Nat → Prop) (T : TypeId) (c : Wi.Cn) : Prop := ∃ C gq s so sw, RX w B g o F C T gq s so sw c
theorem RA.fF {w : World} {B g o : Nat} {F : Nat → Prop} {T : TypeId} {c : Wi.Cn} (h : RA w B g o F T c) : ∀ k, F k → B ≤ k ∧ k < w.heap.size ∧ k ≠ g := by
  obtain ⟨C, gq, s, so, sw, h⟩ := h
  exact h.fF
theorem RA.apart {w w' : World} {B g o : Nat} {F : Nat → Prop} {T : TypeId} {c : Wi.Cn} (h : RA w B g o F T c) {F2 : Nat → Prop} (hT : Tn F2 w w') (hg : ¬ F2 g) (hF : ∀ k, F k → ¬ F2 k) : RA w' B g o F T c := by
  obtain ⟨C, gq, s, so, sw, h⟩ := h
  exact ⟨_, _, _, _, _, h.kept hT.size (hT.block g h.lt hg) (fun k hk => hT.block k (h.fF k hk).2.1 (hF k hk))⟩
theorem RA.other {w w2 : World} {B g o o2 : Nat} {F F1 F2 : Nat → Prop} {T : TypeId} {c : Wi.Cn} (h : RA w B g o2 F1 T c) (hG : Cr g o F w F2 w2) (ho : o2 + 6 ≤ o ∨ o + 6 ≤ o2) (hd : ∀ k, F1 k → ¬ F k) : RA w2 B g o2 F1 T c := by
  obtain ⟨C, gq, s, so, sw, hx⟩ := h
  obtain ⟨C2, h1, _, h3⟩ := hG.blk C T hx.h
  refine ⟨C2, gq, s, so, sw, hx.moved hG.tn.size h1 (fun j hj => h3 _ (by omega)) (fun k hk => hG.tn.block k (hx.fF k hk).2.1 (fun e => ?_))⟩
  rcases e with e | e
  · exact (hx.fF k hk).2.2 e
  · exact hd k hk e

/-- Block g holds the reference's two connections; F: what they lie in. -/
def RW (w : World) (B g : Nat) (F : Nat → Prop) (W : Wi.Wm) : Prop := ∃ C F0 F1, w.heap[g]? = some (.cells C 61 (0, 0)) ∧ C.size = 12 ∧ RA w B g 0 F0 61 W.a ∧ RA w B g 6 F1 61 W.b ∧ (∀ k, F0 k → ¬ F1 k) ∧ ∀ k, F k ↔ k = g ∨ F0 k ∨ F1 k
section
variable {w w' : World} {B g : Nat} {F : Nat → Prop} {W : Wi.Wm}
theorem RW.lt (h : RW w B g F W) : g < w.heap.size := by
  obtain ⟨C, F0, F1, hC, _⟩ := h
  exact (Array.getElem?_eq_some_iff.1 hC).1
theorem RW.fg (h : RW w B g F W) : F g := by
  obtain ⟨C, F0, F1, _, _, _, _, _, hF⟩ := h
  exact (hF g).2 (.inl rfl)
theorem RW.fF (h : RW w B g F W) : ∀ k, F k → B ≤ k ∧ k < w.heap.size := by
  have hl := h.lt
  obtain ⟨C, F0, F1, hC, hn, ha, hb, hd, hF⟩ := h
  intro k hk
  rcases (hF k).1 hk with rfl | hk | hk
  · obtain ⟨_, _, _, _, _, hx⟩ := ha
    exact ⟨hx.hg, hl⟩
  · exact ⟨(ha.fF k hk).1, (ha.fF k hk).2.1⟩
  · exact ⟨(hb.fF k hk).1, (hb.fF k hk).2.1⟩
theorem RW.apart (h : RW w B g F W) {F2 : Nat → Prop} (hT : Tn F2 w w') (hF2 : ∀ k, F k → ¬ F2 k) : RW w' B g F W := by
  have hg := h.fg
  have hl := h.lt
  obtain ⟨C, F0, F1, hC, hn, ha, hb, hd, hF⟩ := h
  exact ⟨C, F0, F1, (hT.block g hl (hF2 g hg)).trans hC, hn, ha.apart hT (hF2 g hg) (fun k hk => hF2 k ((hF k).2 (.inr (.inl hk)))), hb.apart hT (hF2 g hg) (fun k hk => hF2 k ((hF k).2 (.inr (.inr hk)))), hd, hF⟩
theorem RW.next (h : RW w B g F W) (hb : Below w.heap.size w w') : RW w' B g F W := h.apart (F2 := fun _ => False) (.of_below hb) (fun _ _ e => e)
end
/-- What was done to the reference's two: how they stand now, and what has turned. -/
def Rs (B g : Nat) (F : Nat → Prop) (w : World) (W' : Wi.Wm) (w' : World) : Prop := ∃ F', RW w' B g F' W' ∧ Tn F w w' ∧ ∀ k, F' k → F k ∨ w.heap.size ≤ k
theorem Rs.below {B g : Nat} {F : Nat → Prop} {w w' : World} {W : Wi.Wm} (h : RW w B g F W) (hb : Below w.heap.size w w') : Rs B g F w W w' := ⟨F, h.next hb, .of_below hb, fun _ h => .inl h⟩
theorem Rs.later {w w0 w2 : World} {B g : Nat} {F : Nat → Prop} {W' : Wi.Wm} (hb : Below w.heap.size w w0) (h : Rs B g F w0 W' w2) : Rs B g F w W' w2 := by
  obtain ⟨F2, h1, h2, h3⟩ := h
  exact ⟨F2, h1, (Tn.of_below hb).trans (fun _ h => .inl h) h2, fun i hi => (h3 i hi).imp id (fun h => Nat.le_trans hb.size h)⟩

/-- One of the reference's two: what is done to it is done to them. -/
structure Ar (w0 : World) (B g : Nat) (F : Nat → Prop) (W : Wi.Wm) (k : Int) (o : Nat) (F' : Nat → Prop) : Prop where
  ca : RA w0 B g o F' 61 (W.at k)
  back : ∀ w2 F2 c2, RA w2 B g o F2 61 c2 → Cr g o F' w0 F2 w2 → Rs B g F w0 (W.upd k c2) w2
section
variable {w : World} {B g : Nat} {F : Nat → Prop} {W : Wi.Wm}
theorem ar_zero (h : RW w B g F W) : ∃ F0, Ar w B g F W 0 0 F0 := by
  have hl := h.lt
  have hg := h.fg
  obtain ⟨C, F0, F1, hC, hn, ha, hb, hd, hF⟩ := h
  refine ⟨F0, ha, fun w2 F2 c2 hc hG => ?_⟩
  obtain ⟨C2, k1, k2, _⟩ := hG.blk C _ hC
  refine ⟨fun k => k = g ∨ F2 k ∨ F1 k, ⟨C2, F2, F1, k1, k2.trans hn, hc, hb.other hG (by omega) (fun k h1 h2 => hd k h2 h1), fun k h1 h2 => ?_, fun k => Iff.rfl⟩, hG.tn.mono (fun k hk => .inl ((hF k).2 (hk.imp id .inl))), fun k hk => ?_⟩
  · rcases hG.new k h1 with h1 | h1
    · exact hd k h1 h2
    · have := (hb.fF k h2).2.1
      omega
  · rcases hk with rfl | hk | hk
    · exact .inl hg
    · exact (hG.new k hk).imp (fun h => (hF k).2 (.inr (.inl h))) id
    · exact .inl ((hF k).2 (.inr (.inr hk)))
theorem ar_one (h : RW w B g F W) : ∃ F1, Ar w B g F W 1 6 F1 := by
  have hl := h.lt
  have hg := h.fg
  obtain ⟨C, F0, F1, hC, hn, ha, hb, hd, hF⟩ := h
  refine ⟨F1, hb, fun w2 F2 c2 hc hG => ?_⟩
  obtain ⟨C2, k1, k2, _⟩ := hG.blk C _ hC
  refine ⟨fun k => k = g ∨ F0 k ∨ F2 k, ⟨C2, F0, F2, k1, k2.trans hn, ha.other hG (by omega) (fun k h1 h2 => hd k h1 h2), hc, fun k h1 h2 => ?_, fun k => Iff.rfl⟩, hG.tn.mono (fun k hk => .inl ((hF k).2 (hk.imp id .inr))), fun k hk => ?_⟩
  · rcases hG.new k h2 with h2 | h2
    · exact hd k h1 h2
    · have := (ha.fF k h1).2.1
      omega
  · rcases hk with rfl | hk | hk
    · exact .inl hg
    · exact .inl ((hF k).2 (.inr (.inl hk)))
    · exact (hG.new k hk).imp (fun h => (hF k).2 (.inr (.inr h))) id
end
end Go.Proofs.Ytneifmnlailipaa
