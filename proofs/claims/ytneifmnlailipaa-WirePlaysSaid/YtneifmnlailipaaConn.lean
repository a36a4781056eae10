/- A connection as it lies in memory, within a block; what one that is done something to leaves as it was. -/
import Derived.Test.YtneifmnlailipaaQueueOf2
import Derived.Test.YtneifmnlailipaaSlices
import Derived.Test.YtneifmnlailipaaWireN
namespace Go.Proofs.Ytneifmnlailipaa
open Go.RowKit

/-- Outside the blocks of F nothing has turned. -/
structure Tn (F : Nat → Prop) (w w' : World) : Prop where
  os : w'.os = w.os
  tape : w'.tape = w.tape
  output : w'.output = w.output
  size : w.heap.size ≤ w'.heap.size
  block : ∀ k, k < w.heap.size → ¬ F k → w'.heap[k]? = w.heap[k]?
theorem Tn.of_below {F : Nat → Prop} {w w' : World} (h : Below w.heap.size w w') : Tn F w w' := ⟨h.os, h.tape, h.output, h.size, fun k hk _ => h.block k hk⟩
theorem Tn.refl (F : Nat → Prop) (w : World) : Tn F w w := .of_below (Below.refl _ _)
theorem Tn.trans {F F' : Nat → Prop} {a b c : World} (h : Tn F a b) (hF : ∀ k, F' k → F k ∨ a.heap.size ≤ k) (k : Tn F' b c) : Tn F a c :=
  ⟨k.os.trans h.os, k.tape.trans h.tape, k.output.trans h.output, Nat.le_trans h.size k.size, fun i hi h1 => (k.block i (Nat.lt_of_lt_of_le hi h.size) (fun h2 => by
    rcases hF i h2 with h3 | h3
    · exact h1 h3
    · omega)).trans (h.block i hi h1)⟩
theorem Tn.mono {F F' : Nat → Prop} {a b : World} (h : Tn F a b) (hF : ∀ k, F k → F' k ∨ a.heap.size ≤ k) : Tn F' a b :=
  ⟨h.os, h.tape, h.output, h.size, fun k hk h1 => h.block k hk (fun h2 => by
    rcases hF k h2 with h3 | h3
    · exact h1 h3
    · omega)⟩
theorem Tn.of_turn {F : Nat → Prop} {g : Nat} {s : Value} {w w' : World} (h : Turn g s w w') (hg : F g) (hs : ∀ k, s.ownBlock = some k → F k) : Tn F w w' :=
  ⟨h.os, h.tape, h.output, h.size, fun k hk h1 => h.block k hk (fun e => h1 (e ▸ hg)) (fun e => h1 (hs k e))⟩
theorem Tn.below {F : Nat → Prop} {B : Nat} {w w' : World} (h : Tn F w w') (hF : ∀ k, F k → B ≤ k) (hB : B ≤ w.heap.size) : Below B w w' :=
  ⟨h.os, h.tape, h.output, h.size, fun k hk => h.block k (by omega) (fun h1 => by have := hF k h1; omega)⟩
theorem Tn.own {F : Nat → Prop} {w w' : World} {B : Nat} {v : Value} {xs : List UInt8} (h : Tn F w w') (ho : Own w B v xs) (hv : ∀ k, v.ownBlock = some k → ¬ F k) : Own w' B v xs := by
  refine ⟨⟨ho.r.1, ?_⟩, ho.e⟩
  rcases ho.r.2 with hn | ⟨b, cap, cur, rfl, hb, hh, r⟩
  · exact .inl hn
  · exact .inr ⟨b, cap, cur, rfl, hb, (h.block b (Array.getElem?_eq_some_iff.1 hh).1 (hv b rfl)).trans hh, r⟩
theorem Tn.grown {F : Nat → Prop} {w w' : World} {s : Value} (h : w.grownBy w' s.ownBlock) (hs : ∀ k, s.ownBlock = some k → F k) : Tn F w w' :=
  ⟨h.os, h.tape, h.output, h.size, fun k hk h1 => h.block k hk (fun e => h1 (hs k e.symm))⟩

/-- Two rows have nothing of each other. -/
def Dj (a b : Value) : Prop := a.ownBlock = none ∨ a.ownBlock ≠ b.ownBlock
theorem Dj.swap {a b : Value} (h : Dj a b) : Dj b a := by
  unfold Dj at h ⊢
  rcases h with h | h
  · cases hb : b.ownBlock
    · exact .inl rfl
    · rw [h]; exact .inr (by simp)
  · exact .inr h.symm
/-- A row that was made since is apart from what was there. -/
theorem Dj.late {a b : Value} {n : Nat} (ha : ∀ k, a.ownBlock = some k → k < n) (hb : ∀ k, b.ownBlock = some k → n ≤ k) : Dj a b := by
  unfold Dj
  cases h : a.ownBlock with
  | none => exact .inl rfl
  | some k =>
    refine .inr fun e => ?_
    have h1 := ha _ h
    have h2 := hb _ e.symm
    omega
theorem Dj.nil (b : Value) : Dj (.slice none 0 0) b := .inl rfl

/-- Block g holds a connection, from o on; the blocks of its rows are of F. -/
structure CX (w : World) (B g o : Nat) (F : Nat → Prop) (C : Array Value) (T : TypeId) (s so sw : Value) (most : Int) (c : Wi.Cn) : Prop where
  q : QA w B g (o + 3) C T s most c.xs c.t
  e0 : C[o]? = some (.int .i64 (c.st : Int))
  e1 : C[o + 1]? = some (.bool c.dn)
  e2 : C[o + 2]? = some (.int .i64 (c.got : Int))
  e6 : C[o + 6]? = some so
  e7 : C[o + 7]? = some sw
  ro : Own w B so c.old
  rw : Own w B sw c.wrote
  no : so.ownBlock ≠ some g
  nw : sw.ownBlock ≠ some g
  d1 : Dj s so
  d2 : Dj s sw
  d3 : Dj so sw
  fs : ∀ k, s.ownBlock = some k → F k
  fo : ∀ k, so.ownBlock = some k → F k
  fw : ∀ k, sw.ownBlock = some k → F k
  fF : ∀ k, F k → B ≤ k ∧ k < w.heap.size ∧ k ≠ g
  m4 : c.live = true ∨ c.st = 1 → most = 4000
section
variable {w w' : World} {B g o : Nat} {F : Nat → Prop} {C : Array Value} {T : TypeId} {s so sw : Value} {most : Int} {c : Wi.Cn}
theorem CX.lt (h : CX w B g o F C T s so sw most c) : g < w.heap.size := h.q.lt
theorem CX.c0 (h : CX w B g o F C T s so sw most c) : w.cell? ⟨g, o, none⟩ = some (.int .i64 (c.st : Int)) := cell_in h.q.c h.e0
theorem CX.c1 (h : CX w B g o F C T s so sw most c) : w.cell? ⟨g, o + 1, none⟩ = some (.bool c.dn) := cell_in h.q.c h.e1
theorem CX.c2 (h : CX w B g o F C T s so sw most c) : w.cell? ⟨g, o + 2, none⟩ = some (.int .i64 (c.got : Int)) := cell_in h.q.c h.e2
theorem CX.c6 (h : CX w B g o F C T s so sw most c) : w.cell? ⟨g, o + 6, none⟩ = some so := cell_in h.q.c h.e6
theorem CX.c7 (h : CX w B g o F C T s so sw most c) : w.cell? ⟨g, o + 7, none⟩ = some sw := cell_in h.q.c h.e7
theorem CX.f (h : CX w B g o F C T s so sw most c) (i : Nat) : w.frozen? ⟨g, i, none⟩ = false := h.q.f i
/-- What the connection lies in stays, so it does. -/
theorem CX.kept (h : CX w B g o F C T s so sw most c) (hs : w.heap.size ≤ w'.heap.size) (hg : w'.heap[g]? = w.heap[g]?) (hF : ∀ k, F k → w'.heap[k]? = w.heap[k]?) : CX w' B g o F C T s so sw most c := by
  have ow : ∀ {v : Value} {n : Nat} {vs : List Value}, w.ownsRow B 5 1 v n vs → (∀ k, v.ownBlock = some k → F k) → w'.ownsRow B 5 1 v n vs := fun {v n vs} ho hv => by
    refine ⟨ho.1, ?_⟩
    rcases ho.2 with hn | ⟨b, cap, cur, rfl, hb, hh, r⟩
    · exact .inl hn
    · exact .inr ⟨b, cap, cur, rfl, hb, (hF b (hv b rfl)).trans hh, r⟩
  exact ⟨⟨hg.trans h.q.c, h.q.e0, h.q.e1, h.q.e2, ow h.q.r h.fs, h.q.hg, h.q.ne, h.q.e, h.q.ht, h.q.hs, h.q.hl, h.q.hm⟩, h.e0, h.e1, h.e2, h.e6, h.e7, ⟨ow h.ro.r h.fo, h.ro.e⟩, ⟨ow h.rw.r h.fw, h.rw.e⟩, h.no, h.nw, h.d1, h.d2, h.d3, h.fs, h.fo, h.fw, fun k hk => ⟨(h.fF k hk).1, Nat.lt_of_lt_of_le (h.fF k hk).2.1 hs, (h.fF k hk).2.2⟩, h.m4⟩
theorem CX.next (h : CX w B g o F C T s so sw most c) (hb : Below w.heap.size w w') : CX w' B g o F C T s so sw most c :=
  h.kept hb.size (hb.block g h.lt) (fun k hk => hb.block k (h.fF k hk).2.1)
theorem CX.apart (h : CX w B g o F C T s so sw most c) {F2 : Nat → Prop} (hT : Tn F2 w w') (hg : ¬ F2 g) (hF : ∀ k, F k → ¬ F2 k) : CX w' B g o F C T s so sw most c :=
  h.kept hT.size (hT.block g h.lt hg) (fun k hk => hT.block k (h.fF k hk).2.1 (hF k hk))
theorem CX.lower {B' : Nat} (h : CX w B g o F C T s so sw most c) (hB : B' ≤ B) : CX w B' g o F C T s so sw most c :=
  ⟨h.q.lower hB, h.e0, h.e1, h.e2, h.e6, h.e7, ⟨ownsRow_lower h.ro.r hB, h.ro.e⟩, ⟨ownsRow_lower h.rw.r hB, h.rw.e⟩, h.no, h.nw, h.d1, h.d2, h.d3, h.fs, h.fo, h.fw, fun k hk => ⟨Nat.le_trans hB (h.fF k hk).1, (h.fF k hk).2⟩, h.m4⟩
/-- One of the first three is stored. -/
theorem CX.cell {i : Nat} {v : Value} (h : CX w B g o F C T s so sw most c) (hi : i < 3) (c' : Wi.Cn) (hx : c'.xs = c.xs) (ht : c'.t = c.t) (ho : c'.old = c.old) (hw : c'.wrote = c.wrote)
    (f0 : (if i = 0 then v else .int .i64 (c.st : Int)) = .int .i64 (c'.st : Int)) (f1 : (if i = 1 then v else .bool c.dn) = .bool c'.dn) (f2 : (if i = 2 then v else .int .i64 (c.got : Int)) = .int .i64 (c'.got : Int)) (hm : c'.live = true ∨ c'.st = 1 → most = 4000) :
    CX (w.setCell ⟨g, o + i, none⟩ v) B g o F (C.setIfInBounds (o + i) v) T s so sw most c' := by
  have at' : ∀ j u, C[o + j]? = some u → (C.setIfInBounds (o + i) v)[o + j]? = some (if i = j then v else u) := fun j u hu => by
    by_cases e : i = j
    · subst e
      rw [if_pos rfl]
      exact set_eq hu
    · rw [if_neg e, set_ne (by omega)]
      exact hu
  have a0 := at' 0 _ h.e0
  have a1 := at' 1 _ h.e1
  have a2 := at' 2 _ h.e2
  rw [f0] at a0
  rw [f1] at a1
  rw [f2] at a2
  have far : ∀ j, 3 ≤ j → (C.setIfInBounds (o + i) v)[o + j]? = C[o + j]? := fun j hj => set_ne (by omega)
  refine ⟨⟨setCell_row h.q.c, (far 3 (by omega)).trans h.q.e0, (far 4 (by omega)).trans h.q.e1, (far 5 (by omega)).trans (by rw [ht]; exact h.q.e2), by rw [hx]; exact own_set h.q.r h.q.ne, h.q.hg, h.q.ne, by rw [hx]; exact h.q.e, by rw [hx, ht]; exact h.q.ht, by rw [hx]; exact h.q.hs, by rw [hx]; exact h.q.hl, h.q.hm⟩, a0, a1, a2, (far 6 (by omega)).trans h.e6, (far 7 (by omega)).trans h.e7, ?_, ?_, h.no, h.nw, h.d1, h.d2, h.d3, h.fs, h.fo, h.fw, fun k hk => ?_, hm⟩
  · rw [ho]; exact ⟨own_set h.ro.r h.no, h.ro.e⟩
  · rw [hw]; exact ⟨own_set h.rw.r h.nw, h.rw.e⟩
  · have := h.fF k hk
    exact ⟨this.1, by simp [World.setCell]; exact this.2.1, this.2.2⟩
end

/-- What the connection lies in is another row, that holds the same from o on. -/
theorem CX.moved {w w' : World} {B g o : Nat} {F : Nat → Prop} {C C' : Array Value} {T : TypeId} {s so sw : Value} {most : Int} {c : Wi.Cn} (h : CX w B g o F C T s so sw most c) (hs : w.heap.size ≤ w'.heap.size) (hg : w'.heap[g]? = some (.cells C' T (0, 0))) (hC : ∀ j, j < 8 → C'[o + j]? = C[o + j]?) (hF : ∀ k, F k → w'.heap[k]? = w.heap[k]?) : CX w' B g o F C' T s so sw most c := by
  have ow : ∀ {v : Value} {n : Nat} {vs : List Value}, w.ownsRow B 5 1 v n vs → (∀ k, v.ownBlock = some k → F k) → w'.ownsRow B 5 1 v n vs := fun {v n vs} ho hv => by
    refine ⟨ho.1, ?_⟩
    rcases ho.2 with hn | ⟨b, cap, cur, rfl, hb, hh, r⟩
    · exact .inl hn
    · exact .inr ⟨b, cap, cur, rfl, hb, (hF b (hv b rfl)).trans hh, r⟩
  exact ⟨⟨hg, (hC 3 (by omega)).trans h.q.e0, (hC 4 (by omega)).trans h.q.e1, (hC 5 (by omega)).trans h.q.e2, ow h.q.r h.fs, h.q.hg, h.q.ne, h.q.e, h.q.ht, h.q.hs, h.q.hl, h.q.hm⟩, (hC 0 (by omega)).trans h.e0, (hC 1 (by omega)).trans h.e1, (hC 2 (by omega)).trans h.e2, (hC 6 (by omega)).trans h.e6, (hC 7 (by omega)).trans h.e7, ⟨ow h.ro.r h.fo, h.ro.e⟩, ⟨ow h.rw.r h.fw, h.rw.e⟩, h.no, h.nw, h.d1, h.d2, h.d3, h.fs, h.fo, h.fw, fun k hk => ⟨(h.fF k hk).1, Nat.lt_of_lt_of_le (h.fF k hk).2.1 hs, (h.fF k hk).2.2⟩, h.m4⟩

/-- What lies in block g from o on, 8 cells, and in the blocks of F, has turned; nothing else has. -/
structure Cg (g o : Nat) (F : Nat → Prop) (w : World) (F' : Nat → Prop) (w' : World) : Prop where
  tn : Tn (fun k => k = g ∨ F k) w w'
  blk : ∀ C T, w.heap[g]? = some (.cells C T (0, 0)) → ∃ C', w'.heap[g]? = some (.cells C' T (0, 0)) ∧ C'.size = C.size ∧ ∀ j, j < o ∨ o + 8 ≤ j → C'[j]? = C[j]?
  new : ∀ k, F' k → F k ∨ w.heap.size ≤ k
theorem Cg.of_below {g o : Nat} {F : Nat → Prop} {w w' : World} (h : Below w.heap.size w w') (hg : g < w.heap.size) : Cg g o F w F w' :=
  ⟨.of_below h, fun C T hC => ⟨C, (h.block g hg).trans hC, rfl, fun _ _ => rfl⟩, fun _ h => .inl h⟩
theorem Cg.trans {g o : Nat} {F F' F'' : Nat → Prop} {a b c : World} (h : Cg g o F a F' b) (k : Cg g o F' b F'' c) : Cg g o F a F'' c := by
  refine ⟨h.tn.trans (fun i hi => ?_) k.tn, fun C T hC => ?_, fun i hi => ?_⟩
  · rcases hi with rfl | hi
    · exact .inl (.inl rfl)
    · exact (h.new i hi).imp .inr id
  · obtain ⟨C1, h1, h2, h3⟩ := h.blk C T hC
    obtain ⟨C2, k1, k2, k3⟩ := k.blk C1 T h1
    exact ⟨C2, k1, k2.trans h2, fun j hj => (k3 j hj).trans (h3 j hj)⟩
  · rcases k.new i hi with hi | hi
    · exact h.new i hi
    · exact .inr (Nat.le_trans h.tn.size hi)
theorem Cg.set {g o i : Nat} {F : Nat → Prop} {w : World} {v : Value} (hi : i < 8) : Cg g o F w F (w.setCell ⟨g, o + i, none⟩ v) :=
  ⟨⟨rfl, rfl, rfl, by simp [World.setCell], fun k _ h1 => Below.heap_setCell _ _ _ _ (fun e => h1 (.inl e))⟩, fun C T hC => ⟨_, setCell_row hC, by simp, fun j hj => set_ne (by omega)⟩, fun _ h => .inl h⟩
/-- Of a queue, at o + 3. -/
theorem Cg.of_turn {g o i : Nat} {F F' : Nat → Prop} {w w' : World} {C : Array Value} {T : TypeId} {s v : Value} (h : Turn g s w w') (hs : ∀ k, s.ownBlock = some k → F k) (hg : w.heap[g]? = some (.cells C T (0, 0))) (hg' : w'.heap[g]? = some (.cells (C.setIfInBounds (o + 3 + i) v) T (0, 0))) (hi : i < 5) (hn : ∀ k, F' k → F k ∨ w.heap.size ≤ k) : Cg g o F w F' w' :=
  ⟨.of_turn h (.inl rfl) (fun k hk => .inr (hs k hk)), fun C' T' hC => by
    rw [hg] at hC
    simp only [Option.some.injEq, Obj.cells.injEq, and_true] at hC
    obtain ⟨rfl, rfl⟩ := hC
    exact ⟨_, hg', by simp, fun j hj => set_ne (by omega)⟩, hn⟩

/-- A connection, where what it lies in is not told. -/
def CA (w : World) (B g o : Nat) (F : Nat → Prop) (T : TypeId) (c : Wi.Cn) : Prop := ∃ C s so sw most, CX w B g o F C T s so sw most c
theorem CA.next {w w' : World} {B g o : Nat} {F : Nat → Prop} {T : TypeId} {c : Wi.Cn} (h : CA w B g o F T c) (hb : Below w.heap.size w w') : CA w' B g o F T c := by
  obtain ⟨C, s, so, sw, most, h⟩ := h
  exact ⟨_, _, _, _, _, h.next hb⟩
theorem CA.apart {w w' : World} {B g o : Nat} {F : Nat → Prop} {T : TypeId} {c : Wi.Cn} (h : CA w B g o F T c) {F2 : Nat → Prop} (hT : Tn F2 w w') (hg : ¬ F2 g) (hF : ∀ k, F k → ¬ F2 k) : CA w' B g o F T c := by
  obtain ⟨C, s, so, sw, most, h⟩ := h
  exact ⟨_, _, _, _, _, h.apart hT hg hF⟩
theorem CA.lt {w : World} {B g o : Nat} {F : Nat → Prop} {T : TypeId} {c : Wi.Cn} (h : CA w B g o F T c) : g < w.heap.size := by
  obtain ⟨C, s, so, sw, most, h⟩ := h
  exact h.lt
theorem CA.fF {w : World} {B g o : Nat} {F : Nat → Prop} {T : TypeId} {c : Wi.Cn} (h : CA w B g o F T c) : ∀ k, F k → B ≤ k ∧ k < w.heap.size ∧ k ≠ g := by
  obtain ⟨C, s, so, sw, most, h⟩ := h
  exact h.fF
theorem CA.lower {w : World} {B B' g o : Nat} {F : Nat → Prop} {T : TypeId} {c : Wi.Cn} (h : CA w B g o F T c) (hB : B' ≤ B) : CA w B' g o F T c := by
  obtain ⟨C, s, so, sw, most, h⟩ := h
  exact ⟨_, _, _, _, _, h.lower hB⟩
/-- What was done to a connection: how it stands now, and what has turned. -/
def Cw (B g o : Nat) (F : Nat → Prop) (T : TypeId) (w : World) (c' : Wi.Cn) (w' : World) : Prop := ∃ F', CA w' B g o F' T c' ∧ Cg g o F w F' w'
end Go.Proofs.Ytneifmnlailipaa
