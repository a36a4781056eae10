/- What a round of ReplyPlays does: a maker's Line, whose reply is stored in a block of its own, made ahead of it or behind. -/
import Derived.Test.YtnodngcfjdghcaaDoorROne
import Derived.Test.YtnodngcfjdghcaaDoorMt
import Derived.Test.YtnodngcfjdghcaaDoorShortR
namespace Go.Proofs.YtnodngcfjdghcaaDoor
open Go.RowKit

/-- Which lines could have a body. -/
def bodOf (B f : Nat) : Bool := (bits BinOp.and IntKind.u64 ((B : Int) / 2 ^ (f % 64)) 1 == 1)
/-- What the lines from f on make, up to i. -/
def upTo (p : Int) (B f : Nat) (xa : List (List UInt8)) (i : Nat) : Rp.Out := Rp.runs p (bodOf B f) ((xa.take i).drop f)
/-- Where the law's loop stands. -/
def NPl (W : World) (g : Nat) (p : Int) (B : Nat) (v : Value) (xa : List (List UInt8)) (f i : Nat) (wr : World) : Prop :=
  ∃ F st, MT W g F p st v (xa.map sv) wr ∧ f ≤ i ∧ ((f = i ∧ st = none) ∨ (f < i ∧ ∃ m, st = some m ∧ upTo p B f xa i = .inl m)) ∧ ∀ j, f < j → j ≤ i → ∃ m, upTo p B f xa j = .inl m
section
variable {W wr w' : World} {g f i B : Nat} {p : Int} {v : Value} {xa : List (List UInt8)}
theorem NPl.next (h : NPl W g p B v xa f i wr) (hb : Below wr.heap.size wr w') : NPl W g p B v xa f i w' := by
  obtain ⟨F, st, h1, h2⟩ := h
  exact ⟨F, st, h1.next hb, h2⟩
theorem NPl.row (h : NPl W g p B v xa f i wr) : Rd wr v (xa.map sv) := by
  obtain ⟨F, st, h1, h2⟩ := h
  exact h1.r
theorem NPl.base (h : NPl W g p B v xa f i wr) : Below W.heap.size W wr := by
  obtain ⟨F, st, h1, h2⟩ := h
  exact h1.m.b
theorem NPl.le (h : NPl W g p B v xa f i wr) : f ≤ i := by
  obtain ⟨F, st, h1, h2, _⟩ := h
  exact h2
/-- The next line. -/
theorem NPl.step (h : NPl W g p B v xa f i wr) (hi : i < xa.length) : ∃ F st, MT W g F p st v (xa.map sv) wr ∧ Rp.step p st (xa.getD i []) (bodOf B i) = upTo p B f xa (i + 1) := by
  obtain ⟨F, st, h1, h2, h3, h4⟩ := h
  refine ⟨F, st, h1, ?_⟩
  rcases h3 with ⟨rfl, rfl⟩ | ⟨h3, m, rfl, hm⟩
  · unfold upTo
    rw [Rp.drop_one [] hi, Rp.runs_one]
    rfl
  · unfold upTo at hm ⊢
    rw [Rp.runs_next h2 hi hm]
    rfl
theorem NPl.mids (h : NPl W g p B v xa f i wr) (hi : i < xa.length) : Rp.Mids p (bodOf B f) (xa.take (i + 1)) f := by
  obtain ⟨F, st, h1, h2, h3, h4⟩ := h
  intro j hj1 hj2
  rw [List.length_take] at hj2
  have := h4 j hj1 (by omega)
  rwa [List.take_take, Nat.min_eq_left (by omega)]
/-- It goes on. -/
theorem NPl.more {m : Rp.Mid} {F : Nat → Prop} (h : NPl W g p B v xa f i wr) (hm : upTo p B f xa (i + 1) = .inl m) (h1 : MT W g F p (some m) v (xa.map sv) w') : NPl W g p B v xa f (i + 1) w' := by
  obtain ⟨_, st, _, h2, h3, h4⟩ := h
  refine ⟨F, some m, h1, by omega, .inr ⟨by omega, m, rfl, hm⟩, fun j hj1 hj2 => ?_⟩
  rcases Nat.lt_or_ge i j with h | h
  · obtain rfl : j = i + 1 := by omega
    exact ⟨m, hm⟩
  · exact h4 j hj1 h
theorem NPl.anew {F : Nat → Prop} (h1 : MT W g F p none v (xa.map sv) w') (i : Nat) : NPl W g p B v xa i i w' :=
  ⟨F, none, h1, Nat.le_refl _, .inl ⟨rfl, rfl⟩, fun j hj1 hj2 => by omega⟩
end
/-- What Line told; where it lies. -/
structure PLx (W : World) (g : Nat) (F : Nat → Prop) (p : Int) (st : Option Rp.Mid) (v : Value) (vs : List Value) (l b : Value) (ls bs : List Value) (rb : Nat) (w' : World) : Prop where
  m : MT W g F p st v vs w'
  dl : Rd w' l ls
  db : Rd w' b bs
  r : Rb w' rb ⟨#[]⟩ (.slice none 0 0) (.slice none 0 0)
  n0 : ¬ F rb
  n1 : ∀ k, l.ownBlock = some k → k ≠ rb
  n2 : ∀ k, b.ownBlock = some k → k ≠ rb
  n3 : ∀ k, v.ownBlock = some k → k ≠ rb
  n4 : W.heap.size ≤ rb
/-- Stored. -/
structure PLy (W : World) (g : Nat) (F : Nat → Prop) (p : Int) (st : Option Rp.Mid) (v : Value) (vs : List Value) (l b : Value) (ls bs : List Value) (rb : Nat) (c : ByteArray) (w' : World) : Prop where
  m : MT W g F p st v vs w'
  dl : Rd w' l ls
  db : Rd w' b bs
  r : Rb w' rb c l b
section
variable {W wr w' : World} {g rb : Nat} {F : Nat → Prop} {p : Int} {st : Option Rp.Mid} {v l b : Value} {vs ls bs : List Value} {c : ByteArray}
theorem PLx.done (h : PLx W g F p st v vs l b ls bs rb w') (c : ByteArray) : PLy W g F p st v vs l b ls bs rb c (((w'.setCell ⟨rb, 0, none⟩ (.string c)).setCell ⟨rb, 1, none⟩ l).setCell ⟨rb, 2, none⟩ b) := by
  have ht := Trn.set3_one w' rb (.string c) l b
  refine ⟨⟨h.m.m.past ht (fun k hk e => h.n0 (by have e : k = rb := e; rw [← e]; exact hk)) (fun k hk => by have e : k = rb := hk; rw [e]; exact h.n4), rd_past3 h.m.r h.n3 _ _ _, fun k hk => ⟨Nat.lt_of_lt_of_le (h.m.a k hk).1 ht.size, (h.m.a k hk).2⟩⟩, rd_past3 h.dl h.n1 _ _ _, rd_past3 h.db h.n2 _ _ _, h.r.set c l b⟩
theorem PLy.next (h : PLy W g F p st v vs l b ls bs rb c wr) (hb : Below wr.heap.size wr w') : PLy W g F p st v vs l b ls bs rb c w' := ⟨h.m.next hb, h.dl.below hb, h.db.below hb, h.r.same (hb.block _ h.r.lt)⟩
end
def zRep : Obj := .cells #[.string ⟨#[]⟩, .slice none 0 0, .slice none 0 0] 30
section
variable {W w0 : World} {g f i B : Nat} {p : Int} {v : Value} {xa : List (List UInt8)} {O : Rp.Out}
/-- The block is made ahead of the call. -/
theorem pl_ahead (h : NPl W g p B v xa f i w0) (hi : i < xa.length) (hl : (xa.getD i []).length ≤ 1000) (hO : upTo p B f xa (i + 1) = O) :
    Calls Tryd.prog 12 #[.pointer (some ⟨g, 0, none⟩), .string (ba (xa.getD i [])), .bool (bodOf B i)] (w0.alloc (.cells #[.string ⟨#[]⟩, .slice none 0 0, .slice none 0 0] 30)) fun e w' =>
      ∃ F' lo lc bo bc, e = .returned (.tuple #[.agg #[.string (ba (Rp.outRe O).code), .slice lo (Rp.outRe O).lines.length lc, .slice bo (Rp.outRe O).body.length bc], .bool (Rp.outDone O), .int .i64 (Rp.outErr O : Int)]) ∧
        PLx W g F' p (Rp.outSt O) v (xa.map sv) (.slice lo (Rp.outRe O).lines.length lc) (.slice bo (Rp.outRe O).body.length bc) ((Rp.outRe O).lines.map sv) ((Rp.outRe O).body.map bv) w0.heap.size w' := by
  obtain ⟨F, st, h1, h2⟩ := h.step hi
  rw [hO] at h2
  subst h2
  have hb := (Below.refl w0.heap.size w0).alloc (Nat.le_refl _) (.cells #[.string ⟨#[]⟩, .slice none 0 0, .slice none 0 0] 30)
  have hn : ¬ F w0.heap.size := fun e => by have := (h1.m.o.lt _ e).2; omega
  have hr : Rb (w0.alloc (.cells #[.string ⟨#[]⟩, .slice none 0 0, .slice none 0 0] 30)) w0.heap.size ⟨#[]⟩ (.slice none 0 0) (.slice none 0 0) := World.alloc_heap_new w0 _
  have h2 := h1.next hb
  refine (h2.m.line _ (by omega) (bodOf B i)).mono ?_
  rintro e w' ⟨F', lo, lc, bo, bc, rfl, k1, k2, k3, k4, k5⟩
  have hz : w0.heap.size < (w0.alloc (.cells #[.string ⟨#[]⟩, .slice none 0 0, .slice none 0 0] 30)).heap.size := hr.lt
  have hF : ∀ {k}, (F k ∨ (w0.alloc (.cells #[.string ⟨#[]⟩, .slice none 0 0, .slice none 0 0] 30)).heap.size ≤ k) → k ≠ w0.heap.size := by
    rintro k (hk | hk) e
    · exact hn (e ▸ hk)
    · omega
  refine ⟨F', lo, lc, bo, bc, rfl, ⟨⟨k1, k2.rd h2.r (fun k hk => (h2.a k hk).2), fun k hk => ⟨Nat.lt_of_lt_of_le (h2.a k hk).1 k2.size, fun e => ?_⟩⟩, k4.1, k5.1, hr.same (k2.block _ hz hn), fun e => hF (k3 _ e) rfl, fun k hk => hF (k4.2 k hk).1, fun k hk => hF (k5.2 k hk).1, fun k hk e => ?_, h1.m.b.size⟩⟩
  · rcases k3 k e with e | e
    · exact (h2.a k hk).2 e
    · have := (h2.a k hk).1; omega
  · have := (h1.a k hk).1; omega
/-- The block is made behind the call. -/
theorem pl_behind (h : NPl W g p B v xa f i w0) (hi : i < xa.length) (hl : (xa.getD i []).length ≤ 1000) (hO : upTo p B f xa (i + 1) = O) :
    Calls Tryd.prog 12 #[.pointer (some ⟨g, 0, none⟩), .string (ba (xa.getD i [])), .bool (bodOf B i)] w0 fun e w' =>
      ∃ F' lo lc bo bc, e = .returned (.tuple #[.agg #[.string (ba (Rp.outRe O).code), .slice lo (Rp.outRe O).lines.length lc, .slice bo (Rp.outRe O).body.length bc], .bool (Rp.outDone O), .int .i64 (Rp.outErr O : Int)]) ∧
        MT W g F' p (Rp.outSt O) v (xa.map sv) w' ∧
        ∀ c, PLy W g F' p (Rp.outSt O) v (xa.map sv) (.slice lo (Rp.outRe O).lines.length lc) (.slice bo (Rp.outRe O).body.length bc) ((Rp.outRe O).lines.map sv) ((Rp.outRe O).body.map bv) w'.heap.size c (w'.alloc (.cells #[.string c, .slice lo (Rp.outRe O).lines.length lc, .slice bo (Rp.outRe O).body.length bc] 30)) := by
  obtain ⟨F, st, h1, h2⟩ := h.step hi
  rw [hO] at h2
  subst h2
  refine (h1.m.line _ (by omega) (bodOf B i)).mono ?_
  rintro e w' ⟨F', lo, lc, bo, bc, rfl, k1, k2, k3, k4, k5⟩
  have hm : MT W g F' p (Rp.outSt (Rp.step p st (xa.getD i []) (bodOf B i))) v (xa.map sv) w' := ⟨k1, k2.rd h1.r (fun k hk => (h1.a k hk).2), fun k hk => ⟨Nat.lt_of_lt_of_le (h1.a k hk).1 k2.size, fun e => by
    rcases k3 k e with e | e
    · exact (h1.a k hk).2 e
    · have := (h1.a k hk).1; omega⟩⟩
  refine ⟨F', lo, lc, bo, bc, rfl, hm, fun c => ?_⟩
  have hb := (Below.refl w'.heap.size w').alloc (Nat.le_refl _) (.cells #[.string c, .slice lo (Rp.outRe (Rp.step p st (xa.getD i []) (bodOf B i))).lines.length lc, .slice bo (Rp.outRe (Rp.step p st (xa.getD i []) (bodOf B i))).body.length bc] 30)
  exact ⟨hm.next hb, k4.1.below hb, k5.1.below hb, World.alloc_heap_new w' _⟩
/-- What One tells of the lines up to i. -/
theorem pl_one {F : Nat → Prop} {st : Option Rp.Mid} {w1 : World} {ao : Option Addr} {N ac I1 : Nat} (h : NPl W g p B v xa f i w0) (hm : MT W g F p st (.slice ao N ac) (xa.map sv) w1) (hN : N = xa.length) (hi : i < N) (h40 : N ≤ 40) (hx : ∀ x ∈ xa, x.length ≤ 200) (hI : I1 = i + 1) (hO : upTo p B f xa (i + 1) = O) :
    Calls Tryd.prog 13 #[.int .i64 p, .slice ao I1 ac, .int .i64 (f : Int), .bool (bodOf B f)] w1 (OneP w1 I1 O) := by
  subst hO
  have hf := h.le
  have hr : Rd w1 (.slice ao I1 ac) ((xa.take (i + 1)).map sv) := by
    rw [List.map_take, ← hI]
    exact Rd.cutV hm.r (by rw [List.length_map]; exact hN) (by omega)
  have hlen : I1 = (xa.take (i + 1)).length := by rw [List.length_take]; omega
  exact one_any hr hlen (by omega) (by omega) (fun x hx' => hx x (List.mem_of_mem_take hx')) (h.mids (by omega))
end
end Go.Proofs.YtnodngcfjdghcaaDoor
