/- A maker of replies as an object: what it holds in the middle of something, its footprint; what a step does. -/
import Derived.Test.YtnodngcfjdghcaaDoorMkFram
namespace Go.Proofs.YtnodngcfjdghcaaDoor
namespace Rp
/-- What is always so of a maker in the middle of a reply. -/
def Ok (p : Int) (m : Mid) : Prop := m.lines.length ≤ 20 ∧ match m.body with
  | none => p = 1 ∨ p = 3
  | some b => p = 2 ∧ b.bs.length ≤ 1000 ∧ 2 * b.n ≤ b.bs.length
theorem add_ok {p : Int} {m : Mid} {x : List UInt8} {last : Bool} {m' : Mid} (hp : p = 1 ∨ p = 3) (h : add m x last = .inl m') : Ok p m' ∧ m'.code = m.code := by
  have hl := add_lines h
  unfold add at h
  split at h
  · cases h
  · split at h
    · cases h
    · cases h
      exact ⟨⟨by simp; omega, hp⟩, rfl⟩
theorem next_ok {p : Int} {m : Mid} {s : List UInt8} {m' : Mid} (hm : Ok p m) (h : next p m s = .inl m') : Ok p m' ∧ m'.code = m.code := by
  obtain ⟨k, ls, bo⟩ := m
  obtain ⟨h20, hb⟩ := hm
  cases bo with
  | none =>
    simp only at hb
    unfold next at h
    dsimp only at h
    split at h
    · split at h
      · split at h
        · exact add_ok hb h
        · cases h
      · cases h
    · split at h
      · split at h
        · exact add_ok hb h
        · exact add_ok hb h
      · exact add_ok hb h
  | some b =>
    obtain ⟨hp, hz, hn⟩ := hb
    unfold next at h
    dsimp only at h
    unfold St.Bd.line at h
    by_cases h46 : s = [46]
    · simp [h46] at h
    · by_cases hf : (1000 : Int) < ((b.bs.length + (St.bare s).length + 2 : Nat) : Int)
      · rw [if_neg h46, if_pos hf] at h
        cases h
      · rw [if_neg h46, if_neg hf] at h
        cases h
        refine ⟨⟨h20, hp, ?_, ?_⟩, rfl⟩
        · simp only [List.length_append, List.length_cons, List.length_nil]; omega
        · simp only [List.length_append, List.length_cons, List.length_nil]; omega
theorem first_ok {p : Int} {s : List UInt8} {body : Bool} {m' : Mid} (hp : p = 1 ∨ p = 2 ∨ p = 3) (h : first p s body = .inl m') : Ok p m' := by
  unfold first at h
  split at h
  · cases h
  · rename_i t ht
    split at h
    · rename_i hc
      cases h
      exact ⟨by simp, hc.1, by simp, by simp⟩
    · split at h
      · rename_i hm
        cases h
        refine ⟨by simp, ?_⟩
        show p = 1 ∨ p = 3
        rcases hp with hp | hp | hp
        · exact .inl hp
        · exfalso
          subst hp
          have : Ln.pop s = some t := ht
          unfold Ln.pop at this
          split at this
          · cases this; cases hm
          · split at this
            · cases this; cases hm
            · split at this
              · cases this; cases hm
              · cases this
        · exact .inr hp
      · cases h
end Rp
open Go.RowKit

/-- The body of a maker that is in the middle of one: not begun yet, or an object of its own. -/
def MkB (w : World) (B : Nat) (F : Nat → Prop) (bp : Value) (b : St.Bd) : Prop :=
  (bp = .pointer none ∧ b = ⟨[], 0⟩) ∨ ∃ gb s, bp = .pointer (some ⟨gb, 0, none⟩) ∧ BO w B gb s 1000 b ∧ F gb ∧ ∀ k, s.ownBlock = some k → F k
/-- What takes its next line. -/
def MkT (w : World) (B g : Nat) (F : Nat → Prop) (p : Int) (bp tk : Value) : Option St.Bd → Prop
  | none => bp = .pointer none ∧ tk = tkv (tkn p) g
  | some b => tk = tkv 33 g ∧ MkB w B F bp b
/-- In the middle of a reply. -/
structure MkI (w : World) (B g : Nat) (F : Nat → Prop) (p : Int) (m : Rp.Mid) (lv bp tk : Value) : Prop where
  ok : Rp.Ok p m
  c : MkC w g p (ba m.code) lv (.slice none 0 0) bp tk
  r : w.ownsRow B 9 1 lv m.lines.length (m.lines.map sv)
  f : ∀ k, lv.ownBlock = some k → F k
  t : MkT w B g F p bp tk m.body
/-- A maker: its block, and what is its own, lie in F. -/
structure MO (w : World) (B g : Nat) (F : Nat → Prop) (p : Int) (st : Option Rp.Mid) : Prop where
  fg : F g
  lt : ∀ k, F k → B ≤ k ∧ k < w.heap.size
  c : match st with
    | none => MkC w g p ⟨#[]⟩ (.slice none 0 0) (.slice none 0 0) (.pointer none) .nilFunc
    | some m => ∃ lv bp tk, MkI w B g F p m lv bp tk

section
variable {w w' : World} {B g : Nat} {F F' : Nat → Prop} {p : Int} {m : Rp.Mid} {lv bp tk : Value} {st : Option Rp.Mid}
/-- What another object does, or new memory, leaves it. -/
theorem MkI.past {G : Nat → Prop} (h : MkI w B g F p m lv bp tk) (ht : Trn G w w') (hg : F g) (ha : Ft F G) : MkI w' B g F p m lv bp tk := by
  refine ⟨h.ok, h.c.same (ht.block g h.c.lt (ha g hg)), ht.own h.r (fun k hk => ha k (h.f k hk)), h.f, ?_⟩
  obtain ⟨k, ls, bo⟩ := m
  cases bo with
  | none => exact h.t
  | some b =>
    refine ⟨h.t.1, ?_⟩
    rcases h.t.2 with hb | ⟨gb, s, e, ho, f1, f2⟩
    · exact .inl hb
    · exact .inr ⟨gb, s, e, ⟨(ht.block gb ho.lt (ha gb f1)).trans ho.c, ht.own ho.o (fun k hk => ha k (f2 k hk)), ho.hg, ho.h0, ho.hm⟩, f1, f2⟩
theorem MO.past {G : Nat → Prop} (h : MO w B g F p st) (ht : Trn G w w') (ha : Ft F G) : MO w' B g F p st := by
  refine ⟨h.fg, fun k hk => ⟨(h.lt k hk).1, Nat.lt_of_lt_of_le (h.lt k hk).2 ht.size⟩, ?_⟩
  cases st with
  | none => exact MkC.same (show MkC w g _ _ _ _ _ _ from h.c) (ht.block g (h.lt g h.fg).2 (ha g h.fg))
  | some m =>
    obtain ⟨lv, bp, tk, hi⟩ := h.c
    exact ⟨lv, bp, tk, hi.past ht h.fg ha⟩
theorem MO.next (h : MO w B g F p st) (hb : Below w.heap.size w w') : MO w' B g F p st :=
  h.past (G := fun _ => False) (Trn.of_below hb) (fun _ _ => id)
theorem MO.ft_new (h : MO w B g F p st) {n : Nat} (hn : w.heap.size ≤ n) : Ft (fun k => k = n) F := fun k hk e => by
  have := (h.lt k e).2; omega
end

/-- What a step does: the answer, and what the maker holds then. -/
def TP (w : World) (B g : Nat) (F : Nat → Prop) (p : Int) (o : Rp.Out) (e : Ending) (w' : World) : Prop :=
  ∃ wh F' c lv bo bp tk, e = .returned (.tuple #[.bool wh, .int .i64 (Rp.outErr o : Int)]) ∧ Trn F w w' ∧ Fx F F' w.heap.size ∧ F' g ∧ (∀ k, F' k → B ≤ k ∧ k < w'.heap.size) ∧ MkC w' g p c lv bo bp tk ∧ Sl lv ∧ Sl bo ∧
    (Rp.outErr o = 0 → wh = Rp.outDone o ∧ (∀ k, lv.ownBlock = some k → F' k ∧ k ≠ g) ∧ match o with
      | .inl m => MkI w' B g F' p m lv bp tk
      | .inr (.inl r) => c = ba r.code ∧ Rd w' lv (r.lines.map sv) ∧ Rd w' bo (r.body.map bv) ∧ (∀ k, bo.ownBlock = some k → w.heap.size ≤ k ∧ k < w'.heap.size)
      | .inr (.inr _) => True)

/-- An error. -/
theorem TP.err {w w' : World} {B g : Nat} {F : Nat → Prop} {p : Int} {er : Nat} {wh : Bool} {c : ByteArray} {lv bo bp tk : Value} (he : er ≠ 0) (ht : Trn F w w') (hg : F g) (hlt : ∀ k, F k → B ≤ k ∧ k < w.heap.size) (hc : MkC w' g p c lv bo bp tk) (hv : Sl lv) (hw : Sl bo) :
    TP w B g F p (.inr (.inr er)) (.returned (.tuple #[.bool wh, .int .i64 (er : Int)])) w' :=
  ⟨wh, F, c, lv, bo, bp, tk, rfl, ht, Fx.refl _ _, hg, fun k hk => ⟨(hlt k hk).1, Nat.lt_of_lt_of_le (hlt k hk).2 ht.size⟩, hc, hv, hw, fun e => absurd e he⟩

/-- What is known of an answer of a reply without a body. -/
def NS (p : Int) (g : Nat) (k : List UInt8) (bp tk : Value) : Rp.Out → Prop
  | .inl m => Rp.Ok p m ∧ m.code = k ∧ m.body = none ∧ bp = .pointer none ∧ tk = tkv (tkn p) g
  | .inr (.inl r) => r.code = k ∧ r.body = []
  | .inr (.inr _) => True
/-- A step that the lines alone grow by. -/
theorem NP.tp {w w' : World} {B g : Nat} {F : Nat → Prop} {p : Int} {k : List UInt8} {lv bp tk : Value} {o : Rp.Out} {e : Ending} (h : NP w B g p (ba k) lv (.slice none 0 0) bp tk o e w') (hg : F g) (hlt : ∀ k, F k → B ≤ k ∧ k < w.heap.size) (hf : ∀ k, lv.ownBlock = some k → F k)
    (ho : NS p g k bp tk o) : TP w B g F p o e w' := by
  obtain ⟨wh, lv', rfl, hc, hT, hN, hv, hz⟩ := h
  by_cases hE : Rp.outErr o = 0
  · obtain ⟨h1, h2⟩ := hz hE
    refine ⟨wh, fun k => (F k ∨ lv'.ownBlock = some k), ba k, lv', .slice none 0 0, bp, tk, rfl, Trn.of_turn hT hg hf, ?_, .inl hg, ?_, hc, hv, sl_nil, fun _ => ⟨h1, fun k hk => ⟨.inr hk, fun e => hc.own_ne h2 (by rw [hk, e])⟩, ?_⟩⟩
    · rintro j (hj | hj)
      · exact .inl hj
      · rcases hN with hN | hN | ⟨i, hN, hi⟩
        · rw [hN] at hj; cases hj
        · exact .inl (hf j (by rw [← hN]; exact hj))
        · rw [hN] at hj; cases hj; exact .inr hi
    · rintro j (hj | hj)
      · exact ⟨(hlt j hj).1, Nat.lt_of_lt_of_le (hlt j hj).2 hT.size⟩
      · exact h2.lt j hj
    · clear hz hE
      rcases o with ⟨mc, ml, mb⟩ | ⟨rc, rl, rb⟩ | er
      · obtain ⟨g1, g2, g3, g4, g5⟩ := ho
        simp only at g2 g3
        subst g2 g3
        exact ⟨g1, g4 ▸ hc, h2, fun j hj => .inr hj, g4, g5⟩
      · obtain ⟨g1, g2⟩ := ho
        simp only at g1 g2
        subst g1 g2
        exact ⟨rfl, .of_own h2, .inl ⟨rfl, none, 0, fun _ => rfl, rfl⟩, fun j hj => by cases hj⟩
      · trivial
  · clear hz
    rcases o with m | r | er
    · exact absurd rfl hE
    · exact absurd rfl hE
    · exact TP.err hE (Trn.of_turn hT hg hf) hg hlt hc hv sl_nil
end Go.Proofs.YtnodngcfjdghcaaDoor
