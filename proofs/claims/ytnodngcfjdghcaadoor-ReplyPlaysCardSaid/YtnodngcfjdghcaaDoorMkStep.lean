/- A maker's steps: what begins a reply, and what goes on with one. -/
import Derived.Test.YtnodngcfjdghcaaDoorMkBegin
import Derived.Test.YtnodngcfjdghcaaDoorMkDot
namespace Go.Proofs.YtnodngcfjdghcaaDoor
namespace Rp
theorem tail3_code {k r : List UInt8} {t : Ln.Sa} (h : Ln.tail3 k r = some t) : t.code = k := by
  cases r with
  | nil => cases h; rfl
  | cons x r =>
    unfold Ln.tail3 at h
    dsimp only at h
    split at h
    · cases h; rfl
    · split at h
      · cases h; rfl
      · cases h
theorem status_proto {p : Int} {s : List UInt8} {t : Ln.Sa} (h : Ln.status p s = some t) : (p = 1 ∨ p = 2 ∨ p = 3) ∧ (p = 2 → t.more = false) ∧ (p ≠ 2 → t.code ≠ [43]) := by
  unfold Ln.status at h
  by_cases h2 : p = 2
  · subst h2
    refine ⟨.inr (.inl rfl), fun _ => ?_, fun e => absurd rfl e⟩
    rw [if_pos rfl] at h
    unfold Ln.pop at h
    split at h
    · cases h; rfl
    · split at h
      · cases h; rfl
      · split at h
        · cases h; rfl
        · cases h
  · rw [if_neg h2] at h
    by_cases h13 : p = 1 ∨ p = 3
    · rw [if_pos h13] at h
      refine ⟨by omega, fun e => absurd e h2, fun _ => ?_⟩
      have hc : t.code.length = 3 := by
        unfold Ln.num at h
        split at h
        · split at h
          · rw [tail3_code h]; rfl
          · cases h
        · cases h
      intro e
      rw [e] at hc
      cases hc
    · rw [if_neg h13] at h
      cases h
theorem add_kind {p : Int} {g : Nat} {m : Mid} {x : List UInt8} {last : Bool} (hp : p = 1 ∨ p = 3) : NS p g m.code (.pointer none) (tkv (tkn p) g) (add m x last) := by
  unfold add
  split
  · trivial
  · rename_i h20
    split
    · exact ⟨rfl, rfl⟩
    · exact ⟨⟨by simp; omega, hp⟩, rfl, rfl, rfl, rfl⟩
theorem next_kind {p : Int} {g : Nat} {k : List UInt8} {ls : List (List UInt8)} (s : List UInt8) (hp : p = 1 ∨ p = 3) : NS p g k (.pointer none) (tkv (tkn p) g) (next p ⟨k, ls, none⟩ s) := by
  unfold next
  dsimp only
  split
  · split
    · split
      · exact add_kind (m := ⟨k, ls, none⟩) hp
      · trivial
    · trivial
  · split
    · split
      · exact add_kind (m := ⟨k, ls, none⟩) hp
      · exact add_kind (m := ⟨k, ls, none⟩) hp
    · exact add_kind (m := ⟨k, ls, none⟩) hp
/-- An error is one. -/
theorem step_err {p : Int} {st : Option Mid} {s : List UInt8} {body : Bool} {e : Nat} (h : step p st s body = .inr (.inr e)) : e ≠ 0 := by
  have hadd : ∀ {m x last}, add m x last = .inr (.inr e) → e ≠ 0 := by
    intro m x last h
    unfold add at h
    split at h
    · cases h; decide
    · split at h <;> cases h
  cases st with
  | none =>
    have h : first p s body = .inr (.inr e) := h
    unfold first at h
    split at h
    · cases h; decide
    · split at h
      · cases h
      · split at h <;> cases h
  | some m =>
    have h : next p m s = .inr (.inr e) := h
    obtain ⟨k, ls, bo⟩ := m
    unfold next at h
    cases bo with
    | none =>
      dsimp only at h
      split at h
      · split at h
        · split at h
          · exact hadd h
          · cases h; decide
        · cases h; decide
      · split at h
        · split at h
          · exact hadd h
          · exact hadd h
        · exact hadd h
    | some b =>
      dsimp only at h
      split at h
      · cases h
      · cases h
      · rename_i hx _
        cases h
        intro e0
        exact hx e0
end Rp
open Go.RowKit

/-- A reply begins. -/
theorem AddP.tp {w w' : World} {B g : Nat} {F : Nat → Prop} {p : Int} {t : Ln.Sa} {tk : Value} (h : AddP w w.heap.size g p (ba t.code) (.slice none 0 0) (.slice none 0 0) (.pointer none) tk [] t.text w') (hB : B ≤ w.heap.size) (hg : F g) (hlt : ∀ k, F k → B ≤ k ∧ k < w.heap.size) {o : Rp.Out} {wh : Bool}
    (ho : (∃ b, o = .inl ⟨t.code, [t.text], b⟩ ∧ wh = false ∧ Rp.Ok p ⟨t.code, [t.text], b⟩ ∧ tk = tkv (tkn p) g ∧ (b = none ∨ b = some ⟨[], 0⟩)) ∨ (o = .inr (.inl ⟨t.code, [t.text], []⟩) ∧ wh = true)) : TP w B g F p o (.returned (.tuple #[.bool wh, .int .i64 0])) w' := by
  obtain ⟨lv', x1, x2, x3, x4⟩ := h
  have x2' := ownsRow_lower x2 hB
  have hf : ∀ k, lv'.ownBlock = some k → k ≠ g := fun k hk e => x1.own_ne x2 (by rw [hk, e])
  have hT : Trn F w w' := Trn.of_turn x3 hg (fun k hk => by cases hk)
  have hX : Fx F (fun k => F k ∨ lv'.ownBlock = some k) w.heap.size := by
    rintro j (hj | hj)
    · exact .inl hj
    · exact .inr (x2.lt j hj).1
  have hL : ∀ k, (F k ∨ lv'.ownBlock = some k) → B ≤ k ∧ k < w'.heap.size := by
    rintro j (hj | hj)
    · exact ⟨(hlt j hj).1, Nat.lt_of_lt_of_le (hlt j hj).2 x3.size⟩
    · exact x2'.lt j hj
  have hO : Rp.outErr o = 0 := by
    rcases ho with ⟨b, rfl, _⟩ | ⟨rfl, _⟩ <;> rfl
  refine ⟨wh, fun k => (F k ∨ lv'.ownBlock = some k), ba t.code, lv', .slice none 0 0, .pointer none, tk, by rw [hO]; rfl, hT, hX, .inl hg, hL, x1, sl_own x2, sl_nil, fun _ => ?_⟩
  rcases ho with ⟨b, rfl, rfl, hok, rfl, hb⟩ | ⟨rfl, rfl⟩
  · refine ⟨rfl, fun k hk => ⟨.inr hk, hf k hk⟩, hok, x1, x2', fun k hk => .inr hk, ?_⟩
    rcases hb with rfl | rfl
    · exact ⟨rfl, rfl⟩
    · have hp : p = 2 := hok.2.1
      subst hp
      exact ⟨rfl, .inl ⟨rfl, rfl⟩⟩
  · exact ⟨rfl, fun k hk => ⟨.inr hk, hf k hk⟩, rfl, .of_own x2, .inl ⟨rfl, none, 0, fun _ => rfl, rfl⟩, fun k hk => by cases hk⟩

theorem begin_step {w : World} {B g : Nat} {F : Nat → Prop} {p : Int} (h : MO w B g F p none) (hB : B ≤ w.heap.size) (s : List UInt8) (hs : s.length ≤ 16777216) (body : Bool) :
    Calls Tryd.prog 20 #[.pointer (some ⟨g, 0, none⟩), .string (ba s), .bool body] w (TP w B g F p (Rp.first p s body)) := by
  have hc : MkC w g p ⟨#[]⟩ (.slice none 0 0) (.slice none 0 0) (.pointer none) .nilFunc := h.c
  cases hst : Ln.status p s with
  | none =>
    have e : Rp.first p s body = .inr (.inr 63) := by unfold Rp.first; rw [hst]
    rw [e]
    refine (begin_none body hc s hs hst).mono ?_
    rintro e w' ⟨rfl, hb⟩
    exact TP.err (by decide) (.of_below hb) h.fg h.lt (hc.next hb) sl_nil sl_nil
  | some t =>
    obtain ⟨hp, h2, h3⟩ := Rp.status_proto hst
    have e : Rp.first p s body = if p = 2 ∧ body = true ∧ t.code = [43] then .inl ⟨t.code, [t.text], some ⟨[], 0⟩⟩ else if t.more = true then .inl ⟨t.code, [t.text], none⟩ else .inr (.inl ⟨t.code, [t.text], []⟩) := by unfold Rp.first; rw [hst]
    rw [e]
    cases hm : t.more with
    | true =>
      have hne : p ≠ 2 := fun e => by rw [h2 e] at hm; cases hm
      rw [if_neg (fun e => hne e.1), if_pos rfl]
      refine (begin_more body hc s hs hst hm hp).mono ?_
      rintro e w' ⟨rfl, hA⟩
      exact hA.tp hB h.fg h.lt (.inl ⟨none, rfl, rfl, ⟨by simp, by omega⟩, rfl, .inl rfl⟩)
    | false =>
      cases body with
      | false =>
        rw [if_neg (fun e => by cases e.2.1), if_neg (by decide)]
        refine (begin_nobody hc s hs hst hm).mono ?_
        rintro e w' ⟨rfl, hA⟩
        exact hA.tp hB h.fg h.lt (.inr ⟨rfl, rfl⟩)
      | true =>
        by_cases hk : t.code = [43]
        · have h22 : p = 2 := Decidable.byContradiction fun e => h3 e hk
          rw [if_pos ⟨h22, rfl, hk⟩]
          refine (begin_plus hc s hs hst hm hp hk).mono ?_
          rintro e w' ⟨rfl, hA⟩
          exact hA.tp hB h.fg h.lt (.inl ⟨some ⟨[], 0⟩, rfl, rfl, ⟨by simp, h22, by simp, by simp⟩, rfl, .inr rfl⟩)
        · rw [if_neg (fun e => hk e.2.2), if_neg (by decide)]
          refine (begin_other hc s hs hst hm hk).mono ?_
          rintro e w' ⟨rfl, hA⟩
          exact hA.tp hB h.fg h.lt (.inr ⟨rfl, rfl⟩)

/-- What takes its next line. -/
def kOf (p : Int) (m : Rp.Mid) : Nat := match m.body with | none => tkn p | some _ => 33
theorem take_step {w : World} {B g : Nat} {F : Nat → Prop} {p : Int} {m : Rp.Mid} {lv bp tk : Value} (h : MkI w B g F p m lv bp tk) (hg : F g) (hlt : ∀ k, F k → B ≤ k ∧ k < w.heap.size) (hB : B ≤ w.heap.size) (s : List UInt8) (hs : s.length ≤ 1000000) :
    tk = tkv (kOf p m) g ∧ (kOf p m = 31 ∨ kOf p m = 32 ∨ kOf p m = 33) ∧ Calls Tryd.prog (kOf p m) #[.pointer (some ⟨g, 0, none⟩), .string (ba s)] w (TP w B g F p (Rp.next p m s)) := by
  obtain ⟨k, ls, bo⟩ := m
  cases bo with
  | none =>
    have hp : p = 1 ∨ p = 3 := h.ok.2
    obtain ⟨rfl, rfl⟩ := h.t
    have hN := Rp.next_kind (g := g) (k := k) (ls := ls) s hp
    have hc := h.c
    have hr := h.r
    have hf := h.f
    simp only at hc hr
    refine ⟨rfl, ?_, ?_⟩
    · rcases hp with rfl | rfl
      · exact .inl rfl
      · exact .inr (.inl rfl)
    · rcases hp with rfl | rfl
      · exact (numbered_step hc hr hB s (by omega)).mono fun e w' hP => hP.tp hg hlt hf hN
      · exact (framed_step hc hr hB s (by omega)).mono fun e w' hP => hP.tp hg hlt hf hN
  | some b =>
    obtain ⟨h20, hp, hz, hn⟩ := h.ok
    subst hp
    obtain ⟨htk, hb⟩ := h.t
    refine ⟨htk, .inr (.inr rfl), ?_⟩
    have hc := h.c
    have hr := h.r
    have hf := h.f
    simp only at hc hr h20
    rcases hb with ⟨rfl, hb0⟩ | ⟨gb, sb, rfl, ho, f1, f2⟩
    · by_cases h46 : s = [46]
      · subst h46
        exact dotted_new_end hb0 hc hr hg hf hlt hB h20 htk hz hn
      · exact dotted_new_more hb0 hc hr hg hf hlt hB h20 htk hz hn s hs h46
    · have hD : DS w w B g F F (ba k) lv (.slice none 0 0) gb sb tk b ls := ⟨hc, ho, hr, Trn.refl _ _, Fx.refl _ _, hg, f1, f2, hf, hlt⟩
      by_cases h46 : s = [46]
      · subst h46
        exact dotted_old_end hD hB h20 htk hz hn
      · exact dotted_old_more hD hB h20 htk hz hn s hs h46
end Go.Proofs.YtnodngcfjdghcaaDoor
