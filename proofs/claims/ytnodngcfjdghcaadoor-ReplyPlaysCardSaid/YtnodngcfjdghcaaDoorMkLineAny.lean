/- A maker's Line, and Busy, as a law has them. -/
import Derived.Test.YtnodngcfjdghcaaDoorMkLine
namespace Go.Proofs.YtnodngcfjdghcaaDoor
open Go.RowKit

/-- 'Line'. -/
theorem mline_any {w : World} {B g : Nat} {F : Nat → Prop} {p : Int} {st : Option Rp.Mid} (h : MO w B g F p st) (s : List UInt8) (hs : s.length ≤ 1000000) (body : Bool) (hB : B ≤ w.heap.size) :
    Calls Tryd.prog 12 #[.pointer (some ⟨g, 0, none⟩), .string (ba s), .bool body] w (LnP w B g F p (Rp.step p st s body)) := by
  cases st with
  | none =>
    have hE := fun e (h : Rp.step p none s body = .inr (.inr e)) => Rp.step_err h
    show Calls _ _ _ _ (LnP w B g F p (Rp.first p s body))
    have hE : ∀ e, Rp.first p s body = .inr (.inr e) → e ≠ 0 := hE
    rcases ho : Rp.first p s body with m' | r | er
    · exact mline_first_more h s hs body hB ho
    · exact mline_first_whole h s hs body hB ho
    · exact mline_first_err h s hs body hB ho (hE er ho)
  | some m =>
    have hE := fun e (h : Rp.step p (some m) s body = .inr (.inr e)) => Rp.step_err h
    show Calls _ _ _ _ (LnP w B g F p (Rp.next p m s))
    have hE : ∀ e, Rp.next p m s = .inr (.inr e) → e ≠ 0 := hE
    obtain ⟨lv, bp, tk, hi⟩ := h.c
    have hk := (take_step hi h.fg h.lt hB s hs).2.1
    have hK : ∀ wz, w.heap.size ≤ wz.heap.size → MO wz B g F p (some m) → ∃ lv bp, MkC wz g p (ba m.code) lv (.slice none 0 0) bp (tkv (kOf p m) g) ∧ Calls Tryd.prog (kOf p m) #[.pointer (some ⟨g, 0, none⟩), .string (ba s)] wz (TP wz B g F p (Rp.next p m s)) := by
      intro wz hwz hz
      obtain ⟨lv, bp, tk, hi⟩ := hz.c
      obtain ⟨rfl, _, hG⟩ := take_step hi hz.fg hz.lt (Nat.le_trans hB hwz) s hs
      exact ⟨lv, bp, hi.c, hG⟩
    clear hi
    rcases hk with hk | hk | hk
    all_goals
      rw [hk] at hK
      rcases ho : Rp.next p m s with m' | r | er
    · exact mline_numbered_more h s hs body hB hK ho
    · exact mline_numbered_whole h s hs body hB hK ho
    · exact mline_numbered_err h s hs body hB hK ho (hE er ho)
    · exact mline_framed_more h s hs body hB hK ho
    · exact mline_framed_whole h s hs body hB hK ho
    · exact mline_framed_err h s hs body hB hK ho (hE er ho)
    · exact mline_dotted_more h s hs body hB hK ho
    · exact mline_dotted_whole h s hs body hB hK ho
    · exact mline_dotted_err h s hs body hB hK ho (hE er ho)

/-- 'Busy'. -/
theorem mbusy_any {w : World} {B g : Nat} {F : Nat → Prop} {p : Int} {st : Option Rp.Mid} (h : MO w B g F p st) :
    Calls Tryd.prog 15 #[.pointer (some ⟨g, 0, none⟩)] w fun e w' => e = .returned (.bool st.isSome) ∧ w = w' := by
  cases st with
  | none => exact mbusy_no (show MkC w g p _ _ _ _ _ from h.c)
  | some m =>
    obtain ⟨lv, bp, tk, hi⟩ := h.c
    have ht := hi.t
    obtain ⟨k, ls, bo⟩ := m
    cases bo with
    | none =>
      obtain ⟨_, rfl⟩ := ht
      exact mbusy_yes hi.c
    | some b =>
      obtain ⟨rfl, _⟩ := ht
      exact mbusy_yes hi.c
/-- 'New'. -/
theorem mnew_mo (p : Int) (w : World) :
    Calls Tryd.prog 10 #[.int .i64 p] w fun e w' => e = .returned (.pointer (some ⟨w.heap.size, 0, none⟩)) ∧ Below w.heap.size w w' ∧ MO w' w.heap.size w.heap.size (fun k => k = w.heap.size) p none := by
  refine (mnew_any p w).mono ?_
  rintro e w' ⟨rfl, hb, hc⟩
  exact ⟨rfl, hb, rfl, fun k hk => by have hk : k = w.heap.size := hk; subst hk; exact ⟨Nat.le_refl _, hc.lt⟩, hc⟩

/-! As a law has it: below the law's beginning nothing has turned. -/
structure ML (W : World) (g : Nat) (F : Nat → Prop) (p : Int) (st : Option Rp.Mid) (wr : World) : Prop where
  o : MO wr W.heap.size g F p st
  b : Below W.heap.size W wr
section
variable {W wr w' : World} {g : Nat} {F F' : Nat → Prop} {p : Int} {st : Option Rp.Mid}
theorem ML.next (h : ML W g F p st wr) (hb : Below wr.heap.size wr w') : ML W g F p st w' := ⟨h.o.next hb, h.b.trans (hb.mono h.b.size)⟩
theorem ML.past {G : Nat → Prop} (h : ML W g F p st wr) (ht : Trn G wr w') (ha : Ft F G) (hG : ∀ k, G k → W.heap.size ≤ k) : ML W g F p st w' :=
  ⟨h.o.past ht ha, h.b.trans (ht.below hG h.b.size)⟩
theorem ML.new (hb : Below W.heap.size W wr) (p : Int) :
    Calls Tryd.prog 10 #[.int .i64 p] wr fun e w' => e = .returned (.pointer (some ⟨wr.heap.size, 0, none⟩)) ∧ ML W wr.heap.size (fun k => k = wr.heap.size) p none w' ∧ Below wr.heap.size wr w' := by
  refine (mnew_mo p wr).mono ?_
  rintro e w' ⟨rfl, h1, h2⟩
  exact ⟨rfl, ⟨⟨h2.fg, fun k hk => ⟨Nat.le_trans hb.size (h2.lt k hk).1, (h2.lt k hk).2⟩, h2.c⟩, hb.trans (h1.mono hb.size)⟩, h1⟩
/-- What Line does, as a law has it. -/
def LnM (W : World) (g : Nat) (F : Nat → Prop) (p : Int) (wr : World) (o : Rp.Out) (e : Ending) (w' : World) : Prop :=
  ∃ F' lo lc bo bc, e = .returned (.tuple #[.agg #[.string (ba (Rp.outRe o).code), .slice lo (Rp.outRe o).lines.length lc, .slice bo (Rp.outRe o).body.length bc], .bool (Rp.outDone o), .int .i64 (Rp.outErr o : Int)]) ∧ ML W g F' p (Rp.outSt o) w' ∧ Trn F wr w' ∧ Fx F F' wr.heap.size ∧
    Td w' F F' wr.heap.size (.slice lo (Rp.outRe o).lines.length lc) ((Rp.outRe o).lines.map sv) ∧ Td w' F F' wr.heap.size (.slice bo (Rp.outRe o).body.length bc) ((Rp.outRe o).body.map bv)
theorem Rd.len {w : World} {v : Value} {vs : List Value} (h : Rd w v vs) : ∃ ao cap, v = .slice ao vs.length cap := by
  rcases h with ⟨rfl, ao, cap, _, rfl⟩ | ⟨b, o, cap, rfl, _⟩
  · exact ⟨_, _, rfl⟩
  · exact ⟨_, _, rfl⟩
theorem ML.line (h : ML W g F p st wr) (s : List UInt8) (hs : s.length ≤ 1000000) (body : Bool) :
    Calls Tryd.prog 12 #[.pointer (some ⟨g, 0, none⟩), .string (ba s), .bool body] wr (LnM W g F p wr (Rp.step p st s body)) := by
  refine (mline_any h.o s hs body h.b.size).mono ?_
  rintro e w' ⟨F', lv, bo, rfl, h1, h2, h3, h4, h5⟩
  obtain ⟨lo, lc, rfl⟩ := h4.1.len
  obtain ⟨co, cc, rfl⟩ := h5.1.len
  rw [List.length_map] at h4 h5 ⊢
  rw [List.length_map]
  exact ⟨F', lo, lc, co, cc, rfl, ⟨h1, h.b.trans (h2.below (fun k hk => (h.o.lt k hk).1) h.b.size)⟩, h2, h3, h4, h5⟩
theorem ML.busy (h : ML W g F p st wr) : Calls Tryd.prog 15 #[.pointer (some ⟨g, 0, none⟩)] wr fun e w' => e = .returned (.bool st.isSome) ∧ wr = w' := mbusy_any h.o
end
end Go.Proofs.YtnodngcfjdghcaaDoor
