/- A body that is told by a maker, line by line, beside the reference's: what a round does. -/
import Derived.Test.YtnodngcfjdghcaaDoorB3R
namespace Go.Proofs.YtnodngcfjdghcaaDoor
open Go.RowKit

/-- i lines of a body are over. -/
def bdOf (xa : List (List UInt8)) (i : Nat) : St.Bd := ⟨St.join (xa.take i), i⟩
def midOf (H : List UInt8) (b : St.Bd) : Rp.Mid := ⟨[43], [H], some b⟩
def NBo (W : World) (gm gw : Nat) (v : Value) (xa : List (List UInt8)) (H : List UInt8) (i : Nat) (wr : World) : Prop :=
  ∃ Fm go Fo so sw, B3 W gm Fm 2 (some (midOf H (bdOf xa i))) go Fo 2 so gw sw (bdOf xa i) v (xa.map sv) wr ∧ (St.join (xa.take i)).length ≤ 1000
/-- The maker has taken one more, the reference not yet. -/
def NB1 (W : World) (gm gw : Nat) (v : Value) (xa : List (List UInt8)) (H : List UInt8) (i er : Nat) (wr : World) : Prop :=
  ∃ Fm go Fo so sw, B3 W gm Fm 2 (if er = 0 then some (midOf H (bdOf xa (i + 1))) else none) go Fo 2 so gw sw (bdOf xa i) v (xa.map sv) wr ∧ (St.join (xa.take i)).length ≤ 1000 ∧ (er = 0 → (St.join (xa.take (i + 1))).length ≤ 1000)
/-- Both have. -/
def NB2 (W : World) (gm gw : Nat) (v : Value) (xa : List (List UInt8)) (H : List UInt8) (i er : Nat) (wr : World) : Prop :=
  if er = 0 then NBo W gm gw v xa H (i + 1) wr else ∃ Fm, ML W gm Fm 2 none wr
section
variable {W wr w' : World} {gm gw i er : Nat} {v : Value} {xa : List (List UInt8)} {H : List UInt8}
theorem NB1.next (h : NB1 W gm gw v xa H i er wr) (hb : Below wr.heap.size wr w') : NB1 W gm gw v xa H i er w' := by
  obtain ⟨Fm, go, Fo, so, sw, h1, h2⟩ := h
  exact ⟨Fm, go, Fo, so, sw, h1.next hb, h2⟩
theorem NBo.row (h : NBo W gm gw v xa H i wr) : Rd wr v (xa.map sv) := by
  obtain ⟨Fm, go, Fo, so, sw, h1, h2⟩ := h
  exact h1.r.1
theorem NB1.row (h : NB1 W gm gw v xa H i er wr) : Rd wr v (xa.map sv) := by
  obtain ⟨Fm, go, Fo, so, sw, h1, h2⟩ := h
  exact h1.r.1
/-- One more line. -/
theorem body_round (h : NBo W gm gw v xa H i wr) (hi : i < xa.length) (hx : xa.length ≤ 1000000) {D : ByteArray} (hD : D = ba (St.dotted (xa.getD i []))) (hl : (xa.getD i []).length ≤ 1000) :
    ∃ er : Nat, (er = 0 ∨ er = 72) ∧
      Calls Tryd.prog 12 #[.pointer (some ⟨gm, 0, none⟩), .string D, .bool false] wr (fun e w' => ∃ c lo n lc bo k bc, e = .returned (.tuple #[.agg #[.string c, .slice lo n lc, .slice bo k bc], .bool false, .int .i64 (er : Int)]) ∧ NB1 W gm gw v xa H i er w') ∧
      ∀ wz, NB1 W gm gw v xa H i er wz → Calls Tryd.prog 19 #[.pointer (some ⟨gw, 0, none⟩), .string D] wz fun e w' => e = .returned (.tuple #[.bool false, .int .i64 (er : Int)]) ∧ NB2 W gm gw v xa H i er w' := by
  subst hD
  obtain ⟨Fm, go, Fo, so, sw, h1, h2⟩ := h
  have hd : (St.dotted (xa.getD i [])).length ≤ 1000000 := Nat.le_trans (St.dotted_len _) (by omega)
  rcases Rp.body_put (m := 1000) hi with ⟨h3, h4⟩ | h3
  · have h4 : (St.join (xa.take (i + 1))).length ≤ 1000 := by omega
    refine ⟨0, .inl rfl, ?_, ?_⟩
    · have hs : Rp.step 2 (some (midOf H (bdOf xa i))) (St.dotted (xa.getD i [])) false = .inl (midOf H (bdOf xa (i + 1))) := by
        show Rp.next 2 ⟨[43], [H], some (bdOf xa i)⟩ _ = _
        rw [Rp.body_next]
        unfold bdOf
        rw [h3]
        rfl
      refine (h1.line _ hd false hs).mono ?_
      rintro e w' ⟨F', lo, lc, bo, bc, rfl, k1, _, _⟩
      exact ⟨_, lo, _, lc, bo, _, bc, rfl, F', go, Fo, so, sw, k1, h2, fun _ => h4⟩
    · rintro wz ⟨Fm, go, Fo, so, sw, k1, k2, k3⟩
      have hw := k1.want (St.dotted (xa.getD i [])) (by unfold bdOf; simp only; omega) (by unfold bdOf; simp only; omega) hd
      have e : (bdOf xa i).line 1000 (St.dotted (xa.getD i [])) = (false, 0, bdOf xa (i + 1)) := h3
      rw [e] at hw
      refine hw.mono ?_
      rintro e w' ⟨sw', rfl, hq⟩
      refine ⟨rfl, ?_⟩
      unfold NB2
      rw [if_pos rfl]
      exact ⟨Fm, go, Fo, so, sw', hq, h4⟩
  · refine ⟨72, .inr rfl, ?_, ?_⟩
    · have hs : Rp.step 2 (some (midOf H (bdOf xa i))) (St.dotted (xa.getD i [])) false = .inr (.inr 72) := by
        show Rp.next 2 ⟨[43], [H], some (bdOf xa i)⟩ _ = _
        rw [Rp.body_next]
        unfold bdOf
        rw [h3]
        rfl
      refine (h1.line _ hd false hs).mono ?_
      rintro e w' ⟨F', lo, lc, bo, bc, rfl, k1, _, _⟩
      exact ⟨_, lo, _, lc, bo, _, bc, rfl, F', go, Fo, so, sw, k1, h2, fun e => by cases e⟩
    · rintro wz ⟨Fm, go, Fo, so, sw, k1, k2, k3⟩
      have hw := k1.want (St.dotted (xa.getD i [])) (by unfold bdOf; simp only; omega) (by unfold bdOf; simp only; omega) hd
      have e : (bdOf xa i).line 1000 (St.dotted (xa.getD i [])) = (false, 72, bdOf xa i) := h3
      rw [e] at hw
      refine hw.mono ?_
      rintro e w' ⟨sw', rfl, hq⟩
      refine ⟨rfl, ?_⟩
      unfold NB2
      rw [if_neg (by decide)]
      exact ⟨Fm, hq.m.m⟩
/-- The dot alone. -/
theorem body_end (h : NBo W gm gw v xa H xa.length wr) :
    Calls Tryd.prog 12 #[.pointer (some ⟨gm, 0, none⟩), .string ⟨#[46]⟩, .bool false] wr fun e w' => ∃ c lo lc bo bc, e = .returned (.tuple #[.agg #[.string c, .slice lo 1 lc, .slice bo (St.join xa).length bc], .bool true, .int .i64 0]) ∧
      (∃ F, ML W gm F 2 none w') ∧ Rd w' (.slice bo (St.join xa).length bc) ((St.join xa).map bv) ∧ Rd w' v (xa.map sv) := by
  obtain ⟨Fm, go, Fo, so, sw, h1, h2⟩ := h
  have hs : Rp.step 2 (some (midOf H (bdOf xa xa.length))) [46] false = .inr (.inl ⟨[43], [H], St.join xa⟩) := by
    have e : Rp.step 2 (some (midOf H (bdOf xa xa.length))) [46] false = Rp.next 2 ⟨[43], [H], some (bdOf xa xa.length)⟩ [46] := rfl
    rw [e, Rp.body_next, St.line_end]
    unfold bdOf
    rw [List.take_length]
  refine (h1.line [46] (by decide) false hs).mono ?_
  rintro e w' ⟨F', lo, lc, bo, bc, rfl, k1, k2, k3⟩
  exact ⟨_, lo, lc, bo, bc, rfl, ⟨F', k1.m.m⟩, k3.1, k1.r.1⟩
end
end Go.Proofs.YtnodngcfjdghcaaDoor
