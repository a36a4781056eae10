/- Two connections as they lie in memory; 'at' and 'New' walked. -/
import Derived.Test.YtneifmnlailipaaConnGive2
import Derived.Test.YtneifmnlailipaaConnClone
namespace Go.Proofs.Ytneifmnlailipaa
open Go.RowKit

/-- Block g holds two connections; F: what they lie in. -/
def WO (w : World) (B g : Nat) (F : Nat → Prop) (W : Wi.Wm) : Prop := ∃ C F0 F1, w.heap[g]? = some (.cells C 55 (0, 0)) ∧ C.size = 16 ∧ CA w B g 0 F0 55 W.a.norm ∧ CA w B g 8 F1 55 W.b.norm ∧ (∀ k, F0 k → ¬ F1 k) ∧ ∀ k, F k ↔ k = g ∨ F0 k ∨ F1 k
section
variable {w w' : World} {B g : Nat} {F : Nat → Prop} {W : Wi.Wm}
theorem WO.lt (h : WO w B g F W) : g < w.heap.size := by
  obtain ⟨C, F0, F1, hC, _⟩ := h
  exact (Array.getElem?_eq_some_iff.1 hC).1
theorem WO.fg (h : WO w B g F W) : F g := by
  obtain ⟨C, F0, F1, _, _, _, _, _, hF⟩ := h
  exact (hF g).2 (.inl rfl)
theorem WO.fF (h : WO w B g F W) : ∀ k, F k → B ≤ k ∧ k < w.heap.size := by
  have hl := h.lt
  obtain ⟨C, F0, F1, hC, hn, ha, hb, hd, hF⟩ := h
  intro k hk
  rcases (hF k).1 hk with rfl | hk | hk
  · obtain ⟨_, _, _, _, _, hx⟩ := ha
    exact ⟨hx.q.hg, hl⟩
  · exact ⟨(ha.fF k hk).1, (ha.fF k hk).2.1⟩
  · exact ⟨(hb.fF k hk).1, (hb.fF k hk).2.1⟩
theorem WO.hB (h : WO w B g F W) : B ≤ w.heap.size := by
  have := h.fF g h.fg
  omega
theorem WO.apart (h : WO w B g F W) {F2 : Nat → Prop} (hT : Tn F2 w w') (hF2 : ∀ k, F k → ¬ F2 k) : WO w' B g F W := by
  have hg := h.fg
  have hl := h.lt
  obtain ⟨C, F0, F1, hC, hn, ha, hb, hd, hF⟩ := h
  exact ⟨C, F0, F1, (hT.block g hl (hF2 g hg)).trans hC, hn, ha.apart hT (hF2 g hg) (fun k hk => hF2 k ((hF k).2 (.inr (.inl hk)))), hb.apart hT (hF2 g hg) (fun k hk => hF2 k ((hF k).2 (.inr (.inr hk)))), hd, hF⟩
theorem WO.next (h : WO w B g F W) (hb : Below w.heap.size w w') : WO w' B g F W := h.apart (F2 := fun _ => False) (.of_below hb) (fun _ _ e => e)
theorem WO.lower {B' : Nat} (h : WO w B g F W) (hB : B' ≤ B) : WO w B' g F W := by
  obtain ⟨C, F0, F1, hC, hn, ha, hb, hd, hF⟩ := h
  exact ⟨C, F0, F1, hC, hn, ha.lower hB, hb.lower hB, hd, hF⟩
end

/-- What was done to them: how they stand now, and what has turned. -/
def Ws (B g : Nat) (F : Nat → Prop) (w : World) (W' : Wi.Wm) (w' : World) : Prop := ∃ F', WO w' B g F' W' ∧ Tn F w w' ∧ ∀ k, F' k → F k ∨ w.heap.size ≤ k
theorem Ws.below {B g : Nat} {F : Nat → Prop} {w w' : World} {W : Wi.Wm} (h : WO w B g F W) (hb : Below w.heap.size w w') : Ws B g F w W w' := ⟨F, h.next hb, .of_below hb, fun _ h => .inl h⟩
theorem Ws.trans {B g : Nat} {F F' : Nat → Prop} {a b c : World} {W : Wi.Wm} (h : Tn F a b) (hn : ∀ k, F' k → F k ∨ a.heap.size ≤ k) (k : Ws B g F' b W c) : Ws B g F a W c := by
  obtain ⟨F2, h1, h2, h3⟩ := k
  refine ⟨F2, h1, h.trans hn h2, fun i hi => ?_⟩
  rcases h3 i hi with hi | hi
  · exact hn i hi
  · exact .inr (Nat.le_trans h.size hi)

/-- One of the two, by its number, or one that is thrown away: what is done to it is done to them. -/
structure At (w0 : World) (B g : Nat) (F : Nat → Prop) (W : Wi.Wm) (k : Int) (w : World) (g' o : Nat) (F' : Nat → Prop) (T' : TypeId) : Prop where
  ca : CA w B g' o F' T' (W.at k).norm
  below : Below w0.heap.size w0 w
  fr : ∀ b, b < w0.heap.size → ¬ F b → b ≠ g'
  back : ∀ w2 F2 c2, CA w2 B g' o F2 T' c2.norm → Cg g' o F' w F2 w2 → Ws B g F w0 (W.upd k c2) w2

/-- The other one stays, where something was done to the one at o. -/
theorem CA.other {w w2 : World} {B g o o2 : Nat} {F F1 F2 : Nat → Prop} {T : TypeId} {c : Wi.Cn} (h : CA w B g o2 F1 T c) (hG : Cg g o F w F2 w2) (ho : o2 + 8 ≤ o ∨ o + 8 ≤ o2) (hd : ∀ k, F1 k → ¬ F k) : CA w2 B g o2 F1 T c := by
  obtain ⟨C, s, so, sw, most, hx⟩ := h
  obtain ⟨C2, h1, _, h3⟩ := hG.blk C T hx.q.c
  refine ⟨C2, s, so, sw, most, hx.moved hG.tn.size h1 (fun j hj => h3 _ (by omega)) (fun k hk => hG.tn.block k (hx.fF k hk).2.1 (fun e => ?_))⟩
  rcases e with e | e
  · exact (hx.fF k hk).2.2 e
  · exact hd k hk e

section
variable {w : World} {B g : Nat} {F : Nat → Prop} {W : Wi.Wm}
theorem at_zero (h : WO w B g F W) : ∃ F0, At w B g F W 0 w g 0 F0 55 := by
  have hB := h.hB
  have hl := h.lt
  have hg := h.fg
  obtain ⟨C, F0, F1, hC, hn, ha, hb, hd, hF⟩ := h
  refine ⟨F0, ha, Below.refl _ _, fun b _ hb e => hb (e ▸ hg), fun w2 F2 c2 hc hG => ?_⟩
  obtain ⟨C2, k1, k2, _⟩ := hG.blk C _ hC
  refine ⟨fun k => k = g ∨ F2 k ∨ F1 k, ⟨C2, F2, F1, k1, k2.trans hn, hc, hb.other hG (by omega) (fun k h1 h2 => hd k h2 h1), fun k h1 h2 => ?_, fun k => Iff.rfl⟩, hG.tn.mono (fun k hk => .inl ((hF k).2 (hk.imp id .inl))), fun k hk => ?_⟩
  · rcases hG.new k h1 with h1 | h1
    · exact hd k h1 h2
    · have := (hb.fF k h2).2.1
      omega
  · rcases hk with rfl | hk | hk
    · exact .inl hg
    · exact (hG.new k hk).imp (fun h => (hF k).2 (.inr (.inl h))) id
    · exact .inl ((hF k).2 (.inr (.inr hk)))
theorem at_one (h : WO w B g F W) : ∃ F1, At w B g F W 1 w g 8 F1 55 := by
  have hB := h.hB
  have hl := h.lt
  have hg := h.fg
  obtain ⟨C, F0, F1, hC, hn, ha, hb, hd, hF⟩ := h
  refine ⟨F1, hb, Below.refl _ _, fun b _ hb e => hb (e ▸ hg), fun w2 F2 c2 hc hG => ?_⟩
  obtain ⟨C2, k1, k2, _⟩ := hG.blk C _ hC
  refine ⟨fun k => k = g ∨ F0 k ∨ F2 k, ⟨C2, F0, F2, k1, k2.trans hn, ha.other hG (by omega) (fun k h1 h2 => hd k h1 h2), hc, fun k h1 h2 => ?_, fun k => Iff.rfl⟩, hG.tn.mono (fun k hk => .inl ((hF k).2 (hk.imp id .inr))), fun k hk => ?_⟩
  · rcases hG.new k h2 with h2 | h2
    · exact hd k h1 h2
    · have := (ha.fF k h1).2.1
      omega
  · rcases hk with rfl | hk | hk
    · exact .inl hg
    · exact .inl ((hF k).2 (.inr (.inl hk)))
    · exact (hG.new k hk).imp (fun h => (hF k).2 (.inr (.inr h))) id

/-- A connection that nobody has. -/
def Z8 : Array Value := #[.int .i64 0, .bool false, .int .i64 0, .int .i64 0, .slice none 0 0, .int .i64 0, .slice none 0 0, .slice none 0 0]
theorem ca_zero (w : World) {T : TypeId} {g B : Nat} (h : w.heap[g]? = some (.cells Z8 T (0, 0))) (hB : B ≤ g) : CA w B g 0 (fun _ => False) T Wi.none :=
  ⟨Z8, .slice none 0 0, .slice none 0 0, .slice none 0 0, 0, ⟨h, rfl, rfl, rfl, World.ownsRow_nil _ _ _ _, hB, (fun e => by cases e), fun _ => rfl, Nat.le_refl _, by decide, by decide, by decide⟩, rfl, rfl, rfl, rfl, rfl, ⟨World.ownsRow_nil _ _ _ _, fun _ => rfl⟩, ⟨World.ownsRow_nil _ _ _ _, fun _ => rfl⟩, (fun e => by cases e), (fun e => by cases e), Dj.nil _, Dj.nil _, Dj.nil _, (fun k e => by cases e), (fun k e => by cases e), (fun k e => by cases e), (fun k e => e.elim), (fun e => by rcases e with e | e <;> cases e)⟩
theorem at_none (h : WO w B g F W) {k : Int} (h0 : k ≠ 0) (h1 : k ≠ 1) : At w B g F W k (w.alloc (.cells Z8 52)) w.heap.size 0 (fun _ => False) 52 := by
  have hat : W.at k = Wi.none := by unfold Wi.Wm.at; rw [if_neg h0, if_neg h1]
  have hup : ∀ c2, W.upd k c2 = W := fun c2 => by unfold Wi.Wm.upd; rw [if_neg h0, if_neg h1]
  have hb : Below w.heap.size w (w.alloc (.cells Z8 52)) := (Below.refl _ _).alloc (Nat.le_refl _) _
  refine ⟨?_, hb, fun b hb _ => by omega, fun w2 F2 c2 hc hG => ?_⟩
  · rw [hat]
    exact ca_zero _ (heap_alloc_new _ _) h.hB
  · rw [hup]
    refine Ws.below h (hb.trans ⟨hG.tn.os, hG.tn.tape, hG.tn.output, hG.tn.size, fun i hi => hG.tn.block i (Nat.lt_of_lt_of_le hi hb.size) (fun e => ?_)⟩)
    rcases e with e | e
    · omega
    · exact e

def AtR (w : World) (B g : Nat) (F : Nat → Prop) (W : Wi.Wm) (k : Int) (e : Ending) (w' : World) : Prop := ∃ g' o F' T', e = .returned (.pointer (some ⟨g', o, none⟩)) ∧ At w B g F W k w' g' o F' T'
/-- 'at'. -/
theorem at_any (h : WO w B g F W) (k : Int) : Calls Try.prog 34 #[.pointer (some ⟨g, 0, none⟩), .int .i64 k] w (AtR w B g F W k) := by
  by_cases h0 : k = 0
  · subst h0
    obtain ⟨F0, ha⟩ := at_zero h
    have HA := Lib.hid ha
    clear h ha
    go_enter Try.func34, Try.ntmps34
    go_wp2
    go_ret
    exact ⟨g, 0, F0, _, rfl, HA.out⟩
  · by_cases h1 : k = 1
    · subst h1
      obtain ⟨F1, ha⟩ := at_one h
      have HA := Lib.hid ha
      clear h ha
      go_enter Try.func34, Try.ntmps34
      go_wp2
      go_ret
      exact ⟨g, 8, F1, _, rfl, HA.out⟩
    · have HA := Lib.hid (at_none h h0 h1)
      by_cases hlt : k < 0
      · clear h h0 h1
        go_enter Try.func34, Try.ntmps34
        go_wp2
        go_ret
        exact ⟨_, 0, _, _, rfl, HA.out⟩
      · have h2 : 2 ≤ k := by omega
        clear h h0 h1
        go_enter Try.func34, Try.ntmps34
        go_wp2
        go_ret
        exact ⟨_, 0, _, _, rfl, HA.out⟩
end

/-- Two connections, just made. -/
def Z16 : Array Value := #[.int .i64 2, .bool false, .int .i64 0, .int .i64 4000, .slice none 0 0, .int .i64 0, .slice none 0 0, .slice none 0 0, .int .i64 0, .bool false, .int .i64 0, .int .i64 0, .slice none 0 0, .int .i64 0, .slice none 0 0, .slice none 0 0]
theorem wo_start (w : World) {g B : Nat} (h : w.heap[g]? = some (.cells Z16 55 (0, 0))) (hB : B ≤ g) : WO w B g (fun k => k = g ∨ False ∨ False) Wi.start :=
  ⟨Z16, fun _ => False, fun _ => False, h, rfl,
    ⟨Z16, .slice none 0 0, .slice none 0 0, .slice none 0 0, 4000, ⟨h, rfl, rfl, rfl, World.ownsRow_nil _ _ _ _, hB, (fun e => by cases e), fun _ => rfl, Nat.le_refl _, by decide, by decide, by decide⟩, rfl, rfl, rfl, rfl, rfl, ⟨World.ownsRow_nil _ _ _ _, fun _ => rfl⟩, ⟨World.ownsRow_nil _ _ _ _, fun _ => rfl⟩, (fun e => by cases e), (fun e => by cases e), Dj.nil _, Dj.nil _, Dj.nil _, (fun k e => by cases e), (fun k e => by cases e), (fun k e => by cases e), (fun k e => e.elim), fun _ => rfl⟩,
    ⟨Z16, .slice none 0 0, .slice none 0 0, .slice none 0 0, 0, ⟨h, rfl, rfl, rfl, World.ownsRow_nil _ _ _ _, hB, (fun e => by cases e), fun _ => rfl, Nat.le_refl _, by decide, by decide, by decide⟩, rfl, rfl, rfl, rfl, rfl, ⟨World.ownsRow_nil _ _ _ _, fun _ => rfl⟩, ⟨World.ownsRow_nil _ _ _ _, fun _ => rfl⟩, (fun e => by cases e), (fun e => by cases e), Dj.nil _, Dj.nil _, Dj.nil _, (fun k e => by cases e), (fun k e => by cases e), (fun k e => by cases e), (fun k e => e.elim), (fun e => by rcases e with e | e <;> cases e)⟩,
    fun _ e => e.elim, fun _ => Iff.rfl⟩

/-- 'New'. -/
theorem wnew_any (w : World) : Calls Try.prog 9 #[] w fun e w' => ∃ g, e = .returned (.pointer (some ⟨g, 0, none⟩)) ∧ Below w.heap.size w w' ∧ w.heap.size ≤ g ∧ ∃ F, WO w' w.heap.size g F Wi.start := by
  go_enter Try.func9, Try.ntmps9
  go_wp2_with fail
  refine (new_any w).mono ?_
  rintro e w5 ⟨rfl, hw5⟩
  have hb5 : Below w.heap.size w w5 := by rw [hw5]; exact (Below.refl _ _).alloc (Nat.le_refl _) _
  have hr5 := heap_alloc_new w (.cells #[.int .i64 4000, .slice none 0 0, .int .i64 0] 48)
  rw [← hw5] at hr5
  have n0 : w5.cell? ⟨w.heap.size, 0, none⟩ = some (.int .i64 4000) := cell_of_row _ _ _ _ _ _ hr5
  have n1 : w5.cell? ⟨w.heap.size, 1, none⟩ = some (.slice none 0 0) := cell_of_row _ _ _ _ _ _ hr5
  have n2 : w5.cell? ⟨w.heap.size, 2, none⟩ = some (.int .i64 0) := cell_of_row _ _ _ _ _ _ hr5
  have HB := Lib.hid hb5
  clear hw5 hb5 hr5
  go_wp2
  go_ret
  have hb1 := HB.out.alloc HB.out.size (.cells #[.int .i64 2, .bool false, .int .i64 0, .int .i64 4000, .slice none 0 0, .int .i64 0, .slice none 0 0, .slice none 0 0] 52)
  have hb2 := hb1.alloc hb1.size (.cells Z16 55)
  have hsz : (w5.alloc (.cells #[.int .i64 2, .bool false, .int .i64 0, .int .i64 4000, .slice none 0 0, .int .i64 0, .slice none 0 0, .slice none 0 0] 52)).heap.size = w5.heap.size + 1 := by simp
  refine ⟨_, rfl, hb2, ?_, _, wo_start _ ?_ ?_⟩
  · rw [← hsz]; exact hb1.size
  · rw [← hsz]; exact heap_alloc_new _ _
  · rw [← hsz]; exact hb1.size
end Go.Proofs.Ytneifmnlailipaa
