/- A body goes on: dotted walked. -/
import Derived.Test.YtnodngcfjdghcaaDoorMkObj
import Derived.Test.YtnodngcfjdghcaaDoorStuffLine
namespace Go.Proofs.YtnodngcfjdghcaaDoor
open Go.RowKit

/-- A maker and its body. -/
structure DS (w w2 : World) (B g : Nat) (F F2 : Nat → Prop) (c : ByteArray) (lv bo : Value) (gb : Nat) (s tk : Value) (b : St.Bd) (ls : List (List UInt8)) : Prop where
  mc : MkC w2 g 2 c lv bo (.pointer (some ⟨gb, 0, none⟩)) tk
  o : BO w2 B gb s 1000 b
  r : w2.ownsRow B 9 1 lv ls.length (ls.map sv)
  t : Trn F w w2
  x : Fx F F2 w.heap.size
  fg : F2 g
  fb : F2 gb
  fs : ∀ k, s.ownBlock = some k → F2 k
  fl : ∀ k, lv.ownBlock = some k → F2 k
  lt : ∀ k, F2 k → B ≤ k ∧ k < w2.heap.size
section
variable {w w2 w3 : World} {B g gb : Nat} {F F2 : Nat → Prop} {c : ByteArray} {lv bo s s' tk : Value} {b b' : St.Bd} {ls : List (List UInt8)}
theorem DS.ne (h : DS w w2 B g F F2 c lv bo gb s tk b ls) : g ≠ gb := by
  rintro rfl
  have h1 := h.mc
  have h2 := h.o.c
  unfold MkC at h1
  rw [h1] at h2
  simp only [Option.some.injEq, Obj.cells.injEq] at h2
  exact absurd h2.2.1 (by decide)
theorem DS.line (h : DS w w2 B g F F2 c lv bo gb s tk b ls) (ho : BO w3 B gb s' 1000 b') (hT : Turn gb s w2 w3) (hN : Nx s s' w2.heap.size) :
    DS w w3 B g F (fun k => F2 k ∨ s'.ownBlock = some k) c lv bo gb s' tk b' ls := by
  have hsg : s.ownBlock ≠ some g := own_not h.o.o h.mc (by decide)
  refine ⟨h.mc.same (hT.block g h.mc.lt h.ne hsg), ho, hT.past h.r (own_not h.r h.o.c (by decide)) (own_apart h.r h.o.o (by decide)), h.t.trans h.x (Trn.of_turn hT h.fb h.fs), ?_, .inl h.fg, .inl h.fb, fun k hk => .inr hk, fun k hk => .inl (h.fl k hk), ?_⟩
  · rintro k (hk | hk)
    · exact h.x k hk
    · rcases hN with hN | hN | ⟨i, hN, hi⟩
      · rw [hN] at hk; cases hk
      · exact h.x k (h.fs k (by rw [← hN]; exact hk))
      · rw [hN] at hk; cases hk; exact .inr (Nat.le_trans h.t.size hi)
  · rintro k (hk | hk)
    · exact ⟨(h.lt k hk).1, Nat.lt_of_lt_of_le (h.lt k hk).2 hT.size⟩
    · exact ho.slt k hk
theorem DS.next (h : DS w w2 B g F F2 c lv bo gb s tk b ls) (hb : Below w2.heap.size w2 w3) : DS w w3 B g F F2 c lv bo gb s tk b ls :=
  ⟨h.mc.next hb, h.o.next hb, own_below h.r hb, h.t.then (Trn.of_below hb), h.x, h.fg, h.fb, h.fs, h.fl, fun k hk => ⟨(h.lt k hk).1, Nat.lt_of_lt_of_le (h.lt k hk).2 hb.size⟩⟩
theorem DS.set3 (h : DS w w2 B g F F2 c lv bo gb s tk b ls) (hF : F g) (u : Value) : DS w (w2.setCell ⟨g, 3, none⟩ u) B g F F2 c lv u gb s tk b ls := by
  have hsg : s.ownBlock ≠ some g := own_not h.o.o h.mc (by decide)
  refine ⟨h.mc.set3 u, ⟨(Below.heap_setCell _ _ _ _ h.ne.symm).trans h.o.c, own_setCell h.o.o hsg, h.o.hg, h.o.h0, h.o.hm⟩, own_setCell h.r (h.mc.own_ne h.r), h.t.setCell hF u, h.x, h.fg, h.fb, h.fs, h.fl, fun k hk => ⟨(h.lt k hk).1, ?_⟩⟩
  have := (h.lt k hk).2
  simpa [World.setCell] using this
/-- The body is made. -/
theorem DS.make (hc : MkC w g 2 c lv bo (.pointer none) tk) (ho : w.ownsRow B 9 1 lv ls.length (ls.map sv)) (hF : F g) (hfl : ∀ k, lv.ownBlock = some k → F k) (hlt : ∀ k, F k → B ≤ k ∧ k < w.heap.size) (hb : Below w.heap.size w w2) (hB : B ≤ w.heap.size)
    (h2 : BO w2 w.heap.size w.heap.size (.slice none 0 0) 1000 b) : DS w (w2.setCell ⟨g, 4, none⟩ (.pointer (some ⟨w.heap.size, 0, none⟩))) B g F (fun k => F k ∨ k = w.heap.size) c lv bo w.heap.size (.slice none 0 0) tk b ls := by
  have hc2 := hc.next hb
  have ho2 := own_below ho hb
  have hne : w.heap.size ≠ g := fun e => by have := (hlt g hF).2; omega
  refine ⟨hc2.set4 _, ⟨(Below.heap_setCell _ _ _ _ hne).trans h2.c, own_setCell (ownsRow_lower h2.o hB) (own_not h2.o hc2 (by decide)), hB, h2.h0, h2.hm⟩, own_setCell ho2 (hc2.own_ne ho2), (Trn.of_below hb).setCell hF _, ?_, .inl hF, .inr rfl, (fun k hk => by cases hk), fun k hk => .inl (hfl k hk), ?_⟩
  · rintro k (hk | hk)
    · exact .inl hk
    · exact .inr (Nat.le_of_eq hk.symm)
  · have hl := h2.lt
    rintro k (hk | rfl)
    · refine ⟨(hlt k hk).1, ?_⟩
      have := (hlt k hk).2
      simp [World.setCell]
      omega
    · refine ⟨hB, ?_⟩
      simpa [World.setCell] using hl
/-- What is so behind a line that is not the end. -/
theorem DS.fin (h : DS w w3 B g F F2 c lv (.slice none 0 0) gb s tk b' ls) {k : List UInt8} (hk : c = ba k) (hl : ls.length ≤ 20) (htk : tk = tkv 33 g) {er : Nat} {b0 : St.Bd} {st : List UInt8} (hr : b0.line 1000 st = (false, er, b')) (hb : er = 0 → b'.bs.length ≤ 1000 ∧ 2 * b'.n ≤ b'.bs.length) :
    TP w B g F 2 (Rp.next 2 ⟨k, ls, some b0⟩ st) (.returned (.tuple #[.bool false, .int .i64 (er : Int)])) w3 := by
  have e : Rp.next 2 ⟨k, ls, some b0⟩ st = if er = 0 then .inl ⟨k, ls, some b'⟩ else .inr (.inr er) := by
    rw [Rp.body_next, hr]
    cases er <;> rfl
  rw [e]
  subst hk
  by_cases h0 : er = 0
  · subst h0
    rw [if_pos rfl]
    refine ⟨false, F2, ba k, lv, .slice none 0 0, _, tk, rfl, h.t, h.x, h.fg, h.lt, h.mc, sl_own h.r, sl_nil, fun _ => ⟨rfl, fun j hj => ⟨h.fl j hj, fun e => h.mc.own_ne h.r (by rw [hj, e])⟩, ⟨hl, rfl, (hb rfl).1, (hb rfl).2⟩, h.mc, h.r, h.fl, htk, .inr ⟨gb, s, rfl, h.o, h.fb, h.fs⟩⟩⟩
  · rw [if_neg h0]
    exact ⟨false, F2, ba k, lv, .slice none 0 0, _, tk, rfl, h.t, h.x, h.fg, h.lt, h.mc, sl_own h.r, sl_nil, fun e => absurd e h0⟩
/-- What is so behind the end. -/
theorem DS.done (h : DS w w3 B g F F2 c lv bo gb s tk b ls) {k : List UInt8} (hk : c = ba k) (hv : Sl bo) (hr : Rd w3 bo (b.bs.map bv)) (hn : ∀ j, bo.ownBlock = some j → w.heap.size ≤ j ∧ j < w3.heap.size) :
    TP w B g F 2 (Rp.next 2 ⟨k, ls, some b⟩ [46]) (.returned (.tuple #[.bool true, .int .i64 0])) w3 := by
  have e : Rp.next 2 ⟨k, ls, some b⟩ [46] = .inr (.inl ⟨k, ls, b.bs⟩) := by
    rw [Rp.body_next, St.line_end]
  rw [e]
  subst hk
  exact ⟨true, F2, ba k, lv, bo, _, tk, rfl, h.t, h.x, h.fg, h.lt, h.mc, sl_own h.r, hv, fun _ => ⟨rfl, fun j hj => ⟨h.fl j hj, fun e => h.mc.own_ne h.r (by rw [hj, e])⟩, rfl, .of_own h.r, hr, hn⟩⟩
end
theorem line_cases (b : St.Bd) (s : List UInt8) (hs : s ≠ [46]) : ∃ er b', b.line 1000 s = (false, er, b') ∧ (er = 0 → b'.bs.length ≤ 1000 ∧ (2 * b.n ≤ b.bs.length → 2 * b'.n ≤ b'.bs.length)) := by
  by_cases hf : (1000 : Int) < ((b.bs.length + (St.bare s).length + 2 : Nat) : Int)
  · exact ⟨72, b, St.line_full hs hf, fun e => by cases e⟩
  · refine ⟨0, _, St.line_more hs (by omega), fun _ => ⟨?_, fun h => ?_⟩⟩
    · simp only [List.length_append, List.length_cons, List.length_nil]; omega
    · simp only [List.length_append, List.length_cons, List.length_nil]; omega
set_option maxHeartbeats 4000000 in
theorem dotted_old_more {w : World} {B g : Nat} {F : Nat → Prop} {k : List UInt8} {lv tk : Value} {ls : List (List UInt8)} {b : St.Bd} {gb : Nat} {sb : Value} (hD : DS w w B g F F (ba k) lv (.slice none 0 0) gb sb tk b ls) (hB : B ≤ w.heap.size) (hl : ls.length ≤ 20) (htk : tk = tkv 33 g) (hz : b.bs.length ≤ 1000) (hn : 2 * b.n ≤ b.bs.length) (s : List UInt8) (hs : s.length ≤ 1000000) (h46 : s ≠ [46]) :
    Calls Tryd.prog 33 #[.pointer (some ⟨g, 0, none⟩), .string (ba s)] w (TP w B g F 2 (Rp.next 2 ⟨k, ls, some b⟩ s)) := by
  obtain ⟨er, b', hr, hq⟩ := line_cases b s h46
  have c4 := hD.mc.c4
  have HG := Lib.hid hD.fg
  have HD := Lib.hid hD
  clear hD
  have HB := Lib.hid hB
  have HZ := Lib.hid hz
  have HNN := Lib.hid hn
  have HL := Lib.hid hl
  have HTK := Lib.hid htk
  clear hB hz hn hl htk
  obtain ⟨OUT, hOUT⟩ : ∃ o : Rp.Out, o = Rp.next 2 ⟨k, ls, some b⟩ s := ⟨_, rfl⟩
  rw [← hOUT]
  have EO := Lib.hid hOUT
  clear hOUT
  have HR := Lib.hid hr
  have HQ := Lib.hid hq
  clear hr hq
  go_enter Tryd.func33, Tryd.ntmps33
  have CL := Lib.hid (sline_any w B gb sb 1000 b (ba s) HD.out.o (by have := HZ.out; omega) (by have := HZ.out; have := HNN.out; omega) hs (Nat.le_trans HB.out HD.out.t.size))
  go_wp2_with (go_at_call 38; refine CL.out.mono ?_; rintro e w3 ⟨s', rfl, x1, x2, x3⟩; rw [show (ba s).data.toList = s from rfl, HR.out] at x1; have HD3 := Lib.hid (HD.out.line x1 x2 x3); simp only [show (ba s).data.toList = s from rfl, HR.out]; clear CL x1 x2 x3 HD)
  go_ret2
  rw [EO.out]
  exact HD3.out.fin rfl HL.out HTK.out HR.out (fun e => ⟨(HQ.out e).1, (HQ.out e).2 HNN.out⟩)
set_option maxHeartbeats 4000000 in
theorem dotted_old_end {w : World} {B g : Nat} {F : Nat → Prop} {k : List UInt8} {lv tk : Value} {ls : List (List UInt8)} {b : St.Bd} {gb : Nat} {sb : Value} (hD : DS w w B g F F (ba k) lv (.slice none 0 0) gb sb tk b ls) (hB : B ≤ w.heap.size) (hl : ls.length ≤ 20) (htk : tk = tkv 33 g) (hz : b.bs.length ≤ 1000) (hn : 2 * b.n ≤ b.bs.length) :
    Calls Tryd.prog 33 #[.pointer (some ⟨g, 0, none⟩), .string (ba [46])] w (TP w B g F 2 (Rp.next 2 ⟨k, ls, some b⟩ [46])) := by
  have c4 := hD.mc.c4
  have HG := Lib.hid hD.fg
  have HD := Lib.hid hD
  clear hD
  have HB := Lib.hid hB
  have HZ := Lib.hid hz
  have HNN := Lib.hid hn
  have HL := Lib.hid hl
  have HTK := Lib.hid htk
  clear hB hz hn hl htk
  obtain ⟨OUT, hOUT⟩ : ∃ o : Rp.Out, o = Rp.next 2 ⟨k, ls, some b⟩ [46] := ⟨_, rfl⟩
  rw [← hOUT]
  have EO := Lib.hid hOUT
  clear hOUT
  rw [show ba [46] = (⟨#[46]⟩ : ByteArray) from rfl]
  go_enter Tryd.func33, Tryd.ntmps33
  have CL := Lib.hid (sline_any w B gb sb 1000 b (ba [46]) HD.out.o (by have := HZ.out; omega) (by have := HZ.out; have := HNN.out; omega) (by decide) (Nat.le_trans HB.out HD.out.t.size))
  go_wp2_with (first
    | (go_at_call 38; refine CL.out.mono ?_; rintro e w3 ⟨s', rfl, x1, x2, x3⟩; rw [show (ba [46]).data.toList = [46] from rfl, St.line_end] at x1; have HD3 := Lib.hid (HD.out.line x1 x2 x3); have e4 := HD3.out.mc.c4; have f3 := HD3.out.mc.fr 3; simp only [show (ba [46]).data.toList = [46] from rfl, St.line_end]; clear CL x1 x2 x3 HD c4)
    | (go_at_call 39; refine (sbytes_own HD3.out.o (by have := HZ.out; omega)).mono ?_; rintro e w4 ⟨ao, ac, rfl, y1, y2⟩; have HD4 := Lib.hid ((HD3.out.next y2).set3 HG.out (.slice ao b.bs.length ac)); have YR := Lib.hid y1; have YB := Lib.hid y2; have g3 := (HD3.out.next y2).mc.fr 3; have k3 := (HD3.out.next y2).mc.c3; clear y1 y2))
  go_ret2
  rw [EO.out]
  have hsz := HD3.out.t.size
  have hlt := fun j hj => (YR.out.lt j hj)
  have hgl := HD3.out.mc.lt
  have hne : (Value.slice ao b.bs.length ac).ownBlock ≠ some g := fun e => by have := (hlt _ e).1; omega
  refine HD4.out.done rfl ⟨_, _, _, rfl⟩ (.of_own (own_setCell YR.out hne)) (fun j hj => ?_)
  have := hlt j hj
  refine ⟨by omega, ?_⟩
  simpa [World.setCell] using this.2
set_option maxHeartbeats 4000000 in
theorem dotted_new_more {w : World} {B g : Nat} {F : Nat → Prop} {k : List UInt8} {lv tk : Value} {ls : List (List UInt8)} {b : St.Bd} (hb0 : b = ⟨[], 0⟩) (h : MkC w g 2 (ba k) lv (.slice none 0 0) (.pointer none) tk) (ho : w.ownsRow B 9 1 lv ls.length (ls.map sv)) (hF : F g) (hfl : ∀ k, lv.ownBlock = some k → F k) (hlt : ∀ k, F k → B ≤ k ∧ k < w.heap.size) (hB : B ≤ w.heap.size) (hl : ls.length ≤ 20) (htk : tk = tkv 33 g) (hz : b.bs.length ≤ 1000) (hn : 2 * b.n ≤ b.bs.length) (s : List UInt8) (hs : s.length ≤ 1000000) (h46 : s ≠ [46]) :
    Calls Tryd.prog 33 #[.pointer (some ⟨g, 0, none⟩), .string (ba s)] w (TP w B g F 2 (Rp.next 2 ⟨k, ls, some b⟩ s)) := by
  obtain ⟨er, b', hr, hq⟩ := line_cases b s h46
  have c4 := h.c4
  have H := Lib.hid h
  have HN := Lib.hid (show ∀ w2, Below w.heap.size w w2 → BO w2 w.heap.size w.heap.size (.slice none 0 0) (max 0 1000) ⟨[], 0⟩ → DS w (w2.setCell ⟨g, 4, none⟩ (.pointer (some ⟨w.heap.size, 0, none⟩))) B g F (fun k => F k ∨ k = w.heap.size) (ba k) lv (.slice none 0 0) w.heap.size (.slice none 0 0) tk b ls from fun w2 x1 x2 => DS.make h ho hF hfl hlt x1 hB (hb0 ▸ x2))
  have HG := Lib.hid hF
  clear h ho hfl hlt hF hb0
  have HB := Lib.hid hB
  have HZ := Lib.hid hz
  have HNN := Lib.hid hn
  have HL := Lib.hid hl
  have HTK := Lib.hid htk
  clear hB hz hn hl htk
  obtain ⟨OUT, hOUT⟩ : ∃ o : Rp.Out, o = Rp.next 2 ⟨k, ls, some b⟩ s := ⟨_, rfl⟩
  rw [← hOUT]
  have EO := Lib.hid hOUT
  clear hOUT
  have HR := Lib.hid hr
  have HQ := Lib.hid hq
  clear hr hq
  go_enter Tryd.func33, Tryd.ntmps33
  go_wp2_with (first
    | (go_at_call 37; refine (snew_any 1000 (by decide) w).mono ?_; rintro e w1 ⟨rfl, x1, x2⟩; have HD := Lib.hid (HN.out w1 x1 x2); have f4 := (H.out.next x1).fr 4; have k4 := (H.out.next x1).c4; clear HN x1 x2)
    | (fail))
  generalize w1.setCell ⟨g, 4, none⟩ (.pointer (some ⟨w.heap.size, 0, none⟩)) = w2 at *
  clear c4 f4 k4
  have k4 := HD.out.mc.c4
  have CL := Lib.hid (sline_any w2 B w.heap.size (.slice none 0 0) 1000 b (ba s) HD.out.o (by have := HZ.out; omega) (by have := HZ.out; have := HNN.out; omega) hs (Nat.le_trans HB.out HD.out.t.size))
  go_wp2_with (go_at_call 38; refine CL.out.mono ?_; rintro e w3 ⟨s', rfl, x1, x2, x3⟩; rw [show (ba s).data.toList = s from rfl, HR.out] at x1; have HD3 := Lib.hid (HD.out.line x1 x2 x3); simp only [show (ba s).data.toList = s from rfl, HR.out]; clear CL x1 x2 x3 HD)
  go_ret2
  rw [EO.out]
  exact HD3.out.fin rfl HL.out HTK.out HR.out (fun e => ⟨(HQ.out e).1, (HQ.out e).2 HNN.out⟩)
set_option maxHeartbeats 4000000 in
theorem dotted_new_end {w : World} {B g : Nat} {F : Nat → Prop} {k : List UInt8} {lv tk : Value} {ls : List (List UInt8)} {b : St.Bd} (hb0 : b = ⟨[], 0⟩) (h : MkC w g 2 (ba k) lv (.slice none 0 0) (.pointer none) tk) (ho : w.ownsRow B 9 1 lv ls.length (ls.map sv)) (hF : F g) (hfl : ∀ k, lv.ownBlock = some k → F k) (hlt : ∀ k, F k → B ≤ k ∧ k < w.heap.size) (hB : B ≤ w.heap.size) (hl : ls.length ≤ 20) (htk : tk = tkv 33 g) (hz : b.bs.length ≤ 1000) (hn : 2 * b.n ≤ b.bs.length) :
    Calls Tryd.prog 33 #[.pointer (some ⟨g, 0, none⟩), .string (ba [46])] w (TP w B g F 2 (Rp.next 2 ⟨k, ls, some b⟩ [46])) := by
  have c4 := h.c4
  have H := Lib.hid h
  have HN := Lib.hid (show ∀ w2, Below w.heap.size w w2 → BO w2 w.heap.size w.heap.size (.slice none 0 0) (max 0 1000) ⟨[], 0⟩ → DS w (w2.setCell ⟨g, 4, none⟩ (.pointer (some ⟨w.heap.size, 0, none⟩))) B g F (fun k => F k ∨ k = w.heap.size) (ba k) lv (.slice none 0 0) w.heap.size (.slice none 0 0) tk b ls from fun w2 x1 x2 => DS.make h ho hF hfl hlt x1 hB (hb0 ▸ x2))
  have HG := Lib.hid hF
  clear h ho hfl hlt hF hb0
  have HB := Lib.hid hB
  have HZ := Lib.hid hz
  have HNN := Lib.hid hn
  have HL := Lib.hid hl
  have HTK := Lib.hid htk
  clear hB hz hn hl htk
  obtain ⟨OUT, hOUT⟩ : ∃ o : Rp.Out, o = Rp.next 2 ⟨k, ls, some b⟩ [46] := ⟨_, rfl⟩
  rw [← hOUT]
  have EO := Lib.hid hOUT
  clear hOUT
  rw [show ba [46] = (⟨#[46]⟩ : ByteArray) from rfl]
  go_enter Tryd.func33, Tryd.ntmps33
  go_wp2_with (first
    | (go_at_call 37; refine (snew_any 1000 (by decide) w).mono ?_; rintro e w1 ⟨rfl, x1, x2⟩; have HD := Lib.hid (HN.out w1 x1 x2); have f4 := (H.out.next x1).fr 4; have k4 := (H.out.next x1).c4; clear HN x1 x2)
    | (fail))
  generalize w1.setCell ⟨g, 4, none⟩ (.pointer (some ⟨w.heap.size, 0, none⟩)) = w2 at *
  clear c4 f4 k4
  have k4 := HD.out.mc.c4
  have CL := Lib.hid (sline_any w2 B w.heap.size (.slice none 0 0) 1000 b (ba [46]) HD.out.o (by have := HZ.out; omega) (by have := HZ.out; have := HNN.out; omega) (by decide) (Nat.le_trans HB.out HD.out.t.size))
  go_wp2_with (first
    | (go_at_call 38; refine CL.out.mono ?_; rintro e w3 ⟨s', rfl, x1, x2, x3⟩; rw [show (ba [46]).data.toList = [46] from rfl, St.line_end] at x1; have HD3 := Lib.hid (HD.out.line x1 x2 x3); have e4 := HD3.out.mc.c4; have f3 := HD3.out.mc.fr 3; simp only [show (ba [46]).data.toList = [46] from rfl, St.line_end]; clear CL x1 x2 x3 HD k4)
    | (go_at_call 39; refine (sbytes_own HD3.out.o (by have := HZ.out; omega)).mono ?_; rintro e w4 ⟨ao, ac, rfl, y1, y2⟩; have HD4 := Lib.hid ((HD3.out.next y2).set3 HG.out (.slice ao b.bs.length ac)); have YR := Lib.hid y1; have YB := Lib.hid y2; have g3 := (HD3.out.next y2).mc.fr 3; have k3 := (HD3.out.next y2).mc.c3; clear y1 y2))
  go_ret2
  rw [EO.out]
  have hsz := HD3.out.t.size
  have hlt := fun j hj => (YR.out.lt j hj)
  have hgl := HD3.out.mc.lt
  have hne : (Value.slice ao b.bs.length ac).ownBlock ≠ some g := fun e => by have := (hlt _ e).1; omega
  refine HD4.out.done rfl ⟨_, _, _, rfl⟩ (.of_own (own_setCell YR.out hne)) (fun j hj => ?_)
  have := hlt j hj
  refine ⟨by omega, ?_⟩
  simpa [World.setCell] using this.2
end Go.Proofs.YtnodngcfjdghcaaDoor
