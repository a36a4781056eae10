/- A reply of Smtp goes on: numbered walked. -/
import Derived.Test.YtnodngcfjdghcaaDoorMkTakers
import Derived.Test.YtnodngcfjdghcaaDoorLineStatus
import Derived.Test.YtnodngcfjdghcaaDoorHeld
import Derived.BigQuiet
import Derived.Deep.QuietTactic
namespace Go.Proofs.YtnodngcfjdghcaaDoor
open Go.RowKit

/-- The lines so far. -/
def outLines : Rp.Out → List (List UInt8)
  | .inl m => m.lines
  | .inr (.inl r) => r.lines
  | .inr (.inr _) => []
/-- What a line more does, but for a body's: the lines alone may grow. -/
def NP (w : World) (B g : Nat) (p : Int) (c : ByteArray) (lv bo bp tk : Value) (o : Rp.Out) (e : Ending) (w' : World) : Prop :=
  ∃ wh lv', e = .returned (.tuple #[.bool wh, .int .i64 (Rp.outErr o : Int)]) ∧ MkC w' g p c lv' bo bp tk ∧ Turn g lv w w' ∧ Nx lv lv' w.heap.size ∧ Sl lv' ∧ (Rp.outErr o = 0 → wh = Rp.outDone o ∧ w'.ownsRow B 9 1 lv' (outLines o).length ((outLines o).map sv))
theorem NP.err {w w' : World} {B g : Nat} {p : Int} {c : ByteArray} {lv bo bp tk : Value} {er : Nat} {wh : Bool} (h : MkC w g p c lv bo bp tk) (hb : Below w.heap.size w w') (hv : Sl lv) (he : er ≠ 0) :
    NP w B g p c lv bo bp tk (.inr (.inr er)) (.returned (.tuple #[.bool wh, .int .i64 (er : Int)])) w' := ⟨wh, lv, rfl, h.next hb, .of_below hb, Nx.refl _ _, hv, fun e => absurd e he⟩

theorem toList_ne {a b : List UInt8} (h : a ≠ b) : ((ba a).toList == (ba b).toList) = false := by
  rw [Lib.toList_data, Lib.toList_data]
  exact beq_eq_false_iff_ne.2 h

set_option maxHeartbeats 2000000 in
theorem numbered_bad {w : World} {B g : Nat} {k : List UInt8} {lv bo bp tk : Value} (ls : List (List UInt8)) (h : MkC w g 1 (ba k) lv bo bp tk) (hv : Sl lv) (s : List UInt8) (hs : s.length ≤ 16777216) (hst : Ln.status 1 s = none ∨ ∃ t, Ln.status 1 s = some t ∧ t.code ≠ k) :
    Calls Tryd.prog 31 #[.pointer (some ⟨g, 0, none⟩), .string (ba s)] w (NP w B g 1 (ba k) lv bo bp tk (Rp.next 1 ⟨k, ls, none⟩ s)) := by
  have hS := fun w => status_any 1 s hs w
  have e0 : Rp.next 1 ⟨k, ls, none⟩ s = .inr (.inr 63) := by
    unfold Rp.next
    rcases hst with hst | ⟨t, hst, hk⟩
    · simp [hst]
    · simp [hst, hk]
  rw [e0]
  have fin : ∀ (wh : Bool) w', Below w.heap.size w w' → NP w B g 1 (ba k) lv bo bp tk (.inr (.inr 63)) (.returned (.tuple #[.bool wh, .int .i64 63])) w' := fun wh w' hb => NP.err h hb hv (by decide)
  have FIN := Lib.hid fin
  have c0 := h.c0
  have H := Lib.hid h
  clear fin e0 h hv
  rcases hst with hst | ⟨t, hst, hk⟩
  · rw [hst] at hS
    have hS : ∀ w, Calls Tryd.prog 23 #[.int .i64 1, .string (ba s)] w fun e w' => e = .returned (.tuple #[.agg #[.string ⟨#[]⟩, .bool false, .string ⟨#[]⟩], .bool false]) ∧ Below w.heap.size w w' := hS
    clear hst
    go_enter Tryd.func31, Tryd.ntmps31
    go_wp2_with (go_at_call 23; refine (hS _).mono ?_; rintro e w1 ⟨rfl, hb⟩; clear hS)
    go_quiet (fail)
    simp only [Exit.then]
    go_wp2
    go_ret2
    exact FIN.out _ _ ((hb.alloc hb.size _).trans ⟨rfl, rfl, rfl, Nat.le_refl _, fun _ _ => rfl⟩)
  · rw [hst] at hS
    have hS : ∀ w, Calls Tryd.prog 23 #[.int .i64 1, .string (ba s)] w fun e w' => e = .returned (.tuple #[.agg #[.string (ba t.code), .bool t.more, .string (ba t.text)], .bool true]) ∧ Below w.heap.size w w' := hS
    have hne := toList_ne hk
    clear hst hk
    generalize ba t.code = tc at *
    generalize ba t.text = tt at *
    generalize t.more = tm at *
    generalize ba k = kk at *
    go_enter Tryd.func31, Tryd.ntmps31
    go_wp2_with (go_at_call 23; refine (hS _).mono ?_; rintro e w1 ⟨rfl, hb⟩; clear hS; have c1 := fun o => ((H.out.next hb).next ((Below.refl _ _).alloc (Nat.le_refl _) o)).c1)
    go_quiet (fail)
    simp only [Exit.then]
    go_wp2
    go_ret2
    exact FIN.out _ _ ((hb.alloc hb.size _).trans ⟨rfl, rfl, rfl, Nat.le_refl _, fun _ _ => rfl⟩)
set_option maxHeartbeats 2000000 in
theorem numbered_full {w : World} {B g : Nat} {k : List UInt8} {lv bo bp tk : Value} {ls : List (List UInt8)} (h : MkC w g 1 (ba k) lv bo bp tk) (ho : w.ownsRow B 9 1 lv ls.length (ls.map sv)) (hB : B ≤ w.heap.size) (s : List UInt8) (hs : s.length ≤ 16777216) {t : Ln.Sa} (hst : Ln.status 1 s = some t) (hk : t.code = k) (hl : 20 ≤ ls.length) :
    Calls Tryd.prog 31 #[.pointer (some ⟨g, 0, none⟩), .string (ba s)] w (NP w B g 1 (ba k) lv bo bp tk (Rp.next 1 ⟨k, ls, none⟩ s)) := by
  have hS := fun w => status_any 1 s hs w
  subst hk
  have e0 : Rp.next 1 ⟨t.code, ls, none⟩ s = .inr (.inr 72) := by
    unfold Rp.next
    simp [hst, Rp.add, hl]
    try (cases t.more <;> rfl)
  obtain ⟨OUT, hOUT⟩ : ∃ o : Rp.Out, o = Rp.next 1 ⟨t.code, ls, none⟩ s := ⟨_, rfl⟩
  rw [← hOUT]
  have EO := Lib.hid (hOUT.trans e0)
  clear hOUT
  rw [hst] at hS
  have hS : ∀ w, Calls Tryd.prog 23 #[.int .i64 1, .string (ba s)] w fun e w' => e = .returned (.tuple #[.agg #[.string (ba t.code), .bool t.more, .string (ba t.text)], .bool true]) ∧ Below w.heap.size w w' := hS
  have c0 := h.c0
  have H := Lib.hid h
  have HO := Lib.hid ho
  have HB := Lib.hid hB
  have HL := Lib.hid hl
  clear hst h ho hB hl e0
  obtain ⟨tc, htc⟩ : ∃ tc, tc = ba t.code := ⟨_, rfl⟩
  obtain ⟨tt, htt⟩ : ∃ tt, tt = ba t.text := ⟨_, rfl⟩
  obtain ⟨tm, htm⟩ : ∃ tm, tm = t.more := ⟨_, rfl⟩
  rw [← htc, ← htt, ← htm] at hS
  rw [← htc] at H
  have HTT := Lib.hid htt
  have HTM := Lib.hid htm
  have HTC := Lib.hid htc
  clear htc htt htm
  go_enter Tryd.func31, Tryd.ntmps31
  go_wp2_with (go_at_call 23; refine (hS _).mono ?_; rintro e w1 ⟨rfl, hb⟩; clear hS; have c1 := fun o => ((H.out.next hb).next ((Below.refl _ _).alloc (Nat.le_refl _) o)).c1)
  go_quiet (fail)
  simp only [Exit.then]
  have hb2 : Below w.heap.size w ((w1.alloc (.cells #[.string tc, .bool tm, .string tt] 54)).drewN nq) := (hb.alloc hb.size _).trans ⟨rfl, rfl, rfl, Nat.le_refl _, fun _ _ => rfl⟩
  have hst : St3 ((w1.alloc (.cells #[.string tc, .bool tm, .string tt] 54)).drewN nq) w1.heap.size tc tm tt := St3.new w1 tc tt tm
  have HSZ := Lib.hid hb.size
  generalize (w1.alloc (.cells #[.string tc, .bool tm, .string tt] 54)).drewN nq = w2 at hb2 hst ⊢
  generalize w1.heap.size = sb at hst HSZ ⊢
  clear c1 hb
  have HB2 := Lib.hid hb2
  have HS2 := Lib.hid hst
  clear hb2 hst c0
  go_wp2
  refine wp_region_held_drew (S := fun w' => w'.cell? ⟨sb, 1, none⟩ = some (.bool tm) ∧ w'.cell? ⟨sb, 2, none⟩ = some (.string tt)) (by kernel_rfl) ⟨HS2.out.c1, HS2.out.c2⟩ (fun hH => ?_)
  have HB3 := Lib.hid (show Below w.heap.size w w2.drew from HB2.out.drew)
  have HS3 := Lib.hid (show St3 w2.drew sb tc tm tt from HS2.out)
  clear HB2 HS2
  generalize w2.drew = w3 at hH HB3 HS3 ⊢
  have hc3 := H.out.next HB3.out
  have ho3 := own_below HO.out HB3.out
  have hB3 := Nat.le_trans HB.out HB3.out.size
  have CA := Lib.hid (HTT.out ▸ madd_full t.text hc3 ho3 HL.out)
  refine heldTake (i := 0) (v := ?_) rfl (by kernel_rfl) (by kernel_rfl) (fun _ _ _ h => h) (by rfl) (by assumption) (fun w hSw => ?_) ?_; rotate_left; focus ((try dsimp only at hSw); go_simp; try with_reducible rfl)
  try simp only [Act.put, List.setIfInBounds_toArray, List.set_cons_zero, List.set_cons_succ]
  refine heldTake (i := 1) (v := ?_) rfl (by kernel_rfl) (by kernel_rfl) (fun _ _ _ h => h) (by rfl) (by assumption) (fun w hSw => ?_) ?_; rotate_left; focus ((try dsimp only at hSw); go_simp; try with_reducible rfl)
  try simp only [Act.put, List.setIfInBounds_toArray, List.set_cons_zero, List.set_cons_succ]
  refine heldTake (i := 2) (v := ?_) rfl (by kernel_rfl) (by kernel_rfl) (fun _ _ _ h => h) (by rfl) (by assumption) (fun w hSw => ?_) ?_; rotate_left; focus ((try dsimp only at hSw); go_simp; try with_reducible rfl)
  try simp only [Act.put, List.setIfInBounds_toArray, List.set_cons_zero, List.set_cons_succ]
  refine heldTake (i := 3) (v := ?_) rfl (by kernel_rfl) (by kernel_rfl) (fun _ _ _ h => h) (by rfl) (by assumption) (fun w hSw => ?_) ?_; rotate_left; focus ((try dsimp only at hSw); go_simp; try with_reducible rfl)
  try simp only [Act.put, List.setIfInBounds_toArray, List.set_cons_zero, List.set_cons_succ]
  refine heldTake (i := 4) (v := ?_) rfl (by kernel_rfl) (by kernel_rfl) (fun _ _ _ h => h) (by rfl) (by assumption) (fun w hSw => ?_) ?_; rotate_left; focus ((try dsimp only at hSw); go_simp; try with_reducible rfl)
  try simp only [Act.put, List.setIfInBounds_toArray, List.set_cons_zero, List.set_cons_succ]
  refine heldTake (i := 5) (v := ?_) rfl (by kernel_rfl) (by kernel_rfl) (fun _ _ _ h => h) (by rfl) (by assumption) (fun w hSw => ?_) ?_; rotate_left; focus ((try dsimp only at hSw); go_simp; try with_reducible rfl)
  try simp only [Act.put, List.setIfInBounds_toArray, List.set_cons_zero, List.set_cons_succ]
  -- NEXT 6 Op.call { callee := Callee.value (Operand.func 25), args := #[Operand.tmp 32, Operand.tmp 34], argTypes := #[2
  refine heldNext (i := 6) rfl (by kernel_rfl) (by rfl) (fun K hK => ?_)
  go_simp; go_at_call 25; refine CA.out.mono ?_; rintro e w4 ⟨rfl, hw⟩; rw [← hw]; clear hw; first | (refine hK.out _ _ hH ?_) | (go_wp2_with fail; refine hK.out _ _ hH ?_); clear hK K
  try simp only [Act.put, List.setIfInBounds_toArray, List.set_cons_zero, List.set_cons_succ]
  refine heldTake (i := 7) (v := ?_) rfl (by kernel_rfl) (by kernel_rfl) (fun _ _ _ h => h) (by rfl) (by assumption) (fun w hSw => ?_) ?_; rotate_left; focus ((try dsimp only at hSw); go_simp; try with_reducible rfl)
  try simp only [Act.put, List.setIfInBounds_toArray, List.set_cons_zero, List.set_cons_succ]
  refine heldTake (i := 8) (v := ?_) rfl (by kernel_rfl) (by kernel_rfl) (fun _ _ _ h => h) (by rfl) (by assumption) (fun w hSw => ?_) ?_; rotate_left; focus ((try dsimp only at hSw); go_simp; try with_reducible rfl)
  try simp only [Act.put, List.setIfInBounds_toArray, List.set_cons_zero, List.set_cons_succ]
  refine wpAnyH_done (by kernel_rfl) ?_ _
  simp only [Exit.then]
  go_wp2
  go_ret2
  rw [EO.out, ← HTC.out]
  exact ⟨_, lv, rfl, hc3, .of_below HB3.out, Nx.refl _ _, sl_own ho3, fun e => absurd e (by decide)⟩
set_option maxHeartbeats 2000000 in
theorem numbered_more {w : World} {B g : Nat} {k : List UInt8} {lv bo bp tk : Value} {ls : List (List UInt8)} (h : MkC w g 1 (ba k) lv bo bp tk) (ho : w.ownsRow B 9 1 lv ls.length (ls.map sv)) (hB : B ≤ w.heap.size) (s : List UInt8) (hs : s.length ≤ 16777216) {t : Ln.Sa} (hst : Ln.status 1 s = some t) (hk : t.code = k) (hl : ls.length < 20) :
    Calls Tryd.prog 31 #[.pointer (some ⟨g, 0, none⟩), .string (ba s)] w (NP w B g 1 (ba k) lv bo bp tk (Rp.next 1 ⟨k, ls, none⟩ s)) := by
  have hS := fun w => status_any 1 s hs w
  subst hk
  have e0 : Rp.next 1 ⟨t.code, ls, none⟩ s = if t.more = true then .inl ⟨t.code, ls ++ [t.text], none⟩ else .inr (.inl ⟨t.code, ls ++ [t.text], []⟩) := by
    unfold Rp.next
    simp [hst, Rp.add, Nat.not_le.2 hl]
    try (cases t.more <;> rfl)
  obtain ⟨OUT, hOUT⟩ : ∃ o : Rp.Out, o = Rp.next 1 ⟨t.code, ls, none⟩ s := ⟨_, rfl⟩
  rw [← hOUT]
  have EO := Lib.hid (hOUT.trans e0)
  clear hOUT
  rw [hst] at hS
  have hS : ∀ w, Calls Tryd.prog 23 #[.int .i64 1, .string (ba s)] w fun e w' => e = .returned (.tuple #[.agg #[.string (ba t.code), .bool t.more, .string (ba t.text)], .bool true]) ∧ Below w.heap.size w w' := hS
  have c0 := h.c0
  have H := Lib.hid h
  have HO := Lib.hid ho
  have HB := Lib.hid hB
  have HL := Lib.hid hl
  clear hst h ho hB hl e0
  obtain ⟨tc, htc⟩ : ∃ tc, tc = ba t.code := ⟨_, rfl⟩
  obtain ⟨tt, htt⟩ : ∃ tt, tt = ba t.text := ⟨_, rfl⟩
  obtain ⟨tm, htm⟩ : ∃ tm, tm = t.more := ⟨_, rfl⟩
  rw [← htc, ← htt, ← htm] at hS
  rw [← htc] at H
  have HTT := Lib.hid htt
  have HTM := Lib.hid htm
  have HTC := Lib.hid htc
  clear htc htt htm
  go_enter Tryd.func31, Tryd.ntmps31
  go_wp2_with (go_at_call 23; refine (hS _).mono ?_; rintro e w1 ⟨rfl, hb⟩; clear hS; have c1 := fun o => ((H.out.next hb).next ((Below.refl _ _).alloc (Nat.le_refl _) o)).c1)
  go_quiet (fail)
  simp only [Exit.then]
  have hb2 : Below w.heap.size w ((w1.alloc (.cells #[.string tc, .bool tm, .string tt] 54)).drewN nq) := (hb.alloc hb.size _).trans ⟨rfl, rfl, rfl, Nat.le_refl _, fun _ _ => rfl⟩
  have hst : St3 ((w1.alloc (.cells #[.string tc, .bool tm, .string tt] 54)).drewN nq) w1.heap.size tc tm tt := St3.new w1 tc tt tm
  have HSZ := Lib.hid hb.size
  generalize (w1.alloc (.cells #[.string tc, .bool tm, .string tt] 54)).drewN nq = w2 at hb2 hst ⊢
  generalize w1.heap.size = sb at hst HSZ ⊢
  clear c1 hb
  have HB2 := Lib.hid hb2
  have HS2 := Lib.hid hst
  clear hb2 hst c0
  go_wp2
  refine wp_region_held_drew (S := fun w' => w'.cell? ⟨sb, 1, none⟩ = some (.bool tm) ∧ w'.cell? ⟨sb, 2, none⟩ = some (.string tt)) (by kernel_rfl) ⟨HS2.out.c1, HS2.out.c2⟩ (fun hH => ?_)
  have HB3 := Lib.hid (show Below w.heap.size w w2.drew from HB2.out.drew)
  have HS3 := Lib.hid (show St3 w2.drew sb tc tm tt from HS2.out)
  clear HB2 HS2
  generalize w2.drew = w3 at hH HB3 HS3 ⊢
  have hc3 := H.out.next HB3.out
  have ho3 := own_below HO.out HB3.out
  have hB3 := Nat.le_trans HB.out HB3.out.size
  have CA := Lib.hid (HTT.out ▸ madd_more t.text hc3 ho3 HL.out hB3)
  refine heldTake (i := 0) (v := ?_) rfl (by kernel_rfl) (by kernel_rfl) (fun _ _ _ h => h) (by rfl) (by assumption) (fun w hSw => ?_) ?_; rotate_left; focus ((try dsimp only at hSw); go_simp; try with_reducible rfl)
  try simp only [Act.put, List.setIfInBounds_toArray, List.set_cons_zero, List.set_cons_succ]
  refine heldTake (i := 1) (v := ?_) rfl (by kernel_rfl) (by kernel_rfl) (fun _ _ _ h => h) (by rfl) (by assumption) (fun w hSw => ?_) ?_; rotate_left; focus ((try dsimp only at hSw); go_simp; try with_reducible rfl)
  try simp only [Act.put, List.setIfInBounds_toArray, List.set_cons_zero, List.set_cons_succ]
  refine heldTake (i := 2) (v := ?_) rfl (by kernel_rfl) (by kernel_rfl) (fun _ _ _ h => h) (by rfl) (by assumption) (fun w hSw => ?_) ?_; rotate_left; focus ((try dsimp only at hSw); go_simp; try with_reducible rfl)
  try simp only [Act.put, List.setIfInBounds_toArray, List.set_cons_zero, List.set_cons_succ]
  refine heldTake (i := 3) (v := ?_) rfl (by kernel_rfl) (by kernel_rfl) (fun _ _ _ h => h) (by rfl) (by assumption) (fun w hSw => ?_) ?_; rotate_left; focus ((try dsimp only at hSw); go_simp; try with_reducible rfl)
  try simp only [Act.put, List.setIfInBounds_toArray, List.set_cons_zero, List.set_cons_succ]
  refine heldTake (i := 4) (v := ?_) rfl (by kernel_rfl) (by kernel_rfl) (fun _ _ _ h => h) (by rfl) (by assumption) (fun w hSw => ?_) ?_; rotate_left; focus ((try dsimp only at hSw); go_simp; try with_reducible rfl)
  try simp only [Act.put, List.setIfInBounds_toArray, List.set_cons_zero, List.set_cons_succ]
  refine heldTake (i := 5) (v := ?_) rfl (by kernel_rfl) (by kernel_rfl) (fun _ _ _ h => h) (by rfl) (by assumption) (fun w hSw => ?_) ?_; rotate_left; focus ((try dsimp only at hSw); go_simp; try with_reducible rfl)
  try simp only [Act.put, List.setIfInBounds_toArray, List.set_cons_zero, List.set_cons_succ]
  -- NEXT 6 Op.call { callee := Callee.value (Operand.func 25), args := #[Operand.tmp 32, Operand.tmp 34], argTypes := #[2
  refine heldNext (i := 6) rfl (by kernel_rfl) (by rfl) (fun K hK => ?_)
  go_simp; go_at_call 25; refine CA.out.mono ?_; rintro e w4 ⟨rfl, P4⟩; have S4 : w4.cell? ⟨sb, 1, none⟩ = some (.bool tm) ∧ w4.cell? ⟨sb, 2, none⟩ = some (.string tt) := (by obtain ⟨lv', x1, x2, x3, x4⟩ := P4; have q := HS3.out.same (x3.block sb HS3.out.lt (fun e => by have := H.out.lt; have := HSZ.out; omega) (fun e => by have := (HO.out.lt _ e).2; have := HSZ.out; omega)); exact ⟨q.c1, q.c2⟩); first | (refine hK.out _ _ S4 ?_) | (go_wp2_with fail; refine hK.out _ _ S4 ?_); clear hK K
  try simp only [Act.put, List.setIfInBounds_toArray, List.set_cons_zero, List.set_cons_succ]
  refine heldTake (i := 7) (v := ?_) rfl (by kernel_rfl) (by kernel_rfl) (fun _ _ _ h => h) (by rfl) (by assumption) (fun w hSw => ?_) ?_; rotate_left; focus ((try dsimp only at hSw); go_simp; try with_reducible rfl)
  try simp only [Act.put, List.setIfInBounds_toArray, List.set_cons_zero, List.set_cons_succ]
  refine heldTake (i := 8) (v := ?_) rfl (by kernel_rfl) (by kernel_rfl) (fun _ _ _ h => h) (by rfl) (by assumption) (fun w hSw => ?_) ?_; rotate_left; focus ((try dsimp only at hSw); go_simp; try with_reducible rfl)
  try simp only [Act.put, List.setIfInBounds_toArray, List.set_cons_zero, List.set_cons_succ]
  refine wpAnyH_done (by kernel_rfl) ?_ _
  simp only [Exit.then]
  go_wp2
  go_ret2
  obtain ⟨lv', x1, x2, x3, x4⟩ := P4
  have x4 := x4.lower HB3.out.size
  have x3 := Turn.before HB3.out x3
  have e1 := HTM.out
  rw [EO.out, ← HTC.out]
  cases tm
  · rw [if_neg (by rw [← e1]; decide)]
    exact ⟨_, lv', rfl, x1, x3, x4, sl_own x2, fun _ => ⟨rfl, x2⟩⟩
  · rw [if_pos e1.symm]
    exact ⟨_, lv', rfl, x1, x3, x4, sl_own x2, fun _ => ⟨rfl, x2⟩⟩

/-- 'numbered'. -/
theorem numbered_step {w : World} {B g : Nat} {k : List UInt8} {lv bo bp tk : Value} {ls : List (List UInt8)} (h : MkC w g 1 (ba k) lv bo bp tk) (ho : w.ownsRow B 9 1 lv ls.length (ls.map sv)) (hB : B ≤ w.heap.size) (s : List UInt8) (hs : s.length ≤ 16777216) :
    Calls Tryd.prog 31 #[.pointer (some ⟨g, 0, none⟩), .string (ba s)] w (NP w B g 1 (ba k) lv bo bp tk (Rp.next 1 ⟨k, ls, none⟩ s)) := by
  cases hst : Ln.status 1 s with
  | none => exact numbered_bad ls h (sl_own ho) s hs (.inl hst)
  | some t =>
    by_cases hk : t.code = k
    · by_cases hl : 20 ≤ ls.length
      · exact numbered_full h ho hB s hs hst hk hl
      · exact numbered_more h ho hB s hs hst hk (Nat.not_le.1 hl)
    · exact numbered_bad ls h (sl_own ho) s hs (.inr ⟨t, hst, hk⟩)
end Go.Proofs.YtnodngcfjdghcaaDoor
