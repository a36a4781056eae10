/- The reference's queue, walked. -/
import Derived.Test.YtneifmnlailipaaQueueOf
import Derived.Test.YtneifmnlailipaaBits
import Derived.Test.YtneifmnlailipaaHeld
import Derived.StillTailTactics
import Derived.Deep.CutRange
namespace Go.Proofs.Ytneifmnlailipaa
open Go.RowKit

/-- append, at the operation: where nothing is told of where the new slice lies. -/
theorem wp_append_any {o : Oper} {a : Act} {K : Act → World → Prop} {Q : Exit → Act → World → Prop} {w : World} {B n : Nat} {v : Value} {xs : List Value}
    (s x : Operand) (ho : o.op = .call { callee := .builtin .append, args := #[s, x], argTypes := #[28, 28] })
    (hs : a.eval s = v) (hown : w.ownsRow B 5 1 v n xs) (vx : Value) (hvx : a.eval x = vx) (ys : List UInt8) (hx : Rd w vx (ys.map bv)) (N : Nat) (hN : n + ys.length = N) (hn : N ≤ 16777216) (hB : B ≤ w.heap.size)
    (h : ∀ bo c w', w'.ownsRow B 5 1 (.slice bo N c) N (xs ++ ys.map bv) → w.grownBy w' v.ownBlock → K (a.put o.dst (.slice bo N c)) w') : o.wp Try.prog a w K Q := by
  subst hN
  obtain ⟨i0, hi, hz0, hz1, hz2⟩ := info_parts info_u8
  have nothing : ∀ ao cap, ys = [] → (ao = none → cap = 0) → vx = .slice ao 0 cap → o.wp Try.prog a w K Q := by
    rintro ao cap rfl ha rfl
    obtain ⟨bo, cp, rfl, hle⟩ : ∃ bo cp, v = .slice bo n cp ∧ n ≤ cp := by
      rcases hown.2 with ⟨rfl, rfl⟩ | ⟨g, cp, cur, rfl, _, _, h2, _⟩
      · exact ⟨_, _, rfl, Nat.le_refl _⟩
      · exact ⟨_, _, rfl, h2⟩
    have hr := run_append_none (P := Try.prog) w 28 o.type 5 i0 Try.underlying28 hi bo n cp hle ao cap ha
    unfold Oper.wp
    simp [execOp, ho, resolve, invoke, builtin, hs, hvx, hr, Result.andThen]
    exact h _ _ w (by simpa using hown) ⟨rfl, rfl, rfl, Nat.le_refl _, fun _ _ _ => rfl⟩
  rcases hx with ⟨e, ao, cap, ha, hx⟩ | ⟨b, off, cap, hx, g1, g2, g3⟩
  · exact nothing ao cap (by simpa using e) ha hx
  · rw [List.length_map] at hx g1
    rcases Nat.eq_zero_or_pos ys.length with h0 | h0
    · exact nothing (some ⟨b, off, none⟩) cap (List.eq_nil_of_length_eq_zero h0) (fun h => by cases h) (by rw [hx, h0])
    · exact wp_append_lies w s x 28 ho B 5 i0 (.int .u8 0) 1 1 Try.underlying28 hi hz0 hz1 hz2 rfl (by decide) v n xs hs hown ⟨b, off, none⟩ ys.length cap (ys.map bv) (hvx.trans hx) (by simp) (fun j u hj => by rw [Addr.add_lit]; exact g3 j u hj) (bv_cell _) h0 (by unfold maxLen; omega) (by omega) hB _ rfl (fun g cap w' h2 h3 _ _ => h _ _ w' h2 h3)

/-- Block g holds the reference's queue. -/
structure RO (w : World) (B g : Nat) (s : Value) (most : Int) (xs : List UInt8) (t : Nat) : Prop where
  c : w.heap[g]? = some (.cells #[.int .i64 most, .int .i64 (t : Int), s] 72 (0, 0))
  o : w.ownsRow B 5 1 s xs.length (xs.map bv)
  hg : B ≤ g
  ne : s.ownBlock ≠ some g
  ht : t ≤ xs.length
  hs : xs.length ≤ 16777216
  hl : (xs.length : Int) ≤ most
  hm : most < 9223372036854775808

section
variable {w w' : World} {B g t : Nat} {s : Value} {most : Int} {xs : List UInt8}
theorem RO.lt (h : RO w B g s most xs t) : g < w.heap.size := (Array.getElem?_eq_some_iff.1 h.c).1
theorem RO.slt (h : RO w B g s most xs t) : ∀ k, s.ownBlock = some k → B ≤ k ∧ k < w.heap.size := h.o.lt
theorem RO.next (h : RO w B g s most xs t) (hb : Below w.heap.size w w') : RO w' B g s most xs t :=
  ⟨(hb.block _ h.lt).trans h.c, own_below h.o hb, h.hg, h.ne, h.ht, h.hs, h.hl, h.hm⟩
theorem RO.lower {B' : Nat} (h : RO w B g s most xs t) (hB : B' ≤ B) : RO w B' g s most xs t :=
  ⟨h.c, ownsRow_lower h.o hB, Nat.le_trans hB h.hg, h.ne, h.ht, h.hs, h.hl, h.hm⟩
theorem RO.c0 (h : RO w B g s most xs t) : w.cell? ⟨g, 0, none⟩ = some (.int .i64 most) := cell_of_row _ _ _ _ _ _ h.c
theorem RO.c1 (h : RO w B g s most xs t) : w.cell? ⟨g, 1, none⟩ = some (.int .i64 (t : Int)) := cell_of_row _ _ _ _ _ _ h.c
theorem RO.c2 (h : RO w B g s most xs t) : w.cell? ⟨g, 2, none⟩ = some s := cell_of_row _ _ _ _ _ _ h.c
theorem RO.f1 (h : RO w B g s most xs t) : w.frozen? ⟨g, 1, none⟩ = false := frozen_of_row _ _ _ _ _ h.c
theorem RO.f2 (h : RO w B g s most xs t) : w.frozen? ⟨g, 2, none⟩ = false := frozen_of_row _ _ _ _ _ h.c
theorem RO.rd (h : RO w B g s most xs t) : Rd w s (xs.map bv) := .of_own h.o
theorem RO.form (h : RO w B g s most xs t) : ∃ ao cap, s = .slice ao xs.length cap ∧ xs.length ≤ cap ∧ cap ≤ maxLen := by
  rcases h.o.2 with ⟨e, hn⟩ | ⟨b, cap, cur, e, _, _, h1, h2, _⟩
  · exact ⟨none, 0, by rw [e, hn], by omega, by unfold maxLen; omega⟩
  · exact ⟨_, cap, e, h1, h2⟩
theorem RO.apart (h : RO w B g s most xs t) {g' : Nat} {s' : Value} (hT : Turn g' s' w w') (h1 : g ≠ g') (h2 : s'.ownBlock ≠ some g) (h3 : s.ownBlock ≠ some g') (h4 : s.ownBlock = none ∨ s.ownBlock ≠ s'.ownBlock) : RO w' B g s most xs t :=
  ⟨(hT.block _ h.lt h1 h2).trans h.c, hT.own h.o h3 h4, h.hg, h.ne, h.ht, h.hs, h.hl, h.hm⟩
theorem RO.take {k : Nat} (h : RO w B g s most xs t) (ht : k ≤ xs.length) : RO (w.setCell ⟨g, 1, none⟩ (.int .i64 (k : Int))) B g s most xs k := by
  refine ⟨(setCell_row h.c).trans rfl, ?_, h.hg, h.ne, ht, h.hs, h.hl, h.hm⟩
  refine ⟨h.o.1, ?_⟩
  rcases h.o.2 with hn | ⟨b, cap, cur, rfl, hb, hh, r⟩
  · exact .inl hn
  · refine .inr ⟨b, cap, cur, rfl, hb, ?_, r⟩
    rw [Below.heap_setCell _ _ _ _ (fun e => h.ne (by show some b = _; rw [e]))]
    exact hh
/-- A new row stands in the place of the old one. -/
theorem RO.put {w1 : World} {s' : Value} {zs : List UInt8} (h : RO w B g s most xs t) (hb : Below w.heap.size w w1) (ho : w1.ownsRow w.heap.size 5 1 s' zs.length (zs.map bv)) (hB : B ≤ w.heap.size) (ht : t ≤ zs.length) (hs : zs.length ≤ 16777216) (hl : (zs.length : Int) ≤ most) :
    RO (w1.setCell ⟨g, 2, none⟩ s') B g s' most zs t := by
  have hn : s'.ownBlock ≠ some g := fun e => by have := (ho.lt _ e).1; have := h.lt; omega
  refine ⟨(setCell_row ((hb.block _ h.lt).trans h.c)).trans rfl, ?_, h.hg, hn, ht, hs, hl, h.hm⟩
  refine ⟨ho.1, ?_⟩
  rcases ho.2 with hn' | ⟨b, cap, cur, rfl, hb', hh, r⟩
  · exact .inl hn'
  · refine .inr ⟨b, cap, cur, rfl, Nat.le_trans hB hb', ?_, r⟩
    rw [Below.heap_setCell _ _ _ _ (fun e => hn (by show some b = _; rw [e]))]
    exact hh

theorem ro_new (w : World) (m : Int) (h0 : 0 ≤ m) (hm : m < 9223372036854775808) : RO (w.alloc (.cells #[.int .i64 m, .int .i64 0, .slice none 0 0] 72)) w.heap.size w.heap.size (.slice none 0 0) m [] 0 :=
  ⟨heap_alloc_new w _, World.ownsRow_nil _ _ _ _, Nat.le_refl _, (fun h => by cases h), Nat.le_refl _, by simp, by simpa using h0, hm⟩

theorem rnew_any (m : Int) (hm : m < 9223372036854775808) (w : World) :
    Calls Try.prog 33 #[.int .i64 m] w fun e w' => e = .returned (.pointer (some ⟨w.heap.size, 0, none⟩)) ∧ Below w.heap.size w w' ∧ RO w' w.heap.size w.heap.size (.slice none 0 0) (max 0 m) [] 0 := by
  by_cases h : m < 0
  · have e : max 0 m = 0 := by omega
    rw [e]
    have hq := Lib.hid (ro_new w 0 (by omega) (by omega))
    clear e hm
    go_enter Try.func33, Try.ntmps33
    go_wp2
    go_ret
    exact ⟨rfl, (Below.refl _ _).alloc (Nat.le_refl _) _, hq.out⟩
  · have e : max 0 m = m := by omega
    rw [e]
    have hq := Lib.hid (ro_new w m (by omega) (by omega))
    clear e hm
    go_enter Try.func33, Try.ntmps33
    go_wp2
    go_ret
    exact ⟨rfl, (Below.refl _ _).alloc (Nat.le_refl _) _, hq.out⟩

theorem rfull_any (h : RO w B g s most xs t) (v : Value) (ys : List UInt8) (hr : Rd w v (ys.map bv)) (hfull : most < ((xs.length + ys.length : Nat) : Int)) :
    Calls Try.prog 38 #[.pointer (some ⟨g, 0, none⟩), v] w fun e w' => e = .returned (.bool false) ∧ Below w.heap.size w w' := by
  obtain ⟨ao, cap, rfl, hcap, hcm⟩ := h.form
  obtain ⟨bo, cp, rfl, hcp, _⟩ := hr.form
  have c0 := h.c0
  have c2 := h.c2
  have hs := h.hs
  have hl := h.hl
  have hm := h.hm
  generalize xs.length = L at *
  generalize ys.length = Y at *
  obtain ⟨D, hD⟩ : ∃ D, D = most - (L : Int) := ⟨_, rfl⟩
  have i1 : IntKind.i64.wrap (most - (L : Int)) = D := by rw [wraps_i64 _ (by omega) (by omega)]; omega
  have i2 : D < (Y : Int) := by omega
  have HB := Lib.hid ((Below.refl w.heap.size w).drew)
  clear h hr hcap hD hl hm hfull
  go_enter Try.func38, Try.ntmps38
  go_wp2
  go_region
  all_goals
    go_wp2
    go_ret
    exact ⟨rfl, HB.out⟩

theorem rput_any (h : RO w B g s most xs t) (v : Value) (ys : List UInt8) (hr : Rd w v (ys.map bv)) (hys : xs.length + ys.length ≤ 16777216) (hroom : ((xs.length + ys.length : Nat) : Int) ≤ most) (hB : B ≤ w.heap.size) :
    Calls Try.prog 38 #[.pointer (some ⟨g, 0, none⟩), v] w fun e w' => ∃ s', e = .returned (.bool true) ∧ RO w' B g s' most (xs ++ ys) t ∧ Turn g (.slice none 0 0) w w' ∧ (∀ k, s'.ownBlock = some k → w.heap.size ≤ k) := by
  obtain ⟨ao, cap, hsf, hcap, hcm⟩ := h.form
  obtain ⟨bo, cp, hvf, hcp, _⟩ := hr.form
  have c0 := h.c0
  have c2 := h.c2
  have hs := h.hs
  have hl := h.hl
  have hm := h.hm
  have h1 := h.next ((Below.refl w.heap.size w).drew)
  have r1 := hr.below ((Below.refl w.heap.size w).drew)
  have HB := Lib.hid ((Below.refl w.heap.size w).drew)
  subst hsf
  subst hvf
  have H1 := Lib.hid h1
  have R1 := Lib.hid r1
  have HYS := Lib.hid hys
  have HROOM := Lib.hid hroom
  generalize hL : xs.length = L at *
  generalize hY : ys.length = Y at *
  have HL := Lib.hid hL
  have HY := Lib.hid hY
  obtain ⟨D, hD⟩ : ∃ D, D = most - (L : Int) := ⟨_, rfl⟩
  have i1 : IntKind.i64.wrap (most - (L : Int)) = D := by rw [wraps_i64 _ (by omega) (by omega)]; omega
  have i2 : (D < (Y : Int)) = False := eq_false (by omega)
  clear h h1 r1 hr hcap hD hl hm hL hY hroom hcp
  go_enter Try.func38, Try.ntmps38
  go_wp2
  go_region
  all_goals
    have hsz : w.drew.heap.size = w.heap.size := rfl
    generalize w.drew = w1 at *
    have HSZ := Lib.hid hsz
    clear hsz
    have d2 := H1.out.c2
    have g2 := H1.out.f2
    clear c0 c2
    have ha : Below w1.heap.size w1 (w1.alloc (.cells #[] 5)) := (Below.refl _ _).alloc (Nat.le_refl _) _
    have HRA := Lib.hid (H1.out.rd.below ha)
    have d3 := (H1.out.next ha).c2
    have HA := Lib.hid ha
    clear ha
    go_wp2_with (at_builtin; refine append_where rfl (.tmp 19) (.tmp 23) rfl rfl (World.ownsRow_made (base := w1.heap.size) w1 #[] 0 (Nat.le_refl _) (Nat.zero_le _) rfl) xs HRA.out (by rw [HL.out]; omega) HA.out.size ?_)
    intro v' w2 ho hT _ _
    have hb2 : Below w1.heap.size w1 w2 := HA.out.grown hT HA.out.size (fun k hk => by cases hk; exact Nat.le_refl _)
    have hf : ∃ bo n c, v' = .slice bo n c := by
      rcases ho.2 with ⟨rfl, _⟩ | ⟨_, _, _, rfl, _⟩ <;> exact ⟨_, _, _, rfl⟩
    obtain ⟨xo, xn, xc, rfl⟩ := hf
    have HO := Lib.hid ho
    have HB2 := Lib.hid hb2
    have R2 := Lib.hid (R1.out.below hb2)
    clear ho hT hb2
    go_wp2_with (at_builtin; refine append_where rfl (.tmp 24) (.tmp 25) rfl rfl HO.out ys R2.out (by rw [HL.out, HY.out]; exact HYS.out) HB2.out.size ?_)
    intro v3 w3 ho hT _ _
    have hb3 : Below w1.heap.size w1 w3 := HB2.out.grown hT HB2.out.size (fun k hk => (HO.out.lt k hk).1)
    have hf : ∃ bo n c, v3 = .slice bo n c := by
      rcases ho.2 with ⟨rfl, _⟩ | ⟨_, _, _, rfl, _⟩ <;> exact ⟨_, _, _, rfl⟩
    obtain ⟨yo, yn, yc, rfl⟩ := hf
    have P := H1.out.put (zs := xs ++ ys) hb3 (by rw [List.length_append, List.map_append]; exact ho) (Nat.le_trans hB HB.out.size) (by rw [List.length_append]; have := H1.out.ht; omega) (by rw [List.length_append, HL.out, HY.out]; exact HYS.out) (by rw [List.length_append, HL.out, HY.out]; exact HROOM.out)
    have hh := (hb3.block g H1.out.lt).trans H1.out.c
    have k1 : w3.cell? ⟨g, 2, none⟩ = some _ := cell_of_row _ _ _ _ _ _ hh
    have k2 : w3.frozen? ⟨g, 2, none⟩ = false := frozen_of_row _ _ _ _ _ hh
    have T3 := Lib.hid ((HB.out.trans (hb3.mono HB.out.size)))
    have P := Lib.hid P
    have HO3 := Lib.hid ho
    clear ho hT hh d2 d3 g2 hb3
    go_wp2
    go_ret
    exact ⟨_, rfl, P.out, Turn.before T3.out (turn_setCell _ _ _ _ _), fun k hk => by rw [← HSZ.out]; exact (HO3.out.lt k hk).1⟩
end
end Go.Proofs.Ytneifmnlailipaa
