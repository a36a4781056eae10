/- A framer as it lies in memory; New, Error, Rest, endsByCR, fail, takeLine, Clone, runOf walked. -/
import Derived.Test.YthfefbpfgepbjaaDoorQueue
import Derived.Test.YthfefbpfgepbjaaDoorBits
import Derived.Test.YthfefbpfgepbjaaDoorLinesP
import Derived.Test.YthfefbpfgepbjaaDoorApart
import Derived.Test.YthfefbpfgepbjaaDoorIndexB
import Derived.StillTailTactics
import Derived.BigQuiet
import Derived.Deep.QuietTactic
namespace Go.Proofs.YthfefbpfgepbjaaDoor
open Go.RowKit

/-- Block g holds a framer. -/
structure FO (w : World) (B g : Nat) (s : Value) (most : Int) (f : Li.Fm) : Prop where
  c : w.heap[g]? = some (.cells #[.int .i64 most, s, .int .i64 (f.err : Int)] 39 (0, 0))
  o : w.ownsRow B 5 1 s f.ls.length (f.ls.map bv)
  hg : B ≤ g
  ne : s.ownBlock ≠ some g
  hs : f.ls.length ≤ 16777216
  h0 : 0 ≤ most
  hm : most < 9223372036854775808
  ok : f.Ok most

section
variable {w w' : World} {B g : Nat} {s : Value} {most : Int} {f : Li.Fm}
theorem FO.lt (h : FO w B g s most f) : g < w.heap.size := (Array.getElem?_eq_some_iff.1 h.c).1
theorem FO.slt (h : FO w B g s most f) : ∀ k, s.ownBlock = some k → B ≤ k ∧ k < w.heap.size := h.o.lt
theorem FO.next (h : FO w B g s most f) (hb : Below w.heap.size w w') : FO w' B g s most f :=
  ⟨(hb.block _ h.lt).trans h.c, own_below h.o hb, h.hg, h.ne, h.hs, h.h0, h.hm, h.ok⟩
theorem FO.lower {B' : Nat} (h : FO w B g s most f) (hB : B' ≤ B) : FO w B' g s most f :=
  ⟨h.c, ownsRow_lower h.o hB, Nat.le_trans hB h.hg, h.ne, h.hs, h.h0, h.hm, h.ok⟩
theorem FO.c0 (h : FO w B g s most f) : w.cell? ⟨g, 0, none⟩ = some (.int .i64 most) := cell_of_row _ _ _ _ _ _ h.c
theorem FO.c1 (h : FO w B g s most f) : w.cell? ⟨g, 1, none⟩ = some s := cell_of_row _ _ _ _ _ _ h.c
theorem FO.c2 (h : FO w B g s most f) : w.cell? ⟨g, 2, none⟩ = some (.int .i64 (f.err : Int)) := cell_of_row _ _ _ _ _ _ h.c
theorem FO.f1 (h : FO w B g s most f) : w.frozen? ⟨g, 1, none⟩ = false := frozen_of_row _ _ _ _ _ h.c
theorem FO.f2 (h : FO w B g s most f) : w.frozen? ⟨g, 2, none⟩ = false := frozen_of_row _ _ _ _ _ h.c
theorem FO.form (h : FO w B g s most f) : ∃ ao cap, s = .slice ao f.ls.length cap ∧ f.ls.length ≤ cap ∧ cap ≤ maxLen ∧ (ao = none → cap = 0) := by
  rcases h.o.2 with ⟨e, hn⟩ | ⟨b, cap, cur, e, _, _, h1, h2, _⟩
  · exact ⟨none, 0, by rw [e, hn], by omega, by unfold maxLen; omega, fun _ => rfl⟩
  · exact ⟨_, cap, e, h1, h2, fun h => by cases h⟩
theorem FO.rd (h : FO w B g s most f) : Rd w s (f.ls.map bv) := .of_own h.o
theorem FO.turn (h : FO w B g s most f) (hT : Turn g s w w') (hB : B ≤ w.heap.size) : Below B w w' := hT.below h.hg (fun k hk => (h.slt k hk).1) hB
/-- A framer that what another one does is apart from. -/
theorem FO.apart (h : FO w B g s most f) {g' : Nat} {s' : Value} {most' : Int} {f' : Li.Fm} {B' : Nat} (h' : FO w B' g' s' most' f') (hT : Turn g' s' w w') (h1 : g ≠ g') (h2 : Ap s s') : FO w' B g s most f :=
  ⟨(hT.block _ h.lt h1 (own_not h'.o h.c (by decide))).trans h.c, hT.past h.o (own_not h.o h'.c (by decide)) h2, h.hg, h.ne, h.hs, h.h0, h.hm, h.ok⟩
/-- The row is put another one, of other bytes. -/
theorem FO.put {w0 : World} {s' : Value} {ys : List UInt8} (h : FO w0 B g s most f) (ho : w'.ownsRow B 5 1 s' (f.ls.length + ys.length) (f.ls.map bv ++ ys.map bv)) (hT : w0.grownBy w' s.ownBlock)
    (hw : s' = s ∨ ∃ g' cap, s' = .slice (some ⟨g', 0, none⟩) (f.ls.length + ys.length) cap ∧ (s.ownBlock = some g' ∨ w0.heap.size ≤ g')) (hs : f.ls.length + ys.length ≤ 16777216) (hok : (⟨f.ls ++ ys, 0⟩ : Li.Fm).Ok most) (he : f.err = 0) :
    FO (w'.setCell ⟨g, 1, none⟩ s') B g s' most ⟨f.ls ++ ys, 0⟩ ∧ Turn g s w0 (w'.setCell ⟨g, 1, none⟩ s') ∧ Nx s s' w0.heap.size := by
  have hne : some g ≠ s.ownBlock := fun e => h.ne e.symm
  have hs' : s'.ownBlock = s.ownBlock ∨ ∃ k, s'.ownBlock = some k ∧ w0.heap.size ≤ k := by
    rcases hw with rfl | ⟨g', cap, rfl, hw | hw⟩
    · exact .inl rfl
    · exact .inl hw.symm
    · exact .inr ⟨g', rfl, hw⟩
  have hsg : s'.ownBlock ≠ some g := by
    rcases hs' with e | ⟨k, e, hk⟩
    · rw [e]; exact h.ne
    · rw [e]
      intro e
      have := h.lt
      cases e
      omega
  have hc := (hT.block g h.lt hne).trans h.c
  refine ⟨⟨(setCell_row hc).trans (by rw [he]; rfl), ?_, h.hg, hsg, ?_, h.h0, h.hm, hok⟩, ⟨hT.os, hT.tape, hT.output, by simp [World.setCell]; exact hT.size, fun k hk h1 h2 => ?_⟩, .inr hs'⟩
  · show World.ownsRow _ _ _ _ _ (f.ls ++ ys).length ((f.ls ++ ys).map bv)
    rw [List.length_append, List.map_append]
    exact own_setCell ho hsg
  · show (f.ls ++ ys).length ≤ _
    rw [List.length_append]; exact hs
  · rw [Below.heap_setCell _ _ _ _ h1]
    exact hT.block k hk (fun e => h2 e.symm)
/-- The row is emptied. -/
theorem FO.emptied {n cap : Nat} {ao : Option Addr} (h : FO w B g (.slice ao n cap) most f) (he : f.err = 0) :
    FO (w.setCell ⟨g, 1, none⟩ (.slice ao 0 cap)) B g (.slice ao 0 cap) most Li.start := by
  have hsg : (Value.slice ao 0 cap).ownBlock ≠ some g := by
    have := h.ne
    cases ao <;> exact this
  refine ⟨(setCell_row h.c).trans (by rw [he]; rfl), ?_, h.hg, hsg, Nat.zero_le _, h.h0, h.hm, Li.start_ok h.h0⟩
  show World.ownsRow _ _ _ _ _ 0 []
  refine own_setCell ?_ hsg
  refine ⟨rfl, ?_⟩
  rcases h.o.2 with ⟨e, hn⟩ | ⟨b, cap', cur, e, hb, hh, r1, r2, r3, r4⟩
  · simp only [Value.slice.injEq] at e
    obtain ⟨rfl, _, rfl⟩ := e
    exact .inl ⟨rfl, rfl⟩
  · simp only [Value.slice.injEq] at e
    obtain ⟨rfl, _, rfl⟩ := e
    exact .inr ⟨b, cap, cur, rfl, hb, hh, Nat.zero_le _, r2, r3, by simp⟩
/-- An error is there. -/
theorem FO.failed {k : Nat} (h : FO w B g s most f) (hk : k = 60 ∨ k = 61) :
    FO ((w.setCell ⟨g, 1, none⟩ (.slice none 0 0)).setCell ⟨g, 2, none⟩ (.int .i64 (k : Int))) B g (.slice none 0 0) most ⟨[], k⟩ :=
  ⟨(setCell_row (setCell_row h.c)).trans rfl, World.ownsRow_nil _ _ _ _, h.hg, (fun e => by cases e), Nat.zero_le _, h.h0, h.hm, Li.err_ok h.h0 (.inr hk)⟩
end

theorem fo_new (w : World) (m : Int) (h0 : 0 ≤ m) (hm : m < 9223372036854775808) : FO (w.alloc (.cells #[.int .i64 m, .slice none 0 0, .int .i64 0] 39)) w.heap.size w.heap.size (.slice none 0 0) m Li.start :=
  ⟨heap_alloc_new w _, World.ownsRow_nil _ _ _ _, Nat.le_refl _, (fun h => by cases h), Nat.zero_le _, h0, hm, Li.start_ok h0⟩

/-- 'New'. -/
theorem fnew_any (m : Int) (hm : m < 9223372036854775808) (w : World) :
    Calls Tryd.prog 6 #[.int .i64 m] w fun e w' => e = .returned (.pointer (some ⟨w.heap.size, 0, none⟩)) ∧ Below w.heap.size w w' ∧ FO w' w.heap.size w.heap.size (.slice none 0 0) (max 0 m) Li.start := by
  have hq := Lib.hid (fo_new w (max 0 m) (by omega) (by omega))
  clear hm
  go_enter Tryd.func6, Tryd.ntmps6
  go_wp2
  go_ret
  exact ⟨rfl, (Below.refl _ _).alloc (Nat.le_refl _) _, hq.out⟩

section
variable {w : World} {B g : Nat} {s : Value} {most : Int} {f : Li.Fm}

/-- 'Rest'. -/
theorem frest_any (h : FO w B g s most f) : Calls Tryd.prog 10 #[.pointer (some ⟨g, 0, none⟩)] w fun e w' => e = .returned (.int .i64 (f.ls.length : Int)) ∧ w = w' := by
  obtain ⟨ao, cap, rfl, hcap, hcm, _⟩ := h.form
  have c1 := h.c1
  have hs := h.hs
  generalize f.ls.length = L at *
  clear h
  go_enter Tryd.func10, Tryd.ntmps10
  go_wp2
  go_ret
  exact ⟨rfl, rfl⟩

/-- 'fail'. -/
theorem ffail_any (k : Nat) (hk : k = 60 ∨ k = 61) (h : FO w B g s most f) : Calls Tryd.prog 17 #[.pointer (some ⟨g, 0, none⟩), .int .i64 (k : Int)] w fun e w' => e = .returned (.int .i64 (k : Int)) ∧ FO w' B g (.slice none 0 0) most ⟨[], k⟩ ∧ Turn g s w w' := by
  have c1 := h.c1
  have c2 := h.c2
  have f1 := h.f1
  have f2 := h.f2
  have HF := Lib.hid (h.failed hk)
  have HT := Lib.hid ((fturn_setCell w g 1 s (.slice none 0 0)).trans (.inl rfl) (fturn_setCell _ g 2 s (.int .i64 (k : Int))))
  clear h hk
  go_enter Tryd.func17, Tryd.ntmps17
  go_wp2
  go_ret
  exact ⟨rfl, HF.out, HT.out⟩

/-- 'endsByCR'. -/
theorem fends_any (h : FO w B g s most f) : Calls Tryd.prog 15 #[.pointer (some ⟨g, 0, none⟩)] w fun e w' => e = .returned (.bool (decide (f.ls.getLast? = some 13))) ∧ Below w.heap.size w w' := by
  obtain ⟨ao, cap, rfl, hcap, hcm, _⟩ := h.form
  have c1 := h.c1
  have hs := h.hs
  have HB := Lib.hid ((Below.refl w.heap.size w).drew)
  by_cases hL : f.ls = []
  · have e : decide (f.ls.getLast? = some 13) = false := by rw [hL]; rfl
    rw [e]
    clear e
    have hl : f.ls.length = 0 := by rw [hL]; rfl
    rw [hl] at c1
    clear h hs hcap hcm hL hl
    go_enter Tryd.func15, Tryd.ntmps15
    go_wp2
    go_region
    all_goals
      go_wp2
      go_ret
      exact ⟨rfl, HB.out⟩
  · have hp : 0 < f.ls.length := List.length_pos_iff.2 hL
    obtain ⟨ao', cap', e, _, hc⟩ := h.rd.form
    simp only [Value.slice.injEq] at e
    obtain ⟨rfl, _, rfl⟩ := e
    obtain ⟨b, o, rfl, _, hcell⟩ := hc hp
    have hlast := hcell (f.ls.length - 1) (by omega)
    obtain ⟨x, hx⟩ : ∃ x, x = f.ls.getD (f.ls.length - 1) 0 := ⟨_, rfl⟩
    have e : decide (f.ls.getLast? = some 13) = ((x.toNat : Int) == 13) := by
      have : f.ls.getLast? = some x := by
        rw [List.getLast?_eq_getElem?, hx, List.getD_eq_getElem?_getD, List.getElem?_eq_getElem (by omega)]; rfl
      rw [this]
      by_cases h13 : x = 13
      · subst h13; rfl
      · have : x.toNat ≠ 13 := fun e => h13 (UInt8.toNat_inj.1 e)
        rw [decide_eq_false (by simpa using h13), beq_eq_false_iff_ne.2 (by omega)]
    rw [e]
    rw [← hx] at hlast
    have h256 : (x.toNat : Int) < 256 := by have := x.toNat_lt; omega
    unfold bv at hlast
    generalize f.ls.length = L at *
    have i1 : IntKind.i64.wrap ((L : Int) - 1) = ((L - 1 : Nat) : Int) := by rw [wraps_i64 _ (by omega) (by omega)]; omega
    obtain ⟨K, hK⟩ : ∃ K, K = L - 1 := ⟨_, rfl⟩
    rw [← hK] at i1 hlast
    have i2 : (0 : Int) < (L : Int) := by omega
    have i3 : K < L := by omega
    have i4 : (K : Int) < (L : Int) := by omega
    have i5 : (0 : Int) ≤ (K : Int) := by omega
    clear h hx e hK hc hcell hL hcm
    go_enter Tryd.func15, Tryd.ntmps15
    go_wp2
    go_region
    all_goals
      go_wp2
      go_ret
      exact ⟨rfl, HB.out⟩

/-- 'takeLine'. -/
theorem ftake_any (h : FO w B g s most f) (he : f.err = 0) (hL : 0 < f.ls.length) : Calls Tryd.prog 18 #[.pointer (some ⟨g, 0, none⟩)] w fun e w' => ∃ s', e = .returned (sv f.ls.dropLast) ∧ FO w' B g s' most Li.start ∧ Turn g s w w' ∧ s'.ownBlock = s.ownBlock := by
  have hbd := (Below.refl w.heap.size w).drew
  have h1 := h.next hbd
  obtain ⟨ao, cap, rfl, hcap, hcm, _⟩ := h.form
  have c1 := h.c1
  have hs := h.hs
  have hcut := h.rd.cut rfl (m := f.ls.length - 1) (by omega)
  have hst := bytes_string (hcut.below hbd)
  rw [show f.ls.take (f.ls.length - 1) = f.ls.dropLast from (List.dropLast_eq_take ..).symm] at hst
  have HE := Lib.hid (h1.emptied he)
  have HT := Lib.hid ((Turn.of_below hbd).trans (.inl rfl) (fturn_setCell w.drew g 1 (.slice ao f.ls.length cap) (.slice ao 0 cap)))
  have d1 := h1.c1
  have g1 := h1.f1
  generalize f.ls.length = L at *
  have i1 : IntKind.i64.wrap ((L : Int) - 1) = ((L - 1 : Nat) : Int) := by rw [wraps_i64 _ (by omega) (by omega)]; omega
  obtain ⟨K, hK⟩ : ∃ K, K = L - 1 := ⟨_, rfl⟩
  rw [← hK] at i1 hst
  have i2 : (0 : Int) < (L : Int) := by omega
  have i3 : K ≤ L := by omega
  have i4 : (K : Int) ≤ (L : Int) := by omega
  have i5 : (0 : Int) ≤ (K : Int) := by omega
  have i6 : (K : Int) ≤ (cap : Int) := by omega
  unfold maxLen at hcm
  clear h h1 hcut hK hbd he
  go_enter Tryd.func18, Tryd.ntmps18
  go_wp2
  go_still_tail 11, (by kernel_rfl)
  change wpList _ _ _ _ _ w.drew
  generalize w.drew = w1 at *
  go_wp2
  go_ret
  exact ⟨_, rfl, HE.out, HT.out, by cases ao <;> rfl⟩
end

set_option maxHeartbeats 4000000 in
/-- 'bytes.IndexAny' of none. -/
theorem indexB_zero (ao : Option Addr) (cap : Nat) (w : World) :
    Calls Tryd.prog 26 #[.slice ao 0 cap, .string ⟨#[13, 10]⟩] w fun e w' => e = .returned (.int .i64 (-1)) ∧ Below w.heap.size w w' := by
  go_enter Tryd.func26, Tryd.ntmps26
  go_wp2_with fail
  refine (bShould lb _ _).mono ?_
  rintro e w' ⟨rfl, hw⟩
  rw [hw]
  clear hw
  go_wp2
  refine wp_loop_rounds 1 ?_
  rw [rounds_succ]
  go_wp2
  go_ret
  exact ⟨rfl, Below.refl _ _⟩

/-- 'bytes.IndexAny' of the two letters of an end. -/
theorem indexB_any (v : Value) (xs : List UInt8) (w : World) (h : Rd w v (xs.map bv)) (hs : xs.length ≤ 16777216) (ht : LT w) :
    Calls Tryd.prog 26 #[v, .string ⟨#[13, 10]⟩] w fun e w' => e = .returned (.int .i64 (Lib.indexAny xs [13, 10])) ∧ Below w.heap.size w w' := by
  obtain ⟨ao, cap, rfl, hcap, hc⟩ := h.form
  rcases Nat.eq_zero_or_pos xs.length with h0 | hp
  · obtain rfl : xs = [] := List.eq_nil_of_length_eq_zero h0
    exact indexB_zero ao cap w
  · obtain ⟨b, o, rfl, hm, hx⟩ := hc hp
    by_cases h1 : xs.length = 1
    · obtain ⟨x, rfl⟩ := List.length_eq_one_iff.1 h1
      exact indexB_one x b o cap w (hx 0 (by simp))
    · by_cases h8 : xs.length ≤ 8
      · exact indexB_short xs b o xs.length cap w rfl hx h8 h1 hcap hm ht ⟨#[13, 10]⟩ rfl
      · refine bIndexLong lb b o xs.length cap xs ⟨#[13, 10]⟩ w rfl hx (by decide) (by omega) (by omega) (by decide) hcap ?_
        intro j b hj
        match j with
        | 0 => simp at hj; subst hj; decide
        | 1 => simp at hj; subst hj; decide
        | j + 2 => simp at hj

/-- 'runOf'. -/
theorem frun_any (v : Value) (xs : List UInt8) (w : World) (h : Rd w v (xs.map bv)) (hs : xs.length ≤ 16777216) (ht : LT w) :
    Calls Tryd.prog 16 #[v] w fun e w' => e = .returned (.int .i64 ((Tx.run xs : Nat) : Int)) ∧ Below w.heap.size w w' := by
  have hix := indexB_any v xs w h hs ht
  obtain ⟨ao, cap, rfl, _, _⟩ := h.form
  obtain ⟨e1, e2⟩ := Tx.indexAny_run xs
  have hle := Tx.run_le xs
  by_cases hr : Tx.run xs = xs.length
  · rw [e1 hr] at hix
    rw [hr]
    generalize xs.length = L at *
    clear h e1 e2 hle hr ht
    go_enter Tryd.func16, Tryd.ntmps16
    go_wp2_with fail
    refine hix.mono ?_
    rintro e w1 ⟨rfl, hb⟩
    have HB := Lib.hid hb
    clear hb hix
    go_wp2
    go_ret
    exact ⟨rfl, HB.out⟩
  · rw [e2 (by omega)] at hix
    generalize Tx.run xs = R at *
    have h0 : (0 : Int) ≤ (R : Int) := Int.natCast_nonneg _
    clear h e1 e2 hle hr ht
    go_enter Tryd.func16, Tryd.ntmps16
    go_wp2_with fail
    refine hix.mono ?_
    rintro e w1 ⟨rfl, hb⟩
    have HB := Lib.hid hb
    clear hb hix
    go_wp2
    go_ret
    exact ⟨rfl, HB.out⟩

end Go.Proofs.YthfefbpfgepbjaaDoor
