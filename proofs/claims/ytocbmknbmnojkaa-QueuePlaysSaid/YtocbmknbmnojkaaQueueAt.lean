/- A queue as it lies in memory; own, New, Len, Total, Taken, All walked. -/
import Derived.Test.YtocbmknbmnojkaaQueue
import Derived.Test.YtocbmknbmnojkaaBits
import Derived.StillTailTactics
import Derived.BigQuiet
import Derived.Deep.QuietTactic
namespace Go.Proofs.Ytocbmknbmnojkaa
open Go.RowKit

/-- Block g holds a queue: its most, all that was put, how many of these were taken. -/
structure QO (w : World) (B g : Nat) (s : Value) (most : Int) (xs : List UInt8) (t : Nat) : Prop where
  c : w.heap[g]? = some (.cells #[.int .i64 most, s, .int .i64 (t : Int)] 47 (0, 0))
  o : w.ownsRow B 5 1 s xs.length (xs.map bv)
  hg : B ≤ g
  ne : s.ownBlock ≠ some g
  e : xs = [] → s = .slice none 0 0
  ht : t ≤ xs.length
  hs : xs.length ≤ 16777216
  hl : (xs.length : Int) ≤ most
  hm : most < 9223372036854775808

section
variable {w w' : World} {B g t : Nat} {s : Value} {most : Int} {xs : List UInt8}
theorem QO.lt (h : QO w B g s most xs t) : g < w.heap.size := (Array.getElem?_eq_some_iff.1 h.c).1
theorem QO.slt (h : QO w B g s most xs t) : ∀ k, s.ownBlock = some k → B ≤ k ∧ k < w.heap.size := h.o.lt
theorem QO.next (h : QO w B g s most xs t) (hb : Below w.heap.size w w') : QO w' B g s most xs t :=
  ⟨(hb.block _ h.lt).trans h.c, own_below h.o hb, h.hg, h.ne, h.e, h.ht, h.hs, h.hl, h.hm⟩
theorem QO.lower {B' : Nat} (h : QO w B g s most xs t) (hB : B' ≤ B) : QO w B' g s most xs t :=
  ⟨h.c, ownsRow_lower h.o hB, Nat.le_trans hB h.hg, h.ne, h.e, h.ht, h.hs, h.hl, h.hm⟩
theorem QO.c0 (h : QO w B g s most xs t) : w.cell? ⟨g, 0, none⟩ = some (.int .i64 most) := cell_of_row _ _ _ _ _ _ h.c
theorem QO.c1 (h : QO w B g s most xs t) : w.cell? ⟨g, 1, none⟩ = some s := cell_of_row _ _ _ _ _ _ h.c
theorem QO.c2 (h : QO w B g s most xs t) : w.cell? ⟨g, 2, none⟩ = some (.int .i64 (t : Int)) := cell_of_row _ _ _ _ _ _ h.c
theorem QO.f1 (h : QO w B g s most xs t) : w.frozen? ⟨g, 1, none⟩ = false := frozen_of_row _ _ _ _ _ h.c
theorem QO.f2 (h : QO w B g s most xs t) : w.frozen? ⟨g, 2, none⟩ = false := frozen_of_row _ _ _ _ _ h.c
theorem QO.form (h : QO w B g s most xs t) : ∃ ao cap, s = .slice ao xs.length cap ∧ xs.length ≤ cap ∧ cap ≤ maxLen ∧ (xs = [] → ao = none ∧ cap = 0) ∧ (ao = none → cap = 0) := by
  rcases h.o.2 with ⟨e, hn⟩ | ⟨b, cap, cur, e, _, _, h1, h2, _⟩
  · refine ⟨none, 0, by rw [e, hn], by omega, by unfold maxLen; omega, fun _ => ⟨rfl, rfl⟩, fun _ => rfl⟩
  · refine ⟨_, cap, e, h1, h2, fun hx => ?_, fun h => by cases h⟩
    have := h.e hx
    rw [this] at e
    cases e
theorem QO.rd (h : QO w B g s most xs t) : Rd w s (xs.map bv) := .of_own h.o
/-- A queue that another one, or what another one does, is apart from. -/
theorem QO.apart (h : QO w B g s most xs t) {g' : Nat} {s' : Value} (hT : Turn g' s' w w') (h1 : g ≠ g') (h2 : s'.ownBlock ≠ some g) (h3 : s.ownBlock ≠ some g') (h4 : s.ownBlock = none ∨ s.ownBlock ≠ s'.ownBlock) : QO w' B g s most xs t :=
  ⟨(hT.block _ h.lt h1 h2).trans h.c, hT.own h.o h3 h4, h.hg, h.ne, h.e, h.ht, h.hs, h.hl, h.hm⟩
theorem QO.take {k : Nat} (h : QO w B g s most xs t) (ht : k ≤ xs.length) : QO (w.setCell ⟨g, 2, none⟩ (.int .i64 (k : Int))) B g s most xs k := by
  refine ⟨(setCell_row h.c).trans rfl, ?_, h.hg, h.ne, h.e, ht, h.hs, h.hl, h.hm⟩
  refine ⟨h.o.1, ?_⟩
  rcases h.o.2 with hn | ⟨b, cap, cur, rfl, hb, hh, r⟩
  · exact .inl hn
  · refine .inr ⟨b, cap, cur, rfl, hb, ?_, r⟩
    rw [Below.heap_setCell _ _ _ _ (fun e => h.ne (by show some b = _; rw [e]))]
    exact hh
theorem turn_setCell (w : World) (g i : Nat) (s u : Value) : Turn g s w (w.setCell ⟨g, i, none⟩ u) :=
  ⟨rfl, rfl, rfl, by simp [World.setCell], fun k _ h1 _ => Below.heap_setCell _ _ _ _ h1⟩
theorem QO.put {w0 : World} {s' : Value} {ys : List UInt8} (h : QO w0 B g s most xs t) (ho : w'.ownsRow B 5 1 s' (xs.length + ys.length) (xs.map bv ++ ys.map bv)) (hT : w0.grownBy w' s.ownBlock) (hy : ys = [] → s' = s)
    (hw : s' = s ∨ ∃ g' cap, s' = .slice (some ⟨g', 0, none⟩) (xs.length + ys.length) cap ∧ (s.ownBlock = some g' ∨ g' = w0.heap.size)) (hs : xs.length + ys.length ≤ 16777216) (hl : ((xs.length + ys.length : Nat) : Int) ≤ most) :
    QO (w'.setCell ⟨g, 1, none⟩ s') B g s' most (xs ++ ys) t ∧ Turn g s w0 (w'.setCell ⟨g, 1, none⟩ s') ∧ (s'.ownBlock = s.ownBlock ∨ s'.ownBlock = some w0.heap.size) := by
  have hne : some g ≠ s.ownBlock := fun e => h.ne e.symm
  have hs' : s'.ownBlock = s.ownBlock ∨ s'.ownBlock = some w0.heap.size := by
    rcases hw with rfl | ⟨g', cap, rfl, hw | rfl⟩
    · exact .inl rfl
    · exact .inl hw.symm
    · exact .inr rfl
  have hsg : s'.ownBlock ≠ some g := by
    rcases hs' with e | e
    · rw [e]; exact h.ne
    · rw [e]
      intro e
      have := h.lt
      cases e
      omega
  have hc := (hT.block g h.lt hne).trans h.c
  refine ⟨⟨(setCell_row hc).trans rfl, ?_, h.hg, hsg, fun e => ?_, ?_, ?_, ?_, h.hm⟩, ⟨hT.os, hT.tape, hT.output, by simp [World.setCell]; exact hT.size, fun k hk h1 h2 => ?_⟩, hs'⟩
  · rw [List.length_append, List.map_append]
    refine ⟨ho.1, ?_⟩
    rcases ho.2 with hn | ⟨b, cap, cur, rfl, hb, hh, r⟩
    · exact .inl hn
    · refine .inr ⟨b, cap, cur, rfl, hb, ?_, r⟩
      rw [Below.heap_setCell _ _ _ _ (fun e => hsg (by show some b = _; rw [e]))]
      exact hh
  · obtain ⟨rfl, rfl⟩ := List.append_eq_nil_iff.1 e
    rw [hy rfl]
    exact h.e rfl
  · have := h.ht
    rw [List.length_append]
    omega
  · rw [List.length_append]; exact hs
  · rw [List.length_append]; exact hl
  · rw [Below.heap_setCell _ _ _ _ h1]
    exact hT.block k hk (fun e => h2 e.symm)
end

/-- 'own'. -/
theorem own_any (v : Value) (xs : List UInt8) (w : World) (h : Rd w v (xs.map bv)) (hs : xs.length ≤ 16777216) :
    Calls Try.prog 22 #[v] w fun e w' => ∃ v', e = .returned v' ∧ Below w.heap.size w w' ∧ (v = .slice none 0 0 → v' = .slice none 0 0) ∧ Fr w' w.heap.size v' xs := by
  obtain ⟨ao, cap, rfl, hcap, hc⟩ := h.form
  obtain ⟨L, hL⟩ : ∃ L, L = xs.length := ⟨_, rfl⟩
  have hs' := hs
  rw [← hL] at hs hcap h ⊢
  have H := Lib.hid h
  have HL := Lib.hid hL
  have HS := Lib.hid hs'
  clear h hL hc hs'
  go_enter Try.func22, Try.ntmps22
  go_wp2_with (at_builtin; refine append_own rfl (.tmp 4) (.tmp 5) rfl ao rfl xs H.out HS.out ?_)
  intro v' w' hb hn hf
  have HB := Lib.hid hb
  have HN := Lib.hid hn
  have HF := Lib.hid hf
  have hv : ∃ bo n c, v' = .slice bo n c := by
    rcases hf with ⟨_, bo, rfl⟩ | ⟨_, ho⟩
    · exact ⟨_, _, _, rfl⟩
    · rcases ho.2 with ⟨rfl, _⟩ | ⟨_, _, _, rfl, _⟩ <;> exact ⟨_, _, _, rfl⟩
  obtain ⟨bo, n, c, rfl⟩ := hv
  clear hb hn hf
  go_wp2
  go_ret
  refine ⟨_, rfl, HB.out, fun e => ?_, HF.out⟩
  simp only [Value.slice.injEq] at e
  obtain ⟨rfl, h0, rfl⟩ := e
  exact HN.out (List.eq_nil_of_length_eq_zero (by rw [← HL.out, h0]))

theorem qo_new (w : World) (m : Int) (h0 : 0 ≤ m) (hm : m < 9223372036854775808) : QO (w.alloc (.cells #[.int .i64 m, .slice none 0 0, .int .i64 0] 47)) w.heap.size w.heap.size (.slice none 0 0) m [] 0 :=
  ⟨heap_alloc_new w _, World.ownsRow_nil _ _ _ _, Nat.le_refl _, (fun h => by cases h), fun _ => rfl, Nat.le_refl _, by simp, by simpa using h0, hm⟩

/-- 'New'. -/
theorem new_any (m : Int) (hm : m < 9223372036854775808) (w : World) :
    Calls Try.prog 9 #[.int .i64 m] w fun e w' => e = .returned (.pointer (some ⟨w.heap.size, 0, none⟩)) ∧ Below w.heap.size w w' ∧ QO w' w.heap.size w.heap.size (.slice none 0 0) (max 0 m) [] 0 := by
  by_cases h : m ≤ 0
  · have e : max 0 m = 0 := by omega
    rw [e]
    have hq := Lib.hid (qo_new w 0 (by omega) (by omega))
    clear e hm
    go_enter Try.func9, Try.ntmps9
    go_wp2
    go_ret
    exact ⟨rfl, (Below.refl _ _).alloc (Nat.le_refl _) _, hq.out⟩
  · have e : max 0 m = m := by omega
    rw [e]
    have hq := Lib.hid (qo_new w m (by omega) (by omega))
    clear e hm
    go_enter Try.func9, Try.ntmps9
    go_wp2
    go_ret
    exact ⟨rfl, (Below.refl _ _).alloc (Nat.le_refl _) _, hq.out⟩

section
variable {w : World} {B g t : Nat} {s : Value} {most : Int} {xs : List UInt8}

/-- 'Total'. -/
theorem total_any (h : QO w B g s most xs t) : Calls Try.prog 18 #[.pointer (some ⟨g, 0, none⟩)] w fun e w' => e = .returned (.int .i64 (xs.length : Int)) ∧ w = w' := by
  obtain ⟨ao, cap, rfl, hcap, hcm, _⟩ := h.form
  have c1 := h.c1
  have hs := h.hs
  generalize xs.length = L at *
  clear h
  go_enter Try.func18, Try.ntmps18
  go_wp2
  go_ret
  exact ⟨rfl, rfl⟩

/-- 'All'. -/
theorem all_any (h : QO w B g s most xs t) : Calls Try.prog 21 #[.pointer (some ⟨g, 0, none⟩)] w fun e w' => ∃ v, e = .returned v ∧ Below w.heap.size w w' ∧ Fr w' w.heap.size v xs := by
  have c1 := h.c1
  have HS := Lib.hid h.hs
  have HR := Lib.hid h.rd
  clear h
  go_enter Try.func21, Try.ntmps21
  go_wp2_with fail
  refine (own_any s xs w HR.out HS.out).mono ?_
  rintro e w' ⟨v, rfl, hb, _, hf⟩
  have HB := Lib.hid hb
  have HF := Lib.hid hf
  clear hb hf c1
  go_wp2
  go_ret
  exact ⟨_, rfl, HB.out, HF.out⟩

/-- 'Len'. -/
theorem len_any (h : QO w B g s most xs t) : Calls Try.prog 17 #[.pointer (some ⟨g, 0, none⟩)] w fun e w' => e = .returned (.int .i64 ((xs.length - t : Nat) : Int)) ∧ Below w.heap.size w w' := by
  obtain ⟨ao, cap, rfl, hcap, hcm, _⟩ := h.form
  have c1 := h.c1
  have c2 := h.c2
  have hs := h.hs
  have ht := h.ht
  generalize xs.length = L at *
  clear h
  obtain ⟨D, hD⟩ : ∃ D, L = t + D := ⟨L - t, by omega⟩
  have e : L - t = D := by omega
  rw [e]
  clear e
  have i1 : IntKind.i64.wrap ((L : Int) - (t : Int)) = (D : Int) := by rw [wraps_i64 _ (by omega) (by omega)]; omega
  have HB := Lib.hid (((Below.refl w.heap.size w).drew))
  have HD := Lib.hid hD
  clear hD
  go_enter Try.func17, Try.ntmps17
  go_wp2
  go_region
  all_goals
    go_wp2
    go_ret
    exact ⟨rfl, HB.out⟩

/-- 'Taken'. -/
theorem taken_any (h : QO w B g s most xs t) : Calls Try.prog 19 #[.pointer (some ⟨g, 0, none⟩)] w fun e w' => ∃ v, e = .returned v ∧ Below w.heap.size w w' ∧ Fr w' w.heap.size v (xs.take t) := by
  obtain ⟨ao, cap, rfl, hcap, hcm, _⟩ := h.form
  have hcut := h.rd.cut rfl h.ht
  have hlen : (xs.take t).length ≤ 16777216 := by rw [List.length_take]; have := h.hs; omega
  have C1 := Lib.hid (fun wr (hb : Below w.heap.size w wr) => own_any _ (xs.take t) wr (hcut.below hb) hlen)
  have c1 := h.c1
  have c2 := h.c2
  have hs := h.hs
  have ht := h.ht
  generalize xs.length = L at *
  have i1 : (0 : Int) ≤ (t : Int) := Int.natCast_nonneg _
  have i2 : (t : Int) ≤ (cap : Int) := by omega
  have i3 : (t : Int) ≤ (L : Int) := by omega
  have HB := Lib.hid ((Below.refl w.heap.size w).drew)
  clear h hcut hlen
  unfold maxLen at hcm
  go_enter Try.func19, Try.ntmps19
  go_wp2
  go_still_tail 9, (by kernel_rfl)
  change wpList _ _ _ _ _ w.drew
  generalize w.drew = w1 at *
  go_wp2_with fail
  refine (C1.out _ HB.out).mono ?_
  rintro e w' ⟨v, rfl, hb, _, hf⟩
  have HB2 := Lib.hid (HB.out.trans (hb.mono HB.out.size))
  have HF := Lib.hid hf
  clear hb hf c1 c2
  go_wp2
  go_ret
  exact ⟨_, rfl, HB2.out, HF.out.lower HB.out.size⟩
end
end Go.Proofs.Ytocbmknbmnojkaa
