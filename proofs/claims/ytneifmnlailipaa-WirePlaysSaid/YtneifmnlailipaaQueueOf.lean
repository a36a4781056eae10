/- A queue that lies within a block, from o on; own, New, Len, Taken, All walked. -/
import Derived.Test.YtneifmnlailipaaQueue
import Derived.Test.YtneifmnlailipaaBits
import Derived.StillTailTactics
import Derived.BigQuiet
import Derived.Deep.QuietTactic
namespace Go.Proofs.Ytneifmnlailipaa
open Go.RowKit

theorem set_ne {C : Array Value} {i j : Nat} {v : Value} (h : i ≠ j) : (C.setIfInBounds i v)[j]? = C[j]? := Array.getElem?_setIfInBounds_ne h
theorem set_eq {C : Array Value} {i : Nat} {v u : Value} (h : C[i]? = some u) : (C.setIfInBounds i v)[i]? = some v := by
  have hl : i < C.size := (Array.getElem?_eq_some_iff.1 h).1
  simp [hl]
theorem cell_in {w : World} {g i : Nat} {C : Array Value} {T : TypeId} {v : Value} (h : w.heap[g]? = some (.cells C T (0, 0))) (e : C[i]? = some v) : w.cell? ⟨g, i, none⟩ = some v := (cell_of_row _ _ _ _ _ _ h).trans e

/-- Block g holds a queue, from o on: its most, all that was put, how many of these were taken. -/
structure QA (w : World) (B g o : Nat) (C : Array Value) (T : TypeId) (s : Value) (most : Int) (xs : List UInt8) (t : Nat) : Prop where
  c : w.heap[g]? = some (.cells C T (0, 0))
  e0 : C[o]? = some (.int .i64 most)
  e1 : C[o + 1]? = some s
  e2 : C[o + 2]? = some (.int .i64 (t : Int))
  r : w.ownsRow B 5 1 s xs.length (xs.map bv)
  hg : B ≤ g
  ne : s.ownBlock ≠ some g
  e : xs = [] → s = .slice none 0 0
  ht : t ≤ xs.length
  hs : xs.length ≤ 16777216
  hl : (xs.length : Int) ≤ most
  hm : most < 9223372036854775808

/-- A row that is not of block g stays, where a cell of g is stored. -/
theorem own_set {w : World} {B n g i : Nat} {s u : Value} {vs : List Value} (h : w.ownsRow B 5 1 s n vs) (hn : s.ownBlock ≠ some g) : (w.setCell ⟨g, i, none⟩ u).ownsRow B 5 1 s n vs := by
  refine ⟨h.1, ?_⟩
  rcases h.2 with hn' | ⟨b, cap, cur, rfl, hb, hh, r⟩
  · exact .inl hn'
  · refine .inr ⟨b, cap, cur, rfl, hb, ?_, r⟩
    rw [Below.heap_setCell _ _ _ _ (fun e => hn (by show some b = _; rw [e]))]
    exact hh

theorem turn_setCell (w : World) (g i : Nat) (s u : Value) : Turn g s w (w.setCell ⟨g, i, none⟩ u) :=
  ⟨rfl, rfl, rfl, by simp [World.setCell], fun k _ h1 _ => Below.heap_setCell _ _ _ _ h1⟩

section
variable {w w' : World} {B g o t : Nat} {C : Array Value} {T : TypeId} {s : Value} {most : Int} {xs : List UInt8}
theorem QA.lt (h : QA w B g o C T s most xs t) : g < w.heap.size := (Array.getElem?_eq_some_iff.1 h.c).1
theorem QA.slt (h : QA w B g o C T s most xs t) : ∀ k, s.ownBlock = some k → B ≤ k ∧ k < w.heap.size := h.r.lt
theorem QA.next (h : QA w B g o C T s most xs t) (hb : Below w.heap.size w w') : QA w' B g o C T s most xs t :=
  ⟨(hb.block _ h.lt).trans h.c, h.e0, h.e1, h.e2, own_below h.r hb, h.hg, h.ne, h.e, h.ht, h.hs, h.hl, h.hm⟩
theorem QA.lower {B' : Nat} (h : QA w B g o C T s most xs t) (hB : B' ≤ B) : QA w B' g o C T s most xs t :=
  ⟨h.c, h.e0, h.e1, h.e2, ownsRow_lower h.r hB, Nat.le_trans hB h.hg, h.ne, h.e, h.ht, h.hs, h.hl, h.hm⟩
theorem QA.c0 (h : QA w B g o C T s most xs t) : w.cell? ⟨g, o, none⟩ = some (.int .i64 most) := cell_in h.c h.e0
theorem QA.c1 (h : QA w B g o C T s most xs t) : w.cell? ⟨g, o + 1, none⟩ = some s := cell_in h.c h.e1
theorem QA.c2 (h : QA w B g o C T s most xs t) : w.cell? ⟨g, o + 2, none⟩ = some (.int .i64 (t : Int)) := cell_in h.c h.e2
theorem QA.f (h : QA w B g o C T s most xs t) (i : Nat) : w.frozen? ⟨g, i, none⟩ = false := frozen_of_row _ _ _ _ _ h.c
theorem QA.form (h : QA w B g o C T s most xs t) : ∃ ao cap, s = .slice ao xs.length cap ∧ xs.length ≤ cap ∧ cap ≤ maxLen ∧ (xs = [] → ao = none ∧ cap = 0) ∧ (ao = none → cap = 0) := by
  rcases h.r.2 with ⟨e, hn⟩ | ⟨b, cap, cur, e, _, _, h1, h2, _⟩
  · refine ⟨none, 0, by rw [e, hn], by omega, by unfold maxLen; omega, fun _ => ⟨rfl, rfl⟩, fun _ => rfl⟩
  · refine ⟨_, cap, e, h1, h2, fun hx => ?_, fun h => by cases h⟩
    have := h.e hx
    rw [this] at e
    cases e
theorem QA.rd (h : QA w B g o C T s most xs t) : Rd w s (xs.map bv) := .of_own h.r
theorem QA.take {k : Nat} (h : QA w B g o C T s most xs t) (ht : k ≤ xs.length) : QA (w.setCell ⟨g, o + 2, none⟩ (.int .i64 (k : Int))) B g o (C.setIfInBounds (o + 2) (.int .i64 (k : Int))) T s most xs k :=
  ⟨setCell_row h.c, (set_ne (by omega)).trans h.e0, (set_ne (by omega)).trans h.e1, set_eq h.e2, own_set h.r h.ne, h.hg, h.ne, h.e, ht, h.hs, h.hl, h.hm⟩
theorem QA.put {w0 : World} {s' : Value} {ys : List UInt8} (h : QA w0 B g o C T s most xs t) (ho : w'.ownsRow B 5 1 s' (xs.length + ys.length) (xs.map bv ++ ys.map bv)) (hT : w0.grownBy w' s.ownBlock) (hy : ys = [] → s' = s)
    (hw : s' = s ∨ ∃ g' cap, s' = .slice (some ⟨g', 0, none⟩) (xs.length + ys.length) cap ∧ (s.ownBlock = some g' ∨ g' = w0.heap.size)) (hs : xs.length + ys.length ≤ 16777216) (hl : ((xs.length + ys.length : Nat) : Int) ≤ most) :
    QA (w'.setCell ⟨g, o + 1, none⟩ s') B g o (C.setIfInBounds (o + 1) s') T s' most (xs ++ ys) t ∧ Turn g s w0 (w'.setCell ⟨g, o + 1, none⟩ s') ∧ (s'.ownBlock = s.ownBlock ∨ s'.ownBlock = some w0.heap.size) := by
  have hne : some g ≠ s.ownBlock := fun e => h.ne e.symm
  have hs' : s'.ownBlock = s.ownBlock ∨ s'.ownBlock = some w0.heap.size := by
    rcases hw with rfl | ⟨g', cap, rfl, hw | rfl⟩
    · exact .inl rfl
    · exact .inl hw.symm
    · exact .inr rfl
  have hsg : s'.ownBlock ≠ some g := by
    rcases hs' with e | e
    · rw [e]; exact h.ne
    · rw [e]
      intro e
      have := h.lt
      cases e
      omega
  have hc := (hT.block g h.lt hne).trans h.c
  refine ⟨⟨setCell_row hc, (set_ne (by omega)).trans h.e0, set_eq h.e1, (set_ne (by omega)).trans h.e2, ?_, h.hg, hsg, fun e => ?_, ?_, ?_, ?_, h.hm⟩, ⟨hT.os, hT.tape, hT.output, by simp [World.setCell]; exact hT.size, fun k hk h1 h2 => ?_⟩, hs'⟩
  · rw [List.length_append, List.map_append]
    exact own_set ho hsg
  · obtain ⟨rfl, rfl⟩ := List.append_eq_nil_iff.1 e
    rw [hy rfl]
    exact h.e rfl
  · have := h.ht
    rw [List.length_append]
    omega
  · rw [List.length_append]; exact hs
  · rw [List.length_append]; exact hl
  · rw [Below.heap_setCell _ _ _ _ h1]
    exact hT.block k hk (fun e => h2 e.symm)
end

/-- 'own'. -/
theorem own_any (v : Value) (xs : List UInt8) (w : World) (h : Rd w v (xs.map bv)) (hs : xs.length ≤ 16777216) :
    Calls Try.prog 58 #[v] w fun e w' => ∃ v', e = .returned v' ∧ Below w.heap.size w w' ∧ (v = .slice none 0 0 → v' = .slice none 0 0) ∧ Fr w' w.heap.size v' xs := by
  obtain ⟨ao, cap, rfl, hcap, hc⟩ := h.form
  obtain ⟨L, hL⟩ : ∃ L, L = xs.length := ⟨_, rfl⟩
  have hs' := hs
  rw [← hL] at hs hcap h ⊢
  have H := Lib.hid h
  have HL := Lib.hid hL
  have HS := Lib.hid hs'
  clear h hL hc hs'
  go_enter Try.func58, Try.ntmps58
  go_wp2_with (at_builtin; refine append_own rfl (.tmp 4) (.tmp 5) rfl ao rfl xs H.out HS.out ?_)
  intro v' w' hb hn hf
  have HB := Lib.hid hb
  have HN := Lib.hid hn
  have HF := Lib.hid hf
  have hv : ∃ bo n c, v' = .slice bo n c := by
    rcases hf with ⟨_, bo, rfl⟩ | ⟨_, ho⟩
    · exact ⟨_, _, _, rfl⟩
    · rcases ho.2 with ⟨rfl, _⟩ | ⟨_, _, _, rfl, _⟩ <;> exact ⟨_, _, _, rfl⟩
  obtain ⟨bo, n, c, rfl⟩ := hv
  clear hb hn hf
  go_wp2
  go_ret
  refine ⟨_, rfl, HB.out, fun e => ?_, HF.out⟩
  simp only [Value.slice.injEq] at e
  obtain ⟨rfl, h0, rfl⟩ := e
  exact HN.out (List.eq_nil_of_length_eq_zero (by rw [← HL.out, h0]))

/-- 'New': the queue of a connection. -/
theorem new_any (w : World) :
    Calls Try.prog 32 #[.int .i64 4000] w fun e w' => e = .returned (.pointer (some ⟨w.heap.size, 0, none⟩)) ∧ w' = w.alloc (.cells #[.int .i64 4000, .slice none 0 0, .int .i64 0] 48) := by
  go_enter Try.func32, Try.ntmps32
  go_wp2
  go_ret
  exact ⟨rfl, rfl⟩

section
variable {w : World} {B g o t : Nat} {C : Array Value} {T : TypeId} {s : Value} {most : Int} {xs : List UInt8}

/-- 'All'. -/
theorem all_any (h : QA w B g o C T s most xs t) : Calls Try.prog 53 #[.pointer (some ⟨g, o, none⟩)] w fun e w' => ∃ v, e = .returned v ∧ Below w.heap.size w w' ∧ Fr w' w.heap.size v xs := by
  have c1 := h.c1
  have HS := Lib.hid h.hs
  have HR := Lib.hid h.rd
  clear h
  go_enter Try.func53, Try.ntmps53
  go_wp2_with fail
  refine (own_any s xs w HR.out HS.out).mono ?_
  rintro e w' ⟨v, rfl, hb, _, hf⟩
  have HB := Lib.hid hb
  have HF := Lib.hid hf
  clear hb hf c1
  go_wp2
  go_ret
  exact ⟨_, rfl, HB.out, HF.out⟩

/-- 'Len'. -/
theorem len_any (h : QA w B g o C T s most xs t) : Calls Try.prog 49 #[.pointer (some ⟨g, o, none⟩)] w fun e w' => e = .returned (.int .i64 ((xs.length - t : Nat) : Int)) ∧ Below w.heap.size w w' := by
  obtain ⟨ao, cap, rfl, hcap, hcm, _⟩ := h.form
  have c1 := h.c1
  have c2 := h.c2
  have hs := h.hs
  have ht := h.ht
  generalize xs.length = L at *
  clear h
  obtain ⟨D, hD⟩ : ∃ D, L = t + D := ⟨L - t, by omega⟩
  have e : L - t = D := by omega
  rw [e]
  clear e
  have i1 : IntKind.i64.wrap ((L : Int) - (t : Int)) = (D : Int) := by rw [wraps_i64 _ (by omega) (by omega)]; omega
  have HB := Lib.hid (((Below.refl w.heap.size w).drew))
  have HD := Lib.hid hD
  clear hD
  go_enter Try.func49, Try.ntmps49
  go_wp2
  go_region
  all_goals
    go_wp2
    go_ret
    exact ⟨rfl, HB.out⟩

/-- 'Taken'. -/
theorem taken_any (h : QA w B g o C T s most xs t) : Calls Try.prog 51 #[.pointer (some ⟨g, o, none⟩)] w fun e w' => ∃ v, e = .returned v ∧ Below w.heap.size w w' ∧ Fr w' w.heap.size v (xs.take t) := by
  obtain ⟨ao, cap, rfl, hcap, hcm, _⟩ := h.form
  have hcut := h.rd.cut rfl h.ht
  have hlen : (xs.take t).length ≤ 16777216 := by rw [List.length_take]; have := h.hs; omega
  have C1 := Lib.hid (fun wr (hb : Below w.heap.size w wr) => own_any _ (xs.take t) wr (hcut.below hb) hlen)
  have c1 := h.c1
  have c2 := h.c2
  have hs := h.hs
  have ht := h.ht
  generalize xs.length = L at *
  have i1 : (0 : Int) ≤ (t : Int) := Int.natCast_nonneg _
  have i2 : (t : Int) ≤ (cap : Int) := by omega
  have i3 : (t : Int) ≤ (L : Int) := by omega
  have HB := Lib.hid ((Below.refl w.heap.size w).drew)
  clear h hcut hlen
  unfold maxLen at hcm
  go_enter Try.func51, Try.ntmps51
  go_wp2
  go_still_tail 9, (by kernel_rfl)
  change wpList _ _ _ _ _ w.drew
  generalize w.drew = w1 at *
  go_wp2_with fail
  refine (C1.out _ HB.out).mono ?_
  rintro e w' ⟨v, rfl, hb, _, hf⟩
  have HB2 := Lib.hid (HB.out.trans (hb.mono HB.out.size))
  have HF := Lib.hid hf
  clear hb hf c1 c2
  go_wp2
  go_ret
  exact ⟨_, rfl, HB2.out, HF.out.lower HB.out.size⟩
end
end Go.Proofs.Ytneifmnlailipaa
