/- The wire: State, Waits, Finished, Finish, Write, Ask walked. -/
import Derived.Test.YtneifmnlailipaaWireAt
namespace Go.Proofs.Ytneifmnlailipaa
open Go.RowKit

section
variable {w w' : World} {B g o : Nat} {F : Nat → Prop} {C : Array Value} {T : TypeId} {s so sw : Value} {most : Int} {c : Wi.Cn}
/-- More was put into the queue of a connection. -/
theorem CX.more {s' : Value} {ys : List UInt8} (h : CX w B g o F C T s so sw most c) (hq : QA w' B g (o + 3) (C.setIfInBounds (o + 3 + 1) s') T s' most (c.xs ++ ys) c.t) (hT : Turn g s w w') (hs : s'.ownBlock = s.ownBlock ∨ s'.ownBlock = some w.heap.size) :
    CX w' B g o (fun k => F k ∨ s'.ownBlock = some k) (C.setIfInBounds (o + 3 + 1) s') T s' so sw most { c with xs := c.xs ++ ys } ∧ Cg g o F w (fun k => F k ∨ s'.ownBlock = some k) w' := by
  have far : ∀ j, j ≠ 4 → (C.setIfInBounds (o + 3 + 1) s')[o + j]? = C[o + j]? := fun j hj => set_ne (by omega)
  have ro := h.ro.r.lt
  have rw := h.rw.r.lt
  have hn : ∀ k, (F k ∨ s'.ownBlock = some k) → F k ∨ w.heap.size ≤ k := fun k hk => by
    rcases hk with hk | hk
    · exact .inl hk
    · rcases hs with e | e
      · exact .inl (h.fs k (by rw [← e]; exact hk))
      · rw [e] at hk; cases hk; exact .inr (Nat.le_refl _)
  have keep : ∀ {v : Value} {xs : List UInt8}, Own w B v xs → v.ownBlock ≠ some g → Dj s v → Own w' B v xs := fun {v xs} ho h2 h3 => ⟨hT.own ho.r h2 h3.swap, ho.e⟩
  have ds : ∀ {v : Value}, (∀ k, v.ownBlock = some k → k < w.heap.size) → Dj s v → Dj s' v := fun {v} h1 h2 => by
    rcases hs with e | e
    · unfold Dj; rw [e]; exact h2
    · exact (Dj.late h1 (fun k hk => by rw [e] at hk; cases hk; exact Nat.le_refl _)).swap
  refine ⟨⟨hq, (far 0 (by omega)).trans h.e0, (far 1 (by omega)).trans h.e1, (far 2 (by omega)).trans h.e2, (far 6 (by omega)).trans h.e6, (far 7 (by omega)).trans h.e7, keep h.ro h.no h.d1, keep h.rw h.nw h.d2, h.no, h.nw, ds (fun k hk => (ro k hk).2) h.d1, ds (fun k hk => (rw k hk).2) h.d2, h.d3, fun k hk => .inr hk, fun k hk => .inl (h.fo k hk), fun k hk => .inl (h.fw k hk), fun k hk => ?_, h.m4⟩, Cg.of_turn (i := 1) hT h.fs h.q.c hq.c (by omega) hn⟩
  have hlt := hq.slt
  rcases hk with hk | hk
  · exact ⟨(h.fF k hk).1, Nat.lt_of_lt_of_le (h.fF k hk).2.1 hT.size, (h.fF k hk).2.2⟩
  · exact ⟨(hlt k hk).1, (hlt k hk).2, fun e => hq.ne (by rw [hk, e])⟩
end

section
variable {w : World} {B g : Nat} {F : Nat → Prop} {W : Wi.Wm}

/-- 'State'. -/
theorem state_any (h : WO w B g F W) (k : Int) : Calls Try.prog 22 #[.pointer (some ⟨g, 0, none⟩), .int .i64 k] w fun e w' => e = .returned (.int .i64 ((W.at k).st : Int)) ∧ Below w.heap.size w w' := by
  have H := Lib.hid h
  clear h
  go_enter Try.func22, Try.ntmps22
  go_wp2_with fail
  refine (at_any H.out k).mono ?_
  rintro e w1 ⟨g', o, F', T', rfl, ha⟩
  obtain ⟨C, s, so, sw, most, hx⟩ := ha.ca
  have c0 := hx.c0
  rw [Wi.Cn.norm_st] at c0
  have HB := Lib.hid ha.below
  clear ha hx
  go_wp2
  go_ret
  exact ⟨rfl, HB.out⟩

/-- 'Finished'. -/
theorem finished_any (h : WO w B g F W) (k : Int) : Calls Try.prog 30 #[.pointer (some ⟨g, 0, none⟩), .int .i64 k] w fun e w' => e = .returned (.bool (W.at k).dn) ∧ Below w.heap.size w w' := by
  have H := Lib.hid h
  clear h
  go_enter Try.func30, Try.ntmps30
  go_wp2_with fail
  refine (at_any H.out k).mono ?_
  rintro e w1 ⟨g', o, F', T', rfl, ha⟩
  obtain ⟨C, s, so, sw, most, hx⟩ := ha.ca
  have c1 := hx.c1
  rw [Wi.Cn.norm_dn] at c1
  have HB := Lib.hid ha.below
  clear ha hx
  go_wp2
  go_ret
  exact ⟨rfl, HB.out⟩

/-- 'Waits'. -/
theorem waits_any (h : WO w B g F W) (k : Int) : Calls Try.prog 24 #[.pointer (some ⟨g, 0, none⟩), .int .i64 k] w fun e w' => e = .returned (.int .i64 ((W.at k).waits : Int)) ∧ Below w.heap.size w w' := by
  have H := Lib.hid h
  clear h
  go_enter Try.func24, Try.ntmps24
  go_wp2_with fail
  refine (at_any H.out k).mono ?_
  rintro e w1 ⟨g', o, F', T', rfl, ha⟩
  obtain ⟨C, s, so, sw, most, hx⟩ := ha.ca
  have hl := len_any hx.q
  rw [Wi.Cn.norm_waits] at hl
  have HL := Lib.hid hl
  have HB := Lib.hid ha.below
  clear ha hx hl
  go_wp2_with fail
  refine HL.out.mono ?_
  rintro e w2 ⟨rfl, hb⟩
  have HB2 := Lib.hid (HB.out.trans (hb.mono HB.out.size))
  clear hb
  go_wp2
  go_ret
  exact ⟨rfl, HB2.out⟩

/-- 'Finish'. -/
theorem finish_any (h : WO w B g F W) (k : Int) : Calls Try.prog 14 #[.pointer (some ⟨g, 0, none⟩), .int .i64 k] w fun e w' => e = .returned (.tuple #[]) ∧ Ws B g F w (W.finish k) w' := by
  have H := Lib.hid h
  clear h
  rw [Wi.Wm.finish_eq]
  go_enter Try.func14, Try.ntmps14
  go_wp2_with fail
  refine (at_any H.out k).mono ?_
  rintro e w1 ⟨g', o, F', T', rfl, ha⟩
  obtain ⟨C, s, so, sw, most, hx⟩ := ha.ca
  have C1 := writable_any hx
  rw [Wi.Cn.norm_lv] at C1
  have HA := Lib.hid ha
  have HX := Lib.hid hx
  have c1 := hx.c1
  have f1 := hx.f (o + 1)
  rw [Wi.Cn.norm_dn] at c1
  clear ha hx
  by_cases hl : (W.at k).live = true
  · rw [hl] at C1
    have C1 := Lib.hid C1
    have hd : (W.at k).done = { W.at k with dn := true } := by unfold Wi.Cn.done; rw [if_pos hl]
    have HD := Lib.hid hd
    have HL := Lib.hid hl
    clear hd hl
    go_wp2_with fail
    refine C1.out.mono ?_
    rintro e w2 ⟨rfl, hw⟩
    obtain rfl := hw
    clear C1
    go_wp2
    go_end0
    rw [HD.out]
    refine ⟨rfl, HA.out.back _ F' _ ?_ (Cg.set (i := 1) (by omega))⟩
    have hnl : Wi.Cn.live { W.at k with dn := true } = true := HL.out
    rw [Wi.Cn.norm_live hnl]
    have hx := HX.out
    rw [Wi.Cn.norm_live HL.out] at hx
    exact ⟨_, _, _, _, _, hx.cell (i := 1) (by omega) { W.at k with dn := true } rfl rfl rfl rfl rfl rfl rfl hx.m4⟩
  · have hl : (W.at k).live = false := by simpa using hl
    rw [hl] at C1
    have C1 := Lib.hid C1
    have hd : (W.at k).done = W.at k := by unfold Wi.Cn.done; rw [if_neg (by rw [hl]; decide)]
    have HD := Lib.hid hd
    clear hd hl
    go_wp2_with fail
    refine C1.out.mono ?_
    rintro e w2 ⟨rfl, hw⟩
    obtain rfl := hw
    clear C1
    go_wp2
    go_end0
    rw [HD.out, Wi.Wm.upd_at]
    exact ⟨rfl, Ws.below H.out HA.out.below⟩
end
end Go.Proofs.Ytneifmnlailipaa
