/- What is done to a connection, walked: writable, end, connect, take, come, tick. -/
import Derived.Test.YtneifmnlailipaaConn
import Derived.Test.YtneifmnlailipaaRdCut
namespace Go.Proofs.Ytneifmnlailipaa
open Go.RowKit

section
variable {w : World} {B g o : Nat} {F : Nat → Prop} {C : Array Value} {T : TypeId} {s so sw : Value} {most : Int} {c : Wi.Cn}

/-- 'writable'. -/
theorem writable_any (h : CX w B g o F C T s so sw most c) : Calls Try.prog 35 #[.pointer (some ⟨g, o, none⟩)] w fun e w' => e = .returned (.bool c.live) ∧ w = w' := by
  have c0 := h.c0
  unfold Wi.Cn.live
  generalize c.st = st at *
  clear h
  by_cases h2 : st = 2
  · subst h2
    go_enter Try.func35, Try.ntmps35
    go_wp2
    go_ret
    exact ⟨rfl, rfl⟩
  · by_cases h3 : st = 3
    · subst h3
      go_enter Try.func35, Try.ntmps35
      go_wp2
      go_ret
      exact ⟨rfl, rfl⟩
    · have e : (st == 2 || st == 3) = false := by simp [h2, h3]
      rw [e]
      have i2 : ((st : Int) == 2) = false := by simp; omega
      have i3 : ((st : Int) == 3) = false := by simp; omega
      go_enter Try.func35, Try.ntmps35
      go_wp2
      go_ret
      exact ⟨rfl, rfl⟩

/-- 'end'. -/
theorem end_any (h : CX w B g o F C T s so sw most c) : Calls Try.prog 43 #[.pointer (some ⟨g, o, none⟩)] w fun e w' => e = .returned (.int .i64 (c.fin.1 : Int)) ∧ Cw B g o F T w c.fin.2 w' := by
  have c0 := h.c0
  have f0 := h.f o
  by_cases h2 : c.st = 2
  · have hf : c.fin = (0, { c with st := 3 }) := by unfold Wi.Cn.fin; rw [if_neg (by omega)]
    have hn := Lib.hid (h.cell (i := 0) (v := .int .i64 3) (by omega) { c with st := 3 } rfl rfl rfl rfl rfl rfl rfl (fun _ => h.m4 (.inl (Wi.Cn.live2 h2))))
    have hg := Lib.hid (Cg.set (g := g) (o := o) (i := 0) (F := F) (w := w) (v := .int .i64 3) (by omega))
    rw [hf]
    rw [h2] at c0
    clear h hf h2
    go_enter Try.func43, Try.ntmps43
    go_wp2
    go_ret
    exact ⟨rfl, F, ⟨_, _, _, _, _, hn.out⟩, hg.out⟩
  · have hf : c.fin = (1, c) := by unfold Wi.Cn.fin; rw [if_pos h2]
    have H := Lib.hid h
    rw [hf]
    clear hf h
    generalize hst : c.st = st at *
    have HST := Lib.hid hst
    have h2 := eq_false h2
    clear hst
    go_enter Try.func43, Try.ntmps43
    go_wp2
    go_ret
    exact ⟨rfl, F, ⟨_, _, _, _, _, H.out⟩, .of_below (Below.refl _ _) H.out.lt⟩

/-- 'connect'. -/
theorem connect_any (h : CX w B g o F C T s so sw most c) (n : Int) : Calls Try.prog 45 #[.pointer (some ⟨g, o, none⟩), .int .i64 n] w fun e w' => e = .returned (.int .i64 ((c.conn n).1 : Int)) ∧ Cw B g o F T w (c.conn n).2 w' := by
  have c0 := h.c0
  have f0 := h.f o
  have hm4 : c.st = 1 → most = 4000 := fun e => h.m4 (.inr e)
  by_cases h2 : c.st = 1
  · have hn5 := h.cell (i := 0) (v := .int .i64 5) (by omega) { c with st := 5 } rfl rfl rfl rfl rfl rfl rfl (fun _ => hm4 h2)
    have hg5 := Cg.set (g := g) (o := o) (i := 0) (F := F) (w := w) (v := .int .i64 5) (by omega)
    by_cases h1 : n = 1
    · subst h1
      have hf : c.conn 1 = (0, { c with st := 2 }) := by unfold Wi.Cn.conn; rw [if_neg (by omega), if_pos rfl]
      have hn := Lib.hid (hn5.cell (i := 0) (v := .int .i64 2) (by omega) { c with st := 2 } rfl rfl rfl rfl rfl rfl rfl (fun _ => hm4 h2))
      have hg := Lib.hid (hg5.trans (Cg.set (g := g) (o := o) (i := 0) (F := F) (v := .int .i64 2) (by omega)))
      rw [hf]
      rw [h2] at c0
      clear h hf h2 hn5 hg5 hm4
      go_enter Try.func45, Try.ntmps45
      go_wp2
      go_ret
      exact ⟨rfl, F, ⟨_, _, _, _, _, hn.out⟩, hg.out⟩
    · have hf : c.conn n = (0, { c with st := 5 }) := by unfold Wi.Cn.conn; rw [if_neg (by omega), if_neg h1]
      have hn := Lib.hid hn5
      have hg := Lib.hid hg5
      rw [hf]
      rw [h2] at c0
      have h1 := eq_false h1
      clear h hf h2 hn5 hg5 hm4
      go_enter Try.func45, Try.ntmps45
      go_wp2
      go_ret
      exact ⟨rfl, F, ⟨_, _, _, _, _, hn.out⟩, hg.out⟩
  · have hf : c.conn n = (1, c) := by unfold Wi.Cn.conn; rw [if_pos h2]
    have H := Lib.hid h
    rw [hf]
    clear hf h hm4
    generalize hst : c.st = st at *
    have HST := Lib.hid hst
    have h2 := eq_false h2
    clear hst
    go_enter Try.func45, Try.ntmps45
    go_wp2
    go_ret
    exact ⟨rfl, F, ⟨_, _, _, _, _, H.out⟩, .of_below (Below.refl _ _) H.out.lt⟩

/-- 'tick'. -/
theorem tick_any (n : Int) (w : World) : Calls Try.prog 46 #[.int .i64 n] w fun e w' => e = .returned (.int .i64 (((if 1 ≤ n ∧ n ≤ 1073741824 then 0 else 1 : Nat)) : Int)) ∧ w = w' := by
  by_cases h1 : n < 1
  · rw [if_neg (by omega)]
    go_enter Try.func46, Try.ntmps46
    go_wp2
    go_ret
    exact ⟨rfl, rfl⟩
  · by_cases h2 : n ≤ 1073741824
    · rw [if_pos (by omega)]
      have h3 := eq_false (show ¬ 1073741824 < n by omega)
      have h1 := eq_false h1
      go_enter Try.func46, Try.ntmps46
      go_wp2
      go_ret
      exact ⟨rfl, rfl⟩
    · rw [if_neg (by omega)]
      have h3 := eq_true (show 1073741824 < n by omega)
      have h1 := eq_false h1
      go_enter Try.func46, Try.ntmps46
      go_wp2
      go_ret
      exact ⟨rfl, rfl⟩

/-- 'take', refused. -/
theorem takes_no (h : CX w B g o F C T s so sw most c) (n : Int) (hn : n < 1 ∨ c.xs.length - c.t = 0) : Calls Try.prog 42 #[.pointer (some ⟨g, o, none⟩), .int .i64 n] w fun e w' => e = .returned (.int .i64 1) ∧ Below w.heap.size w w' := by
  by_cases h1 : n < 1
  · clear h hn
    go_enter Try.func42, Try.ntmps42
    go_wp2
    go_ret
    exact ⟨rfl, Below.refl _ _⟩
  · have h0 : c.xs.length - c.t = 0 := hn.resolve_left h1
    have C1 := len_any h.q
    rw [h0] at C1
    have C1 := Lib.hid C1
    have h1 := eq_false h1
    clear h hn h0
    go_enter Try.func42, Try.ntmps42
    go_wp2_with fail
    refine C1.out.mono ?_
    rintro e w1 ⟨rfl, hb⟩
    have HB := Lib.hid hb
    clear hb
    go_wp2
    go_ret
    exact ⟨rfl, HB.out⟩

/-- 'take': as many as there are, up to n. -/
theorem takes_yes (h : CX w B g o F C T s so sw most c) (n : Int) (h1 : ¬ n < 1) (h0 : c.xs.length - c.t ≠ 0) : Calls Try.prog 42 #[.pointer (some ⟨g, o, none⟩), .int .i64 n] w fun e w' => e = .returned (.int .i64 0) ∧ Cw B g o F T w { c with t := c.t + min n.toNat (c.xs.length - c.t) } w' := by
  obtain ⟨D, hD⟩ : ∃ D, D = c.xs.length - c.t := ⟨_, rfl⟩
  obtain ⟨k, hk⟩ : ∃ k, k = min n.toNat D := ⟨_, rfl⟩
  have hkn : k = min (max n 0).toNat (c.xs.length - c.t) := by omega
  have C1 := len_any h.q
  rw [← hD] at C1 h0 ⊢
  rw [← hk]
  have C1 := Lib.hid C1
  have HKN := Lib.hid hkn
  have H := Lib.hid h
  have h0 := eq_false h0
  have i0 : ((D : Int) = 0) = False := eq_false (by have := of_eq_false h0; omega)
  have h1 := eq_false h1
  have m4 := Lib.hid h.m4
  clear h hkn hk hD
  go_enter Try.func42, Try.ntmps42
  go_wp2_with fail
  refine C1.out.mono ?_
  rintro e w1 ⟨rfl, hb⟩
  have HB := Lib.hid hb
  clear hb C1
  go_wp2_with fail
  refine (take_any (H.out.next HB.out).q n k HKN.out).mono ?_
  rintro e w2 ⟨v, rfl, hq, hT, _⟩
  have H1 := H.out.next HB.out
  have hn : Tn (fun k => k = g ∨ F k) w1 w2 := .of_turn hT (.inl rfl) (fun k hk => .inr (H1.fs k hk))
  have hg := (Cg.of_below (o := o) (F := F) HB.out H.out.lt).trans (Cg.of_turn (F' := F) (i := 2) hT H1.fs H1.q.c hq.c (by omega) (fun k hk => .inl hk))
  have far : ∀ j, j ≠ 5 → (C.setIfInBounds (o + 3 + 2) (.int .i64 ((c.t + k : Nat) : Int)))[o + j]? = C[o + j]? := fun j hj => set_ne (by omega)
  have keep : ∀ {v : Value} {xs : List UInt8}, Own w1 B v xs → v.ownBlock ≠ some g → Dj s v → Own w2 B v xs := fun {v xs} ho h2 h3 => ⟨hT.own ho.r h2 h3.swap, ho.e⟩
  have hx : CX w2 B g o F (C.setIfInBounds (o + 3 + 2) (.int .i64 ((c.t + k : Nat) : Int))) T s so sw most { c with t := c.t + k } :=
    ⟨hq, (far 0 (by omega)).trans H1.e0, (far 1 (by omega)).trans H1.e1, (far 2 (by omega)).trans H1.e2, (far 6 (by omega)).trans H1.e6, (far 7 (by omega)).trans H1.e7, keep H1.ro H1.no H1.d1, keep H1.rw H1.nw H1.d2, H1.no, H1.nw, H1.d1, H1.d2, H1.d3, H1.fs, H1.fo, H1.fw, fun k hk => ⟨(H1.fF k hk).1, Nat.lt_of_lt_of_le (H1.fF k hk).2.1 hT.size, (H1.fF k hk).2.2⟩, m4.out⟩
  have HX := Lib.hid hx
  have HG := Lib.hid hg
  clear hx hg keep far hn H1 hq hT
  go_wp2
  go_ret
  exact ⟨rfl, F, ⟨_, _, _, _, _, HX.out⟩, HG.out⟩

/-- 'take'. -/
theorem takes_any (h : CX w B g o F C T s so sw most c) (n : Int) : Calls Try.prog 42 #[.pointer (some ⟨g, o, none⟩), .int .i64 n] w fun e w' => e = .returned (.int .i64 ((c.takes n).1 : Int)) ∧ Cw B g o F T w (c.takes n).2 w' := by
  unfold Wi.Cn.takes
  by_cases hn : n < 1 ∨ c.xs.length - c.t = 0
  · rw [if_pos hn]
    refine (takes_no h n hn).mono ?_
    rintro e w' ⟨rfl, hb⟩
    exact ⟨rfl, F, ⟨_, _, _, _, _, h.next hb⟩, .of_below hb h.lt⟩
  · rw [if_neg hn]
    exact takes_yes h n (fun e => hn (.inl e)) (fun e => hn (.inr e))

/-- What is read stays, where a cell of another block is stored. -/
theorem rd_far {w : World} {v : Value} {ys : List UInt8} {g i : Nat} {u : Value} (h : Rd w v (ys.map bv)) (hv : 0 < ys.length → v.ownBlock ≠ some g) : Rd (w.setCell ⟨g, i, none⟩ u) v (ys.map bv) := by
  rcases h with h | ⟨b, o, cap, rfl, h1, h2, h3⟩
  · exact .inl h
  · refine .inr ⟨b, o, cap, rfl, h1, h2, fun j u hj => ?_⟩
    have hp : 0 < ys.length := by
      have := (List.getElem?_eq_some_iff.1 hj).1
      rw [List.length_map] at this
      omega
    rw [World.cell?_setCell_far _ _ _ _ (show g ≠ b from fun e => hv hp (by rw [e]; rfl))]
    exact h3 j u hj

/-- 'come': told as they are. -/
theorem come_any (h : CX w B g o F C T s so sw most c) (v : Value) (ys : List UInt8) (hr : Rd w v (ys.map bv)) (hy : ys.length ≤ maxLen) (hgot : c.got ≤ 4000) (hv : 0 < ys.length → v.ownBlock ≠ some g) : Calls Try.prog 41 #[.pointer (some ⟨g, o, none⟩), v] w fun e w' => ∃ bo cp, e = .returned (.tuple #[.slice bo (c.come ys).1.length cp, .int .i64 ((c.come ys).2.1 : Int)]) ∧ Rd w' (.slice bo (c.come ys).1.length cp) ((c.come ys).1.map bv) ∧ Cw B g o F T w (c.come ys).2.2 w' := by
  unfold Wi.Cn.come
  obtain ⟨ao, cap, rfl, hcap, _⟩ := hr.form
  have c0 := h.c0
  have c2 := h.c2
  have f2 := h.f (o + 2)
  have H := Lib.hid h
  unfold maxLen at hy
  by_cases h2 : c.st = 2
  · by_cases hf : 4000 < c.got + ys.length
    · rw [if_neg (by omega), if_pos hf]
      rw [h2] at c0
      generalize hG : c.got = G at *
      generalize hL : ys.length = L at *
      have HG := Lib.hid hG
      have HL := Lib.hid hL
      have hlt : (4000 - (G : Int)) < (L : Int) := by omega
      clear hG hL h h2 hr hcap
      go_enter Try.func41, Try.ntmps41
      go_wp2
      go_ret2
      exact ⟨none, 0, rfl, .inl ⟨rfl, _, _, fun _ => rfl, rfl⟩, F, ⟨_, _, _, _, _, H.out⟩, .of_below (Below.refl _ _) H.out.lt⟩
    · rw [if_neg (by omega), if_neg hf]
      rw [h2] at c0
      obtain ⟨G2, hG2⟩ : ∃ G2, G2 = c.got + ys.length := ⟨_, rfl⟩
      rw [← hG2]
      have hn := Lib.hid (h.cell (i := 2) (v := .int .i64 (G2 : Int)) (by omega) { c with got := G2 } rfl rfl rfl rfl rfl rfl rfl h.m4)
      have hg := Lib.hid (Cg.set (g := g) (o := o) (i := 2) (F := F) (w := w) (v := .int .i64 (G2 : Int)) (by omega))
      have hrs := Lib.hid (rd_far (i := o + 2) (u := .int .i64 (G2 : Int)) hr hv)
      have HY : Hid (ys.length ≤ 4000) := Lib.hid (by omega)
      have hgb : G2 ≤ 4000 := by omega
      generalize hG : c.got = G at *
      generalize hL : ys.length = L at *
      have HG := Lib.hid hG
      have HL := Lib.hid hL
      have hlt : ((4000 - (G : Int)) < (L : Int)) = False := eq_false (by omega)
      have hsum : (G : Int) + (L : Int) = (G2 : Int) := by omega
      clear hG hL h h2 hr hcap hG2 hf hv
      go_enter Try.func41, Try.ntmps41
      go_wp2_with fail
      generalize hw1 : w.setCell ⟨g, o + 2, none⟩ (.int .i64 (G2 : Int)) = w1 at *
      have hsz : w.heap.size = w1.heap.size := by rw [← hw1]; simp [World.setCell]
      have HW1 := Lib.hid hw1
      rw [hsz]
      have ha := (Below.refl w1.heap.size w1).alloc (Nat.le_refl _) (.cells #[.slice ao L cap] 28)
      have hcat : cat [(.slice ao L cap, ys)] = ys := by simp [cat]
      have hct := concat_any w1.heap.size 1 [(.slice ao L cap, ys)] (w1.alloc (.cells #[.slice ao L cap] 28)) rfl (by decide) (fun j p hj => by
        cases j with
        | zero => simp at hj; subst hj; simp [cell_of_row _ _ _ _ _ _ (heap_alloc_new w1 (.cells #[.slice ao L cap] 28))]
        | succ j => simp at hj) (fun p hp => by
        simp only [List.mem_singleton] at hp
        subst hp
        exact hrs.out.below ha) (by rw [hcat]; have := HY.out; rw [HL.out]; omega)
      rw [hcat, HL.out] at hct
      refine hct.mono ?_
      rintro e w2 ⟨bo, cp, rfl, hb, ho, _⟩
      have hb2 := Lib.hid (ha.trans (hb.mono ha.size))
      have hro := Lib.hid (Rd.of_own ho)
      clear hb ho hct ha hsz
      go_wp2
      go_ret2
      rw [HW1.out] at *
      exact ⟨bo, cp, rfl, hro.out, F, ⟨_, _, _, _, _, hn.out.next hb2.out⟩, hg.out.trans (.of_below hb2.out hn.out.lt)⟩
  · rw [if_pos h2]
    clear h hr
    generalize hst : c.st = st at *
    have HST := Lib.hid hst
    have h2 := eq_false h2
    clear hst hcap
    generalize ys.length = L at *
    go_enter Try.func41, Try.ntmps41
    go_wp2
    go_ret2
    exact ⟨none, 0, rfl, .inl ⟨rfl, _, _, fun _ => rfl, rfl⟩, F, ⟨_, _, _, _, _, H.out⟩, .of_below (Below.refl _ _) H.out.lt⟩
end
end Go.Proofs.Ytneifmnlailipaa
