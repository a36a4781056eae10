/- come and Happen once more: what is told lies in new memory. (Laid by wip/tools/gen_fresh.py.) -/
import Derived.Test.YtneifmnlailipaaWirePY
namespace Go.Proofs.Ytneifmnlailipaa
open Go.RowKit
section
variable {w : World} {B g o : Nat} {F : Nat → Prop} {C : Array Value} {T : TypeId} {s so sw : Value} {most : Int} {c : Wi.Cn}
/-- 'come': told as they are. -/
theorem come_fresh (h : CX w B g o F C T s so sw most c) (v : Value) (ys : List UInt8) (hr : Rd w v (ys.map bv)) (hy : ys.length ≤ maxLen) (hgot : c.got ≤ 4000) (hv : 0 < ys.length → v.ownBlock ≠ some g) : Calls Try.prog 41 #[.pointer (some ⟨g, o, none⟩), v] w fun e w' => ∃ bo cp, e = .returned (.tuple #[.slice bo (c.come ys).1.length cp, .int .i64 ((c.come ys).2.1 : Int)]) ∧ Rd w' (.slice bo (c.come ys).1.length cp) ((c.come ys).1.map bv) ∧ Cw B g o F T w (c.come ys).2.2 w' ∧ (∀ b, (Value.slice bo (c.come ys).1.length cp).ownBlock = some b → w.heap.size ≤ b) := by
  unfold Wi.Cn.come
  obtain ⟨ao, cap, rfl, hcap, _⟩ := hr.form
  have c0 := h.c0
  have c2 := h.c2
  have f2 := h.f (o + 2)
  have H := Lib.hid h
  unfold maxLen at hy
  by_cases h2 : c.st = 2
  · by_cases hf : 4000 < c.got + ys.length
    · rw [if_neg (by omega), if_pos hf]
      rw [h2] at c0
      generalize hG : c.got = G at *
      generalize hL : ys.length = L at *
      have HG := Lib.hid hG
      have HL := Lib.hid hL
      have hlt : (4000 - (G : Int)) < (L : Int) := by omega
      clear hG hL h h2 hr hcap
      go_enter Try.func41, Try.ntmps41
      go_wp2
      go_ret2
      exact ⟨none, 0, rfl, .inl ⟨rfl, _, _, fun _ => rfl, rfl⟩, ⟨F, ⟨_, _, _, _, _, H.out⟩, .of_below (Below.refl _ _) H.out.lt⟩, (fun b e => by cases e)⟩
    · rw [if_neg (by omega), if_neg hf]
      rw [h2] at c0
      obtain ⟨G2, hG2⟩ : ∃ G2, G2 = c.got + ys.length := ⟨_, rfl⟩
      rw [← hG2]
      have hn := Lib.hid (h.cell (i := 2) (v := .int .i64 (G2 : Int)) (by omega) { c with got := G2 } rfl rfl rfl rfl rfl rfl rfl h.m4)
      have hg := Lib.hid (Cg.set (g := g) (o := o) (i := 2) (F := F) (w := w) (v := .int .i64 (G2 : Int)) (by omega))
      have hrs := Lib.hid (rd_far (i := o + 2) (u := .int .i64 (G2 : Int)) hr hv)
      have HY : Hid (ys.length ≤ 4000) := Lib.hid (by omega)
      have hgb : G2 ≤ 4000 := by omega
      generalize hG : c.got = G at *
      generalize hL : ys.length = L at *
      have HG := Lib.hid hG
      have HL := Lib.hid hL
      have hlt : ((4000 - (G : Int)) < (L : Int)) = False := eq_false (by omega)
      have hsum : (G : Int) + (L : Int) = (G2 : Int) := by omega
      clear hG hL h h2 hr hcap hG2 hf hv
      go_enter Try.func41, Try.ntmps41
      go_wp2_with fail
      generalize hw1 : w.setCell ⟨g, o + 2, none⟩ (.int .i64 (G2 : Int)) = w1 at *
      have hsz : w.heap.size = w1.heap.size := by rw [← hw1]; simp [World.setCell]
      have HW1 := Lib.hid hw1
      rw [hsz]
      have ha := (Below.refl w1.heap.size w1).alloc (Nat.le_refl _) (.cells #[.slice ao L cap] 28)
      have hcat : cat [(.slice ao L cap, ys)] = ys := by simp [cat]
      have hct := concat_any w1.heap.size 1 [(.slice ao L cap, ys)] (w1.alloc (.cells #[.slice ao L cap] 28)) rfl (by decide) (fun j p hj => by
        cases j with
        | zero => simp at hj; subst hj; simp [cell_of_row _ _ _ _ _ _ (heap_alloc_new w1 (.cells #[.slice ao L cap] 28))]
        | succ j => simp at hj) (fun p hp => by
        simp only [List.mem_singleton] at hp
        subst hp
        exact hrs.out.below ha) (by rw [hcat]; have := HY.out; rw [HL.out]; omega)
      rw [hcat, HL.out] at hct
      refine hct.mono ?_
      rintro e w2 ⟨bo, cp, rfl, hb, ho, _⟩
      have hb2 := Lib.hid (ha.trans (hb.mono ha.size))
      have hro := Lib.hid (Rd.of_own ho)
      have hfr := Lib.hid (show ∀ b, (Value.slice bo L cp).ownBlock = some b → w1.heap.size ≤ b from fun b e => Nat.le_trans ha.size (ho.lt b e).1)
      have HSZ := Lib.hid hsz
      clear hb ho hct ha hsz
      go_wp2
      go_ret2
      rw [HW1.out] at *
      exact ⟨bo, cp, rfl, hro.out, ⟨F, ⟨_, _, _, _, _, hn.out.next hb2.out⟩, hg.out.trans (.of_below hb2.out hn.out.lt)⟩, fun b e => by rw [HSZ.out]; exact hfr.out b e⟩
  · rw [if_pos h2]
    clear h hr
    generalize hst : c.st = st at *
    have HST := Lib.hid hst
    have h2 := eq_false h2
    clear hst hcap
    generalize ys.length = L at *
    go_enter Try.func41, Try.ntmps41
    go_wp2
    go_ret2
    exact ⟨none, 0, rfl, .inl ⟨rfl, _, _, fun _ => rfl, rfl⟩, ⟨F, ⟨_, _, _, _, _, H.out⟩, .of_below (Below.refl _ _) H.out.lt⟩, (fun b e => by cases e)⟩
end
def HapF (w : World) (B g : Nat) (F : Nat → Prop) (r : List UInt8 × Nat × Wi.Wm) (e : Ending) (w' : World) : Prop := ∃ bo cp, e = .returned (.tuple #[.slice bo r.1.length cp, .int .i64 (r.2.1 : Int)]) ∧ Rd w' (.slice bo r.1.length cp) (r.1.map bv) ∧ Ws B g F w r.2.2 w' ∧ (0 < r.1.length → ∀ b, (Value.slice bo r.1.length cp).ownBlock = some b → w.heap.size ≤ b)
section
variable {w : World} {B g : Nat} {F : Nat → Prop} {W : Wi.Wm}
theorem hap_come_fresh (h : WO w B g F W) (hok : W.Ok) (k n : Int) (v : Value) (ys : List UInt8) (hr : Rd w v (ys.map bv)) (hy : ys.length ≤ maxLen) (hv : 0 < ys.length → ∀ b, v.ownBlock = some b → ¬ F b) (hN : (W.at k).sent.length ≤ 16777216) (hM : (W.at k).written.length ≤ 16777216) :
    Calls Try.prog 19 #[.pointer (some ⟨g, 0, none⟩), .agg #[.int .i64 1, .int .i64 k, .int .i64 n, v]] w (HapF w B g F (W.happen 1 k n ys)) := by
  obtain ⟨ao, ac, rfl, _⟩ := hr.form
  have HE := Lib.hid (Wi.Wm.happen1 W k n ys)
  obtain ⟨R, hR⟩ : ∃ R, R = W.happen 1 k n ys := ⟨_, rfl⟩
  rw [← hR] at HE ⊢
  obtain ⟨L, hL⟩ : ∃ L, L = ys.length := ⟨_, rfl⟩
  rw [← hL] at hr ⊢
  have HL := Lib.hid hL
  have H := Lib.hid h
  have HOK := Lib.hid hok
  have HRD := Lib.hid hr
  have HV := Lib.hid hv
  have HY := Lib.hid hy
  have HN := Lib.hid hN
  have HM := Lib.hid hM
  have hal : Below w.heap.size w (w.alloc (.cells #[.int .i64 1, .int .i64 k, .int .i64 n, .slice ao L ac] 30)) := (Below.refl _ _).alloc (Nat.le_refl _) _
  have hrow := heap_alloc_new w (.cells #[.int .i64 1, .int .i64 k, .int .i64 n, .slice ao L ac] 30)
  obtain ⟨w0, hw0⟩ : ∃ w0, w0 = w.alloc (.cells #[.int .i64 1, .int .i64 k, .int .i64 n, .slice ao L ac] 30) := ⟨_, rfl⟩
  rw [← hw0] at hal hrow
  have HAL := Lib.hid hal
  have HROW := Lib.hid hrow
  have HW0 := Lib.hid hw0
  have hlt := (Array.getElem?_eq_some_iff.1 hrow).1
  have HLT := Lib.hid hlt
  clear hR h hok hr hv hy hN hM hal hrow hw0 hL hlt
  go_enter Try.func19, Try.ntmps19
  go_wp2_with fail
  rw [← HW0.out]
  refine (at_any (H.out.next HAL.out) k).mono ?_
  rintro e w1 ⟨g', o, F', T', rfl, ha⟩
  obtain ⟨C, s, so, sw, most, hx⟩ := ha.ca
  have hrow := (ha.below.block _ HLT.out).trans HROW.out
  have e0 : w1.cell? ⟨w.heap.size, 0, none⟩ = some (.int .i64 1) := cell_of_row _ _ _ _ _ _ hrow
  have e1 : w1.cell? ⟨w.heap.size, 1, none⟩ = some (.int .i64 k) := cell_of_row _ _ _ _ _ _ hrow
  have e2 : w1.cell? ⟨w.heap.size, 2, none⟩ = some (.int .i64 n) := cell_of_row _ _ _ _ _ _ hrow
  have e3 : w1.cell? ⟨w.heap.size, 3, none⟩ = some (.slice ao L ac) := cell_of_row _ _ _ _ _ _ hrow
  have HA := Lib.hid ha
  have hrd := (HRD.out.below HAL.out).below ha.below
  have hne : 0 < ys.length → (Value.slice ao L ac).ownBlock ≠ some g' := fun hp e =>
    ha.fr g' (Nat.lt_of_lt_of_le (HRD.out.blk hp g' e) HAL.out.size) (HV.out hp g' (by rw [← HL.out]; exact e)) rfl
  have hc := come_fresh hx (.slice ao L ac) ys hrd HY.out (by rw [Wi.Cn.norm_got]; exact (HOK.out.at k).got) hne
  rw [Wi.Cn.come_norm] at hc
  have HC := Lib.hid hc
  clear ha hx hrow hrd hne hc
  go_wp2_with fail
  refine HC.out.mono ?_
  rintro e w2 ⟨bo, cp, rfl, hr2, hcw, hfr⟩
  have hlen : ∃ q, q = ((W.at k).come ys).1.length := ⟨_, rfl⟩
  obtain ⟨q, hq⟩ := hlen
  have her : ∃ r, r = ((W.at k).come ys).2.1 := ⟨_, rfl⟩
  obtain ⟨r, hr⟩ := her
  simp only at hr2 hfr ⊢
  rw [← hq] at hr2 hfr ⊢
  have HFR := Lib.hid (show ∀ b, (Value.slice bo q cp).ownBlock = some b → w.heap.size ≤ b from fun b e => Nat.le_trans (Nat.le_trans HAL.out.size HA.out.below.size) (hfr b e))
  rw [← hr]
  have HR2 := Lib.hid hr2
  have HCW := Lib.hid hcw
  have HQ := Lib.hid hq
  have HR := Lib.hid hr
  clear hr2 hcw hq hr HC hfr
  go_wp2
  go_ret2
  rw [HE.out]
  refine ⟨bo, cp, ?_, ?_, Ws.later HAL.out (HA.out.did HCW.out rfl), ?_⟩
  · show Ending.returned (.tuple #[.slice bo q cp, .int .i64 (r : Int)]) = _
    rw [HQ.out, HR.out]
  · rw [← HQ.out]
    exact HR2.out
  · rw [← HQ.out]
    exact fun _ => HFR.out


theorem happen_nil (W : Wi.Wm) {kd : Int} (h : kd ≠ 1) (k n : Int) (ys : List UInt8) : (W.happen kd k n ys).1 = [] := by
  unfold Wi.Wm.happen
  rw [if_neg h]
  repeat' split
  all_goals rfl
theorem happen_fresh (h : WO w B g F W) (hok : W.Ok) (kd k n : Int) (v : Value) (ys : List UInt8) (hr : Rd w v (ys.map bv)) (hy : ys.length ≤ maxLen) (hv : 0 < ys.length → ∀ b, v.ownBlock = some b → ¬ F b) (hN : (W.at k).sent.length ≤ 16777216) (hM : (W.at k).written.length ≤ 16777216) :
    Calls Try.prog 19 #[.pointer (some ⟨g, 0, none⟩), .agg #[.int .i64 kd, .int .i64 k, .int .i64 n, v]] w (HapF w B g F (W.happen kd k n ys)) := by
  by_cases h1 : kd = 1
  · subst h1; exact hap_come_fresh h hok k n v ys hr hy hv hN hM
  refine (happen_any h hok kd k n v ys hr hy hv hN hM).mono ?_
  rintro e w' ⟨bo, cp, h2, h3, h4⟩
  exact ⟨bo, cp, h2, h3, h4, fun hp => by rw [happen_nil W h1] at hp; cases hp⟩
end

/-- A wire and the reference's one, and bytes that were told, apart from the reference's. -/
structure PYA (W0 : World) (g gy : Nat) (W V : Wi.Wm) (N : Nat) (K : List (Nat × Obj)) (u : Value) (us : List UInt8) (wr : World) : Prop where
  ok : W.Ok
  okv : V.Ok
  o : ∃ F Fy, WO wr W0.heap.size g F W ∧ RW wr W0.heap.size gy Fy V ∧ (∀ k, F k → ¬ Fy k) ∧ (∀ p ∈ K, (¬ F p.1 ∧ ¬ Fy p.1) ∧ wr.heap[p.1]? = some p.2) ∧ Rd wr u (us.map bv) ∧ (0 < us.length → ∀ b, u.ownBlock = some b → ¬ Fy b)
  below : Below W0.heap.size W0 wr
  n : W.b.written.length ≤ N
  nv : V.b.written.length ≤ N
  hN : N ≤ 1000000
section
variable {W0 wr w' : World} {g gy N : Nat} {W V : Wi.Wm} {K : List (Nat × Obj)} {u : Value} {us : List UInt8}
theorem PYA.next (h : PYA W0 g gy W V N K u us wr) (hb : Below wr.heap.size wr w') : PYA W0 g gy W V N K u us w' := by
  obtain ⟨F, Fy, hF, hY, hd, hK, hu, hn⟩ := h.o
  exact ⟨h.ok, h.okv, ⟨F, Fy, hF.next hb, hY.next hb, hd, fun p hp => ⟨(hK p hp).1, (hb.block _ (Array.getElem?_eq_some_iff.1 (hK p hp).2).1).trans (hK p hp).2⟩, hu.below hb, hn⟩, h.below.trans (hb.mono h.below.size), h.n, h.nv, h.hN⟩
theorem PYA.kept {p : Nat × Obj} (h : PYA W0 g gy W V N (p :: K) u us wr) : wr.heap[p.1]? = some p.2 := by
  obtain ⟨F, Fy, hF, hY, hd, hK, _⟩ := h.o
  exact (hK p (List.mem_cons_self ..)).2
/-- The reference's 'Happen'; what was told stays. -/
theorem PYA.rhappen (h : PYA W0 g gy W V N K u us wr) (kd k n : Int) (v : Value) (ys : List UInt8) (hr : Rd W0 v (ys.map bv)) (hy : ys.length ≤ maxLen) {q : Nat} (hq : q = (V.happen kd k n ys).1.length) : Calls Try.prog 21 #[.pointer (some ⟨gy, 0, none⟩), .agg #[.int .i64 kd, .int .i64 k, .int .i64 n, v]] wr fun e w' => ∃ bo cp, e = .returned (.tuple #[.slice bo q cp, .int .i64 ((V.happen kd k n ys).2.1 : Int)]) ∧ Rd w' (.slice bo q cp) ((V.happen kd k n ys).1.map bv) ∧ PY W0 g gy W (V.happen kd k n ys).2.2 N K w' ∧ Rd w' u (us.map bv) := by
  obtain ⟨F, Fy, hF, hY, hd, hK, hu, hn⟩ := h.o
  have hp : PY W0 g gy W V N K wr := ⟨h.ok, h.okv, ⟨F, Fy, hF, hY, hd, hK⟩, h.below, h.n, h.nv, h.hN⟩
  refine (rhappen_any hY h.okv kd k n v ys (hr.below h.below) hy (fun hp b hb hFb => ?_)).mono ?_
  · have h1 := hr.blk hp b hb
    have h2 := (hY.fF b hFb).1
    omega
  · rintro e w' ⟨bo, cp, rfl, hr', hs⟩
    rw [hq]
    refine ⟨bo, cp, rfl, hr', hp.didR ⟨hF, hY, hd, hK⟩ hs (Wi.Wm.happen_ok h.okv kd k n ys) (Nat.le_trans (Wi.Wm.happen_bw h.okv kd k n ys) h.nv) h.hN (Nat.le_refl _), ?_⟩
    obtain ⟨F', _, h2, _⟩ := hs
    by_cases hp : 0 < us.length
    · exact hu.kept (fun b hb => h2.block b (hu.blk hp b hb) (hn hp b hb))
    · have : us = [] := List.eq_nil_of_length_eq_zero (by omega)
      subst this
      rcases hu with hu | ⟨b, o, cap, hv, h3, h4, _⟩
      · exact .inl hu
      · exact .inr ⟨b, o, cap, hv, h3, h4, fun j u hj => by simp at hj⟩
end

section
variable {W0 wr w' : World} {g gy N : Nat} {W V : Wi.Wm} {K : List (Nat × Obj)}
/-- 'Happen' of the wire; what is told is apart from the reference's. -/
theorem PY.happenF (h : PY W0 g gy W V N K wr) (kd k n : Int) (v : Value) (ys : List UInt8) (hr : Rd W0 v (ys.map bv)) (hy : ys.length ≤ maxLen) {q : Nat} (hq : q = (W.happen kd k n ys).1.length) : Calls Try.prog 19 #[.pointer (some ⟨g, 0, none⟩), .agg #[.int .i64 kd, .int .i64 k, .int .i64 n, v]] wr fun e w' => ∃ bo cp, e = .returned (.tuple #[.slice bo q cp, .int .i64 ((W.happen kd k n ys).2.1 : Int)]) ∧ PYA W0 g gy (W.happen kd k n ys).2.2 V N K (.slice bo q cp) (W.happen kd k n ys).1 w' := by
  obtain ⟨F, Fy, hO⟩ := h.o
  have hb := wm_bound h.ok h.n h.hN k
  refine (happen_fresh hO.1 h.ok kd k n v ys (hr.below h.below) hy (fun hp b hb hFb => ?_) hb.1 hb.2).mono ?_
  · have h1 := hr.blk hp b hb
    have h2 := (hO.1.fF b hFb).1
    omega
  · rintro e w' ⟨bo, cp, rfl, hr', hs, hfr⟩
    rw [hq]
    refine ⟨bo, cp, rfl, ?_⟩
    obtain ⟨F', h1, h2, h3⟩ := hs
    have hd := hO.2.2.1
    have hYl := hO.2.1.fF
    refine ⟨Wi.Wm.happen_ok h.ok kd k n ys, h.okv, ⟨F', Fy, h1, hO.2.1.apart h2 (fun k hk e => hd k e hk), fun k hk hy => ?_, fun p hp => ?_, hr', fun hp b hb hy => ?_⟩, h.below.trans (h2.below (fun k hk => (hO.1.fF k hk).1) h.below.size), Nat.le_trans (Wi.Wm.happen_bw h.ok kd k n ys) h.n, h.nv, h.hN⟩
    · rcases h3 k hk with e | e
      · exact hd k e hy
      · have := (hYl k hy).2
        omega
    · have hK := hO.2.2.2 p hp
      have hl := (Array.getElem?_eq_some_iff.1 hK.2).1
      refine ⟨⟨fun e => ?_, hK.1.2⟩, (h2.block _ hl hK.1.1).trans hK.2⟩
      rcases h3 _ e with e | e
      · exact hK.1.1 e
      · omega
    · have h5 := hfr hp b hb
      have := (hYl b hy).2
      omega
end
end Go.Proofs.Ytneifmnlailipaa
