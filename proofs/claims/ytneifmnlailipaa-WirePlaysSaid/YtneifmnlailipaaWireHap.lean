/- The wire: Happen walked. (Laid by wip/tools/gen_happen.py.) -/
import Derived.Test.YtneifmnlailipaaWireDo2
namespace Go.Proofs.Ytneifmnlailipaa
open Go.RowKit

theorem Rd.blk {w : World} {v : Value} {ys : List UInt8} (h : Rd w v (ys.map bv)) (hp : 0 < ys.length) : ∀ b, v.ownBlock = some b → b < w.heap.size := by
  rcases h with ⟨e, _⟩ | ⟨b, o, cap, rfl, h1, h2, h3⟩
  · have : ys = [] := by simpa using e
    subst this
    cases hp
  · intro b' e
    obtain ⟨y, hy⟩ : ∃ y, (ys.map bv)[0]? = some y := ⟨_, List.getElem?_eq_getElem (by rw [List.length_map]; exact hp)⟩
    cases e
    exact World.block_lt_of_cell? w _ (h3 0 y hy)
theorem At.did {w0 w1 w2 : World} {B g g' o : Nat} {F F' : Nat → Prop} {W : Wi.Wm} {k : Int} {T' : TypeId} {c' c2 : Wi.Cn} (ha : At w0 B g F W k w1 g' o F' T') (hc : Cw B g' o F' T' w1 c' w2) (e : c' = c2.norm) : Ws B g F w0 (W.upd k c2) w2 := by
  obtain ⟨F2, h1, h2⟩ := hc
  subst e
  exact ha.back _ _ _ h1 h2
theorem Ws.later {w w0 w2 : World} {B g : Nat} {F : Nat → Prop} {W' : Wi.Wm} (hb : Below w.heap.size w w0) (h : Ws B g F w0 W' w2) : Ws B g F w W' w2 := .trans (.of_below hb) (fun _ h => .inl h) h

/-- What 'Happen' answers. -/
def HapR (w : World) (B g : Nat) (F : Nat → Prop) (r : List UInt8 × Nat × Wi.Wm) (e : Ending) (w' : World) : Prop := ∃ bo cp, e = .returned (.tuple #[.slice bo r.1.length cp, .int .i64 (r.2.1 : Int)]) ∧ Rd w' (.slice bo r.1.length cp) (r.1.map bv) ∧ Ws B g F w r.2.2 w'

section
variable {w : World} {B g : Nat} {F : Nat → Prop} {W : Wi.Wm}

theorem hap_come (h : WO w B g F W) (hok : W.Ok) (k n : Int) (v : Value) (ys : List UInt8) (hr : Rd w v (ys.map bv)) (hy : ys.length ≤ maxLen) (hv : 0 < ys.length → ∀ b, v.ownBlock = some b → ¬ F b) (hN : (W.at k).sent.length ≤ 16777216) (hM : (W.at k).written.length ≤ 16777216) :
    Calls Try.prog 19 #[.pointer (some ⟨g, 0, none⟩), .agg #[.int .i64 1, .int .i64 k, .int .i64 n, v]] w (HapR w B g F (W.happen 1 k n ys)) := by
  obtain ⟨ao, ac, rfl, _⟩ := hr.form
  have HE := Lib.hid (Wi.Wm.happen1 W k n ys)
  obtain ⟨R, hR⟩ : ∃ R, R = W.happen 1 k n ys := ⟨_, rfl⟩
  rw [← hR] at HE ⊢
  obtain ⟨L, hL⟩ : ∃ L, L = ys.length := ⟨_, rfl⟩
  rw [← hL] at hr ⊢
  have HL := Lib.hid hL
  have H := Lib.hid h
  have HOK := Lib.hid hok
  have HRD := Lib.hid hr
  have HV := Lib.hid hv
  have HY := Lib.hid hy
  have HN := Lib.hid hN
  have HM := Lib.hid hM
  have hal : Below w.heap.size w (w.alloc (.cells #[.int .i64 1, .int .i64 k, .int .i64 n, .slice ao L ac] 30)) := (Below.refl _ _).alloc (Nat.le_refl _) _
  have hrow := heap_alloc_new w (.cells #[.int .i64 1, .int .i64 k, .int .i64 n, .slice ao L ac] 30)
  obtain ⟨w0, hw0⟩ : ∃ w0, w0 = w.alloc (.cells #[.int .i64 1, .int .i64 k, .int .i64 n, .slice ao L ac] 30) := ⟨_, rfl⟩
  rw [← hw0] at hal hrow
  have HAL := Lib.hid hal
  have HROW := Lib.hid hrow
  have HW0 := Lib.hid hw0
  have hlt := (Array.getElem?_eq_some_iff.1 hrow).1
  have HLT := Lib.hid hlt
  clear hR h hok hr hv hy hN hM hal hrow hw0 hL hlt
  go_enter Try.func19, Try.ntmps19
  go_wp2_with fail
  rw [← HW0.out]
  refine (at_any (H.out.next HAL.out) k).mono ?_
  rintro e w1 ⟨g', o, F', T', rfl, ha⟩
  obtain ⟨C, s, so, sw, most, hx⟩ := ha.ca
  have hrow := (ha.below.block _ HLT.out).trans HROW.out
  have e0 : w1.cell? ⟨w.heap.size, 0, none⟩ = some (.int .i64 1) := cell_of_row _ _ _ _ _ _ hrow
  have e1 : w1.cell? ⟨w.heap.size, 1, none⟩ = some (.int .i64 k) := cell_of_row _ _ _ _ _ _ hrow
  have e2 : w1.cell? ⟨w.heap.size, 2, none⟩ = some (.int .i64 n) := cell_of_row _ _ _ _ _ _ hrow
  have e3 : w1.cell? ⟨w.heap.size, 3, none⟩ = some (.slice ao L ac) := cell_of_row _ _ _ _ _ _ hrow
  have HA := Lib.hid ha
  have hrd := (HRD.out.below HAL.out).below ha.below
  have hne : 0 < ys.length → (Value.slice ao L ac).ownBlock ≠ some g' := fun hp e =>
    ha.fr g' (Nat.lt_of_lt_of_le (HRD.out.blk hp g' e) HAL.out.size) (HV.out hp g' (by rw [← HL.out]; exact e)) rfl
  have hc := come_any hx (.slice ao L ac) ys hrd HY.out (by rw [Wi.Cn.norm_got]; exact (HOK.out.at k).got) hne
  rw [Wi.Cn.come_norm] at hc
  have HC := Lib.hid hc
  clear ha hx hrow hrd hne hc
  go_wp2_with fail
  refine HC.out.mono ?_
  rintro e w2 ⟨bo, cp, rfl, hr2, hcw⟩
  have hlen : ∃ q, q = ((W.at k).come ys).1.length := ⟨_, rfl⟩
  obtain ⟨q, hq⟩ := hlen
  have her : ∃ r, r = ((W.at k).come ys).2.1 := ⟨_, rfl⟩
  obtain ⟨r, hr⟩ := her
  simp only at hr2 ⊢
  rw [← hq] at hr2 ⊢
  rw [← hr]
  have HR2 := Lib.hid hr2
  have HCW := Lib.hid hcw
  have HQ := Lib.hid hq
  have HR := Lib.hid hr
  clear hr2 hcw hq hr HC
  go_wp2
  go_ret2
  rw [HE.out]
  refine ⟨bo, cp, ?_, ?_, Ws.later HAL.out (HA.out.did HCW.out rfl)⟩
  · show Ending.returned (.tuple #[.slice bo q cp, .int .i64 (r : Int)]) = _
    rw [HQ.out, HR.out]
  · rw [← HQ.out]
    exact HR2.out

theorem hap_take (h : WO w B g F W) (hok : W.Ok) (k n : Int) (v : Value) (ys : List UInt8) (hr : Rd w v (ys.map bv)) (hy : ys.length ≤ maxLen) (hv : 0 < ys.length → ∀ b, v.ownBlock = some b → ¬ F b) (hN : (W.at k).sent.length ≤ 16777216) (hM : (W.at k).written.length ≤ 16777216) :
    Calls Try.prog 19 #[.pointer (some ⟨g, 0, none⟩), .agg #[.int .i64 2, .int .i64 k, .int .i64 n, v]] w (HapR w B g F (W.happen 2 k n ys)) := by
  obtain ⟨ao, ac, rfl, _⟩ := hr.form
  have HE := Lib.hid (Wi.Wm.happen2 W k n ys)
  obtain ⟨R, hR⟩ : ∃ R, R = W.happen 2 k n ys := ⟨_, rfl⟩
  rw [← hR] at HE ⊢
  obtain ⟨L, hL⟩ : ∃ L, L = ys.length := ⟨_, rfl⟩
  rw [← hL] at hr ⊢
  have HL := Lib.hid hL
  have H := Lib.hid h
  have HOK := Lib.hid hok
  have HRD := Lib.hid hr
  have HV := Lib.hid hv
  have HY := Lib.hid hy
  have HN := Lib.hid hN
  have HM := Lib.hid hM
  have hal : Below w.heap.size w (w.alloc (.cells #[.int .i64 2, .int .i64 k, .int .i64 n, .slice ao L ac] 30)) := (Below.refl _ _).alloc (Nat.le_refl _) _
  have hrow := heap_alloc_new w (.cells #[.int .i64 2, .int .i64 k, .int .i64 n, .slice ao L ac] 30)
  obtain ⟨w0, hw0⟩ : ∃ w0, w0 = w.alloc (.cells #[.int .i64 2, .int .i64 k, .int .i64 n, .slice ao L ac] 30) := ⟨_, rfl⟩
  rw [← hw0] at hal hrow
  have HAL := Lib.hid hal
  have HROW := Lib.hid hrow
  have HW0 := Lib.hid hw0
  have hlt := (Array.getElem?_eq_some_iff.1 hrow).1
  have HLT := Lib.hid hlt
  clear hR h hok hr hv hy hN hM hal hrow hw0 hL hlt
  go_enter Try.func19, Try.ntmps19
  go_wp2_with fail
  rw [← HW0.out]
  refine (at_any (H.out.next HAL.out) k).mono ?_
  rintro e w1 ⟨g', o, F', T', rfl, ha⟩
  obtain ⟨C, s, so, sw, most, hx⟩ := ha.ca
  have hrow := (ha.below.block _ HLT.out).trans HROW.out
  have e0 : w1.cell? ⟨w.heap.size, 0, none⟩ = some (.int .i64 2) := cell_of_row _ _ _ _ _ _ hrow
  have e1 : w1.cell? ⟨w.heap.size, 1, none⟩ = some (.int .i64 k) := cell_of_row _ _ _ _ _ _ hrow
  have e2 : w1.cell? ⟨w.heap.size, 2, none⟩ = some (.int .i64 n) := cell_of_row _ _ _ _ _ _ hrow
  have e3 : w1.cell? ⟨w.heap.size, 3, none⟩ = some (.slice ao L ac) := cell_of_row _ _ _ _ _ _ hrow
  have HA := Lib.hid ha
  have hc := takes_any hx n
  rw [Wi.Cn.takes_norm] at hc
  have HC := Lib.hid hc
  clear ha hx hrow hc
  go_wp2_with fail
  refine HC.out.mono ?_
  rintro e w2 ⟨rfl, hcw⟩
  have her : ∃ r, r = ((W.at k).tk n).1 := ⟨_, rfl⟩
  obtain ⟨r, hr⟩ := her
  simp only at hcw ⊢
  rw [← hr]
  have HCW := Lib.hid hcw
  have HR := Lib.hid hr
  clear hcw hr HC
  go_wp2
  go_ret2
  rw [HE.out]
  refine ⟨none, 0, ?_, .inl ⟨rfl, _, _, fun _ => rfl, rfl⟩, Ws.later HAL.out (HA.out.did HCW.out rfl)⟩
  show Ending.returned (.tuple #[.slice none 0 0, .int .i64 (r : Int)]) = _
  rw [HR.out]
  rfl

theorem hap_end (h : WO w B g F W) (hok : W.Ok) (k n : Int) (v : Value) (ys : List UInt8) (hr : Rd w v (ys.map bv)) (hy : ys.length ≤ maxLen) (hv : 0 < ys.length → ∀ b, v.ownBlock = some b → ¬ F b) (hN : (W.at k).sent.length ≤ 16777216) (hM : (W.at k).written.length ≤ 16777216) :
    Calls Try.prog 19 #[.pointer (some ⟨g, 0, none⟩), .agg #[.int .i64 3, .int .i64 k, .int .i64 n, v]] w (HapR w B g F (W.happen 3 k n ys)) := by
  obtain ⟨ao, ac, rfl, _⟩ := hr.form
  have HE := Lib.hid (Wi.Wm.happen3 W k n ys)
  obtain ⟨R, hR⟩ : ∃ R, R = W.happen 3 k n ys := ⟨_, rfl⟩
  rw [← hR] at HE ⊢
  obtain ⟨L, hL⟩ : ∃ L, L = ys.length := ⟨_, rfl⟩
  rw [← hL] at hr ⊢
  have HL := Lib.hid hL
  have H := Lib.hid h
  have HOK := Lib.hid hok
  have HRD := Lib.hid hr
  have HV := Lib.hid hv
  have HY := Lib.hid hy
  have HN := Lib.hid hN
  have HM := Lib.hid hM
  have hal : Below w.heap.size w (w.alloc (.cells #[.int .i64 3, .int .i64 k, .int .i64 n, .slice ao L ac] 30)) := (Below.refl _ _).alloc (Nat.le_refl _) _
  have hrow := heap_alloc_new w (.cells #[.int .i64 3, .int .i64 k, .int .i64 n, .slice ao L ac] 30)
  obtain ⟨w0, hw0⟩ : ∃ w0, w0 = w.alloc (.cells #[.int .i64 3, .int .i64 k, .int .i64 n, .slice ao L ac] 30) := ⟨_, rfl⟩
  rw [← hw0] at hal hrow
  have HAL := Lib.hid hal
  have HROW := Lib.hid hrow
  have HW0 := Lib.hid hw0
  have hlt := (Array.getElem?_eq_some_iff.1 hrow).1
  have HLT := Lib.hid hlt
  clear hR h hok hr hv hy hN hM hal hrow hw0 hL hlt
  go_enter Try.func19, Try.ntmps19
  go_wp2_with fail
  rw [← HW0.out]
  refine (at_any (H.out.next HAL.out) k).mono ?_
  rintro e w1 ⟨g', o, F', T', rfl, ha⟩
  obtain ⟨C, s, so, sw, most, hx⟩ := ha.ca
  have hrow := (ha.below.block _ HLT.out).trans HROW.out
  have e0 : w1.cell? ⟨w.heap.size, 0, none⟩ = some (.int .i64 3) := cell_of_row _ _ _ _ _ _ hrow
  have e1 : w1.cell? ⟨w.heap.size, 1, none⟩ = some (.int .i64 k) := cell_of_row _ _ _ _ _ _ hrow
  have e2 : w1.cell? ⟨w.heap.size, 2, none⟩ = some (.int .i64 n) := cell_of_row _ _ _ _ _ _ hrow
  have e3 : w1.cell? ⟨w.heap.size, 3, none⟩ = some (.slice ao L ac) := cell_of_row _ _ _ _ _ _ hrow
  have HA := Lib.hid ha
  have hc := end_any hx
  rw [Wi.Cn.fin_norm] at hc
  have HC := Lib.hid hc
  clear ha hx hrow hc
  go_wp2_with fail
  refine HC.out.mono ?_
  rintro e w2 ⟨rfl, hcw⟩
  have her : ∃ r, r = ((W.at k).fin).1 := ⟨_, rfl⟩
  obtain ⟨r, hr⟩ := her
  simp only at hcw ⊢
  rw [← hr]
  have HCW := Lib.hid hcw
  have HR := Lib.hid hr
  clear hcw hr HC
  go_wp2
  go_ret2
  rw [HE.out]
  refine ⟨none, 0, ?_, .inl ⟨rfl, _, _, fun _ => rfl, rfl⟩, Ws.later HAL.out (HA.out.did HCW.out rfl)⟩
  show Ending.returned (.tuple #[.slice none 0 0, .int .i64 (r : Int)]) = _
  rw [HR.out]
  rfl

theorem hap_reset (h : WO w B g F W) (hok : W.Ok) (k n : Int) (v : Value) (ys : List UInt8) (hr : Rd w v (ys.map bv)) (hy : ys.length ≤ maxLen) (hv : 0 < ys.length → ∀ b, v.ownBlock = some b → ¬ F b) (hN : (W.at k).sent.length ≤ 16777216) (hM : (W.at k).written.length ≤ 16777216) :
    Calls Try.prog 19 #[.pointer (some ⟨g, 0, none⟩), .agg #[.int .i64 4, .int .i64 k, .int .i64 n, v]] w (HapR w B g F (W.happen 4 k n ys)) := by
  obtain ⟨ao, ac, rfl, _⟩ := hr.form
  have HE := Lib.hid (Wi.Wm.happen4 W k n ys)
  obtain ⟨R, hR⟩ : ∃ R, R = W.happen 4 k n ys := ⟨_, rfl⟩
  rw [← hR] at HE ⊢
  obtain ⟨L, hL⟩ : ∃ L, L = ys.length := ⟨_, rfl⟩
  rw [← hL] at hr ⊢
  have HL := Lib.hid hL
  have H := Lib.hid h
  have HOK := Lib.hid hok
  have HRD := Lib.hid hr
  have HV := Lib.hid hv
  have HY := Lib.hid hy
  have HN := Lib.hid hN
  have HM := Lib.hid hM
  have hal : Below w.heap.size w (w.alloc (.cells #[.int .i64 4, .int .i64 k, .int .i64 n, .slice ao L ac] 30)) := (Below.refl _ _).alloc (Nat.le_refl _) _
  have hrow := heap_alloc_new w (.cells #[.int .i64 4, .int .i64 k, .int .i64 n, .slice ao L ac] 30)
  obtain ⟨w0, hw0⟩ : ∃ w0, w0 = w.alloc (.cells #[.int .i64 4, .int .i64 k, .int .i64 n, .slice ao L ac] 30) := ⟨_, rfl⟩
  rw [← hw0] at hal hrow
  have HAL := Lib.hid hal
  have HROW := Lib.hid hrow
  have HW0 := Lib.hid hw0
  have hlt := (Array.getElem?_eq_some_iff.1 hrow).1
  have HLT := Lib.hid hlt
  clear hR h hok hr hv hy hN hM hal hrow hw0 hL hlt
  go_enter Try.func19, Try.ntmps19
  go_wp2_with fail
  rw [← HW0.out]
  refine (at_any (H.out.next HAL.out) k).mono ?_
  rintro e w1 ⟨g', o, F', T', rfl, ha⟩
  obtain ⟨C, s, so, sw, most, hx⟩ := ha.ca
  have hrow := (ha.below.block _ HLT.out).trans HROW.out
  have e0 : w1.cell? ⟨w.heap.size, 0, none⟩ = some (.int .i64 4) := cell_of_row _ _ _ _ _ _ hrow
  have e1 : w1.cell? ⟨w.heap.size, 1, none⟩ = some (.int .i64 k) := cell_of_row _ _ _ _ _ _ hrow
  have e2 : w1.cell? ⟨w.heap.size, 2, none⟩ = some (.int .i64 n) := cell_of_row _ _ _ _ _ _ hrow
  have e3 : w1.cell? ⟨w.heap.size, 3, none⟩ = some (.slice ao L ac) := cell_of_row _ _ _ _ _ _ hrow
  have HA := Lib.hid ha
  have hc := reset_any hx (by rw [Wi.Cn.norm_sent]; exact HN.out) (by rw [Wi.Cn.norm_written]; exact HM.out)
  rw [Wi.Cn.rst_norm] at hc
  have HC := Lib.hid hc
  clear ha hx hrow hc
  go_wp2_with fail
  refine HC.out.mono ?_
  rintro e w2 ⟨rfl, hcw⟩
  have her : ∃ r, r = ((W.at k).rs).1 := ⟨_, rfl⟩
  obtain ⟨r, hr⟩ := her
  simp only at hcw ⊢
  rw [← hr]
  have HCW := Lib.hid hcw
  have HR := Lib.hid hr
  clear hcw hr HC
  go_wp2
  go_ret2
  rw [HE.out]
  refine ⟨none, 0, ?_, .inl ⟨rfl, _, _, fun _ => rfl, rfl⟩, Ws.later HAL.out (HA.out.did HCW.out rfl)⟩
  show Ending.returned (.tuple #[.slice none 0 0, .int .i64 (r : Int)]) = _
  rw [HR.out]
  rfl

theorem hap_connect (h : WO w B g F W) (hok : W.Ok) (k n : Int) (v : Value) (ys : List UInt8) (hr : Rd w v (ys.map bv)) (hy : ys.length ≤ maxLen) (hv : 0 < ys.length → ∀ b, v.ownBlock = some b → ¬ F b) (hN : (W.at k).sent.length ≤ 16777216) (hM : (W.at k).written.length ≤ 16777216) :
    Calls Try.prog 19 #[.pointer (some ⟨g, 0, none⟩), .agg #[.int .i64 5, .int .i64 k, .int .i64 n, v]] w (HapR w B g F (W.happen 5 k n ys)) := by
  obtain ⟨ao, ac, rfl, _⟩ := hr.form
  have HE := Lib.hid (Wi.Wm.happen5 hok k n ys)
  obtain ⟨R, hR⟩ : ∃ R, R = W.happen 5 k n ys := ⟨_, rfl⟩
  rw [← hR] at HE ⊢
  obtain ⟨L, hL⟩ : ∃ L, L = ys.length := ⟨_, rfl⟩
  rw [← hL] at hr ⊢
  have HL := Lib.hid hL
  have H := Lib.hid h
  have HOK := Lib.hid hok
  have HRD := Lib.hid hr
  have HV := Lib.hid hv
  have HY := Lib.hid hy
  have HN := Lib.hid hN
  have HM := Lib.hid hM
  have hal : Below w.heap.size w (w.alloc (.cells #[.int .i64 5, .int .i64 k, .int .i64 n, .slice ao L ac] 30)) := (Below.refl _ _).alloc (Nat.le_refl _) _
  have hrow := heap_alloc_new w (.cells #[.int .i64 5, .int .i64 k, .int .i64 n, .slice ao L ac] 30)
  obtain ⟨w0, hw0⟩ : ∃ w0, w0 = w.alloc (.cells #[.int .i64 5, .int .i64 k, .int .i64 n, .slice ao L ac] 30) := ⟨_, rfl⟩
  rw [← hw0] at hal hrow
  have HAL := Lib.hid hal
  have HROW := Lib.hid hrow
  have HW0 := Lib.hid hw0
  have hlt := (Array.getElem?_eq_some_iff.1 hrow).1
  have HLT := Lib.hid hlt
  clear hR h hok hr hv hy hN hM hal hrow hw0 hL hlt
  go_enter Try.func19, Try.ntmps19
  go_wp2_with fail
  rw [← HW0.out]
  refine (at_any (H.out.next HAL.out) k).mono ?_
  rintro e w1 ⟨g', o, F', T', rfl, ha⟩
  obtain ⟨C, s, so, sw, most, hx⟩ := ha.ca
  have hrow := (ha.below.block _ HLT.out).trans HROW.out
  have e0 : w1.cell? ⟨w.heap.size, 0, none⟩ = some (.int .i64 5) := cell_of_row _ _ _ _ _ _ hrow
  have e1 : w1.cell? ⟨w.heap.size, 1, none⟩ = some (.int .i64 k) := cell_of_row _ _ _ _ _ _ hrow
  have e2 : w1.cell? ⟨w.heap.size, 2, none⟩ = some (.int .i64 n) := cell_of_row _ _ _ _ _ _ hrow
  have e3 : w1.cell? ⟨w.heap.size, 3, none⟩ = some (.slice ao L ac) := cell_of_row _ _ _ _ _ _ hrow
  have HA := Lib.hid ha
  have hc := connect_any hx n
  rw [Wi.Cn.conn_norm (HOK.out.at k)] at hc
  have HC := Lib.hid hc
  clear ha hx hrow hc
  go_wp2_with fail
  refine HC.out.mono ?_
  rintro e w2 ⟨rfl, hcw⟩
  have her : ∃ r, r = ((W.at k).conn n).1 := ⟨_, rfl⟩
  obtain ⟨r, hr⟩ := her
  simp only at hcw ⊢
  rw [← hr]
  have HCW := Lib.hid hcw
  have HR := Lib.hid hr
  clear hcw hr HC
  go_wp2
  go_ret2
  rw [HE.out]
  refine ⟨none, 0, ?_, .inl ⟨rfl, _, _, fun _ => rfl, rfl⟩, Ws.later HAL.out (HA.out.did HCW.out rfl)⟩
  show Ending.returned (.tuple #[.slice none 0 0, .int .i64 (r : Int)]) = _
  rw [HR.out]
  rfl

theorem hap_tick (h : WO w B g F W) (hok : W.Ok) (k n : Int) (v : Value) (ys : List UInt8) (hr : Rd w v (ys.map bv)) (hy : ys.length ≤ maxLen) (hv : 0 < ys.length → ∀ b, v.ownBlock = some b → ¬ F b) (hN : (W.at k).sent.length ≤ 16777216) (hM : (W.at k).written.length ≤ 16777216) :
    Calls Try.prog 19 #[.pointer (some ⟨g, 0, none⟩), .agg #[.int .i64 6, .int .i64 k, .int .i64 n, v]] w (HapR w B g F (W.happen 6 k n ys)) := by
  obtain ⟨ao, ac, rfl, _⟩ := hr.form
  have HE := Lib.hid (Wi.Wm.happen6 W k n ys)
  obtain ⟨R, hR⟩ : ∃ R, R = W.happen 6 k n ys := ⟨_, rfl⟩
  rw [← hR] at HE ⊢
  obtain ⟨L, hL⟩ : ∃ L, L = ys.length := ⟨_, rfl⟩
  rw [← hL] at hr ⊢
  have HL := Lib.hid hL
  have H := Lib.hid h
  have HOK := Lib.hid hok
  have HRD := Lib.hid hr
  have HV := Lib.hid hv
  have HY := Lib.hid hy
  have HN := Lib.hid hN
  have HM := Lib.hid hM
  have hal : Below w.heap.size w (w.alloc (.cells #[.int .i64 6, .int .i64 k, .int .i64 n, .slice ao L ac] 30)) := (Below.refl _ _).alloc (Nat.le_refl _) _
  have hrow := heap_alloc_new w (.cells #[.int .i64 6, .int .i64 k, .int .i64 n, .slice ao L ac] 30)
  obtain ⟨w0, hw0⟩ : ∃ w0, w0 = w.alloc (.cells #[.int .i64 6, .int .i64 k, .int .i64 n, .slice ao L ac] 30) := ⟨_, rfl⟩
  rw [← hw0] at hal hrow
  have HAL := Lib.hid hal
  have HROW := Lib.hid hrow
  have HW0 := Lib.hid hw0
  have hlt := (Array.getElem?_eq_some_iff.1 hrow).1
  have HLT := Lib.hid hlt
  clear hR h hok hr hv hy hN hM hal hrow hw0 hL hlt
  go_enter Try.func19, Try.ntmps19
  go_wp2_with fail
  rw [← HW0.out]
  refine (at_any (H.out.next HAL.out) k).mono ?_
  rintro e w1 ⟨g', o, F', T', rfl, ha⟩
  obtain ⟨C, s, so, sw, most, hx⟩ := ha.ca
  have hrow := (ha.below.block _ HLT.out).trans HROW.out
  have e0 : w1.cell? ⟨w.heap.size, 0, none⟩ = some (.int .i64 6) := cell_of_row _ _ _ _ _ _ hrow
  have e1 : w1.cell? ⟨w.heap.size, 1, none⟩ = some (.int .i64 k) := cell_of_row _ _ _ _ _ _ hrow
  have e2 : w1.cell? ⟨w.heap.size, 2, none⟩ = some (.int .i64 n) := cell_of_row _ _ _ _ _ _ hrow
  have e3 : w1.cell? ⟨w.heap.size, 3, none⟩ = some (.slice ao L ac) := cell_of_row _ _ _ _ _ _ hrow
  have HA := Lib.hid ha
  have HB := Lib.hid ha.below
  clear ha hx hrow HA
  go_wp2_with fail
  refine (tick_any n w1).mono ?_
  rintro e w2 ⟨rfl, hw⟩
  obtain rfl := hw
  have her : ∃ r, r = (if 1 ≤ n ∧ n ≤ 1073741824 then 0 else 1 : Nat) := ⟨_, rfl⟩
  obtain ⟨r, hr⟩ := her
  rw [← hr]
  have HR := Lib.hid hr
  clear hr
  go_wp2
  go_ret2
  rw [HE.out]
  refine ⟨none, 0, ?_, .inl ⟨rfl, _, _, fun _ => rfl, rfl⟩, Ws.below H.out (HAL.out.trans (HB.out.mono HAL.out.size))⟩
  show Ending.returned (.tuple #[.slice none 0 0, .int .i64 (r : Int)]) = _
  rw [HR.out]
  rfl

theorem hap_none (h : WO w B g F W) (hok : W.Ok) (k n : Int) (v : Value) (ys : List UInt8) (hr : Rd w v (ys.map bv)) (hy : ys.length ≤ maxLen) (hv : 0 < ys.length → ∀ b, v.ownBlock = some b → ¬ F b) (hN : (W.at k).sent.length ≤ 16777216) (hM : (W.at k).written.length ≤ 16777216) {kd : Int} (h1 : kd ≠ 1) (h2 : kd ≠ 2) (h3 : kd ≠ 3) (h4 : kd ≠ 4) (h5 : kd ≠ 5) (h6 : kd ≠ 6) :
    Calls Try.prog 19 #[.pointer (some ⟨g, 0, none⟩), .agg #[.int .i64 kd, .int .i64 k, .int .i64 n, v]] w (HapR w B g F (W.happen kd k n ys)) := by
  obtain ⟨ao, ac, rfl, _⟩ := hr.form
  have HE := Lib.hid (Wi.Wm.happen_none W k n ys h1 h2 h3 h4 h5 h6)
  obtain ⟨R, hR⟩ : ∃ R, R = W.happen kd k n ys := ⟨_, rfl⟩
  rw [← hR] at HE ⊢
  obtain ⟨L, hL⟩ : ∃ L, L = ys.length := ⟨_, rfl⟩
  rw [← hL] at hr ⊢
  have HL := Lib.hid hL
  have H := Lib.hid h
  have HOK := Lib.hid hok
  have HRD := Lib.hid hr
  have HV := Lib.hid hv
  have HY := Lib.hid hy
  have HN := Lib.hid hN
  have HM := Lib.hid hM
  have hal : Below w.heap.size w (w.alloc (.cells #[.int .i64 kd, .int .i64 k, .int .i64 n, .slice ao L ac] 30)) := (Below.refl _ _).alloc (Nat.le_refl _) _
  have hrow := heap_alloc_new w (.cells #[.int .i64 kd, .int .i64 k, .int .i64 n, .slice ao L ac] 30)
  obtain ⟨w0, hw0⟩ : ∃ w0, w0 = w.alloc (.cells #[.int .i64 kd, .int .i64 k, .int .i64 n, .slice ao L ac] 30) := ⟨_, rfl⟩
  rw [← hw0] at hal hrow
  have HAL := Lib.hid hal
  have HROW := Lib.hid hrow
  have HW0 := Lib.hid hw0
  have hlt := (Array.getElem?_eq_some_iff.1 hrow).1
  have HLT := Lib.hid hlt
  clear hR h hok hr hv hy hN hM hal hrow hw0 hL hlt
  have i1 := eq_false h1
  have i2 := eq_false h2
  have i3 := eq_false h3
  have i4 := eq_false h4
  have i5 := eq_false h5
  have i6 := eq_false h6
  have j1 : (kd == 1) = false := by simpa using h1
  have j2 : (kd == 2) = false := by simpa using h2
  have j3 : (kd == 3) = false := by simpa using h3
  have j4 : (kd == 4) = false := by simpa using h4
  have j5 : (kd == 5) = false := by simpa using h5
  have j6 : (kd == 6) = false := by simpa using h6
  clear h1 h2 h3 h4 h5 h6
  go_enter Try.func19, Try.ntmps19
  go_wp2_with fail
  rw [← HW0.out]
  refine (at_any (H.out.next HAL.out) k).mono ?_
  rintro e w1 ⟨g', o, F', T', rfl, ha⟩
  obtain ⟨C, s, so, sw, most, hx⟩ := ha.ca
  have hrow := (ha.below.block _ HLT.out).trans HROW.out
  have e0 : w1.cell? ⟨w.heap.size, 0, none⟩ = some (.int .i64 kd) := cell_of_row _ _ _ _ _ _ hrow
  have e1 : w1.cell? ⟨w.heap.size, 1, none⟩ = some (.int .i64 k) := cell_of_row _ _ _ _ _ _ hrow
  have e2 : w1.cell? ⟨w.heap.size, 2, none⟩ = some (.int .i64 n) := cell_of_row _ _ _ _ _ _ hrow
  have e3 : w1.cell? ⟨w.heap.size, 3, none⟩ = some (.slice ao L ac) := cell_of_row _ _ _ _ _ _ hrow
  have HA := Lib.hid ha
  have HB := Lib.hid ha.below
  clear ha hx hrow HA
  go_wp2
  go_ret2
  rw [HE.out]
  exact ⟨none, 0, rfl, .inl ⟨rfl, _, _, fun _ => rfl, rfl⟩, Ws.below H.out (HAL.out.trans (HB.out.mono HAL.out.size))⟩

/-- 'Happen'. -/
theorem happen_any (h : WO w B g F W) (hok : W.Ok) (kd k n : Int) (v : Value) (ys : List UInt8) (hr : Rd w v (ys.map bv)) (hy : ys.length ≤ maxLen) (hv : 0 < ys.length → ∀ b, v.ownBlock = some b → ¬ F b) (hN : (W.at k).sent.length ≤ 16777216) (hM : (W.at k).written.length ≤ 16777216) :
    Calls Try.prog 19 #[.pointer (some ⟨g, 0, none⟩), .agg #[.int .i64 kd, .int .i64 k, .int .i64 n, v]] w (HapR w B g F (W.happen kd k n ys)) := by
  by_cases h1 : kd = 1
  · subst h1; exact hap_come h hok k n v ys hr hy hv hN hM
  by_cases h2 : kd = 2
  · subst h2; exact hap_take h hok k n v ys hr hy hv hN hM
  by_cases h3 : kd = 3
  · subst h3; exact hap_end h hok k n v ys hr hy hv hN hM
  by_cases h4 : kd = 4
  · subst h4; exact hap_reset h hok k n v ys hr hy hv hN hM
  by_cases h5 : kd = 5
  · subst h5; exact hap_connect h hok k n v ys hr hy hv hN hM
  by_cases h6 : kd = 6
  · subst h6; exact hap_tick h hok k n v ys hr hy hv hN hM
  exact hap_none h hok k n v ys hr hy hv hN hM h1 h2 h3 h4 h5 h6
end
end Go.Proofs.Ytneifmnlailipaa
