/- The wire: Write, Ask walked. -/
import Derived.Test.YtneifmnlailipaaWireDo
namespace Go.Proofs.Ytneifmnlailipaa
open Go.RowKit

section
variable {w : World} {B g : Nat} {F : Nat → Prop} {W : Wi.Wm}

/-- 'Write'. -/
theorem write_any (h : WO w B g F W) (k : Int) (v : Value) (ys : List UInt8) (hr : Rd w v (ys.map bv)) (hy : ys.length ≤ 1000000) : Calls Try.prog 11 #[.pointer (some ⟨g, 0, none⟩), .int .i64 k, v] w fun e w' => e = .returned (.int .i64 ((W.write k ys).1 : Int)) ∧ Ws B g F w (W.write k ys).2 w' := by
  have H := Lib.hid h
  have HR := Lib.hid hr
  have HY := Lib.hid hy
  obtain ⟨ao, ac, rfl, _⟩ := hr.form
  clear h hr hy
  go_enter Try.func11, Try.ntmps11
  go_wp2_with fail
  refine (at_any H.out k).mono ?_
  rintro e w1 ⟨g', o, F', T', rfl, ha⟩
  obtain ⟨C, s, so, sw, most, hx⟩ := ha.ca
  have C1 := writable_any hx
  rw [Wi.Cn.norm_lv] at C1
  have HA := Lib.hid ha
  have c1 := hx.c1
  rw [Wi.Cn.norm_dn] at c1
  have hrd := HR.out.below ha.below
  by_cases hl : (W.at k).live = true
  · have hm := hx.m4 (.inl (by rw [Wi.Cn.norm_lv]; exact hl))
    rw [Wi.Cn.norm_live hl] at hx
    rw [hl] at C1
    have C1 := Lib.hid C1
    by_cases hd : (W.at k).dn = true
    · have hW : W.write k ys = (65, W) := by rw [Wi.Wm.write_eq]; unfold Wi.Cn.puts; rw [if_pos (.inr hd), Wi.Wm.upd_at]
      have HW := Lib.hid hW
      rw [hd] at c1
      clear ha hx hl hd hm hrd hW
      go_wp2_with fail
      refine C1.out.mono ?_
      rintro e w2 ⟨rfl, hw⟩
      obtain rfl := hw
      clear C1
      go_wp2
      go_ret
      rw [HW.out]
      exact ⟨rfl, Ws.below H.out HA.out.below⟩
    · have hnn : ¬ ((W.at k).live = false ∨ (W.at k).dn = true) := by rw [hl]; simp [hd]
      have hd : (W.at k).dn = false := by simpa using hd
      rw [hd] at c1
      subst hm
      have hb := HY.out
      have hql := hx.q.hl
      by_cases hf : 4000 < (W.at k).xs.length + ys.length
      · have hW : W.write k ys = (72, W) := by rw [Wi.Wm.write_eq]; unfold Wi.Cn.puts; rw [if_neg hnn, if_pos hf, Wi.Wm.upd_at]
        have HW := Lib.hid hW
        have C2 := Lib.hid (put_full hx.q _ ys hrd (by unfold maxLen; omega) (by omega))
        clear ha hx hl hd hrd hf hb hql hnn hW
        go_wp2_with fail
        refine C1.out.mono ?_
        rintro e w2 ⟨rfl, hw⟩
        obtain rfl := hw
        clear C1
        go_wp2_with fail
        refine C2.out.mono ?_
        rintro e w3 ⟨rfl, hb⟩
        have HB := Lib.hid (HA.out.below.trans (hb.mono HA.out.below.size))
        clear hb C2
        go_wp2
        go_ret
        rw [HW.out]
        exact ⟨rfl, Ws.below H.out HB.out⟩
      · have hW : W.write k ys = (0, W.upd k { W.at k with xs := (W.at k).xs ++ ys }) := by rw [Wi.Wm.write_eq]; unfold Wi.Cn.puts; rw [if_neg hnn, if_neg hf]
        have HW := Lib.hid hW
        have C2 := Lib.hid (put_room hx.q _ ys hrd (by omega) (by omega) (Nat.le_trans hx.q.hg (Nat.le_of_lt hx.lt)))
        have HL := Lib.hid hl
        have HX := Lib.hid hx
        clear ha hx hl hd hrd hf hb hql hnn hW
        go_wp2_with fail
        refine C1.out.mono ?_
        rintro e w2 ⟨rfl, hw⟩
        obtain rfl := hw
        clear C1
        go_wp2_with fail
        refine C2.out.mono ?_
        rintro e w3 ⟨s', rfl, hq, hT, hs⟩
        have P := Lib.hid (HX.out.more hq hT hs)
        clear hq hT hs C2
        go_wp2
        go_ret
        rw [HW.out]
        refine ⟨rfl, HA.out.back _ _ _ ?_ P.out.2⟩
        have hnl : Wi.Cn.live { W.at k with xs := (W.at k).xs ++ ys } = true := HL.out
        rw [Wi.Cn.norm_live hnl]
        exact ⟨_, _, _, _, _, P.out.1⟩
  · have hl : (W.at k).live = false := by simpa using hl
    have hW : W.write k ys = (65, W) := by rw [Wi.Wm.write_eq]; unfold Wi.Cn.puts; rw [if_pos (.inl hl), Wi.Wm.upd_at]
    have HW := Lib.hid hW
    rw [hl] at C1
    have C1 := Lib.hid C1
    clear ha hx hl hrd hW
    go_wp2_with fail
    refine C1.out.mono ?_
    rintro e w2 ⟨rfl, hw⟩
    obtain rfl := hw
    clear C1
    go_wp2
    go_ret
    rw [HW.out]
    exact ⟨rfl, Ws.below H.out HA.out.below⟩

/-- 'Ask'. -/
theorem ask_any (h : WO w B g F W) (hN : W.b.sent.length ≤ 16777216) (hM : W.b.written.length ≤ 16777216) : Calls Try.prog 16 #[.pointer (some ⟨g, 0, none⟩)] w fun e w' => e = .returned (.bool W.ask.1) ∧ Ws B g F w W.ask.2 w' := by
  have H := Lib.hid h
  have HN := Lib.hid hN
  have HM := Lib.hid hM
  clear h hN hM
  by_cases hst : W.b.st = 1
  · rw [Wi.Wm.ask_no hst]
    have HS := Lib.hid hst
    clear hst
    go_enter Try.func16, Try.ntmps16
    go_wp2_with fail
    refine (at_any H.out 1).mono ?_
    rintro e w1 ⟨g', o, F', T', rfl, ha⟩
    obtain ⟨C, s, so, sw, most, hx⟩ := ha.ca
    have c0 := hx.c0
    rw [Wi.Cn.norm_st, Wi.Wm.at_one, HS.out] at c0
    have HB := Lib.hid ha.below
    clear ha hx
    go_wp2
    go_ret
    exact ⟨rfl, Ws.below H.out HB.out⟩
  · rw [Wi.Wm.ask_eq hst]
    have hs := eq_false hst
    clear hst
    generalize hq : W.b.st = q at *
    have HQ := Lib.hid hq
    have hs1 : ((q : Int) == 1) = false := by have := of_eq_false hs; simp; omega
    clear hq
    go_enter Try.func16, Try.ntmps16
    go_wp2_with fail
    refine (at_any H.out 1).mono ?_
    rintro e w1 ⟨g', o, F', T', rfl, ha⟩
    obtain ⟨C, s, so, sw, most, hx⟩ := ha.ca
    have c0 := hx.c0
    rw [Wi.Cn.norm_st, Wi.Wm.at_one, HQ.out] at c0
    have HA := Lib.hid ha
    have C1 := Lib.hid (give_any hx (by rw [Wi.Cn.norm_sent]; exact HN.out) (by rw [Wi.Cn.norm_written]; exact HM.out))
    clear ha hx
    go_wp2_with fail
    refine C1.out.mono ?_
    rintro e w2 ⟨rfl, F2, C2, so2, sw2, H2, G2⟩
    have c0' := H2.c0
    have c1' := H2.c1
    have c2' := H2.c2
    have f0 := H2.f o
    have f1 := H2.f (o + 1)
    have f2 := H2.f (o + 2)
    have X1 := H2.cell (i := 0) (v := .int .i64 1) (by omega) { (Wi.Wm.at W 1).norm.give with st := 1 } rfl rfl rfl rfl rfl rfl rfl (fun _ => rfl)
    have X2 := X1.cell (i := 1) (v := .bool false) (by omega) { (Wi.Wm.at W 1).norm.give with st := 1, dn := false } rfl rfl rfl rfl rfl rfl rfl (fun _ => rfl)
    have X3 := Lib.hid (X2.cell (i := 2) (v := .int .i64 0) (by omega) { (Wi.Wm.at W 1).norm.give with st := 1, dn := false, got := 0 } rfl rfl rfl rfl rfl rfl rfl (fun _ => rfl))
    have G3 := Lib.hid (((G2.trans (Cg.set (i := 0) (v := .int .i64 1) (by omega))).trans (Cg.set (i := 1) (v := .bool false) (by omega))).trans (Cg.set (i := 2) (v := .int .i64 0) (by omega)))
    clear X1 X2 H2 G2 C1 c0
    go_wp2
    go_ret
    refine ⟨rfl, HA.out.back _ F2 _ ?_ G3.out⟩
    rw [Wi.Cn.asked_norm]
    have hx := X3.out
    rw [Wi.Cn.give_norm] at hx
    exact ⟨_, _, _, _, _, hx⟩
end
end Go.Proofs.Ytneifmnlailipaa
