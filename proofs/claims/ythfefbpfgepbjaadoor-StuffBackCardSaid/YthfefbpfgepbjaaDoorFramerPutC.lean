/- Put of a framer: within a line. (Laid by wip/tools/gen_fput.py.) -/
import Derived.Test.YthfefbpfgepbjaaDoorFramerPut
namespace Go.Proofs.YthfefbpfgepbjaaDoor
open Go.RowKit
set_option maxHeartbeats 8000000 in
set_option maxRecDepth 20000 in
theorem fput_p1 {w : World} {B g : Nat} {s : Value} {most : Int} {ls0 : List UInt8} (h0 : 0 ≤ most) (hm : most < 9223372036854775808) (xs : List UInt8) (HT : Hid (∀ wx, Turn g s w wx → LT wx)) (hB : B ≤ w.heap.size) (p0 : Pass w B g s most ⟨ls0, 0⟩ xs 0) : Pass w B g s most ⟨ls0, 0⟩ xs 1 := by
  rintro a wr ⟨v, lv, s1, ls, rest, lines, ⟨u, rfl⟩, hPS, hrd, hsum, hn1, hn2, hd⟩
  obtain hbare : Li.Bare ls := by
    rcases hd with hd | hd
    · exact absurd hd.1 (by decide)
    · exact hd.2
  refine ⟨_, (by with_unfolding_all rfl), ?_⟩
  unfold PutQ
  clear hd
  have HPS := Lib.hid hPS
  have HRD := Lib.hid hrd
  have HSUM := Lib.hid hsum
  have HBR := Lib.hid hbare
  have CR := Lib.hid (frun_any v rest wr (hrd wr hPS.t) (by omega) (HT.out wr hPS.t))
  have hrle := Tx.run_le rest
  obtain ⟨ao, cap, rfl, hcap, hc⟩ := (hrd wr hPS.t).form
  obtain ⟨so, scap, hsf, hsl, hscm, hsn⟩ := hPS.o.form
  dsimp only at hsf hsl
  have hll : (ls.length : Int) ≤ most := by
    have := hPS.o.ok.len
    dsimp only at this
    rw [if_neg hbare.last] at this
    omega
  have HBT := Lib.hid (Tx.run_bare rest)
  have HEND := Lib.hid (Tx.run_end rest)
  obtain ⟨R, hR⟩ : ∃ R, R = Tx.run rest := ⟨_, rfl⟩
  rw [← hR] at CR hrle HBT HEND
  generalize hLL : ls.length = L at *
  generalize hYY : rest.length = Y at *
  have HL := Lib.hid hLL
  have HY := Lib.hid hYY
  have HR1 := Lib.hid hR
  obtain ⟨D, hD⟩ : ∃ D : Int, D = most - (L : Int) := ⟨_, rfl⟩
  have i1 : IntKind.i64.wrap (most - (L : Int)) = D := by rw [wraps_i64 _ (by omega) (by omega)]; omega
  have HSF := Lib.hid hsf
  have HHC := Lib.hid hc
  clear hPS hrd hsum hbare hR hLL hYY hc hsn
  unfold maxLen at hscm
  go_wp2_with fail
  refine CR.out.mono ?_
  rintro e w1 ⟨rfl, hb⟩
  have HP1 := Lib.hid (HPS.out.next hb)
  have d0 := HP1.out.o.c0
  have d1 := HP1.out.o.c1
  rw [HSF.out] at d1
  have HWR := Lib.hid hb
  clear CR hb
  by_cases hlong : D < (R : Int)
  · have hlt : (D < (R : Int)) = True := eq_true hlong
    have HLO := Lib.hid (show most < ((L + R : Nat) : Int) by push_cast; omega)
    have CF := Lib.hid (fun wx (hx : Below w1.heap.size w1 wx) => ffail_any 61 (.inr rfl) (HP1.out.next hx).o)
    clear hlong hD
    go_wp2
    go_region
    all_goals
      have HBD := Lib.hid ((Below.refl w1.heap.size w1).drew)
      generalize w1.drew = w2 at *
      go_wp2_with fail
      refine (CF.out _ HBD.out).mono ?_
      rintro e w3 ⟨rfl, ho, hT⟩
      have HP2 := Lib.hid ((HP1.out.next HBD.out).turn ho hT (.inl rfl))
      clear ho hT CF d0 d1
      go_wp2
      rw [jumps_ret]
      go_ret2
      unfold FPost
      have e1 : (⟨ls, 0⟩ : Li.Fm).put most rest = ([], ⟨[], 61⟩) := by
        have e2 : rest = rest.take R ++ rest.drop R := (List.take_append_drop ..).symm
        rw [e2, Li.put_append, Li.put_long (rest.take R) ls HBT.out HBR.out (by rw [HL.out]; exact hll) (by rw [HL.out, List.length_take, HY.out, Nat.min_eq_left hrle]; exact HLO.out), Li.put_err (f := ⟨[], 61⟩) (by decide)]
        rfl
      rw [HSUM.out, e1]
      simp only [List.append_nil]
      exact ⟨_, _, rfl, HP2.out⟩
  · have hlt : (D < (R : Int)) = False := eq_false hlong
    have HLE := Lib.hid (show ((L + R : Nat) : Int) ≤ most by push_cast; omega)
    have HP2 := Lib.hid (HP1.out.next ((Below.refl w1.heap.size w1).drew))
    have r0 : (0 : Int) ≤ (R : Int) := Int.natCast_nonneg _
    have r1 : (R : Int) ≤ (cap : Int) := by omega
    have r2 : R ≤ cap := by omega
    have HLR := Lib.hid (show L + R ≤ 1048576 by omega)
    have HRY := Lib.hid hrle
    have HN1 := Lib.hid hn1
    have HN2 := Lib.hid hn2
    have HCAP := Lib.hid hcap
    clear hlong hD hn1 hn2 hrle hll hcap
    go_wp2
    go_region
    all_goals
      generalize w1.drew = w2 at *
      have HP3 := Lib.hid (HP2.out.next ((Below.refl w2.heap.size w2).drew))
      have e1 := HP3.out.o.c1
      rw [HSF.out] at e1
      clear d0 d1
      go_wp2
      refine wp_region_held_drew (S := fun _ => True) (by kernel_rfl) trivial (fun hH => ?_)
      generalize w2.drew = w3 at *
      have HRT := Lib.hid (show Rd w3 (.slice ao R cap) ((rest.take R).map bv) from (HRD.out w3 HP3.out.t).cut HY.out.symm HRY.out)
      have HTL := Lib.hid (show (rest.take R).length = R by rw [List.length_take, HY.out, Nat.min_eq_left HRY.out])
      have HOW := Lib.hid HP3.out.o.o
      dsimp only at HOW
      rw [HSF.out, HL.out] at HOW
      refine heldTake (i := 0) (v := ?_) rfl (by kernel_rfl) (by kernel_rfl) (fun _ _ _ h => h) (by rfl) trivial (fun w hSw => ?_) ?_; rotate_left; focus ((try dsimp only at hSw); go_simp; try with_reducible rfl)
      try simp only [Act.put, List.setIfInBounds_toArray, List.set_cons_zero, List.set_cons_succ]
      refine heldTake (i := 1) (v := ?_) rfl (by kernel_rfl) (by kernel_rfl) (fun _ _ _ h => h) (by rfl) trivial (fun w hSw => ?_) ?_; rotate_left; focus ((try dsimp only at hSw); go_simp; try with_reducible rfl)
      try simp only [Act.put, List.setIfInBounds_toArray, List.set_cons_zero, List.set_cons_succ]
      refine heldTake (i := 2) (v := ?_) rfl (by kernel_rfl) (by kernel_rfl) (fun _ _ _ h => h) (by rfl) trivial (fun w hSw => ?_) ?_; rotate_left; focus ((try dsimp only at hSw); go_simp; try with_reducible rfl)
      try simp only [Act.put, List.setIfInBounds_toArray, List.set_cons_zero, List.set_cons_succ]
      refine heldTake (i := 3) (v := ?_) rfl (by kernel_rfl) (by kernel_rfl) (fun _ _ _ h => h) (by rfl) trivial (fun w hSw => ?_) ?_; rotate_left; focus ((try dsimp only at hSw); go_simp; try with_reducible rfl)
      try simp only [Act.put, List.setIfInBounds_toArray, List.set_cons_zero, List.set_cons_succ]
      refine heldTake (i := 5) (v := ?_) rfl (by kernel_rfl) (by kernel_rfl) (fun _ _ _ h => h) (by rfl) trivial (fun w hSw => ?_) ?_; rotate_left; focus ((try dsimp only at hSw); go_simp; try with_reducible rfl)
      try simp only [Act.put, List.setIfInBounds_toArray, List.set_cons_zero, List.set_cons_succ]
      refine heldTake (i := 6) (v := ?_) rfl (by kernel_rfl) (by kernel_rfl) (fun _ _ _ h => h) (by rfl) trivial (fun w hSw => ?_) ?_; rotate_left; focus ((try dsimp only at hSw); go_simp; try with_reducible rfl)
      try simp only [Act.put, List.setIfInBounds_toArray, List.set_cons_zero, List.set_cons_succ]
      refine heldTake (i := 7) (v := ?_) rfl (by kernel_rfl) (by kernel_rfl) (fun _ _ _ h => h) (by rfl) trivial (fun w hSw => ?_) ?_; rotate_left; focus ((try dsimp only at hSw); go_simp; try with_reducible rfl)
      try simp only [Act.put, List.setIfInBounds_toArray, List.set_cons_zero, List.set_cons_succ]
      -- NEXT 4 Op.load 26 (Operand.tmp 39)
      refine heldNext (i := 4) rfl (by kernel_rfl) (by rfl) (fun K hK => ?_)
      go_simp; refine hK.out _ _ trivial ?_; clear hK K
      try simp only [Act.put, List.setIfInBounds_toArray, List.set_cons_zero, List.set_cons_succ]
      -- NEXT 8 Op.call { callee := Callee.builtin Builtin.append, args := #[Operand.tmp 40, Operand.tmp 43], argTypes := #[26
      refine heldNext (i := 8) rfl (by kernel_rfl) (by rfl) (fun K hK => ?_)
      refine wp_append_at (.tmp 40) (.tmp 43) (by rfl) (by rfl) HOW.out _ (by rfl) (rest.take R) HRT.out (L + R) (by rw [HTL.out]) (by have := HLR.out; omega) (Nat.le_trans hB HP3.out.t.size) (fun bo c w4 ho hT hw => ?_)
      have hgg := (hT.block g HP3.out.o.lt (fun e => HP3.out.o.ne (by rw [HSF.out]; exact e.symm))).trans HP3.out.o.c
      have kk1 : w4.cell? ⟨g, 1, none⟩ = some _ := cell_of_row _ _ _ _ _ _ hgg
      have ff1 : w4.frozen? ⟨g, 1, none⟩ = false := frozen_of_row _ _ _ _ _ hgg
      clear hgg
      refine hK.out _ _ trivial ?_
      clear hK K
      try simp only [Act.put, List.setIfInBounds_toArray, List.set_cons_zero, List.set_cons_succ]
      refine heldTake (i := 9) (v := ?_) rfl (by kernel_rfl) (by kernel_rfl) (fun _ _ _ h => h) (by rfl) trivial (fun w hSw => ?_) ?_; rotate_left; focus ((try dsimp only at hSw); go_simp; try with_reducible rfl)
      try simp only [Act.put, List.setIfInBounds_toArray, List.set_cons_zero, List.set_cons_succ]
      refine heldTake (i := 10) (v := ?_) rfl (by kernel_rfl) (by kernel_rfl) (fun _ _ _ h => h) (by rfl) trivial (fun w hSw => ?_) ?_; rotate_left; focus ((try dsimp only at hSw); go_simp; try with_reducible rfl)
      try simp only [Act.put, List.setIfInBounds_toArray, List.set_cons_zero, List.set_cons_succ]
      -- NEXT 11 Op.store 26 (Operand.tmp 46) (Operand.tmp 44)
      refine heldNext (i := 11) rfl (by kernel_rfl) (by rfl) (fun K hK => ?_)
      go_simp; refine hK.out _ _ trivial ?_; clear hK K
      try simp only [Act.put, List.setIfInBounds_toArray, List.set_cons_zero, List.set_cons_succ]
      refine wpAnyH_done (by kernel_rfl) ?_ _
      have hok4 : (⟨ls ++ rest.take R, 0⟩ : Li.Fm).Ok most := by
        have h1 := Li.put_ok h0 (rest.take R) HP3.out.o.ok
        rw [Li.put_bare (rest.take R) ls HBT.out HBR.out (by rw [HTL.out, HL.out]; exact HLE.out)] at h1
        exact h1
      have P := HP3.out.o.put (ys := rest.take R) (s' := .slice bo (L + R) c) (w' := w4) (by dsimp only; rw [HL.out, HTL.out]; exact ho) (by rw [HSF.out]; exact hT) (by dsimp only; rw [HL.out, HTL.out, HSF.out]; exact hw) (by dsimp only; rw [HL.out, HTL.out]; have := HLR.out; omega) hok4 rfl
      have HP4 := Lib.hid (HP3.out.turn P.1 P.2.1 P.2.2)
      have HQ4 := Lib.hid (show (⟨ls, 0⟩ : Li.Fm).put most rest = (⟨ls ++ rest.take R, 0⟩ : Li.Fm).put most (rest.drop R) by
        have e2 : rest = rest.take R ++ rest.drop R := (List.take_append_drop ..).symm
        conv => lhs; rw [e2, Li.put_append, Li.put_bare (rest.take R) ls HBT.out HBR.out (by rw [HTL.out, HL.out]; exact HLE.out)]
        simp)
      clear hok4 P ho hT hw e1 kk1 ff1 hH
      generalize w4.setCell ⟨g, 1, none⟩ (.slice bo (L + R) c) = w5 at *
      by_cases hRY : R = Y
      · subst hRY
        have HDN := Lib.hid (show rest.drop R = [] from List.drop_of_length_le (by rw [HY.out]; exact Nat.le_refl _))
        by_cases hcR : cap = R
        · go_wp2
          rw [jumps_ret]
          go_ret2
          unfold FPost
          rw [HSUM.out, HQ4.out, HDN.out, Li.put_nil, List.append_nil]
          exact ⟨_, _, rfl, HP4.out⟩
        · have hcR2 : (cap = R) = False := eq_false hcR
          go_wp2
          rw [jumps_ret]
          go_ret2
          unfold FPost
          rw [HSUM.out, HQ4.out, HDN.out, Li.put_nil, List.append_nil]
          exact ⟨_, _, rfl, HP4.out⟩
      · obtain ⟨Z, rfl⟩ : ∃ Z, Y = R + (Z + 1) := ⟨Y - R - 1, by have := HRY.out; omega⟩
        obtain ⟨C1, rfl⟩ : ∃ C1, cap = R + (C1 + 1) := ⟨cap - R - 1, by have := HCAP.out; omega⟩
        obtain ⟨bb, o, rfl, hmx, _⟩ := HHC.out (by omega)
        have hx : w5.cell? ⟨bb, o + R, none⟩ = some (bv (rest.getD R 0)) := by
          rcases HRD.out w5 HP4.out.t with ⟨e, _⟩ | ⟨b', o', cap', e, k1, k2, k3⟩
          · have : rest = [] := by simpa using e
            have h9 := HY.out
            rw [this] at h9
            simp at h9
          · simp only [Value.slice.injEq, Option.some.injEq, Addr.mk.injEq, and_true] at e
            obtain ⟨⟨rfl, rfl⟩, _, rfl⟩ := e
            refine k3 R _ ?_
            have h9 := HY.out
            rw [List.getElem?_map, List.getElem?_eq_getElem (by omega), List.getD_eq_getElem?_getD, List.getElem?_eq_getElem (by omega)]
            rfl
        have hZC : Z ≤ C1 := by have := HCAP.out; omega
        have hcn : ¬ (R + (C1 + 1) = R) := by omega
        have hcn2 : (R + (C1 + 1) = R) = False := eq_false hcn
        have hyn : ¬ (R + (Z + 1) = R) := by omega
        rcases HEND.out with hend | hend | hend
        · exact absurd hend (by omega)
        · have hgd : rest.getD R 0 = 13 := by
            have : (rest.drop R)[0]? = some 13 := by rw [hend]; rfl
            rw [List.getElem?_drop, Nat.add_zero] at this
            rw [List.getD_eq_getElem?_getD, this]; rfl
          rw [hgd] at hx
          replace hx : w5.cell? ⟨bb, o + R, none⟩ = some (.int .u8 13) := hx
          have HE := Lib.hid hend
          have a1 := HP4.out.o.c1
          have HAL := Lib.hid (show Below w5.heap.size w5 (w5.alloc (.cells #[.int .u8 13] 5)) from (Below.refl _ _).alloc (Nat.le_refl _) _)
          have HP5 := Lib.hid (HP4.out.next HAL.out)
          have HL2 := Lib.hid (show (ls ++ rest.take R).length = L + R by rw [List.length_append, HL.out, HTL.out])
          have HOW2 := Lib.hid HP5.out.o.o
          dsimp only at HOW2
          rw [HL2.out] at HOW2
          have HRM := Lib.hid (show Rd (w5.alloc (.cells #[.int .u8 13] 5)) (.slice (some ⟨w5.heap.size, 0, none⟩) 1 1) ([(13 : UInt8)].map bv) from Rd.made w5 [13] 5 (0, 0) 1 rfl (by decide))
          have HNN := Lib.hid (show L + R + [(13 : UInt8)].length ≤ 16777216 by show L + R + 1 ≤ _; have := HLR.out; omega)
          clear hend hgd hRY
          go_wp2_with (at_builtin; refine append_where rfl (.tmp 65) (.tmp 66) rfl rfl HOW2.out [13] ?hxx HNN.out (Nat.le_trans hB HP5.out.t.size) ?_)
          case hxx => exact HRM.out
          intro v' w6 ho hT hw
          obtain ⟨xo, xc, rfl⟩ : ∃ xo xc, v' = .slice xo (L + R + 1) xc := by
            rcases ho.2 with ⟨_, h9⟩ | ⟨_, cp, _, e, _⟩
            · exact absurd h9 (by simp)
            · exact ⟨_, _, e⟩
          have hok5 : (⟨ls ++ rest.take R ++ [13], 0⟩ : Li.Fm).Ok most := by
            have h1 := Li.put_ok h0 [13] HP5.out.o.ok
            rw [Li.put_one, Li.step_more (f := ⟨ls ++ rest.take R, 0⟩) rfl (by
              intro e
              have := List.mem_of_getLast? e
              rcases List.mem_append.1 this with h9 | h9
              · exact (HBR.out _ h9).1 rfl
              · exact (HBT.out _ h9).1 rfl) (by decide) (.inl rfl)] at h1
            exact h1
          have P := HP5.out.o.put (ys := [13]) (s' := .slice xo (L + R + 1) xc) (w' := w6) (by dsimp only; rw [HL2.out, List.map_append, List.map_take, List.append_assoc]; exact ho) hT (by
            dsimp only; rw [HL2.out]
            refine hw.imp id ?_
            rintro ⟨g', ⟨cp, e⟩, h9⟩
            exact ⟨g', cp, e, h9.imp id fun e => Nat.le_of_eq (by rw [e]; simp)⟩) (by dsimp only; rw [HL2.out]; have := HLR.out; simp only [List.length_singleton]; omega) hok5 rfl
          have HP6 := Lib.hid (HP5.out.turn P.1 P.2.1 P.2.2)
          have hh := (hT.block g HP5.out.o.lt (fun e => HP5.out.o.ne e.symm)).trans HP5.out.o.c
          have k1 : w6.cell? ⟨g, 1, none⟩ = some _ := cell_of_row _ _ _ _ _ _ hh
          have k2 : w6.frozen? ⟨g, 1, none⟩ = false := frozen_of_row _ _ _ _ _ hh
          have HLS : Hid ((ls ++ rest.take R ++ [13]).getLast? = some (13 : UInt8)) := Lib.hid (by rw [List.getLast?_append]; rfl)
          have HQ5 := Lib.hid (show (⟨ls, 0⟩ : Li.Fm).put most rest = (⟨ls ++ rest.take R ++ [13], 0⟩ : Li.Fm).put most (rest.drop (R + 1)) by
            rw [HQ4.out, HE.out, Li.put_cons, Li.step_more (f := ⟨ls ++ rest.take R, 0⟩) rfl (by
              intro e
              have := List.mem_of_getLast? e
              rcases List.mem_append.1 this with h9 | h9
              · exact (HBR.out _ h9).1 rfl
              · exact (HBT.out _ h9).1 rfl) (by decide) (.inl rfl)]
            simp)
          clear ho hT hw hok5 P hh a1 hx
          have HJ := Lib.hid (fun (vx lx : Value) (a : Act) (hp : PAct g vx lx a) (hl : lx = lv) (hr : ∀ wx, Turn g s w wx → Rd wx vx ((rest.drop (R + 1)).map bv)) => (show PJ w B g s most ⟨ls0, 0⟩ xs 0 a (w6.setCell ⟨g, 1, none⟩ (.slice xo (L + R + 1) xc)) from
            ⟨vx, lx, .slice xo (L + R + 1) xc, ls ++ rest.take R ++ [13], rest.drop (R + 1), lines, hp, by rw [hl]; exact HP6.out, hr, by rw [HSUM.out, HQ5.out], by
              have := HN1.out
              rw [List.length_append, HL2.out, List.length_drop, HY.out]
              simp only [List.length_singleton]
              omega, by
              have := HN2.out
              rw [List.length_drop, HY.out]
              omega, .inl ⟨rfl, HLS.out⟩⟩))
          by_cases hC : C1 = 0
          · have hZ : Z = 0 := by omega
            subst hC
            subst hZ
            go_wp2
            go_step3
            rename_i K hk
            refine hk _ _ ?_
            refine Code.wp_mono (jumps_mono fun _ _ _ h => ⟨h.1, Nat.lt_trans h.2 ?mu⟩) (fall (p0 _ _ (HJ.out _ _ _ (pj_act _ rfl) rfl ?hrd)) (by with_unfolding_all rfl))
            case hrd =>
              intro wx hx
              have e : rest.drop (R + 1) = [] := List.drop_of_length_le (by rw [HY.out]; omega)
              rw [e]
              exact .inl ⟨rfl, _, _, fun h => (by cases h), rfl⟩
            case mu =>
              show 0 < R + (0 + 1)
              omega
          · have hC2 : (C1 = 0) = False := eq_false hC
            go_wp2
            go_step3
            rename_i K hk
            refine hk _ _ ?_
            refine Code.wp_mono (jumps_mono fun _ _ _ h => ⟨h.1, Nat.lt_trans h.2 ?mu⟩) (fall (p0 _ _ (HJ.out _ _ _ (pj_act _ rfl) rfl ?hrd)) (by with_unfolding_all rfl))
            case hrd =>
              intro wx hx
              have hh := (HRD.out wx hx).tailAny (m := R + 1) HY.out.symm (by omega)
              have e1 : ¬ (R + (C1 + 1) = R + 1) := by omega
              rw [if_neg e1, Option.map_some, Addr.add_lit, show R + (Z + 1) - (R + 1) = Z by omega, show R + (C1 + 1) - (R + 1) = C1 by omega, show o + (R + 1) = o + R + 1 by omega] at hh
              exact hh
            case mu =>
              show Z < R + (Z + 1)
              omega
        · have hgd : rest.getD R 0 = 10 := by
            have : (rest.drop R)[0]? = some 10 := by rw [hend]; rfl
            rw [List.getElem?_drop, Nat.add_zero] at this
            rw [List.getD_eq_getElem?_getD, this]; rfl
          rw [hgd] at hx
          replace hx : w5.cell? ⟨bb, o + R, none⟩ = some (.int .u8 10) := hx
          have HE := Lib.hid hend
          have CF := Lib.hid (ffail_any 60 (.inl rfl) HP4.out.o)
          clear hend hgd hRY
          go_wp2_with fail
          refine CF.out.mono ?_
          rintro e w6 ⟨rfl, ho, hT⟩
          have HP6 := Lib.hid (HP4.out.turn ho hT (.inl rfl))
          clear ho hT CF hx
          go_wp2
          rw [jumps_ret]
          go_ret2
          unfold FPost
          rw [HSUM.out, HQ4.out, HE.out, Li.put_cons, Li.step_lf (f := ⟨ls ++ rest.take R, 0⟩) rfl (by
            intro e
            have := List.mem_of_getLast? e
            rcases List.mem_append.1 this with h9 | h9
            · exact (HBR.out _ h9).1 rfl
            · exact (HBT.out _ h9).1 rfl), Li.put_err (f := ⟨[], 60⟩) (by decide)]
          simp only [Option.toList, List.append_nil]
          exact ⟨_, _, rfl, HP6.out⟩

end Go.Proofs.YthfefbpfgepbjaaDoor
