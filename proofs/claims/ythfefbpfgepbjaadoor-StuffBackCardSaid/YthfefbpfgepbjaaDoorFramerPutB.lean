/- Put of a framer: behind a CR. (Laid by wip/tools/gen_fput.py.) -/
import Derived.Test.YthfefbpfgepbjaaDoorFramerPut
namespace Go.Proofs.YthfefbpfgepbjaaDoor
open Go.RowKit
set_option maxHeartbeats 8000000 in
set_option maxRecDepth 20000 in
theorem fput_p0 {w : World} {B g : Nat} {s : Value} {most : Int} {ls0 : List UInt8} (h0 : 0 ≤ most) (hm : most < 9223372036854775808) (xs : List UInt8) (HT : Hid (∀ wx, Turn g s w wx → LT wx)) (hB : B ≤ w.heap.size) : Pass w B g s most ⟨ls0, 0⟩ xs 0 := by
  rintro a wr ⟨v, lv, s1, ls, rest, lines, ⟨u, rfl⟩, hPS, hrd, hsum, hn1, hn2, hd⟩
  obtain hcr : ls.getLast? = some 13 := by
    rcases hd with hd | hd
    · exact hd.2
    · exact absurd hd.1 (by decide)
  refine ⟨_, (by with_unfolding_all rfl), ?_⟩
  unfold PutQ
  clear hd
  have HPS := Lib.hid hPS
  have HRD := Lib.hid hrd
  have HSUM := Lib.hid hsum
  have HCR := Lib.hid hcr
  obtain ⟨ao, cap, rfl, hcap, hc⟩ := (hrd wr hPS.t).form
  rcases rest with _ | ⟨b0, bs⟩
  · clear hPS hrd hsum hcr hc
    simp only [List.length_nil] at hcap ⊢
    go_wp2
    rw [jumps_ret]
    go_ret2
    unfold FPost
    rw [HSUM.out, Li.put_nil, List.append_nil]
    exact ⟨s1, _, rfl, HPS.out⟩
  · obtain ⟨bb, o, rfl, hmx, hx⟩ := hc (by simp)
    have hx0 := hx 0 (by simp)
    rw [List.getD_cons_zero, Nat.add_zero] at hx0
    unfold bv at hx0
    have hL : (b0 :: bs).length = bs.length + 1 := rfl
    rw [hL] at hcap hn1 hn2 HRD ⊢
    by_cases hb : b0 = 10
    · subst hb
      have hq : (UInt8.toNat 10 : Int) = 10 := rfl
      rw [hq] at hx0
      have hlp : 0 < ls.length := by
        rcases ls with _ | ⟨y, ys⟩
        · cases hcr
        · simp
      have CT := Lib.hid (ftake_any hPS.o rfl hlp)
      have HCAP := Lib.hid hcap
      generalize hY : bs.length = Y at *
      have HY := Lib.hid hY
      clear hPS hrd hsum hcr hc hx hL hlp hY
      go_wp2_with fail
      refine CT.out.mono ?_
      rintro e w1 ⟨s2, rfl, ho, hT, hown⟩
      have HP2 := Lib.hid (HPS.out.turn ho hT (.inr (.inl hown)))
      clear ho hT hown CT hx0 hq
      dsimp only
      unfold sv
      go_wp2_with (at_builtin; refine append_str rfl (.tmp 83) (.tmp 86) rfl rfl HP2.out.l rfl rfl ?ca ?cb ?cc ?_)
      case ca => rfl
      case cb => omega
      case cc => exact HP2.out.t.size
      intro v' w2 hown hgrow
      obtain ⟨lo, lc, rfl⟩ : ∃ lo lc, v' = .slice lo (lines.length + 1) lc := by
        rcases hown.2 with ⟨e, h0⟩ | ⟨b, cp, cur, e, _⟩
        · exact absurd h0 (by omega)
        · exact ⟨_, _, e⟩
      have HP3 := Lib.hid (HP2.out.line (x := ls.dropLast) hown hgrow)
      clear hown hgrow
      by_cases hc1 : cap = 1
      · have hz : Y = 0 := by have := HCAP.out; omega
        subst hz
        subst hc1
        go_wp2
        go_step3
        refine ⟨⟨_, _, s2, [], bs, lines ++ [ls.dropLast], pj_act _ rfl, HP3.out, ?_, ?_, ?_, ?_, .inr ⟨rfl, fun b hb => by cases hb⟩⟩, ?_⟩
        · intro wx hx
          have e : bs = [] := List.eq_nil_of_length_eq_zero HY.out
          subst e
          exact .inl ⟨rfl, _, _, fun h => (by cases h), rfl⟩
        · rw [HSUM.out, Li.put_cons, Li.step_line rfl HCR.out]
          simp [List.append_assoc]
        · have := HY.out; simp only [List.length_nil]; omega
        · have := HY.out; simp only [List.length_append, List.length_singleton]; omega
        · show 0 < 0 + 1
          decide
      · have hcf : (cap = 1) = False := eq_false hc1
        go_wp2
        go_step3
        refine ⟨⟨_, _, s2, [], bs, lines ++ [ls.dropLast], pj_act _ rfl, HP3.out, ?_, ?_, ?_, ?_, .inr ⟨rfl, fun b hb => by cases hb⟩⟩, ?_⟩
        · intro wx hx
          have hh := HRD.out wx hx
          have := hh.tailAny (m := 1) (by rw [List.length_cons, HY.out]) (by omega)
          simpa [hc1, Addr.add_lit] using this
        · rw [HSUM.out, Li.put_cons, Li.step_line rfl HCR.out]
          simp [List.append_assoc]
        · have := HY.out; simp only [List.length_nil]; omega
        · have := HY.out; simp only [List.length_append, List.length_singleton]; omega
        · show Y < Y + 1
          omega
    · have hq : ((b0.toNat : Int) == 10) = false := beq_eq_false_iff_ne.2 (fun e => hb (UInt8.toNat_inj.1 (by show b0.toNat = 10; omega)))
      have hq2 : (b0.toNat = 10) = False := eq_false (fun e => hb (UInt8.toNat_inj.1 e))
      have hq3 : ((b0.toNat : Int) != 10) = true := by rw [bne, hq]; rfl
      have h256 : (b0.toNat : Int) < 256 := by have := b0.toNat_lt; omega
      have CF := Lib.hid (ffail_any 60 (.inl rfl) hPS.o)
      have HBB := Lib.hid hb
      generalize bs.length = Y at *
      clear hPS hrd hsum hcr hc hx hL hb
      go_wp2_with fail
      refine CF.out.mono ?_
      rintro e w1 ⟨rfl, ho, hT⟩
      have HP2 := Lib.hid (HPS.out.turn ho hT (.inl rfl))
      clear ho hT CF hx0
      go_wp2
      rw [jumps_ret]
      go_ret2
      unfold FPost
      rw [HSUM.out, Li.put_cons, Li.step_cr rfl HCR.out HBB.out, Li.put_err (f := ⟨[], 60⟩) (by decide)]
      simp only [Option.toList, List.append_nil]
      exact ⟨_, _, rfl, HP2.out⟩
end Go.Proofs.YthfefbpfgepbjaaDoor
