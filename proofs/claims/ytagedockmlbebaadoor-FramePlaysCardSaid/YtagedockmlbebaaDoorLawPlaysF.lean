/- The law FramePlays walked. -/
import Derived.Test.YtagedockmlbebaaDoorFrameRow
import Derived.Test.YtagedockmlbebaaDoorFrameRef
import Derived.Test.YtagedockmlbebaaDoorOpenRows
import Derived.ProofKit
import Derived.OpenShut
namespace Go.Proofs.YtagedockmlbebaaDoor
open Go.RowKit

set_option maxRecDepth 20000 in
set_option maxHeartbeats 4000000 in
theorem lawPlaysF (m : Int) (v1 : Value) (ys : List (Value × List UInt8)) (hm : (Lit.int .i64 m).wf = true) (h1 : ys.length ≤ maxLen) (w : World) (r1 : RdN 1 w v1 (ys.map fun y => [y.1])) (m1 : ∀ y ∈ ys, Rd w y.1 (y.2.map bv) ∧ y.2.length ≤ maxLen) (ht : LT w) :
    Calls Tryd.prog 3 #[.int .i64 m, v1] w fun e w' => e = .returned (.bool true) ∧ Below w.heap.size w w' := by
  have hmb := bounds_i64 hm
  obtain ⟨lo, cl, rfl, hcl, hll⟩ := r1.form
  rw [List.length_map] at hcl hll ⊢
  obtain ⟨L, hL⟩ : ∃ L, L = ys.length := ⟨_, rfl⟩
  rw [← hL] at h1 hcl hll ⊢
  have HLL := Lib.hid hll
  have HM1 := Lib.hid m1
  have HL := Lib.hid hL
  have HT := Lib.hid ht
  have HMM := Lib.hid hmb
  obtain ⟨M, hM⟩ : ∃ M, M = max 0 m := ⟨_, rfl⟩
  have HM := Lib.hid hM
  unfold maxLen at h1
  clear ht hll m1 hL r1 hm hmb hM
  go_enter Tryd.func3, Tryd.ntmps3
  go_wp2_with fail
  refine (shown_any w HT.out).mono ?_
  rintro e wa ⟨rfl, hba⟩
  have HBA := Lib.hid hba
  clear hba
  go_wp2_with fail
  refine (FL.new HBA.out m (by have := HMM.out; omega)).mono ?_
  rintro e w1 ⟨rfl, f1, _⟩
  rw [← HM.out] at f1
  obtain ⟨g, hg⟩ : ∃ g, g = wa.heap.size := ⟨_, rfl⟩
  rw [← hg] at f1 ⊢
  have ha := (Below.refl w1.heap.size w1).alloc (Nat.le_refl _) (.cells #[] 5)
  have hb := ha.trans (((Below.refl _ (w1.alloc (.cells #[] 5))).alloc (Nat.le_refl _) (.cells #[] 9)).mono ha.size)
  have HP0 := Lib.hid (show FP w g (.slice none 0 0) M Li.start (.slice (some ⟨w1.heap.size, 0, none⟩) 0 0) [] (.slice (some ⟨w1.heap.size + 1, 0, none⟩) 0 0) [] ((w1.alloc (.cells #[] 5)).alloc (.cells #[] 9)) from
    ⟨f1.next hb, ownsRow_lower ((World.ownsRow_made (base := w1.heap.size) w1 #[] 0 (Nat.le_refl _) (Nat.zero_le _) rfl).alloc _) f1.b.size,
      by
        have := ownsRow_lower (World.ownsRow_made (e := 9) (size := 1) (base := w1.heap.size) (w1.alloc (.cells #[] 5)) #[] 0 ha.size (Nat.zero_le _) rfl) f1.b.size
        rw [show (w1.alloc (.cells #[] 5)).heap.size = w1.heap.size + 1 by simp] at this
        exact this, Ap.none rfl⟩)
  clear hg HBA f1 ha hb
  go_wp2
  go_loopw [7, 8, 9] (fun a c i wr => ∃ (k : Nat) (s : Value) (all : List UInt8), k ≤ L ∧ k ≤ 12 ∧ i = .int .i64 k ∧ Hid (all.length ≤ 200 * k) ∧ Hid (FP w g s M (Li.start.put M all).2 a all c (Li.start.put M all).1 wr)) (fun _ _ i _ => 12 - (intOf i).toNat)
  case atStart => exact ⟨0, _, [], by omega, by omega, rfl, by show _ ≤ _; simp, HP0.out⟩
  case round =>
    obtain ⟨k, s, all, hk, hk12, rfl, HA, HP⟩ := hrel
    clear HP0
    by_cases hgo : k < L ∧ k < 12
    · obtain ⟨hlt, hlt12⟩ := hgo
      obtain ⟨b, o, rfl, hmx, hcell⟩ := HLL.out (by omega)
      obtain ⟨y, hy⟩ : ∃ y, ys[k]? = some y := ⟨_, List.getElem?_eq_getElem (by rw [← HL.out]; exact hlt)⟩
      obtain ⟨hry, hly⟩ := HM1.out y (List.mem_of_getElem? hy)
      have hc0 := hcell k [y.1] (by rw [List.getElem?_map, hy]; rfl) 0 _ rfl
      obtain ⟨v, xs⟩ := y
      simp only at hry hly hc0
      have hcr := (HP.out.l.b.cell (World.block_lt_of_cell? w _ hc0)).trans hc0
      rw [Nat.mul_one, Nat.add_zero] at hcr
      obtain ⟨ao, ac, rfl⟩ := own_form HP.out.a
      obtain ⟨co, cc, rfl⟩ := own_form HP.out.r
      have HRY := Lib.hid hry
      have HLY := Lib.hid hly
      obtain ⟨F, hF⟩ : ∃ F, F = (Li.start.put M all).2 := ⟨_, rfl⟩
      obtain ⟨G, hG⟩ : ∃ G, G = (Li.start.put M all).1 := ⟨_, rfl⟩
      rw [← hF, ← hG] at HP
      rw [← hG]
      have HF := Lib.hid hF
      have HG := Lib.hid hG
      obtain ⟨aL, haL⟩ : ∃ aL, aL = all.length := ⟨_, rfl⟩
      obtain ⟨gL, hgL⟩ : ∃ gL, gL = G.length := ⟨_, rfl⟩
      rw [← haL, ← hgL]
      rw [← haL, ← hgL] at HP
      have HAL := Lib.hid haL
      have HGL := Lib.hid hgL
      clear hc0 hy hcell hry hly hF hG haL hgL
      go_wp2_with fail
      refine (short_any v xs wr (HRY.out.below HP.out.l.b) HLY.out).mono ?_
      rintro e wc ⟨va, rfl, ra, rfl⟩
      obtain ⟨Y, hY⟩ : ∃ Y, Y = xs.take 200 := ⟨_, rfl⟩
      have lY : Y.length ≤ 200 := by rw [hY]; exact List.length_take_le _ _
      rw [← hY] at ra
      have HRA := Lib.hid (fun wx (hb : Below w.heap.size w wx) => (ra w HRY.out).below hb)
      obtain ⟨vo, vc, rfl, _, _⟩ := (ra w HRY.out).form
      obtain ⟨yL, hyL⟩ : ∃ yL, yL = Y.length := ⟨_, rfl⟩
      rw [← hyL] at lY HRA ⊢
      have HYL := Lib.hid hyL
      clear hY ra hyL
      have CE := Lib.hid (HP.out.l.error (er := (F.err : Int)) rfl)
      go_wp2_with fail
      refine CE.out.mono ?_
      rintro e wd ⟨rfl, rfl⟩
      obtain ⟨ls, f2, hp⟩ : ∃ ls f2, F.put M Y = (ls, f2) := ⟨_, _, rfl⟩
      have hap := Li.put_append M all Y Li.start
      rw [← HF.out, ← HG.out, hp] at hap
      have HPP := Lib.hid hap
      have hfl := Li.put_rest (m := M) all Li.start
      have hlf := Li.put_few (m := M) Y F
      have hgf := Li.put_few (m := M) all Li.start
      rw [← HF.out] at hfl
      rw [hp, ← HYL.out] at hlf
      rw [← HG.out, ← HGL.out, ← HAL.out] at hgf
      have HFL := Lib.hid hfl
      have hal := HA.out
      rw [← HAL.out] at hal
      have HLF := Lib.hid hlf
      have HGF := Lib.hid hgf
      have HAB := Lib.hid hal
      have HERR := Lib.hid (show F.err ≠ 0 → ls = [] from fun h => by rw [Li.put_err h] at hp; exact (congrArg Prod.fst hp).symm)
      clear hap hfl hlf hgf hal CE hcr
      go_wp2_with fail
      refine (HP.out.l.put HT.out _ Y (fun wx hx => HRA.out wx (HP.out.l.below hx)) (by have := HFL.out; have := HAB.out; have := HYL.out; have := HAL.out; simp [Li.start] at *; omega) hp).mono ?_
      rintro e w2 ⟨s2, xo, xc, rfl, f2', o2, hT2, hn2⟩
      have HP2 := Lib.hid (HP.out.turn f2' hT2 hn2)
      have HX := Lib.hid (Rd.of_own o2)
      clear f2' o2 hT2 hn2 HP hp
      obtain ⟨lL, hlL⟩ : ∃ lL, lL = ls.length := ⟨_, rfl⟩
      rw [← hlL] at HX HLF ⊢
      have HLL2 := Lib.hid hlL
      clear hlL
      have hq : (((F.err : Int) != 0) = true ∧ lL = 0) ∨ ((F.err : Int) != 0) = false := by
        by_cases he : F.err = 0
        · exact .inr (by rw [he]; rfl)
        · exact .inl ⟨by simpa using he, by rw [HLL2.out, HERR.out he]; rfl⟩
      have eM : M = max m 0 := by rw [HM.out]; omega
      have HEM := Lib.hid eM
      obtain ⟨E, hE⟩ : ∃ E : Int, E = (F.err : Int) := ⟨_, rfl⟩
      rw [← hE] at hq ⊢
      clear eM hE
      rcases hq with ⟨q, rfl⟩ | q
      all_goals
        go_wp2_with (at_builtin; refine append_strs rfl (.tmp 59) (.tmp 60) rfl rfl HP2.out.r (ls.map sv) ?hx ?h1 ?hn HP2.out.l.b.size ?_)
        case hx => exact HX.out
        case h1 => exact sv_cell ls
        case hn => rw [List.length_map, ← HLL2.out, ← HGL.out]; have := HLF.out; have := HGF.out; have := HAB.out; omega
        intro vg w3 ho3 hg3
        have HP3 := Lib.hid (HP2.out.lines (ls := ls) ho3 hg3)
        obtain ⟨go, gc, rfl⟩ := own_form ho3
        clear ho3 hg3 HX
        have HRW := Lib.hid (HRA.out w3 HP3.out.l.b)
        go_wp2_with (at_builtin; refine append_where rfl (.tmp 62) (.tmp 63) rfl rfl HP3.out.a Y ?hx2 ?hn2 HP3.out.l.b.size ?_)
        case hx2 => exact HRW.out
        case hn2 => rw [← HYL.out, ← HAL.out]; have := HAB.out; omega
        intro va2 w4 ho4 hg4 _ hw4
        have HP4 := Lib.hid (HP3.out.more ho4 hg4 (by
          refine hw4.imp id ?_
          rintro ⟨g', ⟨cp, e⟩, h9⟩
          exact ⟨g', cp, e, h9⟩))
        obtain ⟨a2o, a2c, rfl⟩ := own_form ho4
        clear ho4 hg4 hw4 HRW
        have CL := Lib.hid (lines_any _ (all ++ Y) m w4 (Rd.of_own HP4.out.a) (by rw [List.length_append, ← HAL.out, ← HYL.out]; have := HAB.out; omega) (by have := HMM.out; omega) HEM.out HPP.out)
        go_wp2_with fail
        refine CL.out.mono ?_
        rintro e w5 ⟨lv, rfl, ho5, hb5⟩
        have HP5 := Lib.hid (HP4.out.next hb5)
        have HO5 := Lib.hid ho5
        obtain ⟨l5, c5, rfl⟩ := own_form ho5
        rw [List.length_append] at HO5
        clear ho5 hb5 CL
        have CS := Lib.hid (same_any (G ++ ls) (G ++ ls) _ _ w5 (Rd.of_own HP5.out.r) (Rd.of_own HO5.out))
        go_wp2_with fail
        refine CS.out.mono ?_
        rintro e w6 ⟨rfl, hb6⟩
        rw [beq_self_eq_true]
        have HP6 := Lib.hid (HP5.out.next hb6)
        clear hb6 CS HO5
        have CE := Lib.hid (HP6.out.l.error (er := (f2.err : Int)) rfl)
        have CR := Lib.hid (HP6.out.l.rest (r := f2.ls.length) rfl)
        obtain ⟨E2, hE2⟩ : ∃ E2 : Int, E2 = (f2.err : Int) := ⟨_, rfl⟩
        obtain ⟨R2, hR2⟩ : ∃ R2, R2 = f2.ls.length := ⟨_, rfl⟩
        rw [← hE2] at CE ⊢
        rw [← hR2] at CR ⊢
        clear hE2 hR2
        go_wp2_with fail
        refine CE.out.mono ?_
        rintro e w7 ⟨rfl, rfl⟩
        go_wp2_with fail
        refine CR.out.mono ?_
        rintro e w7 ⟨rfl, rfl⟩
        go_wp2
        go_roundw
        case rel =>
          refine ⟨k + 1, s2, all ++ Y, by omega, by omega, by go_num, by show _ ≤ _; rw [List.length_append, ← HAL.out, ← HYL.out]; have := HAB.out; omega, ?_⟩
          show FP _ _ _ _ _ _ _ _ _ _
          rw [HPP.out]
          exact HP6.out
        case measure => simp [intOf]; omega
    · by_cases hlt : k < L
      · have h12 : ¬ k < 12 := fun h => hgo ⟨hlt, h⟩
        go_wp2
        go_ret
        exact ⟨rfl, HP.out.l.b⟩
      · go_wp2
        go_ret
        exact ⟨rfl, HP.out.l.b⟩
end Go.Proofs.YtagedockmlbebaaDoor
