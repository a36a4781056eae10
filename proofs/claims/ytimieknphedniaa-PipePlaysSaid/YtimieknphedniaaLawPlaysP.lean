/- PipePlays, walked: whoever waits, and whichever replies come, each one's reply, who is first, and when it is too late, is what the document says: any proto, any things that are done, any number. -/
import Derived.Test.YtimieknphedniaaPlaysS
import Derived.Test.YtimieknphedniaaPopB
import Derived.BigQuiet
import Derived.Deep.CutRange
namespace Go.Proofs.Ytimieknphedniaa
open Go.RowKit

set_option maxRecDepth 20000 in
set_option maxHeartbeats 8000000 in
theorem lawPlaysPi (p : Int) (v : Value) (os : List POp) (ask : Int) (_hp : (Lit.int .i64 p).wf = true) (_hl : os.length ≤ maxLen) (_ha : (Lit.int .i64 ask).wf = true) (w : World) (hrd : RdN 6 w v (os.map POp.cells)) (hok : ∀ o ∈ os, o.Ok) :
    Calls Try.prog 3 #[.int .i64 p, v, .int .i64 ask] w fun e w' => e = .returned (.bool true) ∧ Below w.heap.size w w' := by
  obtain ⟨ao, cap, rfl, hcap, hat⟩ := pops_at hrd
  obtain ⟨L, hL⟩ : ∃ L, os.length = L := ⟨_, rfl⟩
  rw [hL] at hcap ⊢
  obtain ⟨N, hN⟩ : ∃ N, min L 60 = N := ⟨_, rfl⟩
  have hN1 : N ≤ 60 := by omega
  have hN2 : N ≤ L := by omega
  have HN := Lib.hid hN
  have HAT := Lib.hid hat
  have HYL := Lib.hid hL
  have HOK := Lib.hid hok
  have hS := shown_any w
  clear hrd hat hok hL hcap hN
  go_enter Try.func3, Try.ntmps3
  go_wp2_with fail
  refine hS.mono ?_
  rintro e w1 ⟨rfl, hb1⟩
  have HB1 := Lib.hid hb1
  have hNw := new_any w1
  clear hS hb1
  go_wp2_with fail
  refine hNw.mono ?_
  rintro e w2 ⟨rfl, hb2, hp2⟩
  have hb2' := HB1.out.trans (hb2.mono HB1.out.size)
  have HG := Lib.hid HB1.out.size
  generalize w1.heap.size = g at *
  obtain ⟨w3, hw3⟩ : ∃ x, w2.alloc (.cells #[.slice none 0 0] 29) = x := ⟨_, rfl⟩
  have hb3 : Below w2.heap.size w2 w3 := by rw [← hw3]; exact (Below.refl _ w2).alloc (Nat.le_refl _) _
  have hgl := hp2.lt
  have HPP0 := Lib.hid (show PY w w3 g w2.heap.size (.slice none 0 0) [] [] from
    ⟨hb2'.trans (hb3.mono hb2'.size), hp2.next hb3, by rw [← hw3]; exact yo_new w2 _ hb2'.size, HG.out, by omega, fun e => by cases e⟩)
  obtain ⟨yb, hyb⟩ : ∃ yb, w2.heap.size = yb := ⟨_, rfl⟩
  rw [hyb] at HPP0
  clear hNw hb2 hp2 hb2' hb3 hgl
  go_wp2
  clear hw3 hyb
  go_loopw [10, 11, 12, 13, 14, 15, 16, 17, 18, 19, 20, 21, 22, 23] (fun s10 _ _ _ _ _ _ _ _ _ _ _ _ _ wr => ∃ (i : Nat) (s : Value) (m : List Wt), i ≤ N ∧ s10 = .int .i64 (i : Int) ∧ Hid (PY w wr g yb s m m)) (fun i _ _ _ _ _ _ _ _ _ _ _ _ _ _ => N - (intOf i).toNat)
  case atStart => exact ⟨0, _, _, Nat.zero_le _, rfl, HPP0⟩
  case round =>
    obtain ⟨i, s, m, hi, rfl, HPP⟩ := hrel
    clear HPP0
    by_cases hlt : i < N
    · obtain ⟨o, ho⟩ : ∃ o, os[i]? = some o := ⟨_, List.getElem?_eq_getElem (by rw [HYL.out]; omega)⟩
      have hk := bounds_u8 (HOK.out o (List.mem_of_getElem? ho)).kind
      obtain ⟨b, f, rfl, x0, x1, x2, x3, x4, x5⟩ := HAT.out i o ho
      obtain ⟨kd, ⟨xt, xc, xb, xd⟩, cd⟩ := o
      dsimp only at hk x0 x1 x2 x3 x4 x5
      obtain ⟨A, rfl⟩ := Int.eq_ofNat_of_zero_le hk.1
      have hmask := kind_mask7 A (by omega)
      obtain ⟨M, hM⟩ : ∃ M, A % 8 = M := ⟨_, rfl⟩
      rw [hM] at hmask
      obtain ⟨w4, w5, hw4, hw5, hm⟩ := op_made wr ⟨(A : Int), ⟨xt, xc, xb, xd⟩, cd⟩
      dsimp only at hw5
      have z0 := hm.z0
      have z1 := hm.z1
      have z2 := hm.z2
      have z3 := hm.z3
      have z4 := hm.z4
      have z5 := hm.z5
      have zf := hm.zf
      have hbw := HPP.out.b
      have y0 := (hbw.cell (World.block_lt_of_cell? w _ x0)).trans x0
      have y1 := (hbw.cell (World.block_lt_of_cell? w _ x1)).trans x1
      have y2 := (hbw.cell (World.block_lt_of_cell? w _ x2)).trans x2
      have y3 := (hbw.cell (World.block_lt_of_cell? w _ x3)).trans x3
      have y4 := (hbw.cell (World.block_lt_of_cell? w _ x4)).trans x4
      have y5 := (hbw.cell (World.block_lt_of_cell? w _ x5)).trans x5
      have u0 := hm.pb.c0
      have u1 := hm.pb.c1
      have u2 := hm.pb.c2
      have u3 := hm.pb.c3
      have u4 := hm.pb.c4
      have u5 := hm.pb.c5
      dsimp only at u0 u1 u2 u3 u4 u5
      have HPB := Lib.hid hm.pb
      have HGR := Lib.hid HPP.out.p.lt
      have HYQ := Lib.hid HPP.out.y.lt
      have HP5 := Lib.hid (HPP.out.next hm.hb)
      have hiL : (i : Int) < (L : Int) := by omega
      have hiL2 : i < L := by omega
      have hi60 : (i : Int) < 60 := by omega
      have hi61 : i < 60 := by omega
      have HLT := Lib.hid hlt
      generalize hq : wr.heap.size = q at *
      clear x0 x1 x2 x3 x4 x5 hm hbw ho hk hM HPP
      have hm8 := HP5.out.p.le
      by_cases h3 : M < 3
      · have h31 : ((M : Int) < 3) = True := eq_true (by omega)
        have h32 : (M < 3) = True := eq_true h3
        clear h3
        rcases Nat.lt_or_ge m.length 8 with h8 | h8
        · have hP := push_any HP5.out.p ⟨xt, xc, xb, xd⟩ h8
          unfold Wt.val at hP
          dsimp only at hP
          have HL8 := Lib.hid h8
          clear h8 hm8
          go_wp2_with fail
          refine hP.mono ?_
          rintro e w6 ⟨rfl, hp6, ht6⟩
          have HP6 := Lib.hid (HP5.out.pipe ht6 hp6)
          have hPB6 := HPB.out.apart ht6 (by have := HGR.out; omega)
          have v1 := hPB6.c1
          have v2 := hPB6.c2
          have v3 := hPB6.c3
          have v4 := hPB6.c4
          dsimp only at v1 v2 v3 v4
          have hY := ypush_any HP6.out.y HP6.out.b.size ⟨xt, xc, xb, xd⟩ HL8.out
          unfold Wt.val at hY
          dsimp only at hY
          clear hP hp6 ht6 hPB6 HP5 HPB u0 u1 u2 u3 u4 u5
          clear z0 z1 z2 z3 z4 z5 zf y0 y1 y2 y3 y4 y5 hw4 hw5
          go_wp2_with fail
          refine hY.mono ?_
          rintro e w7 ⟨s6, rfl, hy7, ht7, hs7⟩
          have HPY := Lib.hid (HP6.out.ref ht7 hy7 (.inr hs7))
          clear hY hy7 ht7 hs7 HP6 v1 v2 v3 v4 HL8
          generalize hmm : m ++ [(⟨xt, xc, xb, xd⟩ : Wt)] = mm at *
          clear hmm
          cases mm with
          | nil =>
            have hH1 := head_any HPY.out.p Wt.zero rfl false (by simp)
            unfold Wt.val at hH1
            dsimp only [Wt.zero] at hH1
            go_wp2_with fail
            refine hH1.mono ?_
            rintro e w7 ⟨rfl, hb7⟩
            clear hH1
            obtain ⟨w8, w9, hw8, hw9, hm⟩ := want_made w7 Wt.zero
            dsimp only [Wt.zero] at hw9
            have a0 := hm.z0
            have a1 := hm.z1
            have a2 := hm.z2
            have a3 := hm.z3
            have af := hm.zf
            have HW9 := Lib.hid hm.wb
            have HPY9 := Lib.hid ((HPY.out.next hb7).next hm.hb)
            clear hm hb7 HPY
            obtain ⟨q1, hq1⟩ : ∃ q1, w7.heap.size = q1 := ⟨_, rfl⟩
            rw [hq1] at HW9 a0 a1 a2 a3 af hw9
            have hH2 := yhead_none HPY9.out.y
            unfold Wt.val at hH2
            dsimp only [Wt.zero] at hH2
            go_wp2_with fail
            refine hH2.mono ?_
            rintro e wA ⟨rfl, hbA⟩
            clear hH2 hw8 hw9 a0 a1 a2 a3 af hq1
            obtain ⟨wB, wC, hwB, hwC, hm⟩ := want_made wA Wt.zero
            dsimp only [Wt.zero] at hwC
            have a0 := hm.z0
            have a1 := hm.z1
            have a2 := hm.z2
            have a3 := hm.z3
            have af := hm.zf
            have hWC := hm.wb
            have hW9 := (HW9.out.next hbA).next hm.hb
            have HPYC := Lib.hid ((HPY9.out.next hbA).next hm.hb)
            clear hm hbA HPY9 HW9
            obtain ⟨q2, hq2⟩ : ∃ q2, wA.heap.size = q2 := ⟨_, rfl⟩
            rw [hq2] at hWC a0 a1 a2 a3 af hwC
            have r0 := fun q => (hW9.next (below_drewN (Below.refl _ wC) q)).c0
            have r1 := fun q => (hW9.next (below_drewN (Below.refl _ wC) q)).c1
            have r2 := fun q => (hW9.next (below_drewN (Below.refl _ wC) q)).c2
            have r3 := fun q => (hW9.next (below_drewN (Below.refl _ wC) q)).c3
            have s0 := fun q => (hWC.next (below_drewN (Below.refl _ wC) q)).c0
            have s1 := fun q => (hWC.next (below_drewN (Below.refl _ wC) q)).c1
            have s2 := fun q => (hWC.next (below_drewN (Below.refl _ wC) q)).c2
            have s3 := fun q => (hWC.next (below_drewN (Below.refl _ wC) q)).c3
            dsimp only [Wt.zero] at r0 r1 r2 r3 s0 s1 s2 s3
            have he := want_same Wt.zero
            unfold Wt.val at he
            dsimp only [Wt.zero] at he
            have hh := wantHeld
            have hg := wantGuard
            have HQQ := Lib.hid (fun q => HPYC.out.next (below_drewN (Below.refl _ wC) q))
            obtain ⟨aoY, capY, hsY, _, _⟩ := HPYC.out.y.form
            have cY := fun q => (HQQ.out q).y.c0
            rw [hsY] at cY
            have hLn := fun q => len_any (HQQ.out q).p
            have hDu := fun q => due_any (HQQ.out q).p
            have hDy := fun q => ydue_any (HQQ.out q).y (HQQ.out q).p.le
            obtain ⟨D, hD⟩ : ∃ D, Pi.due (dues ([] : List Wt)) = D := ⟨_, rfl⟩
            obtain ⟨n9, hn9⟩ : ∃ n9, ([] : List Wt).length = n9 := ⟨_, rfl⟩
            simp only [hD, hn9] at hDu hDy hLn cY
            have HLN := Lib.hid (fun q => (hLn q).mono fun _ _ ⟨a, b⟩ => (show _ ∧ _ from ⟨a, b.symm⟩))
            have HDU := Lib.hid (fun q => (hDu q).mono fun _ _ ⟨a, b⟩ => (show _ ∧ _ from ⟨a, b.symm⟩))
            have HDY := Lib.hid (fun q => (hDy q).mono fun _ _ ⟨a, b⟩ => (show _ ∧ _ from ⟨a, b.symm⟩))
            clear hLn hDu hDy hD hn9 hsY HPYC hWC hW9
            go_wp2
            clear hwB hwC a0 a1 a2 a3 af hq2
            refine wp_region_quiet_lit (by kernel_rfl) (by kernel_rfl) ?_
            repeat (quiet_step (first | exact Calls.quiet_of_same (HLN.out _) | exact Calls.quiet_of_same (HDU.out _) | exact Calls.quiet_of_same (HDY.out _)))
            refine wpQuiet_nil ?_
            rintro _ ⟨nq, rfl⟩
            have HQ2 := Lib.hid (HQQ.out nq)
            clear HQQ HLN HDU HDY cY r0 r1 r2 r3 s0 s1 s2 s3
            generalize wC.drewN nq = wD at HQ2 ⊢
            go_wp2
            go_roundw
            case rel => exact ⟨i + 1, _, _, HLT.out, by go_num, HQ2⟩
            case measure => simp [intOf]; omega
          | cons zz l2 =>
            obtain ⟨zt, zc, zb, zd⟩ := zz
            have hH1 := head_any HPY.out.p ⟨zt, zc, zb, zd⟩ rfl true (by simp)
            unfold Wt.val at hH1
            dsimp only [Wt.zero] at hH1
            go_wp2_with fail
            refine hH1.mono ?_
            rintro e w7 ⟨rfl, hb7⟩
            clear hH1
            obtain ⟨w8, w9, hw8, hw9, hm⟩ := want_made w7 ⟨zt, zc, zb, zd⟩
            dsimp only [Wt.zero] at hw9
            have a0 := hm.z0
            have a1 := hm.z1
            have a2 := hm.z2
            have a3 := hm.z3
            have af := hm.zf
            have HW9 := Lib.hid hm.wb
            have HPY9 := Lib.hid ((HPY.out.next hb7).next hm.hb)
            clear hm hb7 HPY
            obtain ⟨q1, hq1⟩ : ∃ q1, w7.heap.size = q1 := ⟨_, rfl⟩
            rw [hq1] at HW9 a0 a1 a2 a3 af hw9
            have hH2 := yhead_any HPY9.out.y
            unfold Wt.val at hH2
            dsimp only [Wt.zero] at hH2
            go_wp2_with fail
            refine hH2.mono ?_
            rintro e wA ⟨rfl, hbA⟩
            clear hH2 hw8 hw9 a0 a1 a2 a3 af hq1
            obtain ⟨wB, wC, hwB, hwC, hm⟩ := want_made wA ⟨zt, zc, zb, zd⟩
            dsimp only [Wt.zero] at hwC
            have a0 := hm.z0
            have a1 := hm.z1
            have a2 := hm.z2
            have a3 := hm.z3
            have af := hm.zf
            have hWC := hm.wb
            have hW9 := (HW9.out.next hbA).next hm.hb
            have HPYC := Lib.hid ((HPY9.out.next hbA).next hm.hb)
            clear hm hbA HPY9 HW9
            obtain ⟨q2, hq2⟩ : ∃ q2, wA.heap.size = q2 := ⟨_, rfl⟩
            rw [hq2] at hWC a0 a1 a2 a3 af hwC
            have r0 := fun q => (hW9.next (below_drewN (Below.refl _ wC) q)).c0
            have r1 := fun q => (hW9.next (below_drewN (Below.refl _ wC) q)).c1
            have r2 := fun q => (hW9.next (below_drewN (Below.refl _ wC) q)).c2
            have r3 := fun q => (hW9.next (below_drewN (Below.refl _ wC) q)).c3
            have s0 := fun q => (hWC.next (below_drewN (Below.refl _ wC) q)).c0
            have s1 := fun q => (hWC.next (below_drewN (Below.refl _ wC) q)).c1
            have s2 := fun q => (hWC.next (below_drewN (Below.refl _ wC) q)).c2
            have s3 := fun q => (hWC.next (below_drewN (Below.refl _ wC) q)).c3
            dsimp only [Wt.zero] at r0 r1 r2 r3 s0 s1 s2 s3
            have he := want_same ⟨zt, zc, zb, zd⟩
            unfold Wt.val at he
            dsimp only [Wt.zero] at he
            have hh := wantHeld
            have hg := wantGuard
            have HQQ := Lib.hid (fun q => HPYC.out.next (below_drewN (Below.refl _ wC) q))
            obtain ⟨aoY, capY, hsY, _, _⟩ := HPYC.out.y.form
            have cY := fun q => (HQQ.out q).y.c0
            rw [hsY] at cY
            have hLn := fun q => len_any (HQQ.out q).p
            have hDu := fun q => due_any (HQQ.out q).p
            have hDy := fun q => ydue_any (HQQ.out q).y (HQQ.out q).p.le
            obtain ⟨D, hD⟩ : ∃ D, Pi.due (dues (⟨zt, zc, zb, zd⟩ :: l2 : List Wt)) = D := ⟨_, rfl⟩
            obtain ⟨n9, hn9⟩ : ∃ n9, (⟨zt, zc, zb, zd⟩ :: l2 : List Wt).length = n9 := ⟨_, rfl⟩
            simp only [hD, hn9] at hDu hDy hLn cY
            have HLN := Lib.hid (fun q => (hLn q).mono fun _ _ ⟨a, b⟩ => (show _ ∧ _ from ⟨a, b.symm⟩))
            have HDU := Lib.hid (fun q => (hDu q).mono fun _ _ ⟨a, b⟩ => (show _ ∧ _ from ⟨a, b.symm⟩))
            have HDY := Lib.hid (fun q => (hDy q).mono fun _ _ ⟨a, b⟩ => (show _ ∧ _ from ⟨a, b.symm⟩))
            clear hLn hDu hDy hD hn9 hsY HPYC hWC hW9
            go_wp2
            clear hwB hwC a0 a1 a2 a3 af hq2
            refine wp_region_quiet_lit (by kernel_rfl) (by kernel_rfl) ?_
            repeat (quiet_step (first | exact Calls.quiet_of_same (HLN.out _) | exact Calls.quiet_of_same (HDU.out _) | exact Calls.quiet_of_same (HDY.out _)))
            refine wpQuiet_nil ?_
            rintro _ ⟨nq, rfl⟩
            have HQ2 := Lib.hid (HQQ.out nq)
            clear HQQ HLN HDU HDY cY r0 r1 r2 r3 s0 s1 s2 s3
            generalize wC.drewN nq = wD at HQ2 ⊢
            go_wp2
            go_roundw
            case rel => exact ⟨i + 1, _, _, HLT.out, by go_num, HQ2⟩
            case measure => simp [intOf]; omega
        · have h88 : m.length = 8 := Nat.le_antisymm hm8 h8
          have hP := full_any HP5.out.p ⟨xt, xc, xb, xd⟩ h88
          unfold Wt.val at hP
          dsimp only at hP
          have HL8 := Lib.hid h88
          clear h8 hm8 h88
          go_wp2_with fail
          refine hP.mono ?_
          rintro e w6 ⟨rfl, hb6⟩
          have HP6 := Lib.hid (HP5.out.next hb6)
          have hPB6 := HPB.out.next hb6
          have v1 := hPB6.c1
          have v2 := hPB6.c2
          have v3 := hPB6.c3
          have v4 := hPB6.c4
          dsimp only at v1 v2 v3 v4
          have hY := yfull_any HP6.out.y ⟨xt, xc, xb, xd⟩ HL8.out
          unfold Wt.val at hY
          dsimp only at hY
          clear hP hb6 hPB6 HP5 HPB u0 u1 u2 u3 u4 u5
          clear z0 z1 z2 z3 z4 z5 zf y0 y1 y2 y3 y4 y5 hw4 hw5
          go_wp2_with fail
          refine hY.mono ?_
          rintro e w7 ⟨rfl, hb7⟩
          have HPY := Lib.hid (HP6.out.next hb7)
          clear hY hb7 HP6 v1 v2 v3 v4 HL8
          generalize hmm : m = mm at *
          clear hmm
          cases mm with
          | nil =>
            have hH1 := head_any HPY.out.p Wt.zero rfl false (by simp)
            unfold Wt.val at hH1
            dsimp only [Wt.zero] at hH1
            go_wp2_with fail
            refine hH1.mono ?_
            rintro e w7 ⟨rfl, hb7⟩
            clear hH1
            obtain ⟨w8, w9, hw8, hw9, hm⟩ := want_made w7 Wt.zero
            dsimp only [Wt.zero] at hw9
            have a0 := hm.z0
            have a1 := hm.z1
            have a2 := hm.z2
            have a3 := hm.z3
            have af := hm.zf
            have HW9 := Lib.hid hm.wb
            have HPY9 := Lib.hid ((HPY.out.next hb7).next hm.hb)
            clear hm hb7 HPY
            obtain ⟨q1, hq1⟩ : ∃ q1, w7.heap.size = q1 := ⟨_, rfl⟩
            rw [hq1] at HW9 a0 a1 a2 a3 af hw9
            have hH2 := yhead_none HPY9.out.y
            unfold Wt.val at hH2
            dsimp only [Wt.zero] at hH2
            go_wp2_with fail
            refine hH2.mono ?_
            rintro e wA ⟨rfl, hbA⟩
            clear hH2 hw8 hw9 a0 a1 a2 a3 af hq1
            obtain ⟨wB, wC, hwB, hwC, hm⟩ := want_made wA Wt.zero
            dsimp only [Wt.zero] at hwC
            have a0 := hm.z0
            have a1 := hm.z1
            have a2 := hm.z2
            have a3 := hm.z3
            have af := hm.zf
            have hWC := hm.wb
            have hW9 := (HW9.out.next hbA).next hm.hb
            have HPYC := Lib.hid ((HPY9.out.next hbA).next hm.hb)
            clear hm hbA HPY9 HW9
            obtain ⟨q2, hq2⟩ : ∃ q2, wA.heap.size = q2 := ⟨_, rfl⟩
            rw [hq2] at hWC a0 a1 a2 a3 af hwC
            have r0 := fun q => (hW9.next (below_drewN (Below.refl _ wC) q)).c0
            have r1 := fun q => (hW9.next (below_drewN (Below.refl _ wC) q)).c1
            have r2 := fun q => (hW9.next (below_drewN (Below.refl _ wC) q)).c2
            have r3 := fun q => (hW9.next (below_drewN (Below.refl _ wC) q)).c3
            have s0 := fun q => (hWC.next (below_drewN (Below.refl _ wC) q)).c0
            have s1 := fun q => (hWC.next (below_drewN (Below.refl _ wC) q)).c1
            have s2 := fun q => (hWC.next (below_drewN (Below.refl _ wC) q)).c2
            have s3 := fun q => (hWC.next (below_drewN (Below.refl _ wC) q)).c3
            dsimp only [Wt.zero] at r0 r1 r2 r3 s0 s1 s2 s3
            have he := want_same Wt.zero
            unfold Wt.val at he
            dsimp only [Wt.zero] at he
            have hh := wantHeld
            have hg := wantGuard
            have HQQ := Lib.hid (fun q => HPYC.out.next (below_drewN (Below.refl _ wC) q))
            obtain ⟨aoY, capY, hsY, _, _⟩ := HPYC.out.y.form
            have cY := fun q => (HQQ.out q).y.c0
            rw [hsY] at cY
            have hLn := fun q => len_any (HQQ.out q).p
            have hDu := fun q => due_any (HQQ.out q).p
            have hDy := fun q => ydue_any (HQQ.out q).y (HQQ.out q).p.le
            obtain ⟨D, hD⟩ : ∃ D, Pi.due (dues ([] : List Wt)) = D := ⟨_, rfl⟩
            obtain ⟨n9, hn9⟩ : ∃ n9, ([] : List Wt).length = n9 := ⟨_, rfl⟩
            simp only [hD, hn9] at hDu hDy hLn cY
            have HLN := Lib.hid (fun q => (hLn q).mono fun _ _ ⟨a, b⟩ => (show _ ∧ _ from ⟨a, b.symm⟩))
            have HDU := Lib.hid (fun q => (hDu q).mono fun _ _ ⟨a, b⟩ => (show _ ∧ _ from ⟨a, b.symm⟩))
            have HDY := Lib.hid (fun q => (hDy q).mono fun _ _ ⟨a, b⟩ => (show _ ∧ _ from ⟨a, b.symm⟩))
            clear hLn hDu hDy hD hn9 hsY HPYC hWC hW9
            go_wp2
            clear hwB hwC a0 a1 a2 a3 af hq2
            refine wp_region_quiet_lit (by kernel_rfl) (by kernel_rfl) ?_
            repeat (quiet_step (first | exact Calls.quiet_of_same (HLN.out _) | exact Calls.quiet_of_same (HDU.out _) | exact Calls.quiet_of_same (HDY.out _)))
            refine wpQuiet_nil ?_
            rintro _ ⟨nq, rfl⟩
            have HQ2 := Lib.hid (HQQ.out nq)
            clear HQQ HLN HDU HDY cY r0 r1 r2 r3 s0 s1 s2 s3
            generalize wC.drewN nq = wD at HQ2 ⊢
            go_wp2
            go_roundw
            case rel => exact ⟨i + 1, _, _, HLT.out, by go_num, HQ2⟩
            case measure => simp [intOf]; omega
          | cons zz l2 =>
            obtain ⟨zt, zc, zb, zd⟩ := zz
            have hH1 := head_any HPY.out.p ⟨zt, zc, zb, zd⟩ rfl true (by simp)
            unfold Wt.val at hH1
            dsimp only [Wt.zero] at hH1
            go_wp2_with fail
            refine hH1.mono ?_
            rintro e w7 ⟨rfl, hb7⟩
            clear hH1
            obtain ⟨w8, w9, hw8, hw9, hm⟩ := want_made w7 ⟨zt, zc, zb, zd⟩
            dsimp only [Wt.zero] at hw9
            have a0 := hm.z0
            have a1 := hm.z1
            have a2 := hm.z2
            have a3 := hm.z3
            have af := hm.zf
            have HW9 := Lib.hid hm.wb
            have HPY9 := Lib.hid ((HPY.out.next hb7).next hm.hb)
            clear hm hb7 HPY
            obtain ⟨q1, hq1⟩ : ∃ q1, w7.heap.size = q1 := ⟨_, rfl⟩
            rw [hq1] at HW9 a0 a1 a2 a3 af hw9
            have hH2 := yhead_any HPY9.out.y
            unfold Wt.val at hH2
            dsimp only [Wt.zero] at hH2
            go_wp2_with fail
            refine hH2.mono ?_
            rintro e wA ⟨rfl, hbA⟩
            clear hH2 hw8 hw9 a0 a1 a2 a3 af hq1
            obtain ⟨wB, wC, hwB, hwC, hm⟩ := want_made wA ⟨zt, zc, zb, zd⟩
            dsimp only [Wt.zero] at hwC
            have a0 := hm.z0
            have a1 := hm.z1
            have a2 := hm.z2
            have a3 := hm.z3
            have af := hm.zf
            have hWC := hm.wb
            have hW9 := (HW9.out.next hbA).next hm.hb
            have HPYC := Lib.hid ((HPY9.out.next hbA).next hm.hb)
            clear hm hbA HPY9 HW9
            obtain ⟨q2, hq2⟩ : ∃ q2, wA.heap.size = q2 := ⟨_, rfl⟩
            rw [hq2] at hWC a0 a1 a2 a3 af hwC
            have r0 := fun q => (hW9.next (below_drewN (Below.refl _ wC) q)).c0
            have r1 := fun q => (hW9.next (below_drewN (Below.refl _ wC) q)).c1
            have r2 := fun q => (hW9.next (below_drewN (Below.refl _ wC) q)).c2
            have r3 := fun q => (hW9.next (below_drewN (Below.refl _ wC) q)).c3
            have s0 := fun q => (hWC.next (below_drewN (Below.refl _ wC) q)).c0
            have s1 := fun q => (hWC.next (below_drewN (Below.refl _ wC) q)).c1
            have s2 := fun q => (hWC.next (below_drewN (Below.refl _ wC) q)).c2
            have s3 := fun q => (hWC.next (below_drewN (Below.refl _ wC) q)).c3
            dsimp only [Wt.zero] at r0 r1 r2 r3 s0 s1 s2 s3
            have he := want_same ⟨zt, zc, zb, zd⟩
            unfold Wt.val at he
            dsimp only [Wt.zero] at he
            have hh := wantHeld
            have hg := wantGuard
            have HQQ := Lib.hid (fun q => HPYC.out.next (below_drewN (Below.refl _ wC) q))
            obtain ⟨aoY, capY, hsY, _, _⟩ := HPYC.out.y.form
            have cY := fun q => (HQQ.out q).y.c0
            rw [hsY] at cY
            have hLn := fun q => len_any (HQQ.out q).p
            have hDu := fun q => due_any (HQQ.out q).p
            have hDy := fun q => ydue_any (HQQ.out q).y (HQQ.out q).p.le
            obtain ⟨D, hD⟩ : ∃ D, Pi.due (dues (⟨zt, zc, zb, zd⟩ :: l2 : List Wt)) = D := ⟨_, rfl⟩
            obtain ⟨n9, hn9⟩ : ∃ n9, (⟨zt, zc, zb, zd⟩ :: l2 : List Wt).length = n9 := ⟨_, rfl⟩
            simp only [hD, hn9] at hDu hDy hLn cY
            have HLN := Lib.hid (fun q => (hLn q).mono fun _ _ ⟨a, b⟩ => (show _ ∧ _ from ⟨a, b.symm⟩))
            have HDU := Lib.hid (fun q => (hDu q).mono fun _ _ ⟨a, b⟩ => (show _ ∧ _ from ⟨a, b.symm⟩))
            have HDY := Lib.hid (fun q => (hDy q).mono fun _ _ ⟨a, b⟩ => (show _ ∧ _ from ⟨a, b.symm⟩))
            clear hLn hDu hDy hD hn9 hsY HPYC hWC hW9
            go_wp2
            clear hwB hwC a0 a1 a2 a3 af hq2
            refine wp_region_quiet_lit (by kernel_rfl) (by kernel_rfl) ?_
            repeat (quiet_step (first | exact Calls.quiet_of_same (HLN.out _) | exact Calls.quiet_of_same (HDU.out _) | exact Calls.quiet_of_same (HDY.out _)))
            refine wpQuiet_nil ?_
            rintro _ ⟨nq, rfl⟩
            have HQ2 := Lib.hid (HQQ.out nq)
            clear HQQ HLN HDU HDY cY r0 r1 r2 r3 s0 s1 s2 s3
            generalize wC.drewN nq = wD at HQ2 ⊢
            go_wp2
            go_roundw
            case rel => exact ⟨i + 1, _, _, HLT.out, by go_num, HQ2⟩
            case measure => simp [intOf]; omega
      · have h31 : ((M : Int) < 3) = False := eq_false (by omega)
        have h32 : (M < 3) = False := eq_false h3
        clear h3
        cases m with
        | nil =>
          have hR := nobody_any HP5.out.p p cd
          unfold Wt.val repV at hR
          dsimp only [Wt.zero] at hR
          clear hm8
          go_wp2_with fail
          refine hR.mono ?_
          rintro e w6 ⟨rfl, hb6⟩
          have HP6 := Lib.hid (HP5.out.next hb6)
          have HPB6 := Lib.hid (HPB.out.next hb6)
          clear hb6
          clear hR HP5 HPB u0 u1 u2 u3 u4 u5
          clear z0 z1 z2 z3 z4 z5 zf y0 y1 y2 y3 y4 y5 hw4 hw5
          obtain ⟨w7, w8, hw7, hw8, hm⟩ := want_made w6 Wt.zero
          dsimp only [Wt.zero] at hw8
          have b0 := hm.z0
          have b1 := hm.z1
          have b2 := hm.z2
          have b3 := hm.z3
          have bf := hm.zf
          have HW8 := Lib.hid hm.wb
          have HP8 := Lib.hid (HP6.out.next hm.hb)
          have c5 := (HPB6.out.next hm.hb).c5
          dsimp only at c5
          have hyl := HP6.out.y.lt
          clear hm HP6 HPB6
          obtain ⟨q3, hq3⟩ : ∃ q3, w6.heap.size = q3 := ⟨_, rfl⟩
          rw [hq3] at HW8 b0 b1 b2 b3 bf hw8 hyl
          have HYL6 := Lib.hid hyl
          clear hyl
          have hY := ynobody_any HP8.out.y p cd
          unfold Wt.val repV at hY
          dsimp only [Wt.zero] at hY
          go_wp2_with fail
          refine hY.mono ?_
          rintro e w9 ⟨rfl, hb9⟩
          have HP9 := Lib.hid (HP8.out.next hb9)
          have hW9 := HW8.out.next hb9
          clear hb9
          clear hY HP8 HW8 c5 hw7 hw8 b0 b1 b2 b3 bf hq3
          obtain ⟨wE, wF, hwE, hwF, hm⟩ := want_made w9 Wt.zero
          dsimp only [Wt.zero] at hwF
          have b0 := hm.z0
          have b1 := hm.z1
          have b2 := hm.z2
          have b3 := hm.z3
          have bf := hm.zf
          have hWF := hm.wb
          have hW9F := hW9.next hm.hb
          have HPY := Lib.hid (HP9.out.next hm.hb)
          clear hm HP9 hW9
          obtain ⟨q4, hq4⟩ : ∃ q4, w9.heap.size = q4 := ⟨_, rfl⟩
          rw [hq4] at hWF b0 b1 b2 b3 bf hwF
          have d0 := hW9F.c0
          have d1 := hW9F.c1
          have d2 := hW9F.c2
          have d3 := hW9F.c3
          have e0 := hWF.c0
          have e1 := hWF.c1
          have e2 := hWF.c2
          have e3 := hWF.c3
          dsimp only [Wt.zero] at d0 d1 d2 d3 e0 e1 e2 e3
          have hf1 := want_same Wt.zero
          unfold Wt.val at hf1
          dsimp only [Wt.zero] at hf1
          have hf2 := wantHeld
          have hf3 := wantGuard
          clear hWF hW9F
          go_upto_region 19 with fail
          clear hwE hwF hq4 b0 b1 b2 b3 bf d0 d1 d2 d3 e0 e1 e2 e3 hf1 hf2 hf3
          have HPY : Hid (∃ mm, PY w wF g yb s mm mm) := ⟨_, HPY.out⟩
          obtain ⟨mm, hpy⟩ := HPY.out
          replace HPY := Lib.hid hpy
          clear hpy
          cases mm with
          | nil =>
            have hH1 := head_any HPY.out.p Wt.zero rfl false (by simp)
            unfold Wt.val at hH1
            dsimp only [Wt.zero] at hH1
            go_wp2_with fail
            refine hH1.mono ?_
            rintro e w7 ⟨rfl, hb7⟩
            clear hH1
            obtain ⟨w8, w9, hw8, hw9, hm⟩ := want_made w7 Wt.zero
            dsimp only [Wt.zero] at hw9
            have a0 := hm.z0
            have a1 := hm.z1
            have a2 := hm.z2
            have a3 := hm.z3
            have af := hm.zf
            have HW9 := Lib.hid hm.wb
            have HPY9 := Lib.hid ((HPY.out.next hb7).next hm.hb)
            clear hm hb7 HPY
            obtain ⟨q1, hq1⟩ : ∃ q1, w7.heap.size = q1 := ⟨_, rfl⟩
            rw [hq1] at HW9 a0 a1 a2 a3 af hw9
            have hH2 := yhead_none HPY9.out.y
            unfold Wt.val at hH2
            dsimp only [Wt.zero] at hH2
            go_wp2_with fail
            refine hH2.mono ?_
            rintro e wA ⟨rfl, hbA⟩
            clear hH2 hw8 hw9 a0 a1 a2 a3 af hq1
            obtain ⟨wB, wC, hwB, hwC, hm⟩ := want_made wA Wt.zero
            dsimp only [Wt.zero] at hwC
            have a0 := hm.z0
            have a1 := hm.z1
            have a2 := hm.z2
            have a3 := hm.z3
            have af := hm.zf
            have hWC := hm.wb
            have hW9 := (HW9.out.next hbA).next hm.hb
            have HPYC := Lib.hid ((HPY9.out.next hbA).next hm.hb)
            clear hm hbA HPY9 HW9
            obtain ⟨q2, hq2⟩ : ∃ q2, wA.heap.size = q2 := ⟨_, rfl⟩
            rw [hq2] at hWC a0 a1 a2 a3 af hwC
            have r0 := fun q => (hW9.next (below_drewN (Below.refl _ wC) q)).c0
            have r1 := fun q => (hW9.next (below_drewN (Below.refl _ wC) q)).c1
            have r2 := fun q => (hW9.next (below_drewN (Below.refl _ wC) q)).c2
            have r3 := fun q => (hW9.next (below_drewN (Below.refl _ wC) q)).c3
            have s0 := fun q => (hWC.next (below_drewN (Below.refl _ wC) q)).c0
            have s1 := fun q => (hWC.next (below_drewN (Below.refl _ wC) q)).c1
            have s2 := fun q => (hWC.next (below_drewN (Below.refl _ wC) q)).c2
            have s3 := fun q => (hWC.next (below_drewN (Below.refl _ wC) q)).c3
            dsimp only [Wt.zero] at r0 r1 r2 r3 s0 s1 s2 s3
            have he := want_same Wt.zero
            unfold Wt.val at he
            dsimp only [Wt.zero] at he
            have hh := wantHeld
            have hg := wantGuard
            have HQQ := Lib.hid (fun q => HPYC.out.next (below_drewN (Below.refl _ wC) q))
            obtain ⟨aoY, capY, hsY, _, _⟩ := HPYC.out.y.form
            have cY := fun q => (HQQ.out q).y.c0
            rw [hsY] at cY
            have hLn := fun q => len_any (HQQ.out q).p
            have hDu := fun q => due_any (HQQ.out q).p
            have hDy := fun q => ydue_any (HQQ.out q).y (HQQ.out q).p.le
            obtain ⟨D, hD⟩ : ∃ D, Pi.due (dues ([] : List Wt)) = D := ⟨_, rfl⟩
            obtain ⟨n9, hn9⟩ : ∃ n9, ([] : List Wt).length = n9 := ⟨_, rfl⟩
            simp only [hD, hn9] at hDu hDy hLn cY
            have HLN := Lib.hid (fun q => (hLn q).mono fun _ _ ⟨a, b⟩ => (show _ ∧ _ from ⟨a, b.symm⟩))
            have HDU := Lib.hid (fun q => (hDu q).mono fun _ _ ⟨a, b⟩ => (show _ ∧ _ from ⟨a, b.symm⟩))
            have HDY := Lib.hid (fun q => (hDy q).mono fun _ _ ⟨a, b⟩ => (show _ ∧ _ from ⟨a, b.symm⟩))
            clear hLn hDu hDy hD hn9 hsY HPYC hWC hW9
            go_wp2
            clear hwB hwC a0 a1 a2 a3 af hq2
            refine wp_region_quiet_lit (by kernel_rfl) (by kernel_rfl) ?_
            repeat (quiet_step (first | exact Calls.quiet_of_same (HLN.out _) | exact Calls.quiet_of_same (HDU.out _) | exact Calls.quiet_of_same (HDY.out _)))
            refine wpQuiet_nil ?_
            rintro _ ⟨nq, rfl⟩
            have HQ2 := Lib.hid (HQQ.out nq)
            clear HQQ HLN HDU HDY cY r0 r1 r2 r3 s0 s1 s2 s3
            generalize wC.drewN nq = wD at HQ2 ⊢
            go_wp2
            go_roundw
            case rel => exact ⟨i + 1, _, _, HLT.out, by go_num, HQ2⟩
            case measure => simp [intOf]; omega
          | cons zz l2 =>
            obtain ⟨zt, zc, zb, zd⟩ := zz
            have hH1 := head_any HPY.out.p ⟨zt, zc, zb, zd⟩ rfl true (by simp)
            unfold Wt.val at hH1
            dsimp only [Wt.zero] at hH1
            go_wp2_with fail
            refine hH1.mono ?_
            rintro e w7 ⟨rfl, hb7⟩
            clear hH1
            obtain ⟨w8, w9, hw8, hw9, hm⟩ := want_made w7 ⟨zt, zc, zb, zd⟩
            dsimp only [Wt.zero] at hw9
            have a0 := hm.z0
            have a1 := hm.z1
            have a2 := hm.z2
            have a3 := hm.z3
            have af := hm.zf
            have HW9 := Lib.hid hm.wb
            have HPY9 := Lib.hid ((HPY.out.next hb7).next hm.hb)
            clear hm hb7 HPY
            obtain ⟨q1, hq1⟩ : ∃ q1, w7.heap.size = q1 := ⟨_, rfl⟩
            rw [hq1] at HW9 a0 a1 a2 a3 af hw9
            have hH2 := yhead_any HPY9.out.y
            unfold Wt.val at hH2
            dsimp only [Wt.zero] at hH2
            go_wp2_with fail
            refine hH2.mono ?_
            rintro e wA ⟨rfl, hbA⟩
            clear hH2 hw8 hw9 a0 a1 a2 a3 af hq1
            obtain ⟨wB, wC, hwB, hwC, hm⟩ := want_made wA ⟨zt, zc, zb, zd⟩
            dsimp only [Wt.zero] at hwC
            have a0 := hm.z0
            have a1 := hm.z1
            have a2 := hm.z2
            have a3 := hm.z3
            have af := hm.zf
            have hWC := hm.wb
            have hW9 := (HW9.out.next hbA).next hm.hb
            have HPYC := Lib.hid ((HPY9.out.next hbA).next hm.hb)
            clear hm hbA HPY9 HW9
            obtain ⟨q2, hq2⟩ : ∃ q2, wA.heap.size = q2 := ⟨_, rfl⟩
            rw [hq2] at hWC a0 a1 a2 a3 af hwC
            have r0 := fun q => (hW9.next (below_drewN (Below.refl _ wC) q)).c0
            have r1 := fun q => (hW9.next (below_drewN (Below.refl _ wC) q)).c1
            have r2 := fun q => (hW9.next (below_drewN (Below.refl _ wC) q)).c2
            have r3 := fun q => (hW9.next (below_drewN (Below.refl _ wC) q)).c3
            have s0 := fun q => (hWC.next (below_drewN (Below.refl _ wC) q)).c0
            have s1 := fun q => (hWC.next (below_drewN (Below.refl _ wC) q)).c1
            have s2 := fun q => (hWC.next (below_drewN (Below.refl _ wC) q)).c2
            have s3 := fun q => (hWC.next (below_drewN (Below.refl _ wC) q)).c3
            dsimp only [Wt.zero] at r0 r1 r2 r3 s0 s1 s2 s3
            have he := want_same ⟨zt, zc, zb, zd⟩
            unfold Wt.val at he
            dsimp only [Wt.zero] at he
            have hh := wantHeld
            have hg := wantGuard
            have HQQ := Lib.hid (fun q => HPYC.out.next (below_drewN (Below.refl _ wC) q))
            obtain ⟨aoY, capY, hsY, _, _⟩ := HPYC.out.y.form
            have cY := fun q => (HQQ.out q).y.c0
            rw [hsY] at cY
            have hLn := fun q => len_any (HQQ.out q).p
            have hDu := fun q => due_any (HQQ.out q).p
            have hDy := fun q => ydue_any (HQQ.out q).y (HQQ.out q).p.le
            obtain ⟨D, hD⟩ : ∃ D, Pi.due (dues (⟨zt, zc, zb, zd⟩ :: l2 : List Wt)) = D := ⟨_, rfl⟩
            obtain ⟨n9, hn9⟩ : ∃ n9, (⟨zt, zc, zb, zd⟩ :: l2 : List Wt).length = n9 := ⟨_, rfl⟩
            simp only [hD, hn9] at hDu hDy hLn cY
            have HLN := Lib.hid (fun q => (hLn q).mono fun _ _ ⟨a, b⟩ => (show _ ∧ _ from ⟨a, b.symm⟩))
            have HDU := Lib.hid (fun q => (hDu q).mono fun _ _ ⟨a, b⟩ => (show _ ∧ _ from ⟨a, b.symm⟩))
            have HDY := Lib.hid (fun q => (hDy q).mono fun _ _ ⟨a, b⟩ => (show _ ∧ _ from ⟨a, b.symm⟩))
            clear hLn hDu hDy hD hn9 hsY HPYC hWC hW9
            go_wp2
            clear hwB hwC a0 a1 a2 a3 af hq2
            refine wp_region_quiet_lit (by kernel_rfl) (by kernel_rfl) ?_
            repeat (quiet_step (first | exact Calls.quiet_of_same (HLN.out _) | exact Calls.quiet_of_same (HDU.out _) | exact Calls.quiet_of_same (HDY.out _)))
            refine wpQuiet_nil ?_
            rintro _ ⟨nq, rfl⟩
            have HQ2 := Lib.hid (HQQ.out nq)
            clear HQQ HLN HDU HDY cY r0 r1 r2 r3 s0 s1 s2 s3
            generalize wC.drewN nq = wD at HQ2 ⊢
            go_wp2
            go_roundw
            case rel => exact ⟨i + 1, _, _, HLT.out, by go_num, HQ2⟩
            case measure => simp [intOf]; omega
        | cons zz l =>
          obtain ⟨nt, nc, nb, nd⟩ := zz
          have HLN8 := Lib.hid (show l.length ≤ 8 by rw [List.length_cons] at hm8; omega)
          cases hf : fin p cd with
          | true =>
            have hR := reply_goes HP5.out.p p cd hf
            unfold Wt.val repV at hR
            dsimp only [Wt.zero] at hR
            clear hm8
            go_wp2_with fail
            refine hR.mono ?_
            rintro e w6 ⟨rfl, hp6, ht6⟩
            have HP6 := Lib.hid (HP5.out.pipe ht6 hp6)
            have HPB6 := Lib.hid (HPB.out.apart ht6 (by have := HGR.out; omega))
            clear hp6 ht6
            clear hR HP5 HPB u0 u1 u2 u3 u4 u5
            clear z0 z1 z2 z3 z4 z5 zf y0 y1 y2 y3 y4 y5 hw4 hw5
            obtain ⟨w7, w8, hw7, hw8, hm⟩ := want_made w6 ⟨nt, nc, nb, nd⟩
            dsimp only [Wt.zero] at hw8
            have b0 := hm.z0
            have b1 := hm.z1
            have b2 := hm.z2
            have b3 := hm.z3
            have bf := hm.zf
            have HW8 := Lib.hid hm.wb
            have HP8 := Lib.hid (HP6.out.next hm.hb)
            have c5 := (HPB6.out.next hm.hb).c5
            dsimp only at c5
            have hyl := HP6.out.y.lt
            clear hm HP6 HPB6
            obtain ⟨q3, hq3⟩ : ∃ q3, w6.heap.size = q3 := ⟨_, rfl⟩
            rw [hq3] at HW8 b0 b1 b2 b3 bf hw8 hyl
            have HYL6 := Lib.hid hyl
            clear hyl
            have hY := yreply_goes HP8.out.y HP8.out.b.size HLN8.out p cd hf
            unfold Wt.val repV at hY
            dsimp only [Wt.zero] at hY
            go_wp2_with fail
            refine hY.mono ?_
            rintro e w9 ⟨rfl, s6, hy9, ht9, hs9⟩
            have HP9 := Lib.hid (HP8.out.ref ht9 hy9 hs9)
            have hW9 := HW8.out.apart ht9 (by have := HYL6.out; omega)
            clear hy9 ht9 hs9
            clear hY HP8 HW8 c5 hw7 hw8 b0 b1 b2 b3 bf hq3
            obtain ⟨wE, wF, hwE, hwF, hm⟩ := want_made w9 ⟨nt, nc, nb, nd⟩
            dsimp only [Wt.zero] at hwF
            have b0 := hm.z0
            have b1 := hm.z1
            have b2 := hm.z2
            have b3 := hm.z3
            have bf := hm.zf
            have hWF := hm.wb
            have hW9F := hW9.next hm.hb
            have HPY := Lib.hid (HP9.out.next hm.hb)
            clear hm HP9 hW9
            obtain ⟨q4, hq4⟩ : ∃ q4, w9.heap.size = q4 := ⟨_, rfl⟩
            rw [hq4] at hWF b0 b1 b2 b3 bf hwF
            have d0 := hW9F.c0
            have d1 := hW9F.c1
            have d2 := hW9F.c2
            have d3 := hW9F.c3
            have e0 := hWF.c0
            have e1 := hWF.c1
            have e2 := hWF.c2
            have e3 := hWF.c3
            dsimp only [Wt.zero] at d0 d1 d2 d3 e0 e1 e2 e3
            have hf1 := want_same ⟨nt, nc, nb, nd⟩
            unfold Wt.val at hf1
            dsimp only [Wt.zero] at hf1
            have hf2 := wantHeld
            have hf3 := wantGuard
            clear hWF hW9F
            go_upto_region 19 with fail
            clear hwE hwF hq4 b0 b1 b2 b3 bf d0 d1 d2 d3 e0 e1 e2 e3 hf1 hf2 hf3
            generalize hmm : l = mm at *
            clear hmm
            cases mm with
            | nil =>
              have hH1 := head_any HPY.out.p Wt.zero rfl false (by simp)
              unfold Wt.val at hH1
              dsimp only [Wt.zero] at hH1
              go_wp2_with fail
              refine hH1.mono ?_
              rintro e w7 ⟨rfl, hb7⟩
              clear hH1
              obtain ⟨w8, w9, hw8, hw9, hm⟩ := want_made w7 Wt.zero
              dsimp only [Wt.zero] at hw9
              have a0 := hm.z0
              have a1 := hm.z1
              have a2 := hm.z2
              have a3 := hm.z3
              have af := hm.zf
              have HW9 := Lib.hid hm.wb
              have HPY9 := Lib.hid ((HPY.out.next hb7).next hm.hb)
              clear hm hb7 HPY
              obtain ⟨q1, hq1⟩ : ∃ q1, w7.heap.size = q1 := ⟨_, rfl⟩
              rw [hq1] at HW9 a0 a1 a2 a3 af hw9
              have hH2 := yhead_none HPY9.out.y
              unfold Wt.val at hH2
              dsimp only [Wt.zero] at hH2
              go_wp2_with fail
              refine hH2.mono ?_
              rintro e wA ⟨rfl, hbA⟩
              clear hH2 hw8 hw9 a0 a1 a2 a3 af hq1
              obtain ⟨wB, wC, hwB, hwC, hm⟩ := want_made wA Wt.zero
              dsimp only [Wt.zero] at hwC
              have a0 := hm.z0
              have a1 := hm.z1
              have a2 := hm.z2
              have a3 := hm.z3
              have af := hm.zf
              have hWC := hm.wb
              have hW9 := (HW9.out.next hbA).next hm.hb
              have HPYC := Lib.hid ((HPY9.out.next hbA).next hm.hb)
              clear hm hbA HPY9 HW9
              obtain ⟨q2, hq2⟩ : ∃ q2, wA.heap.size = q2 := ⟨_, rfl⟩
              rw [hq2] at hWC a0 a1 a2 a3 af hwC
              have r0 := fun q => (hW9.next (below_drewN (Below.refl _ wC) q)).c0
              have r1 := fun q => (hW9.next (below_drewN (Below.refl _ wC) q)).c1
              have r2 := fun q => (hW9.next (below_drewN (Below.refl _ wC) q)).c2
              have r3 := fun q => (hW9.next (below_drewN (Below.refl _ wC) q)).c3
              have s0 := fun q => (hWC.next (below_drewN (Below.refl _ wC) q)).c0
              have s1 := fun q => (hWC.next (below_drewN (Below.refl _ wC) q)).c1
              have s2 := fun q => (hWC.next (below_drewN (Below.refl _ wC) q)).c2
              have s3 := fun q => (hWC.next (below_drewN (Below.refl _ wC) q)).c3
              dsimp only [Wt.zero] at r0 r1 r2 r3 s0 s1 s2 s3
              have he := want_same Wt.zero
              unfold Wt.val at he
              dsimp only [Wt.zero] at he
              have hh := wantHeld
              have hg := wantGuard
              have HQQ := Lib.hid (fun q => HPYC.out.next (below_drewN (Below.refl _ wC) q))
              obtain ⟨aoY, capY, hsY, _, _⟩ := HPYC.out.y.form
              have cY := fun q => (HQQ.out q).y.c0
              rw [hsY] at cY
              have hLn := fun q => len_any (HQQ.out q).p
              have hDu := fun q => due_any (HQQ.out q).p
              have hDy := fun q => ydue_any (HQQ.out q).y (HQQ.out q).p.le
              obtain ⟨D, hD⟩ : ∃ D, Pi.due (dues ([] : List Wt)) = D := ⟨_, rfl⟩
              obtain ⟨n9, hn9⟩ : ∃ n9, ([] : List Wt).length = n9 := ⟨_, rfl⟩
              simp only [hD, hn9] at hDu hDy hLn cY
              have HLN := Lib.hid (fun q => (hLn q).mono fun _ _ ⟨a, b⟩ => (show _ ∧ _ from ⟨a, b.symm⟩))
              have HDU := Lib.hid (fun q => (hDu q).mono fun _ _ ⟨a, b⟩ => (show _ ∧ _ from ⟨a, b.symm⟩))
              have HDY := Lib.hid (fun q => (hDy q).mono fun _ _ ⟨a, b⟩ => (show _ ∧ _ from ⟨a, b.symm⟩))
              clear hLn hDu hDy hD hn9 hsY HPYC hWC hW9
              go_wp2
              clear hwB hwC a0 a1 a2 a3 af hq2
              refine wp_region_quiet_lit (by kernel_rfl) (by kernel_rfl) ?_
              repeat (quiet_step (first | exact Calls.quiet_of_same (HLN.out _) | exact Calls.quiet_of_same (HDU.out _) | exact Calls.quiet_of_same (HDY.out _)))
              refine wpQuiet_nil ?_
              rintro _ ⟨nq, rfl⟩
              have HQ2 := Lib.hid (HQQ.out nq)
              clear HQQ HLN HDU HDY cY r0 r1 r2 r3 s0 s1 s2 s3
              generalize wC.drewN nq = wD at HQ2 ⊢
              go_wp2
              go_roundw
              case rel => exact ⟨i + 1, _, _, HLT.out, by go_num, HQ2⟩
              case measure => simp [intOf]; omega
            | cons zz l2 =>
              obtain ⟨zt, zc, zb, zd⟩ := zz
              have hH1 := head_any HPY.out.p ⟨zt, zc, zb, zd⟩ rfl true (by simp)
              unfold Wt.val at hH1
              dsimp only [Wt.zero] at hH1
              go_wp2_with fail
              refine hH1.mono ?_
              rintro e w7 ⟨rfl, hb7⟩
              clear hH1
              obtain ⟨w8, w9, hw8, hw9, hm⟩ := want_made w7 ⟨zt, zc, zb, zd⟩
              dsimp only [Wt.zero] at hw9
              have a0 := hm.z0
              have a1 := hm.z1
              have a2 := hm.z2
              have a3 := hm.z3
              have af := hm.zf
              have HW9 := Lib.hid hm.wb
              have HPY9 := Lib.hid ((HPY.out.next hb7).next hm.hb)
              clear hm hb7 HPY
              obtain ⟨q1, hq1⟩ : ∃ q1, w7.heap.size = q1 := ⟨_, rfl⟩
              rw [hq1] at HW9 a0 a1 a2 a3 af hw9
              have hH2 := yhead_any HPY9.out.y
              unfold Wt.val at hH2
              dsimp only [Wt.zero] at hH2
              go_wp2_with fail
              refine hH2.mono ?_
              rintro e wA ⟨rfl, hbA⟩
              clear hH2 hw8 hw9 a0 a1 a2 a3 af hq1
              obtain ⟨wB, wC, hwB, hwC, hm⟩ := want_made wA ⟨zt, zc, zb, zd⟩
              dsimp only [Wt.zero] at hwC
              have a0 := hm.z0
              have a1 := hm.z1
              have a2 := hm.z2
              have a3 := hm.z3
              have af := hm.zf
              have hWC := hm.wb
              have hW9 := (HW9.out.next hbA).next hm.hb
              have HPYC := Lib.hid ((HPY9.out.next hbA).next hm.hb)
              clear hm hbA HPY9 HW9
              obtain ⟨q2, hq2⟩ : ∃ q2, wA.heap.size = q2 := ⟨_, rfl⟩
              rw [hq2] at hWC a0 a1 a2 a3 af hwC
              have r0 := fun q => (hW9.next (below_drewN (Below.refl _ wC) q)).c0
              have r1 := fun q => (hW9.next (below_drewN (Below.refl _ wC) q)).c1
              have r2 := fun q => (hW9.next (below_drewN (Below.refl _ wC) q)).c2
              have r3 := fun q => (hW9.next (below_drewN (Below.refl _ wC) q)).c3
              have s0 := fun q => (hWC.next (below_drewN (Below.refl _ wC) q)).c0
              have s1 := fun q => (hWC.next (below_drewN (Below.refl _ wC) q)).c1
              have s2 := fun q => (hWC.next (below_drewN (Below.refl _ wC) q)).c2
              have s3 := fun q => (hWC.next (below_drewN (Below.refl _ wC) q)).c3
              dsimp only [Wt.zero] at r0 r1 r2 r3 s0 s1 s2 s3
              have he := want_same ⟨zt, zc, zb, zd⟩
              unfold Wt.val at he
              dsimp only [Wt.zero] at he
              have hh := wantHeld
              have hg := wantGuard
              have HQQ := Lib.hid (fun q => HPYC.out.next (below_drewN (Below.refl _ wC) q))
              obtain ⟨aoY, capY, hsY, _, _⟩ := HPYC.out.y.form
              have cY := fun q => (HQQ.out q).y.c0
              rw [hsY] at cY
              have hLn := fun q => len_any (HQQ.out q).p
              have hDu := fun q => due_any (HQQ.out q).p
              have hDy := fun q => ydue_any (HQQ.out q).y (HQQ.out q).p.le
              obtain ⟨D, hD⟩ : ∃ D, Pi.due (dues (⟨zt, zc, zb, zd⟩ :: l2 : List Wt)) = D := ⟨_, rfl⟩
              obtain ⟨n9, hn9⟩ : ∃ n9, (⟨zt, zc, zb, zd⟩ :: l2 : List Wt).length = n9 := ⟨_, rfl⟩
              simp only [hD, hn9] at hDu hDy hLn cY
              have HLN := Lib.hid (fun q => (hLn q).mono fun _ _ ⟨a, b⟩ => (show _ ∧ _ from ⟨a, b.symm⟩))
              have HDU := Lib.hid (fun q => (hDu q).mono fun _ _ ⟨a, b⟩ => (show _ ∧ _ from ⟨a, b.symm⟩))
              have HDY := Lib.hid (fun q => (hDy q).mono fun _ _ ⟨a, b⟩ => (show _ ∧ _ from ⟨a, b.symm⟩))
              clear hLn hDu hDy hD hn9 hsY HPYC hWC hW9
              go_wp2
              clear hwB hwC a0 a1 a2 a3 af hq2
              refine wp_region_quiet_lit (by kernel_rfl) (by kernel_rfl) ?_
              repeat (quiet_step (first | exact Calls.quiet_of_same (HLN.out _) | exact Calls.quiet_of_same (HDU.out _) | exact Calls.quiet_of_same (HDY.out _)))
              refine wpQuiet_nil ?_
              rintro _ ⟨nq, rfl⟩
              have HQ2 := Lib.hid (HQQ.out nq)
              clear HQQ HLN HDU HDY cY r0 r1 r2 r3 s0 s1 s2 s3
              generalize wC.drewN nq = wD at HQ2 ⊢
              go_wp2
              go_roundw
              case rel => exact ⟨i + 1, _, _, HLT.out, by go_num, HQ2⟩
              case measure => simp [intOf]; omega
          | false =>
            have hR := reply_stays HP5.out.p p cd hf
            unfold Wt.val repV at hR
            dsimp only [Wt.zero] at hR
            clear hm8
            go_wp2_with fail
            refine hR.mono ?_
            rintro e w6 ⟨rfl, hp6, ht6⟩
            have HP6 := Lib.hid (HP5.out.pipe ht6 hp6)
            have HPB6 := Lib.hid (HPB.out.apart ht6 (by have := HGR.out; omega))
            clear hp6 ht6
            clear hR HP5 HPB u0 u1 u2 u3 u4 u5
            clear z0 z1 z2 z3 z4 z5 zf y0 y1 y2 y3 y4 y5 hw4 hw5
            obtain ⟨w7, w8, hw7, hw8, hm⟩ := want_made w6 ⟨nt, nc, nb, nd⟩
            dsimp only [Wt.zero] at hw8
            have b0 := hm.z0
            have b1 := hm.z1
            have b2 := hm.z2
            have b3 := hm.z3
            have bf := hm.zf
            have HW8 := Lib.hid hm.wb
            have HP8 := Lib.hid (HP6.out.next hm.hb)
            have c5 := (HPB6.out.next hm.hb).c5
            dsimp only at c5
            have hyl := HP6.out.y.lt
            clear hm HP6 HPB6
            obtain ⟨q3, hq3⟩ : ∃ q3, w6.heap.size = q3 := ⟨_, rfl⟩
            rw [hq3] at HW8 b0 b1 b2 b3 bf hw8 hyl
            have HYL6 := Lib.hid hyl
            clear hyl
            have hY := yreply_stays HP8.out.y p cd hf
            unfold Wt.val repV at hY
            dsimp only [Wt.zero] at hY
            go_wp2_with fail
            refine hY.mono ?_
            rintro e w9 ⟨rfl, s6, hy9, ht9, hs9⟩
            have HP9 := Lib.hid (HP8.out.ref ht9 hy9 hs9)
            have hW9 := HW8.out.apart ht9 (by have := HYL6.out; omega)
            clear hy9 ht9 hs9
            clear hY HP8 HW8 c5 hw7 hw8 b0 b1 b2 b3 bf hq3
            obtain ⟨wE, wF, hwE, hwF, hm⟩ := want_made w9 ⟨nt, nc, nb, nd⟩
            dsimp only [Wt.zero] at hwF
            have b0 := hm.z0
            have b1 := hm.z1
            have b2 := hm.z2
            have b3 := hm.z3
            have bf := hm.zf
            have hWF := hm.wb
            have hW9F := hW9.next hm.hb
            have HPY := Lib.hid (HP9.out.next hm.hb)
            clear hm HP9 hW9
            obtain ⟨q4, hq4⟩ : ∃ q4, w9.heap.size = q4 := ⟨_, rfl⟩
            rw [hq4] at hWF b0 b1 b2 b3 bf hwF
            have d0 := hW9F.c0
            have d1 := hW9F.c1
            have d2 := hW9F.c2
            have d3 := hW9F.c3
            have e0 := hWF.c0
            have e1 := hWF.c1
            have e2 := hWF.c2
            have e3 := hWF.c3
            dsimp only [Wt.zero] at d0 d1 d2 d3 e0 e1 e2 e3
            have hf1 := want_same ⟨nt, nc, nb, nd⟩
            unfold Wt.val at hf1
            dsimp only [Wt.zero] at hf1
            have hf2 := wantHeld
            have hf3 := wantGuard
            clear hWF hW9F
            go_upto_region 19 with fail
            clear hwE hwF hq4 b0 b1 b2 b3 bf d0 d1 d2 d3 e0 e1 e2 e3 hf1 hf2 hf3
            generalize hmm : (⟨nt, nc, nb, nd⟩ :: l : List Wt) = mm at *
            clear hmm
            cases mm with
            | nil =>
              have hH1 := head_any HPY.out.p Wt.zero rfl false (by simp)
              unfold Wt.val at hH1
              dsimp only [Wt.zero] at hH1
              go_wp2_with fail
              refine hH1.mono ?_
              rintro e w7 ⟨rfl, hb7⟩
              clear hH1
              obtain ⟨w8, w9, hw8, hw9, hm⟩ := want_made w7 Wt.zero
              dsimp only [Wt.zero] at hw9
              have a0 := hm.z0
              have a1 := hm.z1
              have a2 := hm.z2
              have a3 := hm.z3
              have af := hm.zf
              have HW9 := Lib.hid hm.wb
              have HPY9 := Lib.hid ((HPY.out.next hb7).next hm.hb)
              clear hm hb7 HPY
              obtain ⟨q1, hq1⟩ : ∃ q1, w7.heap.size = q1 := ⟨_, rfl⟩
              rw [hq1] at HW9 a0 a1 a2 a3 af hw9
              have hH2 := yhead_none HPY9.out.y
              unfold Wt.val at hH2
              dsimp only [Wt.zero] at hH2
              go_wp2_with fail
              refine hH2.mono ?_
              rintro e wA ⟨rfl, hbA⟩
              clear hH2 hw8 hw9 a0 a1 a2 a3 af hq1
              obtain ⟨wB, wC, hwB, hwC, hm⟩ := want_made wA Wt.zero
              dsimp only [Wt.zero] at hwC
              have a0 := hm.z0
              have a1 := hm.z1
              have a2 := hm.z2
              have a3 := hm.z3
              have af := hm.zf
              have hWC := hm.wb
              have hW9 := (HW9.out.next hbA).next hm.hb
              have HPYC := Lib.hid ((HPY9.out.next hbA).next hm.hb)
              clear hm hbA HPY9 HW9
              obtain ⟨q2, hq2⟩ : ∃ q2, wA.heap.size = q2 := ⟨_, rfl⟩
              rw [hq2] at hWC a0 a1 a2 a3 af hwC
              have r0 := fun q => (hW9.next (below_drewN (Below.refl _ wC) q)).c0
              have r1 := fun q => (hW9.next (below_drewN (Below.refl _ wC) q)).c1
              have r2 := fun q => (hW9.next (below_drewN (Below.refl _ wC) q)).c2
              have r3 := fun q => (hW9.next (below_drewN (Below.refl _ wC) q)).c3
              have s0 := fun q => (hWC.next (below_drewN (Below.refl _ wC) q)).c0
              have s1 := fun q => (hWC.next (below_drewN (Below.refl _ wC) q)).c1
              have s2 := fun q => (hWC.next (below_drewN (Below.refl _ wC) q)).c2
              have s3 := fun q => (hWC.next (below_drewN (Below.refl _ wC) q)).c3
              dsimp only [Wt.zero] at r0 r1 r2 r3 s0 s1 s2 s3
              have he := want_same Wt.zero
              unfold Wt.val at he
              dsimp only [Wt.zero] at he
              have hh := wantHeld
              have hg := wantGuard
              have HQQ := Lib.hid (fun q => HPYC.out.next (below_drewN (Below.refl _ wC) q))
              obtain ⟨aoY, capY, hsY, _, _⟩ := HPYC.out.y.form
              have cY := fun q => (HQQ.out q).y.c0
              rw [hsY] at cY
              have hLn := fun q => len_any (HQQ.out q).p
              have hDu := fun q => due_any (HQQ.out q).p
              have hDy := fun q => ydue_any (HQQ.out q).y (HQQ.out q).p.le
              obtain ⟨D, hD⟩ : ∃ D, Pi.due (dues ([] : List Wt)) = D := ⟨_, rfl⟩
              obtain ⟨n9, hn9⟩ : ∃ n9, ([] : List Wt).length = n9 := ⟨_, rfl⟩
              simp only [hD, hn9] at hDu hDy hLn cY
              have HLN := Lib.hid (fun q => (hLn q).mono fun _ _ ⟨a, b⟩ => (show _ ∧ _ from ⟨a, b.symm⟩))
              have HDU := Lib.hid (fun q => (hDu q).mono fun _ _ ⟨a, b⟩ => (show _ ∧ _ from ⟨a, b.symm⟩))
              have HDY := Lib.hid (fun q => (hDy q).mono fun _ _ ⟨a, b⟩ => (show _ ∧ _ from ⟨a, b.symm⟩))
              clear hLn hDu hDy hD hn9 hsY HPYC hWC hW9
              go_wp2
              clear hwB hwC a0 a1 a2 a3 af hq2
              refine wp_region_quiet_lit (by kernel_rfl) (by kernel_rfl) ?_
              repeat (quiet_step (first | exact Calls.quiet_of_same (HLN.out _) | exact Calls.quiet_of_same (HDU.out _) | exact Calls.quiet_of_same (HDY.out _)))
              refine wpQuiet_nil ?_
              rintro _ ⟨nq, rfl⟩
              have HQ2 := Lib.hid (HQQ.out nq)
              clear HQQ HLN HDU HDY cY r0 r1 r2 r3 s0 s1 s2 s3
              generalize wC.drewN nq = wD at HQ2 ⊢
              go_wp2
              go_roundw
              case rel => exact ⟨i + 1, _, _, HLT.out, by go_num, HQ2⟩
              case measure => simp [intOf]; omega
            | cons zz l2 =>
              obtain ⟨zt, zc, zb, zd⟩ := zz
              have hH1 := head_any HPY.out.p ⟨zt, zc, zb, zd⟩ rfl true (by simp)
              unfold Wt.val at hH1
              dsimp only [Wt.zero] at hH1
              go_wp2_with fail
              refine hH1.mono ?_
              rintro e w7 ⟨rfl, hb7⟩
              clear hH1
              obtain ⟨w8, w9, hw8, hw9, hm⟩ := want_made w7 ⟨zt, zc, zb, zd⟩
              dsimp only [Wt.zero] at hw9
              have a0 := hm.z0
              have a1 := hm.z1
              have a2 := hm.z2
              have a3 := hm.z3
              have af := hm.zf
              have HW9 := Lib.hid hm.wb
              have HPY9 := Lib.hid ((HPY.out.next hb7).next hm.hb)
              clear hm hb7 HPY
              obtain ⟨q1, hq1⟩ : ∃ q1, w7.heap.size = q1 := ⟨_, rfl⟩
              rw [hq1] at HW9 a0 a1 a2 a3 af hw9
              have hH2 := yhead_any HPY9.out.y
              unfold Wt.val at hH2
              dsimp only [Wt.zero] at hH2
              go_wp2_with fail
              refine hH2.mono ?_
              rintro e wA ⟨rfl, hbA⟩
              clear hH2 hw8 hw9 a0 a1 a2 a3 af hq1
              obtain ⟨wB, wC, hwB, hwC, hm⟩ := want_made wA ⟨zt, zc, zb, zd⟩
              dsimp only [Wt.zero] at hwC
              have a0 := hm.z0
              have a1 := hm.z1
              have a2 := hm.z2
              have a3 := hm.z3
              have af := hm.zf
              have hWC := hm.wb
              have hW9 := (HW9.out.next hbA).next hm.hb
              have HPYC := Lib.hid ((HPY9.out.next hbA).next hm.hb)
              clear hm hbA HPY9 HW9
              obtain ⟨q2, hq2⟩ : ∃ q2, wA.heap.size = q2 := ⟨_, rfl⟩
              rw [hq2] at hWC a0 a1 a2 a3 af hwC
              have r0 := fun q => (hW9.next (below_drewN (Below.refl _ wC) q)).c0
              have r1 := fun q => (hW9.next (below_drewN (Below.refl _ wC) q)).c1
              have r2 := fun q => (hW9.next (below_drewN (Below.refl _ wC) q)).c2
              have r3 := fun q => (hW9.next (below_drewN (Below.refl _ wC) q)).c3
              have s0 := fun q => (hWC.next (below_drewN (Below.refl _ wC) q)).c0
              have s1 := fun q => (hWC.next (below_drewN (Below.refl _ wC) q)).c1
              have s2 := fun q => (hWC.next (below_drewN (Below.refl _ wC) q)).c2
              have s3 := fun q => (hWC.next (below_drewN (Below.refl _ wC) q)).c3
              dsimp only [Wt.zero] at r0 r1 r2 r3 s0 s1 s2 s3
              have he := want_same ⟨zt, zc, zb, zd⟩
              unfold Wt.val at he
              dsimp only [Wt.zero] at he
              have hh := wantHeld
              have hg := wantGuard
              have HQQ := Lib.hid (fun q => HPYC.out.next (below_drewN (Below.refl _ wC) q))
              obtain ⟨aoY, capY, hsY, _, _⟩ := HPYC.out.y.form
              have cY := fun q => (HQQ.out q).y.c0
              rw [hsY] at cY
              have hLn := fun q => len_any (HQQ.out q).p
              have hDu := fun q => due_any (HQQ.out q).p
              have hDy := fun q => ydue_any (HQQ.out q).y (HQQ.out q).p.le
              obtain ⟨D, hD⟩ : ∃ D, Pi.due (dues (⟨zt, zc, zb, zd⟩ :: l2 : List Wt)) = D := ⟨_, rfl⟩
              obtain ⟨n9, hn9⟩ : ∃ n9, (⟨zt, zc, zb, zd⟩ :: l2 : List Wt).length = n9 := ⟨_, rfl⟩
              simp only [hD, hn9] at hDu hDy hLn cY
              have HLN := Lib.hid (fun q => (hLn q).mono fun _ _ ⟨a, b⟩ => (show _ ∧ _ from ⟨a, b.symm⟩))
              have HDU := Lib.hid (fun q => (hDu q).mono fun _ _ ⟨a, b⟩ => (show _ ∧ _ from ⟨a, b.symm⟩))
              have HDY := Lib.hid (fun q => (hDy q).mono fun _ _ ⟨a, b⟩ => (show _ ∧ _ from ⟨a, b.symm⟩))
              clear hLn hDu hDy hD hn9 hsY HPYC hWC hW9
              go_wp2
              clear hwB hwC a0 a1 a2 a3 af hq2
              refine wp_region_quiet_lit (by kernel_rfl) (by kernel_rfl) ?_
              repeat (quiet_step (first | exact Calls.quiet_of_same (HLN.out _) | exact Calls.quiet_of_same (HDU.out _) | exact Calls.quiet_of_same (HDY.out _)))
              refine wpQuiet_nil ?_
              rintro _ ⟨nq, rfl⟩
              have HQ2 := Lib.hid (HQQ.out nq)
              clear HQQ HLN HDU HDY cY r0 r1 r2 r3 s0 s1 s2 s3
              generalize wC.drewN nq = wD at HQ2 ⊢
              go_wp2
              go_roundw
              case rel => exact ⟨i + 1, _, _, HLT.out, by go_num, HQ2⟩
              case measure => simp [intOf]; omega
    · obtain rfl : i = N := Nat.le_antisymm hi (Nat.le_of_not_lt hlt)
      have HBE := Lib.hid HPP.out.b
      clear hlt HPP
      have hW1 := fun w => window_any p ask true w
      have hW2 := fun w => ywindow_any p ask true w
      have hW3 := fun w => window_any p ask false w
      rw [(Pi.window_law (p == 3) ask).1] at hW3
      generalize Pi.window (p == 3) true ask = x at *
      rcases Nat.lt_or_ge i L with h1 | h1
      · have h60 : i = 60 := by have := HN.out; omega
        have hiL : (i : Int) < (L : Int) := by omega
        have h61 : ((i : Int) < 60) = False := eq_false (by omega)
        have h62 : (i < 60) = False := eq_false (by omega)
        clear h60
        go_wp2_with fail
        refine (hW1 _).mono ?_
        rintro e w' ⟨rfl, hw⟩
        obtain rfl := hw
        clear hW1
        go_wp2_with fail
        refine (hW2 _).mono ?_
        rintro e w' ⟨rfl, hw⟩
        obtain rfl := hw
        clear hW2
        go_wp2_with fail
        refine (hW3 _).mono ?_
        rintro e w' ⟨rfl, hw⟩
        obtain rfl := hw
        clear hW3
        go_wp2
        go_ret
        exact ⟨rfl, HBE.out⟩
      · have h61 : ((i : Int) < (L : Int)) = False := eq_false (by omega)
        have h62 : (i < L) = False := eq_false (by omega)
        go_wp2_with fail
        refine (hW1 _).mono ?_
        rintro e w' ⟨rfl, hw⟩
        obtain rfl := hw
        clear hW1
        go_wp2_with fail
        refine (hW2 _).mono ?_
        rintro e w' ⟨rfl, hw⟩
        obtain rfl := hw
        clear hW2
        go_wp2_with fail
        refine (hW3 _).mono ?_
        rintro e w' ⟨rfl, hw⟩
        obtain rfl := hw
        clear hW3
        go_wp2
        go_ret
        exact ⟨rfl, HBE.out⟩
end Go.Proofs.Ytimieknphedniaa
