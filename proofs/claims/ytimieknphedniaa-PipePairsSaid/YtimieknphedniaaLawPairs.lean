/- PipePairs, walked: the k-th reply that is final is that of the k-th one who was pushed; none is told two times, or left out; never more than eight wait: any proto, any things that are done. -/
import Derived.Test.YtimieknphedniaaPairsS
import Derived.Test.YtimieknphedniaaPopB
import Derived.BigQuiet
namespace Go.Proofs.Ytimieknphedniaa
open Go.RowKit

set_option maxRecDepth 20000 in
set_option maxHeartbeats 8000000 in
theorem lawPairsP (p : Int) (v : Value) (os : List POp) (_hp : (Lit.int .i64 p).wf = true) (_hl : os.length ≤ maxLen) (w : World) (hrd : RdN 6 w v (os.map POp.cells)) (hok : ∀ o ∈ os, o.Ok) :
    Calls Try.prog 4 #[.int .i64 p, v] w fun e w' => e = .returned (.bool true) ∧ Below w.heap.size w w' := by
  obtain ⟨ao, cap, rfl, hcap, hat⟩ := pops_at hrd
  obtain ⟨L, hL⟩ : ∃ L, os.length = L := ⟨_, rfl⟩
  rw [hL] at hcap ⊢
  obtain ⟨N, hN⟩ : ∃ N, min L 60 = N := ⟨_, rfl⟩
  have hN1 : N ≤ 60 := by omega
  have hN2 : N ≤ L := by omega
  have HN := Lib.hid hN
  have HAT := Lib.hid hat
  have HYL := Lib.hid hL
  have HOK := Lib.hid hok
  have hS := shown_any w
  clear hrd hat hok hL hcap hN
  go_enter Try.func4, Try.ntmps4
  go_wp2_with fail
  refine hS.mono ?_
  rintro e w1 ⟨rfl, hb1⟩
  have HB1 := Lib.hid hb1
  have hNw := new_any w1
  clear hS hb1
  go_wp2_with fail
  refine hNw.mono ?_
  rintro e w2 ⟨rfl, hb2, hp2⟩
  have hb2' := HB1.out.trans (hb2.mono HB1.out.size)
  have HG := Lib.hid HB1.out.size
  generalize w1.heap.size = g at *
  obtain ⟨w3, hw3⟩ : ∃ x, w2.alloc (.cells #[] 31) = x := ⟨_, rfl⟩
  have hb3 : Below w2.heap.size w2 w3 := by rw [← hw3]; exact (Below.refl _ w2).alloc (Nat.le_refl _) _
  have hgl := hp2.lt
  have HPP0 := Lib.hid (show PP w w3 g (.slice (some ⟨w2.heap.size, 0, none⟩) 0 0) [] (([] : List Wt).drop 0) from
    ⟨hb2'.trans (hb3.mono hb2'.size), hp2.next hb3, by rw [← hw3]; exact OW.made w2 _ hb2'.size, HG.out, fun e => by have e2 : w2.heap.size = g := by simpa [Value.ownBlock] using e
                                                                                                                     omega⟩)
  clear hNw hb2 hp2 hb2' hb3 hgl
  go_wp2
  clear hw3
  go_loopw [7, 8, 9, 10, 11, 12, 13, 14, 15, 16] (fun s7 s8 s9 _ _ _ _ _ _ _ wr => ∃ (i K LL : Nat) (a2 : Option Addr) (c2 : Nat) (l : List Wt), i ≤ N ∧ s9 = .int .i64 (i : Int) ∧ s8 = .int .i64 (K : Int) ∧ s7 = .slice a2 LL c2 ∧ Hid (l.length = LL) ∧ LL ≤ i ∧ K ≤ LL ∧ Hid (PP w wr g (.slice a2 LL c2) l (l.drop K))) (fun _ _ i _ _ _ _ _ _ _ _ => N - (intOf i).toNat)
  case atStart => exact ⟨0, 0, 0, _, _, [], Nat.zero_le _, rfl, rfl, rfl, rfl, Nat.le_refl _, Nat.le_refl _, HPP0⟩
  case round =>
    obtain ⟨i, K, LL, a2, c2, l, hi, rfl, rfl, rfl, HLL, hLi, hKL, HPP⟩ := hrel
    clear HPP0
    by_cases hlt : i < N
    · obtain ⟨o, ho⟩ : ∃ o, os[i]? = some o := ⟨_, List.getElem?_eq_getElem (by rw [HYL.out]; omega)⟩
      have hk := bounds_u8 (HOK.out o (List.mem_of_getElem? ho)).kind
      obtain ⟨b, f, rfl, x0, x1, x2, x3, x4, x5⟩ := HAT.out i o ho
      obtain ⟨kd, ⟨xt, xc, xb, xd⟩, cd⟩ := o
      dsimp only at hk x0 x1 x2 x3 x4 x5
      obtain ⟨A, rfl⟩ := Int.eq_ofNat_of_zero_le hk.1
      have hmask := kind_mask A (by omega)
      obtain ⟨M, hM⟩ : ∃ M, A % 8 = M := ⟨_, rfl⟩
      rw [hM] at hmask
      obtain ⟨w4, w5, hw4, hw5, hm⟩ := op_made wr ⟨(A : Int), ⟨xt, xc, xb, xd⟩, cd⟩
      dsimp only at hw5
      have z0 := hm.z0
      have z1 := hm.z1
      have z2 := hm.z2
      have z3 := hm.z3
      have z4 := hm.z4
      have z5 := hm.z5
      have zf := hm.zf
      have hbw := HPP.out.b
      have y0 := (hbw.cell (World.block_lt_of_cell? w _ x0)).trans x0
      have y1 := (hbw.cell (World.block_lt_of_cell? w _ x1)).trans x1
      have y2 := (hbw.cell (World.block_lt_of_cell? w _ x2)).trans x2
      have y3 := (hbw.cell (World.block_lt_of_cell? w _ x3)).trans x3
      have y4 := (hbw.cell (World.block_lt_of_cell? w _ x4)).trans x4
      have y5 := (hbw.cell (World.block_lt_of_cell? w _ x5)).trans x5
      have u0 := hm.pb.c0
      have u1 := hm.pb.c1
      have u2 := hm.pb.c2
      have u3 := hm.pb.c3
      have u4 := hm.pb.c4
      have u5 := hm.pb.c5
      dsimp only at u0 u1 u2 u3 u4 u5
      have HPB := Lib.hid hm.pb
      have HGR := Lib.hid HPP.out.p.lt
      have HP5 := Lib.hid (HPP.out.next hm.hb)
      have hiL : (i : Int) < (L : Int) := by omega
      have hiL2 : i < L := by omega
      have hi60 : (i : Int) < 60 := by omega
      have hi61 : i < 60 := by omega
      have HKL := Lib.hid hKL
      have HLI := Lib.hid hLi
      have HLT := Lib.hid hlt
      have HNN := Lib.hid hN1
      have hLL60 : LL < 60 := by omega
      generalize hq : wr.heap.size = q at *
      clear x0 x1 x2 x3 x4 x5 hm hbw ho hk hM HPP
      by_cases h3 : M < 3
      · have h31 : ((M : Int) < 3) = True := eq_true (by omega)
        have h32 : (M < 3) = True := eq_true h3
        clear h3
        obtain ⟨d, hd⟩ : ∃ d, LL - K = d := ⟨_, rfl⟩
        have hdl : (l.drop K).length = d := by rw [List.length_drop, HLL.out]; exact hd
        have i1 : IntKind.i64.wrap ((LL : Int) - (K : Int)) = (d : Int) := by rw [wraps_i64 _ (by omega) (by omega)]; omega
        have i2 : wrap64 ((LL : Int) - (K : Int)) = (d : Int) := (IntWalk.wrap64_in _ ⟨by omega, by omega⟩).trans (by omega)
        have hd8 := HP5.out.p.le
        rw [hdl] at hd8
        rcases Nat.lt_or_ge d 8 with h8 | h8
        · have hP := push_any HP5.out.p ⟨xt, xc, xb, xd⟩ (by rw [hdl]; exact h8)
          unfold Wt.val at hP
          dsimp only at hP
          have h81 : ((d : Int) < 8) = True := eq_true (by omega)
          have h82 : (d < 8) = True := eq_true h8
          clear hd8 hd hdl hKL hLi h8
          go_wp2_with fail
          refine hP.mono ?_
          rintro e w6 ⟨rfl, hp6, ht6⟩
          have hn := drop_more (l := l) (K := K) (by rw [HLL.out]; exact HKL.out) ⟨xt, xc, xb, xd⟩
          have hPP6 := HP5.out.turn ht6 (m' := (l ++ [(⟨xt, xc, xb, xd⟩ : Wt)]).drop K) (by rw [hn]; exact hp6)
          have hPB6 := HPB.out.apart ht6 (by have := HGR.out; omega)
          have v1 := hPB6.c1
          have v2 := hPB6.c2
          have v3 := hPB6.c3
          have v4 := hPB6.c4
          dsimp only at v1 v2 v3 v4
          obtain ⟨w7, hw7⟩ : ∃ x, w6.alloc (.cells #[.string xt, .string xc, .bool xb, .int .i64 xd] 31) = x := ⟨_, rfl⟩
          have hb7 : Below w6.heap.size w6 w7 := by rw [← hw7]; exact (Below.refl _ w6).alloc (Nat.le_refl _) _
          have HWB := Lib.hid (show WB w7 w6.heap.size ⟨xt, xc, xb, xd⟩ by rw [← hw7]; exact WB.new w6 ⟨xt, xc, xb, xd⟩)
          have HPP7 := Lib.hid (hPP6.next hb7)
          clear hP hp6 ht6 hPP6 hPB6 hb7 HP5 hn
          clear z0 z1 z2 z3 z4 z5 zf y0 y1 y2 y3 y4 y5 u0 u1 u2 u3 u4 u5 hw4 hw5
          go_wp2_with (at_builtin; refine append_want rfl ⟨xt, xc, xb, xd⟩ LL HLL.out (.tmp 56) (.tmp 59) rfl rfl HPP7.out.o _ rfl HWB.out (by omega) HPP7.out.b.size ?_)
          intro g2 c3 w8 ho hgr hwh
          have HPP8 := Lib.hid (HPP7.out.grown ho hgr hwh)
          have HL8 := Lib.hid (show (l ++ [(⟨xt, xc, xb, xd⟩ : Wt)]).length = LL + 1 by rw [List.length_append, HLL.out]; rfl)
          clear ho hgr hwh hw7 v1 v2 v3 v4 HPP7 HWB
          go_wp2
          go_roundw
          case rel => exact ⟨i + 1, K, LL + 1, _, _, _, HLT.out, by go_num, rfl, rfl, HL8, Nat.succ_le_succ HLI.out, Nat.le_succ_of_le HKL.out, HPP8⟩
          case measure => simp [intOf]; omega
        · obtain rfl : d = 8 := Nat.le_antisymm hd8 h8
          have hP := full_any HP5.out.p ⟨xt, xc, xb, xd⟩ hdl
          unfold Wt.val at hP
          dsimp only at hP
          clear hd8 hd hdl hKL hLi h8
          go_wp2_with fail
          refine hP.mono ?_
          rintro e w6 ⟨rfl, hb6⟩
          have HPP6 := Lib.hid (HP5.out.next hb6)
          clear hP hb6 HP5
          clear z0 z1 z2 z3 z4 z5 zf y0 y1 y2 y3 y4 y5 u0 u1 u2 u3 u4 u5 hw4 hw5
          go_wp2
          go_roundw
          case rel => exact ⟨i + 1, K, LL, _, _, _, HLT.out, by go_num, rfl, rfl, HLL, Nat.le_succ_of_le HLI.out, HKL.out, HPP6⟩
          case measure => simp [intOf]; omega
      · have h31 : ((M : Int) < 3) = False := eq_false (by omega)
        have h32 : (M < 3) = False := eq_false h3
        clear h3
        rcases Nat.lt_or_ge K LL with hKK | hKK
        · rcases (show p ≠ 3 ∨ (p = 3 ∧ cd.size = 0) ∨ (p = 3 ∧ ∃ h : 0 < cd.size, cd[0]'h = 49) ∨ (p = 3 ∧ ∃ h : 0 < cd.size, cd[0]'h ≠ 49) by
            by_cases h1 : p = 3
            · rcases Nat.eq_zero_or_pos cd.size with h2 | h2
              · exact .inr (.inl ⟨h1, h2⟩)
              · by_cases h3 : cd[0]'h2 = 49
                · exact .inr (.inr (.inl ⟨h1, h2, h3⟩))
                · exact .inr (.inr (.inr ⟨h1, h2, h3⟩))
            · exact .inl h1) with hA | ⟨rfl, hA⟩ | ⟨rfl, h0, hA⟩ | ⟨rfl, h0, hA⟩
          · have hf : fin p cd = true := by rw [fin, beq_eq_false_iff_ne.2 hA]; rfl
            have hp1 : (p == 3) = false := beq_eq_false_iff_ne.2 hA
            have hp2 : (p = 3) = False := eq_false hA
            clear hA
            obtain ⟨⟨xt2, xc2, xb2, xd2⟩, hx0, hdr⟩ := drop_one (l := l) (K := K) (by rw [HLL.out]; exact hKK)
            have hn := HP5.out.p
            rw [hdr] at hn
            have hR := reply_goes hn p cd hf
            unfold Wt.val repV at hR
            dsimp only at hR
            have HX := Lib.hid hx0
            have hKK1 : ((K : Int) < (LL : Int)) = True := eq_true (by omega)
            have hKK2 : (K : Int) < (LL : Int) := by omega
            have hKK3 : K < LL := hKK
            have HK1 := Lib.hid (show K + 1 ≤ LL from hKK)
            have i1 : IntKind.i64.wrap ((LL : Int) - ((K : Int) + 1)) = ((LL - (K + 1) : Nat) : Int) := by rw [wraps_i64 _ (by omega) (by omega)]; omega
            have i2 : wrap64 ((LL : Int) - ((K : Int) + 1)) = ((LL - (K + 1) : Nat) : Int) := (IntWalk.wrap64_in _ ⟨by omega, by omega⟩).trans (by omega)
            clear hn hf hx0 hKK hKL hLi
            go_wp2_with fail
            refine hR.mono ?_
            rintro e w6 ⟨rfl, hp6, ht6⟩
            have HPP6 := Lib.hid (HP5.out.turn ht6 hp6)
            have HPB6 := Lib.hid (HPB.out.apart ht6 (by have := HGR.out; omega))
            clear hR hp6 ht6 HP5 HPB hdr
            obtain ⟨w7, w8, hw7, hw8, hm⟩ := want_made w6 ⟨xt2, xc2, xb2, xd2⟩
            dsimp only at hw8
            have s0 := hm.z0
            have s1 := hm.z1
            have s2 := hm.z2
            have s3 := hm.z3
            have sf := hm.zf
            have HW8 := Lib.hid hm.wb
            have HPP8 := Lib.hid (HPP6.out.next hm.hb)
            have HPB8 := Lib.hid (HPB6.out.next hm.hb)
            clear hm
            obtain ⟨w9, wA, hw9, hwA, hm⟩ := want_made w8 Wt.zero
            dsimp only [Wt.zero] at hwA
            have t0 := hm.z0
            have t1 := hm.z1
            have t2 := hm.z2
            have t3 := hm.z3
            have tf := hm.zf
            have HWAz := Lib.hid hm.wb
            have hWA := HW8.out.next hm.hb
            have HPPA := Lib.hid (HPP8.out.next hm.hb)
            have hPBA := HPB8.out.next hm.hb
            clear hm
            obtain ⟨q1, hq1⟩ : ∃ q1, w6.heap.size = q1 := ⟨_, rfl⟩
            obtain ⟨q2, hq2⟩ : ∃ q2, w8.heap.size = q2 := ⟨_, rfl⟩
            rw [hq1] at hWA s0 s1 s2 s3 sf hw8
            rw [hq2] at HWAz t0 t1 t2 t3 tf hwA
            have r0 := fun q => (hWA.next (below_drewN (Below.refl _ wA) q)).c0
            have r1 := fun q => (hWA.next (below_drewN (Below.refl _ wA) q)).c1
            have r2 := fun q => (hWA.next (below_drewN (Below.refl _ wA) q)).c2
            have r3 := fun q => (hWA.next (below_drewN (Below.refl _ wA) q)).c3
            have ra := r0 0
            have rb := r1 0
            have rc := r2 0
            have rd := r3 0
            change wA.cell? _ = _ at ra rb rc rd
            have n0 := HWAz.out.c0
            have n1 := HWAz.out.c1
            have n2 := HWAz.out.c2
            have n3 := HWAz.out.c3
            dsimp only [Wt.zero] at r0 r1 r2 r3 ra rb rc rd n0 n1 n2 n3
            have he := want_same ⟨xt2, xc2, xb2, xd2⟩
            unfold Wt.val at he
            dsimp only at he
            have hh := wantHeld
            have hg := wantGuard
            obtain ⟨a3, c4, hv3, _, hc3⟩ := HPPA.out.o.form
            rw [HLL.out] at hv3 hc3
            simp only [Value.slice.injEq] at hv3
            obtain ⟨rfl, _, rfl⟩ := hv3
            obtain ⟨b3, rfl, _, hc3⟩ := hc3 (by omega)
            have hcs := fun j u hu q => (below_drewN (Below.refl _ wA) q).cell (World.block_lt_of_cell? wA _ (hc3 K ⟨xt2, xc2, xb2, xd2⟩ HX.out j u hu)) |>.trans (hc3 K ⟨xt2, xc2, xb2, xd2⟩ HX.out j u hu)
            have e0 := hcs 0 _ rfl
            have e1 := hcs 1 _ rfl
            have e2 := hcs 2 _ rfl
            have e3 := hcs 3 _ rfl
            simp only [Nat.add_zero] at e0
            clear hc3 hcs
            have g5 := fun q => (hPBA.next (below_drewN (Below.refl _ wA) q)).c5
            dsimp only at g5
            have hLn := fun q => len_any (PO.mk HPPA.out.p.c HPPA.out.p.le : PO (wA.drewN q) g _)
            rw [List.length_drop, HLL.out] at hLn
            have HLN := Lib.hid hLn
            have HQQ := Lib.hid (fun q => HPPA.out.next (below_drewN (Below.refl _ wA) q))
            clear hWA hPBA HPP6 HPP8 HPPA HPB6 HPB8 HW8 HWAz hLn
            clear z0 z1 z2 z3 z4 z5 zf y0 y1 y2 y3 y4 y5 u0 u1 u2 u3 u4 u5 hw4 hw5
            go_wp2
            go_quiet (fail)
            clear hq1 hq2 hw7 hw8 hw9 hwA s0 s1 s2 s3 sf t0 t1 t2 t3 tf ra rb rc rd n0 n1 n2 n3 r0 r1 r2 r3
            have hLN := HLN.out nq
            have HQ2 := Lib.hid (HQQ.out nq)
            have g6 := g5 nq
            clear e0 e1 e2 e3
            clear g5 HLN HQQ
            generalize wA.drewN nq = wB at hLN HQ2 g6 ⊢
            go_wp2_with (refine hLN.mono ?_; rintro e w' ⟨rfl, hw⟩; obtain rfl := hw.symm; clear hLN)
            go_roundw
            case rel => exact ⟨i + 1, K + 1, LL, _, _, _, HLT.out, by go_num, by first | rfl | go_num, rfl, HLL, Nat.le_succ_of_le HLI.out, HK1.out, HQ2⟩
            case measure => simp [intOf]; omega
          · have hf : fin 3 cd = true := by rw [fin, one1_nil hA]; rfl
            obtain ⟨⟨xt2, xc2, xb2, xd2⟩, hx0, hdr⟩ := drop_one (l := l) (K := K) (by rw [HLL.out]; exact hKK)
            have hn := HP5.out.p
            rw [hdr] at hn
            have hR := reply_goes hn 3 cd hf
            unfold Wt.val repV at hR
            dsimp only at hR
            have HX := Lib.hid hx0
            have hKK1 : ((K : Int) < (LL : Int)) = True := eq_true (by omega)
            have hKK2 : (K : Int) < (LL : Int) := by omega
            have hKK3 : K < LL := hKK
            have HK1 := Lib.hid (show K + 1 ≤ LL from hKK)
            have i1 : IntKind.i64.wrap ((LL : Int) - ((K : Int) + 1)) = ((LL - (K + 1) : Nat) : Int) := by rw [wraps_i64 _ (by omega) (by omega)]; omega
            have i2 : wrap64 ((LL : Int) - ((K : Int) + 1)) = ((LL - (K + 1) : Nat) : Int) := (IntWalk.wrap64_in _ ⟨by omega, by omega⟩).trans (by omega)
            clear hn hf hx0 hKK hKL hLi
            go_wp2_with fail
            refine hR.mono ?_
            rintro e w6 ⟨rfl, hp6, ht6⟩
            have HPP6 := Lib.hid (HP5.out.turn ht6 hp6)
            have HPB6 := Lib.hid (HPB.out.apart ht6 (by have := HGR.out; omega))
            clear hR hp6 ht6 HP5 HPB hdr
            obtain ⟨w7, w8, hw7, hw8, hm⟩ := want_made w6 ⟨xt2, xc2, xb2, xd2⟩
            dsimp only at hw8
            have s0 := hm.z0
            have s1 := hm.z1
            have s2 := hm.z2
            have s3 := hm.z3
            have sf := hm.zf
            have HW8 := Lib.hid hm.wb
            have HPP8 := Lib.hid (HPP6.out.next hm.hb)
            have HPB8 := Lib.hid (HPB6.out.next hm.hb)
            clear hm
            obtain ⟨w9, wA, hw9, hwA, hm⟩ := want_made w8 Wt.zero
            dsimp only [Wt.zero] at hwA
            have t0 := hm.z0
            have t1 := hm.z1
            have t2 := hm.z2
            have t3 := hm.z3
            have tf := hm.zf
            have HWAz := Lib.hid hm.wb
            have hWA := HW8.out.next hm.hb
            have HPPA := Lib.hid (HPP8.out.next hm.hb)
            have hPBA := HPB8.out.next hm.hb
            clear hm
            obtain ⟨q1, hq1⟩ : ∃ q1, w6.heap.size = q1 := ⟨_, rfl⟩
            obtain ⟨q2, hq2⟩ : ∃ q2, w8.heap.size = q2 := ⟨_, rfl⟩
            rw [hq1] at hWA s0 s1 s2 s3 sf hw8
            rw [hq2] at HWAz t0 t1 t2 t3 tf hwA
            have r0 := fun q => (hWA.next (below_drewN (Below.refl _ wA) q)).c0
            have r1 := fun q => (hWA.next (below_drewN (Below.refl _ wA) q)).c1
            have r2 := fun q => (hWA.next (below_drewN (Below.refl _ wA) q)).c2
            have r3 := fun q => (hWA.next (below_drewN (Below.refl _ wA) q)).c3
            have ra := r0 0
            have rb := r1 0
            have rc := r2 0
            have rd := r3 0
            change wA.cell? _ = _ at ra rb rc rd
            have n0 := HWAz.out.c0
            have n1 := HWAz.out.c1
            have n2 := HWAz.out.c2
            have n3 := HWAz.out.c3
            dsimp only [Wt.zero] at r0 r1 r2 r3 ra rb rc rd n0 n1 n2 n3
            have he := want_same ⟨xt2, xc2, xb2, xd2⟩
            unfold Wt.val at he
            dsimp only at he
            have hh := wantHeld
            have hg := wantGuard
            obtain ⟨a3, c4, hv3, _, hc3⟩ := HPPA.out.o.form
            rw [HLL.out] at hv3 hc3
            simp only [Value.slice.injEq] at hv3
            obtain ⟨rfl, _, rfl⟩ := hv3
            obtain ⟨b3, rfl, _, hc3⟩ := hc3 (by omega)
            have hcs := fun j u hu q => (below_drewN (Below.refl _ wA) q).cell (World.block_lt_of_cell? wA _ (hc3 K ⟨xt2, xc2, xb2, xd2⟩ HX.out j u hu)) |>.trans (hc3 K ⟨xt2, xc2, xb2, xd2⟩ HX.out j u hu)
            have e0 := hcs 0 _ rfl
            have e1 := hcs 1 _ rfl
            have e2 := hcs 2 _ rfl
            have e3 := hcs 3 _ rfl
            simp only [Nat.add_zero] at e0
            clear hc3 hcs
            have g5 := fun q => (hPBA.next (below_drewN (Below.refl _ wA) q)).c5
            dsimp only at g5
            have hLn := fun q => len_any (PO.mk HPPA.out.p.c HPPA.out.p.le : PO (wA.drewN q) g _)
            rw [List.length_drop, HLL.out] at hLn
            have HLN := Lib.hid hLn
            have HQQ := Lib.hid (fun q => HPPA.out.next (below_drewN (Below.refl _ wA) q))
            clear hWA hPBA HPP6 HPP8 HPPA HPB6 HPB8 HW8 HWAz hLn
            clear z0 z1 z2 z3 z4 z5 zf y0 y1 y2 y3 y4 y5 u0 u1 u2 u3 u4 u5 hw4 hw5
            go_wp2
            go_quiet (fail)
            clear hq1 hq2 hw7 hw8 hw9 hwA s0 s1 s2 s3 sf t0 t1 t2 t3 tf ra rb rc rd n0 n1 n2 n3 r0 r1 r2 r3
            have hLN := HLN.out nq
            have HQ2 := Lib.hid (HQQ.out nq)
            have g6 := g5 nq
            clear e0 e1 e2 e3
            clear g5 HLN HQQ
            generalize wA.drewN nq = wB at hLN HQ2 g6 ⊢
            go_wp2_with (refine hLN.mono ?_; rintro e w' ⟨rfl, hw⟩; obtain rfl := hw.symm; clear hLN)
            go_roundw
            case rel => exact ⟨i + 1, K + 1, LL, _, _, _, HLT.out, by go_num, by first | rfl | go_num, rfl, HLL, Nat.le_succ_of_le HLI.out, HK1.out, HQ2⟩
            case measure => simp [intOf]; omega
          · have hf : fin 3 cd = false := by rw [fin, one1_at h0, hA]; rfl
            have hx : (cd[0]'h0).toNat = 49 := by rw [hA]; rfl
            clear hA
            obtain ⟨⟨xt2, xc2, xb2, xd2⟩, hx0, hdr⟩ := drop_one (l := l) (K := K) (by rw [HLL.out]; exact hKK)
            have hn := HP5.out.p
            rw [hdr] at hn
            have hR := reply_stays hn 3 cd hf
            unfold Wt.val repV at hR
            dsimp only at hR
            have HX := Lib.hid hx0
            have hKK1 : ((K : Int) < (LL : Int)) = True := eq_true (by omega)
            have hKK2 : (K : Int) < (LL : Int) := by omega
            have hKK3 : K < LL := hKK
            have HK1 := Lib.hid (show K + 1 ≤ LL from hKK)
            have i1 : IntKind.i64.wrap ((LL : Int) - (K : Int)) = ((LL - K : Nat) : Int) := by rw [wraps_i64 _ (by omega) (by omega)]; omega
            have i2 : wrap64 ((LL : Int) - (K : Int)) = ((LL - K : Nat) : Int) := (IntWalk.wrap64_in _ ⟨by omega, by omega⟩).trans (by omega)
            clear hn hf hx0 hKK hKL hLi
            go_wp2_with fail
            refine hR.mono ?_
            rintro e w6 ⟨rfl, hp6, ht6⟩
            rw [← hdr] at hp6
            have HPP6 := Lib.hid (HP5.out.turn ht6 hp6)
            have HPB6 := Lib.hid (HPB.out.apart ht6 (by have := HGR.out; omega))
            clear hR hp6 ht6 HP5 HPB hdr
            obtain ⟨w7, w8, hw7, hw8, hm⟩ := want_made w6 ⟨xt2, xc2, xb2, xd2⟩
            dsimp only at hw8
            have s0 := hm.z0
            have s1 := hm.z1
            have s2 := hm.z2
            have s3 := hm.z3
            have sf := hm.zf
            have HW8 := Lib.hid hm.wb
            have HPP8 := Lib.hid (HPP6.out.next hm.hb)
            have HPB8 := Lib.hid (HPB6.out.next hm.hb)
            clear hm
            obtain ⟨w9, wA, hw9, hwA, hm⟩ := want_made w8 Wt.zero
            dsimp only [Wt.zero] at hwA
            have t0 := hm.z0
            have t1 := hm.z1
            have t2 := hm.z2
            have t3 := hm.z3
            have tf := hm.zf
            have HWAz := Lib.hid hm.wb
            have hWA := HW8.out.next hm.hb
            have HPPA := Lib.hid (HPP8.out.next hm.hb)
            have hPBA := HPB8.out.next hm.hb
            clear hm
            obtain ⟨q1, hq1⟩ : ∃ q1, w6.heap.size = q1 := ⟨_, rfl⟩
            obtain ⟨q2, hq2⟩ : ∃ q2, w8.heap.size = q2 := ⟨_, rfl⟩
            rw [hq1] at hWA s0 s1 s2 s3 sf hw8
            rw [hq2] at HWAz t0 t1 t2 t3 tf hwA
            have r0 := fun q => (hWA.next (below_drewN (Below.refl _ wA) q)).c0
            have r1 := fun q => (hWA.next (below_drewN (Below.refl _ wA) q)).c1
            have r2 := fun q => (hWA.next (below_drewN (Below.refl _ wA) q)).c2
            have r3 := fun q => (hWA.next (below_drewN (Below.refl _ wA) q)).c3
            have ra := r0 0
            have rb := r1 0
            have rc := r2 0
            have rd := r3 0
            change wA.cell? _ = _ at ra rb rc rd
            have n0 := HWAz.out.c0
            have n1 := HWAz.out.c1
            have n2 := HWAz.out.c2
            have n3 := HWAz.out.c3
            dsimp only [Wt.zero] at r0 r1 r2 r3 ra rb rc rd n0 n1 n2 n3
            have he := want_same ⟨xt2, xc2, xb2, xd2⟩
            unfold Wt.val at he
            dsimp only at he
            have hh := wantHeld
            have hg := wantGuard
            obtain ⟨a3, c4, hv3, _, hc3⟩ := HPPA.out.o.form
            rw [HLL.out] at hv3 hc3
            simp only [Value.slice.injEq] at hv3
            obtain ⟨rfl, _, rfl⟩ := hv3
            obtain ⟨b3, rfl, _, hc3⟩ := hc3 (by omega)
            have hcs := fun j u hu q => (below_drewN (Below.refl _ wA) q).cell (World.block_lt_of_cell? wA _ (hc3 K ⟨xt2, xc2, xb2, xd2⟩ HX.out j u hu)) |>.trans (hc3 K ⟨xt2, xc2, xb2, xd2⟩ HX.out j u hu)
            have e0 := hcs 0 _ rfl
            have e1 := hcs 1 _ rfl
            have e2 := hcs 2 _ rfl
            have e3 := hcs 3 _ rfl
            simp only [Nat.add_zero] at e0
            clear hc3 hcs
            have g5 := fun q => (hPBA.next (below_drewN (Below.refl _ wA) q)).c5
            dsimp only at g5
            have hLn := fun q => len_any (PO.mk HPPA.out.p.c HPPA.out.p.le : PO (wA.drewN q) g _)
            rw [List.length_drop, HLL.out] at hLn
            have HLN := Lib.hid hLn
            have HQQ := Lib.hid (fun q => HPPA.out.next (below_drewN (Below.refl _ wA) q))
            clear hWA hPBA HPP6 HPP8 HPPA HPB6 HPB8 HW8 HWAz hLn
            clear z0 z1 z2 z3 z4 z5 zf y0 y1 y2 y3 y4 y5 u0 u1 u2 u3 u4 u5 hw4 hw5
            go_wp2
            go_quiet (fail)
            clear hq1 hq2 hw7 hw8 hw9 hwA s0 s1 s2 s3 sf t0 t1 t2 t3 tf ra rb rc rd n0 n1 n2 n3 r0 r1 r2 r3
            have hLN := HLN.out nq
            have HQ2 := Lib.hid (HQQ.out nq)
            have g6 := g5 nq
            clear e0 e1 e2 e3
            clear g5 HLN HQQ
            generalize wA.drewN nq = wB at hLN HQ2 g6 ⊢
            go_wp2_with (refine hLN.mono ?_; rintro e w' ⟨rfl, hw⟩; obtain rfl := hw.symm; clear hLN)
            go_roundw
            case rel => exact ⟨i + 1, K, LL, _, _, _, HLT.out, by go_num, by first | rfl | go_num, rfl, HLL, Nat.le_succ_of_le HLI.out, HKL.out, HQ2⟩
            case measure => simp [intOf]; omega
          · have hf : fin 3 cd = true := by rw [fin, one1_at h0, beq_eq_false_iff_ne.2 hA]; rfl
            have hne : (cd[0]'h0).toNat ≠ 49 := fun e => hA (UInt8.toNat_inj.1 (show (cd[0]'h0).toNat = (49 : UInt8).toNat from e))
            have hx : (((cd[0]'h0).toNat : Int) == 49) = false := beq_eq_false_iff_ne.2 (by omega)
            have hx1 : (((cd[0]'h0).toNat : Int) = 49) = False := eq_false (by omega)
            have hx2 : ((cd[0]'h0).toNat = 49) = False := eq_false hne
            clear hA hne
            obtain ⟨⟨xt2, xc2, xb2, xd2⟩, hx0, hdr⟩ := drop_one (l := l) (K := K) (by rw [HLL.out]; exact hKK)
            have hn := HP5.out.p
            rw [hdr] at hn
            have hR := reply_goes hn 3 cd hf
            unfold Wt.val repV at hR
            dsimp only at hR
            have HX := Lib.hid hx0
            have hKK1 : ((K : Int) < (LL : Int)) = True := eq_true (by omega)
            have hKK2 : (K : Int) < (LL : Int) := by omega
            have hKK3 : K < LL := hKK
            have HK1 := Lib.hid (show K + 1 ≤ LL from hKK)
            have i1 : IntKind.i64.wrap ((LL : Int) - ((K : Int) + 1)) = ((LL - (K + 1) : Nat) : Int) := by rw [wraps_i64 _ (by omega) (by omega)]; omega
            have i2 : wrap64 ((LL : Int) - ((K : Int) + 1)) = ((LL - (K + 1) : Nat) : Int) := (IntWalk.wrap64_in _ ⟨by omega, by omega⟩).trans (by omega)
            clear hn hf hx0 hKK hKL hLi
            go_wp2_with fail
            refine hR.mono ?_
            rintro e w6 ⟨rfl, hp6, ht6⟩
            have HPP6 := Lib.hid (HP5.out.turn ht6 hp6)
            have HPB6 := Lib.hid (HPB.out.apart ht6 (by have := HGR.out; omega))
            clear hR hp6 ht6 HP5 HPB hdr
            obtain ⟨w7, w8, hw7, hw8, hm⟩ := want_made w6 ⟨xt2, xc2, xb2, xd2⟩
            dsimp only at hw8
            have s0 := hm.z0
            have s1 := hm.z1
            have s2 := hm.z2
            have s3 := hm.z3
            have sf := hm.zf
            have HW8 := Lib.hid hm.wb
            have HPP8 := Lib.hid (HPP6.out.next hm.hb)
            have HPB8 := Lib.hid (HPB6.out.next hm.hb)
            clear hm
            obtain ⟨w9, wA, hw9, hwA, hm⟩ := want_made w8 Wt.zero
            dsimp only [Wt.zero] at hwA
            have t0 := hm.z0
            have t1 := hm.z1
            have t2 := hm.z2
            have t3 := hm.z3
            have tf := hm.zf
            have HWAz := Lib.hid hm.wb
            have hWA := HW8.out.next hm.hb
            have HPPA := Lib.hid (HPP8.out.next hm.hb)
            have hPBA := HPB8.out.next hm.hb
            clear hm
            obtain ⟨q1, hq1⟩ : ∃ q1, w6.heap.size = q1 := ⟨_, rfl⟩
            obtain ⟨q2, hq2⟩ : ∃ q2, w8.heap.size = q2 := ⟨_, rfl⟩
            rw [hq1] at hWA s0 s1 s2 s3 sf hw8
            rw [hq2] at HWAz t0 t1 t2 t3 tf hwA
            have r0 := fun q => (hWA.next (below_drewN (Below.refl _ wA) q)).c0
            have r1 := fun q => (hWA.next (below_drewN (Below.refl _ wA) q)).c1
            have r2 := fun q => (hWA.next (below_drewN (Below.refl _ wA) q)).c2
            have r3 := fun q => (hWA.next (below_drewN (Below.refl _ wA) q)).c3
            have ra := r0 0
            have rb := r1 0
            have rc := r2 0
            have rd := r3 0
            change wA.cell? _ = _ at ra rb rc rd
            have n0 := HWAz.out.c0
            have n1 := HWAz.out.c1
            have n2 := HWAz.out.c2
            have n3 := HWAz.out.c3
            dsimp only [Wt.zero] at r0 r1 r2 r3 ra rb rc rd n0 n1 n2 n3
            have he := want_same ⟨xt2, xc2, xb2, xd2⟩
            unfold Wt.val at he
            dsimp only at he
            have hh := wantHeld
            have hg := wantGuard
            obtain ⟨a3, c4, hv3, _, hc3⟩ := HPPA.out.o.form
            rw [HLL.out] at hv3 hc3
            simp only [Value.slice.injEq] at hv3
            obtain ⟨rfl, _, rfl⟩ := hv3
            obtain ⟨b3, rfl, _, hc3⟩ := hc3 (by omega)
            have hcs := fun j u hu q => (below_drewN (Below.refl _ wA) q).cell (World.block_lt_of_cell? wA _ (hc3 K ⟨xt2, xc2, xb2, xd2⟩ HX.out j u hu)) |>.trans (hc3 K ⟨xt2, xc2, xb2, xd2⟩ HX.out j u hu)
            have e0 := hcs 0 _ rfl
            have e1 := hcs 1 _ rfl
            have e2 := hcs 2 _ rfl
            have e3 := hcs 3 _ rfl
            simp only [Nat.add_zero] at e0
            clear hc3 hcs
            have g5 := fun q => (hPBA.next (below_drewN (Below.refl _ wA) q)).c5
            dsimp only at g5
            have hLn := fun q => len_any (PO.mk HPPA.out.p.c HPPA.out.p.le : PO (wA.drewN q) g _)
            rw [List.length_drop, HLL.out] at hLn
            have HLN := Lib.hid hLn
            have HQQ := Lib.hid (fun q => HPPA.out.next (below_drewN (Below.refl _ wA) q))
            clear hWA hPBA HPP6 HPP8 HPPA HPB6 HPB8 HW8 HWAz hLn
            clear z0 z1 z2 z3 z4 z5 zf y0 y1 y2 y3 y4 y5 u0 u1 u2 u3 u4 u5 hw4 hw5
            go_wp2
            go_quiet (fail)
            clear hq1 hq2 hw7 hw8 hw9 hwA s0 s1 s2 s3 sf t0 t1 t2 t3 tf ra rb rc rd n0 n1 n2 n3 r0 r1 r2 r3
            have hLN := HLN.out nq
            have HQ2 := Lib.hid (HQQ.out nq)
            have g6 := g5 nq
            clear e0 e1 e2 e3
            clear g5 HLN HQQ
            generalize wA.drewN nq = wB at hLN HQ2 g6 ⊢
            go_wp2_with (refine hLN.mono ?_; rintro e w' ⟨rfl, hw⟩; obtain rfl := hw.symm; clear hLN)
            go_roundw
            case rel => exact ⟨i + 1, K + 1, LL, _, _, _, HLT.out, by go_num, by first | rfl | go_num, rfl, HLL, Nat.le_succ_of_le HLI.out, HK1.out, HQ2⟩
            case measure => simp [intOf]; omega
        · rcases (show p ≠ 3 ∨ (p = 3 ∧ cd.size = 0) ∨ (p = 3 ∧ ∃ h : 0 < cd.size, cd[0]'h = 49) ∨ (p = 3 ∧ ∃ h : 0 < cd.size, cd[0]'h ≠ 49) by
            by_cases h1 : p = 3
            · rcases Nat.eq_zero_or_pos cd.size with h2 | h2
              · exact .inr (.inl ⟨h1, h2⟩)
              · by_cases h3 : cd[0]'h2 = 49
                · exact .inr (.inr (.inl ⟨h1, h2, h3⟩))
                · exact .inr (.inr (.inr ⟨h1, h2, h3⟩))
            · exact .inl h1) with hA | ⟨rfl, hA⟩ | ⟨rfl, h0, hA⟩ | ⟨rfl, h0, hA⟩
          · have hf : fin p cd = true := by rw [fin, beq_eq_false_iff_ne.2 hA]; rfl
            have hp1 : (p == 3) = false := beq_eq_false_iff_ne.2 hA
            have hp2 : (p = 3) = False := eq_false hA
            clear hA
            have hn := HP5.out.p
            rw [List.drop_of_length_le (by rw [HLL.out]; omega)] at hn
            have hR := nobody_any hn p cd
            unfold Wt.val repV at hR
            dsimp only [Wt.zero] at hR
            obtain rfl : K = LL := Nat.le_antisymm hKL hKK
            have hKK1 : ((K : Int) < (K : Int)) = False := eq_false (by omega)
            have i1 : IntKind.i64.wrap ((K : Int) - (K : Int)) = ((K - K : Nat) : Int) := by rw [Int.sub_self, Nat.sub_self]; rfl
            clear hn hKK hf hKL hLi
            go_wp2_with fail
            refine hR.mono ?_
            rintro e w6 ⟨rfl, hb6⟩
            have HPP6 := Lib.hid (HP5.out.next hb6)
            have HPB6 := Lib.hid (HPB.out.next hb6)
            clear hR hb6 HP5 HPB
            obtain ⟨w7, w8, hw7, hw8, hm⟩ := want_made w6 ⟨⟨#[]⟩, ⟨#[]⟩, false, 0⟩
            dsimp only at hw8
            have s0 := hm.z0
            have s1 := hm.z1
            have s2 := hm.z2
            have s3 := hm.z3
            have sf := hm.zf
            have HW8 := Lib.hid hm.wb
            have HPP8 := Lib.hid (HPP6.out.next hm.hb)
            have HPB8 := Lib.hid (HPB6.out.next hm.hb)
            clear hm
            obtain ⟨w9, wA, hw9, hwA, hm⟩ := want_made w8 Wt.zero
            dsimp only [Wt.zero] at hwA
            have t0 := hm.z0
            have t1 := hm.z1
            have t2 := hm.z2
            have t3 := hm.z3
            have tf := hm.zf
            have HWAz := Lib.hid hm.wb
            have hWA := HW8.out.next hm.hb
            have HPPA := Lib.hid (HPP8.out.next hm.hb)
            have hPBA := HPB8.out.next hm.hb
            clear hm
            obtain ⟨q1, hq1⟩ : ∃ q1, w6.heap.size = q1 := ⟨_, rfl⟩
            obtain ⟨q2, hq2⟩ : ∃ q2, w8.heap.size = q2 := ⟨_, rfl⟩
            rw [hq1] at hWA s0 s1 s2 s3 sf hw8
            rw [hq2] at HWAz t0 t1 t2 t3 tf hwA
            have r0 := fun q => (hWA.next (below_drewN (Below.refl _ wA) q)).c0
            have r1 := fun q => (hWA.next (below_drewN (Below.refl _ wA) q)).c1
            have r2 := fun q => (hWA.next (below_drewN (Below.refl _ wA) q)).c2
            have r3 := fun q => (hWA.next (below_drewN (Below.refl _ wA) q)).c3
            have ra := r0 0
            have rb := r1 0
            have rc := r2 0
            have rd := r3 0
            change wA.cell? _ = _ at ra rb rc rd
            have n0 := HWAz.out.c0
            have n1 := HWAz.out.c1
            have n2 := HWAz.out.c2
            have n3 := HWAz.out.c3
            dsimp only [Wt.zero] at r0 r1 r2 r3 ra rb rc rd n0 n1 n2 n3
            have he := want_same ⟨⟨#[]⟩, ⟨#[]⟩, false, 0⟩
            unfold Wt.val at he
            dsimp only at he
            have hh := wantHeld
            have hg := wantGuard
            have g5 := fun q => (hPBA.next (below_drewN (Below.refl _ wA) q)).c5
            dsimp only at g5
            have hLn := fun q => len_any (PO.mk HPPA.out.p.c HPPA.out.p.le : PO (wA.drewN q) g _)
            rw [List.length_drop, HLL.out] at hLn
            have HLN := Lib.hid hLn
            have HQQ := Lib.hid (fun q => HPPA.out.next (below_drewN (Below.refl _ wA) q))
            clear hWA hPBA HPP6 HPP8 HPPA HPB6 HPB8 HW8 HWAz hLn
            clear z0 z1 z2 z3 z4 z5 zf y0 y1 y2 y3 y4 y5 u0 u1 u2 u3 u4 u5 hw4 hw5
            go_wp2
            go_quiet (fail)
            clear hq1 hq2 hw7 hw8 hw9 hwA s0 s1 s2 s3 sf t0 t1 t2 t3 tf ra rb rc rd n0 n1 n2 n3 r0 r1 r2 r3
            have hLN := HLN.out nq
            have HQ2 := Lib.hid (HQQ.out nq)
            have g6 := g5 nq
            clear g5 HLN HQQ
            generalize wA.drewN nq = wB at hLN HQ2 g6 ⊢
            go_wp2_with (refine hLN.mono ?_; rintro e w' ⟨rfl, hw⟩; obtain rfl := hw.symm; clear hLN)
            go_roundw
            case rel => exact ⟨i + 1, K, K, _, _, _, HLT.out, by go_num, by first | rfl | go_num, rfl, HLL, Nat.le_succ_of_le HLI.out, HKL.out, HQ2⟩
            case measure => simp [intOf]; omega
          · have hf : fin 3 cd = true := by rw [fin, one1_nil hA]; rfl
            have hn := HP5.out.p
            rw [List.drop_of_length_le (by rw [HLL.out]; omega)] at hn
            have hR := nobody_any hn 3 cd
            unfold Wt.val repV at hR
            dsimp only [Wt.zero] at hR
            obtain rfl : K = LL := Nat.le_antisymm hKL hKK
            have hKK1 : ((K : Int) < (K : Int)) = False := eq_false (by omega)
            have i1 : IntKind.i64.wrap ((K : Int) - (K : Int)) = ((K - K : Nat) : Int) := by rw [Int.sub_self, Nat.sub_self]; rfl
            clear hn hKK hf hKL hLi
            go_wp2_with fail
            refine hR.mono ?_
            rintro e w6 ⟨rfl, hb6⟩
            have HPP6 := Lib.hid (HP5.out.next hb6)
            have HPB6 := Lib.hid (HPB.out.next hb6)
            clear hR hb6 HP5 HPB
            obtain ⟨w7, w8, hw7, hw8, hm⟩ := want_made w6 ⟨⟨#[]⟩, ⟨#[]⟩, false, 0⟩
            dsimp only at hw8
            have s0 := hm.z0
            have s1 := hm.z1
            have s2 := hm.z2
            have s3 := hm.z3
            have sf := hm.zf
            have HW8 := Lib.hid hm.wb
            have HPP8 := Lib.hid (HPP6.out.next hm.hb)
            have HPB8 := Lib.hid (HPB6.out.next hm.hb)
            clear hm
            obtain ⟨w9, wA, hw9, hwA, hm⟩ := want_made w8 Wt.zero
            dsimp only [Wt.zero] at hwA
            have t0 := hm.z0
            have t1 := hm.z1
            have t2 := hm.z2
            have t3 := hm.z3
            have tf := hm.zf
            have HWAz := Lib.hid hm.wb
            have hWA := HW8.out.next hm.hb
            have HPPA := Lib.hid (HPP8.out.next hm.hb)
            have hPBA := HPB8.out.next hm.hb
            clear hm
            obtain ⟨q1, hq1⟩ : ∃ q1, w6.heap.size = q1 := ⟨_, rfl⟩
            obtain ⟨q2, hq2⟩ : ∃ q2, w8.heap.size = q2 := ⟨_, rfl⟩
            rw [hq1] at hWA s0 s1 s2 s3 sf hw8
            rw [hq2] at HWAz t0 t1 t2 t3 tf hwA
            have r0 := fun q => (hWA.next (below_drewN (Below.refl _ wA) q)).c0
            have r1 := fun q => (hWA.next (below_drewN (Below.refl _ wA) q)).c1
            have r2 := fun q => (hWA.next (below_drewN (Below.refl _ wA) q)).c2
            have r3 := fun q => (hWA.next (below_drewN (Below.refl _ wA) q)).c3
            have ra := r0 0
            have rb := r1 0
            have rc := r2 0
            have rd := r3 0
            change wA.cell? _ = _ at ra rb rc rd
            have n0 := HWAz.out.c0
            have n1 := HWAz.out.c1
            have n2 := HWAz.out.c2
            have n3 := HWAz.out.c3
            dsimp only [Wt.zero] at r0 r1 r2 r3 ra rb rc rd n0 n1 n2 n3
            have he := want_same ⟨⟨#[]⟩, ⟨#[]⟩, false, 0⟩
            unfold Wt.val at he
            dsimp only at he
            have hh := wantHeld
            have hg := wantGuard
            have g5 := fun q => (hPBA.next (below_drewN (Below.refl _ wA) q)).c5
            dsimp only at g5
            have hLn := fun q => len_any (PO.mk HPPA.out.p.c HPPA.out.p.le : PO (wA.drewN q) g _)
            rw [List.length_drop, HLL.out] at hLn
            have HLN := Lib.hid hLn
            have HQQ := Lib.hid (fun q => HPPA.out.next (below_drewN (Below.refl _ wA) q))
            clear hWA hPBA HPP6 HPP8 HPPA HPB6 HPB8 HW8 HWAz hLn
            clear z0 z1 z2 z3 z4 z5 zf y0 y1 y2 y3 y4 y5 u0 u1 u2 u3 u4 u5 hw4 hw5
            go_wp2
            go_quiet (fail)
            clear hq1 hq2 hw7 hw8 hw9 hwA s0 s1 s2 s3 sf t0 t1 t2 t3 tf ra rb rc rd n0 n1 n2 n3 r0 r1 r2 r3
            have hLN := HLN.out nq
            have HQ2 := Lib.hid (HQQ.out nq)
            have g6 := g5 nq
            clear g5 HLN HQQ
            generalize wA.drewN nq = wB at hLN HQ2 g6 ⊢
            go_wp2_with (refine hLN.mono ?_; rintro e w' ⟨rfl, hw⟩; obtain rfl := hw.symm; clear hLN)
            go_roundw
            case rel => exact ⟨i + 1, K, K, _, _, _, HLT.out, by go_num, by first | rfl | go_num, rfl, HLL, Nat.le_succ_of_le HLI.out, HKL.out, HQ2⟩
            case measure => simp [intOf]; omega
          · have hf : fin 3 cd = false := by rw [fin, one1_at h0, hA]; rfl
            have hx : (cd[0]'h0).toNat = 49 := by rw [hA]; rfl
            clear hA
            have hn := HP5.out.p
            rw [List.drop_of_length_le (by rw [HLL.out]; omega)] at hn
            have hR := nobody_any hn 3 cd
            unfold Wt.val repV at hR
            dsimp only [Wt.zero] at hR
            obtain rfl : K = LL := Nat.le_antisymm hKL hKK
            have hKK1 : ((K : Int) < (K : Int)) = False := eq_false (by omega)
            have i1 : IntKind.i64.wrap ((K : Int) - (K : Int)) = ((K - K : Nat) : Int) := by rw [Int.sub_self, Nat.sub_self]; rfl
            clear hn hKK hf hKL hLi
            go_wp2_with fail
            refine hR.mono ?_
            rintro e w6 ⟨rfl, hb6⟩
            have HPP6 := Lib.hid (HP5.out.next hb6)
            have HPB6 := Lib.hid (HPB.out.next hb6)
            clear hR hb6 HP5 HPB
            obtain ⟨w7, w8, hw7, hw8, hm⟩ := want_made w6 ⟨⟨#[]⟩, ⟨#[]⟩, false, 0⟩
            dsimp only at hw8
            have s0 := hm.z0
            have s1 := hm.z1
            have s2 := hm.z2
            have s3 := hm.z3
            have sf := hm.zf
            have HW8 := Lib.hid hm.wb
            have HPP8 := Lib.hid (HPP6.out.next hm.hb)
            have HPB8 := Lib.hid (HPB6.out.next hm.hb)
            clear hm
            obtain ⟨w9, wA, hw9, hwA, hm⟩ := want_made w8 Wt.zero
            dsimp only [Wt.zero] at hwA
            have t0 := hm.z0
            have t1 := hm.z1
            have t2 := hm.z2
            have t3 := hm.z3
            have tf := hm.zf
            have HWAz := Lib.hid hm.wb
            have hWA := HW8.out.next hm.hb
            have HPPA := Lib.hid (HPP8.out.next hm.hb)
            have hPBA := HPB8.out.next hm.hb
            clear hm
            obtain ⟨q1, hq1⟩ : ∃ q1, w6.heap.size = q1 := ⟨_, rfl⟩
            obtain ⟨q2, hq2⟩ : ∃ q2, w8.heap.size = q2 := ⟨_, rfl⟩
            rw [hq1] at hWA s0 s1 s2 s3 sf hw8
            rw [hq2] at HWAz t0 t1 t2 t3 tf hwA
            have r0 := fun q => (hWA.next (below_drewN (Below.refl _ wA) q)).c0
            have r1 := fun q => (hWA.next (below_drewN (Below.refl _ wA) q)).c1
            have r2 := fun q => (hWA.next (below_drewN (Below.refl _ wA) q)).c2
            have r3 := fun q => (hWA.next (below_drewN (Below.refl _ wA) q)).c3
            have ra := r0 0
            have rb := r1 0
            have rc := r2 0
            have rd := r3 0
            change wA.cell? _ = _ at ra rb rc rd
            have n0 := HWAz.out.c0
            have n1 := HWAz.out.c1
            have n2 := HWAz.out.c2
            have n3 := HWAz.out.c3
            dsimp only [Wt.zero] at r0 r1 r2 r3 ra rb rc rd n0 n1 n2 n3
            have he := want_same ⟨⟨#[]⟩, ⟨#[]⟩, false, 0⟩
            unfold Wt.val at he
            dsimp only at he
            have hh := wantHeld
            have hg := wantGuard
            have g5 := fun q => (hPBA.next (below_drewN (Below.refl _ wA) q)).c5
            dsimp only at g5
            have hLn := fun q => len_any (PO.mk HPPA.out.p.c HPPA.out.p.le : PO (wA.drewN q) g _)
            rw [List.length_drop, HLL.out] at hLn
            have HLN := Lib.hid hLn
            have HQQ := Lib.hid (fun q => HPPA.out.next (below_drewN (Below.refl _ wA) q))
            clear hWA hPBA HPP6 HPP8 HPPA HPB6 HPB8 HW8 HWAz hLn
            clear z0 z1 z2 z3 z4 z5 zf y0 y1 y2 y3 y4 y5 u0 u1 u2 u3 u4 u5 hw4 hw5
            go_wp2
            go_quiet (fail)
            clear hq1 hq2 hw7 hw8 hw9 hwA s0 s1 s2 s3 sf t0 t1 t2 t3 tf ra rb rc rd n0 n1 n2 n3 r0 r1 r2 r3
            have hLN := HLN.out nq
            have HQ2 := Lib.hid (HQQ.out nq)
            have g6 := g5 nq
            clear g5 HLN HQQ
            generalize wA.drewN nq = wB at hLN HQ2 g6 ⊢
            go_wp2_with (refine hLN.mono ?_; rintro e w' ⟨rfl, hw⟩; obtain rfl := hw.symm; clear hLN)
            go_roundw
            case rel => exact ⟨i + 1, K, K, _, _, _, HLT.out, by go_num, by first | rfl | go_num, rfl, HLL, Nat.le_succ_of_le HLI.out, HKL.out, HQ2⟩
            case measure => simp [intOf]; omega
          · have hf : fin 3 cd = true := by rw [fin, one1_at h0, beq_eq_false_iff_ne.2 hA]; rfl
            have hne : (cd[0]'h0).toNat ≠ 49 := fun e => hA (UInt8.toNat_inj.1 (show (cd[0]'h0).toNat = (49 : UInt8).toNat from e))
            have hx : (((cd[0]'h0).toNat : Int) == 49) = false := beq_eq_false_iff_ne.2 (by omega)
            have hx1 : (((cd[0]'h0).toNat : Int) = 49) = False := eq_false (by omega)
            have hx2 : ((cd[0]'h0).toNat = 49) = False := eq_false hne
            clear hA hne
            have hn := HP5.out.p
            rw [List.drop_of_length_le (by rw [HLL.out]; omega)] at hn
            have hR := nobody_any hn 3 cd
            unfold Wt.val repV at hR
            dsimp only [Wt.zero] at hR
            obtain rfl : K = LL := Nat.le_antisymm hKL hKK
            have hKK1 : ((K : Int) < (K : Int)) = False := eq_false (by omega)
            have i1 : IntKind.i64.wrap ((K : Int) - (K : Int)) = ((K - K : Nat) : Int) := by rw [Int.sub_self, Nat.sub_self]; rfl
            clear hn hKK hf hKL hLi
            go_wp2_with fail
            refine hR.mono ?_
            rintro e w6 ⟨rfl, hb6⟩
            have HPP6 := Lib.hid (HP5.out.next hb6)
            have HPB6 := Lib.hid (HPB.out.next hb6)
            clear hR hb6 HP5 HPB
            obtain ⟨w7, w8, hw7, hw8, hm⟩ := want_made w6 ⟨⟨#[]⟩, ⟨#[]⟩, false, 0⟩
            dsimp only at hw8
            have s0 := hm.z0
            have s1 := hm.z1
            have s2 := hm.z2
            have s3 := hm.z3
            have sf := hm.zf
            have HW8 := Lib.hid hm.wb
            have HPP8 := Lib.hid (HPP6.out.next hm.hb)
            have HPB8 := Lib.hid (HPB6.out.next hm.hb)
            clear hm
            obtain ⟨w9, wA, hw9, hwA, hm⟩ := want_made w8 Wt.zero
            dsimp only [Wt.zero] at hwA
            have t0 := hm.z0
            have t1 := hm.z1
            have t2 := hm.z2
            have t3 := hm.z3
            have tf := hm.zf
            have HWAz := Lib.hid hm.wb
            have hWA := HW8.out.next hm.hb
            have HPPA := Lib.hid (HPP8.out.next hm.hb)
            have hPBA := HPB8.out.next hm.hb
            clear hm
            obtain ⟨q1, hq1⟩ : ∃ q1, w6.heap.size = q1 := ⟨_, rfl⟩
            obtain ⟨q2, hq2⟩ : ∃ q2, w8.heap.size = q2 := ⟨_, rfl⟩
            rw [hq1] at hWA s0 s1 s2 s3 sf hw8
            rw [hq2] at HWAz t0 t1 t2 t3 tf hwA
            have r0 := fun q => (hWA.next (below_drewN (Below.refl _ wA) q)).c0
            have r1 := fun q => (hWA.next (below_drewN (Below.refl _ wA) q)).c1
            have r2 := fun q => (hWA.next (below_drewN (Below.refl _ wA) q)).c2
            have r3 := fun q => (hWA.next (below_drewN (Below.refl _ wA) q)).c3
            have ra := r0 0
            have rb := r1 0
            have rc := r2 0
            have rd := r3 0
            change wA.cell? _ = _ at ra rb rc rd
            have n0 := HWAz.out.c0
            have n1 := HWAz.out.c1
            have n2 := HWAz.out.c2
            have n3 := HWAz.out.c3
            dsimp only [Wt.zero] at r0 r1 r2 r3 ra rb rc rd n0 n1 n2 n3
            have he := want_same ⟨⟨#[]⟩, ⟨#[]⟩, false, 0⟩
            unfold Wt.val at he
            dsimp only at he
            have hh := wantHeld
            have hg := wantGuard
            have g5 := fun q => (hPBA.next (below_drewN (Below.refl _ wA) q)).c5
            dsimp only at g5
            have hLn := fun q => len_any (PO.mk HPPA.out.p.c HPPA.out.p.le : PO (wA.drewN q) g _)
            rw [List.length_drop, HLL.out] at hLn
            have HLN := Lib.hid hLn
            have HQQ := Lib.hid (fun q => HPPA.out.next (below_drewN (Below.refl _ wA) q))
            clear hWA hPBA HPP6 HPP8 HPPA HPB6 HPB8 HW8 HWAz hLn
            clear z0 z1 z2 z3 z4 z5 zf y0 y1 y2 y3 y4 y5 u0 u1 u2 u3 u4 u5 hw4 hw5
            go_wp2
            go_quiet (fail)
            clear hq1 hq2 hw7 hw8 hw9 hwA s0 s1 s2 s3 sf t0 t1 t2 t3 tf ra rb rc rd n0 n1 n2 n3 r0 r1 r2 r3
            have hLN := HLN.out nq
            have HQ2 := Lib.hid (HQQ.out nq)
            have g6 := g5 nq
            clear g5 HLN HQQ
            generalize wA.drewN nq = wB at hLN HQ2 g6 ⊢
            go_wp2_with (refine hLN.mono ?_; rintro e w' ⟨rfl, hw⟩; obtain rfl := hw.symm; clear hLN)
            go_roundw
            case rel => exact ⟨i + 1, K, K, _, _, _, HLT.out, by go_num, by first | rfl | go_num, rfl, HLL, Nat.le_succ_of_le HLI.out, HKL.out, HQ2⟩
            case measure => simp [intOf]; omega
    · obtain rfl : i = N := Nat.le_antisymm hi (Nat.le_of_not_lt hlt)
      have HBE := Lib.hid HPP.out.b
      clear hlt hLi hKL HPP
      rcases Nat.lt_or_ge i L with h1 | h1
      · have h60 : i = 60 := by have := HN.out; omega
        have hiL : (i : Int) < (L : Int) := by omega
        have h61 : ((i : Int) < 60) = False := eq_false (by omega)
        have h62 : (i < 60) = False := eq_false (by omega)
        clear h60
        go_wp2
        go_ret
        exact ⟨rfl, HBE.out⟩
      · have h61 : ((i : Int) < (L : Int)) = False := eq_false (by omega)
        have h62 : (i < L) = False := eq_false (by omega)
        go_wp2
        go_ret
        exact ⟨rfl, HBE.out⟩
end Go.Proofs.Ytimieknphedniaa
