/- ParseWithin walked (layer 15). (Laid by wip/tools/gen_lwithin.py.) -/
import Derived.Test.YtiikionoagmabaaDoorWithinW
import Derived.Deep.CutRange
namespace Go.Proofs.YtiikionoagmabaaDoor
open Go.RowKit

set_option maxRecDepth 20000 in
set_option maxHeartbeats 8000000 in
theorem lawWithinP (src : ByteArray) (hs : src.size ≤ maxLen) (w : World) (hS : SHP w) :
    Calls Tryd.prog 4 #[.string src] w fun e w' => e = .returned (.bool true) ∧ Below w.heap.size w w' := by
  have SW := shown_any w hS
  have SH := fun wx => short_any src hs wx
  obtain ⟨l, hl⟩ : ∃ l, src.data.toList.take 2100 = l := ⟨_, rfl⟩
  have hll : l.length ≤ 1048576 := by rw [← hl]; simp; omega
  rw [hl] at SH
  have PA := fun wx hx => pall_any l hll wx hx
  have HS := Lib.hid hS
  clear hS hs hl hll
  go_enter Tryd.func4, Tryd.ntmps4
  go_wp2_with fail
  refine SW.mono ?_
  rintro e wa ⟨rfl, hba⟩
  have HBA := Lib.hid hba
  replace PA := PA wa (HS.out.below hba)
  clear hba SW
  go_wp2_with fail
  refine (SH _).mono ?_
  rintro e wb ⟨rfl, hw⟩
  subst hw
  clear SH
  go_wp2_with fail
  refine PA.mono ?_
  rintro e w1 ⟨hb1, hP⟩
  clear PA
  cases hx : Ps.all l with
  | error x =>
    obtain ⟨p, c⟩ := x
    rw [hx] at hP
    obtain ⟨rfl, hc⟩ := hP
    have f1 : ((c : Int) != 0) = true := by rw [bne_iff_ne]; omega
    have f2 : ((c : Int) == 0) = false := beq_eq_false_iff_ne.2 (by omega)
    have f3 : ((c : Int) = 0) = False := eq_false (by omega)
    have HB1 := Lib.hid (HBA.out.trans (hb1.mono HBA.out.size))
    clear hc hb1
    go_wp2
    go_ret
    exact ⟨rfl, HB1.out.alloc HB1.out.size _⟩
  | ok x =>
    obtain ⟨md, row, top⟩ := x
    rw [hx] at hP
    obtain ⟨sv', tv, rfl, hr⟩ := hP
    obtain ⟨⟨hm1, hm3⟩, hfew, hsok, htp, htb, hperm⟩ := Ps.all_in hx
    obtain ⟨cs, rfl, ⟨ao, cap, rfl, hcell⟩, hrd, htop, _⟩ := hr
    obtain ⟨N, hN⟩ : ∃ N, cs.length = N := ⟨_, rfl⟩
    have hrl : (rowOf cs).length = N := by unfold rowOf; rw [List.length_map, hN]
    rw [hrl] at hfew htb hperm
    rw [hN]
    obtain ⟨tao, tc, rfl, _⟩ := htop.formV
    obtain ⟨TN, hTN⟩ : ∃ TN, top.length = TN := ⟨_, rfl⟩
    rw [List.length_map, hTN] at htop
    rw [List.length_map, hTN]
    obtain ⟨wp, hwp⟩ : ∃ wp, w1.alloc (.cells #[.int .i64 (md : Int), .slice ao N cap, .slice tao TN tc] 27) = wp := ⟨_, rfl⟩
    have hbp : Below w1.heap.size w1 wp := by rw [← hwp]; exact (Below.refl _ _).alloc (Nat.le_refl _) _
    have hp3 : H3 wp w1.heap.size [.int .i64 (md : Int), .slice ao N cap, .slice tao TN tc] := by rw [← hwp]; exact heap_alloc_new _ _
    obtain ⟨b4, hb4⟩ : ∃ b4, w1.heap.size = b4 := ⟨_, rfl⟩
    rw [hb4] at hp3
    obtain ⟨g, hg⟩ : ∃ g, wp.heap.size = g := ⟨_, rfl⟩
    obtain ⟨wB, hmk, hseen, hbB⟩ := make_ints wp N (by omega)
    rw [hg] at hmk hseen
    have HCELL := Lib.hid (fun (k : Nat) (c : SA) (hk : cs[k]? = some c) => (hcell k c hk).imp fun g' h => (⟨h.1, fun i u hu => (hbp.cell (World.block_lt_of_cell? w1 _ (h.2.2 i u hu))).trans (h.2.2 i u hu)⟩ : ao = some ⟨g', 0, none⟩ ∧ ∀ i u, (stCells c)[i]? = some u → wp.cell? ⟨g', k * 8 + i, none⟩ = some u))
    have HRD := Lib.hid (fun (c : SA) (hc : c ∈ cs) => (⟨⟨(hrd c hc).1.1.below hbp, (hrd c hc).1.2.below hbp⟩, (hrd c hc).2.1⟩ : (Rd wp c.l (c.st.l.map nv) ∧ Rd wp c.m (c.st.m.map nv)) ∧ c.l.oneCell' = true ∧ c.m.oneCell' = true))
    have HTOP := Lib.hid (htop.below hbp)
    have HP3 := Lib.hid hp3
    have HBW := Lib.hid ((HBA.out.trans (hb1.mono HBA.out.size)).trans (hbp.mono (Nat.le_trans HBA.out.size hb1.size)))
    have HSOK := Lib.hid hsok
    have HTRI := Lib.hid (fun (x : Value × List Nat × Nat) (hx : x ∈ Ps.triOf fLM (csP cs).length (.slice tao TN tc) top (csP cs)) => Ps.tri_ok fLM (.slice tao TN tc) (by rw [csP_row]; exact hsok) htp (by rw [csP_len, hN]; exact htb) x hx)
    have HCNT := Lib.hid (fun j (hj : j < (csP cs).length) => Ps.tri_count fLM (.slice tao TN tc) (r := csP cs) (top := top) (by rw [csP_row, csP_len, hN]; exact hperm) j hj)
    have HFEW := Lib.hid (fun i k j => Ps.tri_few fLM (.slice tao TN tc) (r := csP cs) (top := top) (by rw [csP_row, csP_len, hN]; exact hperm) i k j)
    have hgB : g < wB.heap.size := (Array.getElem?_eq_some_iff.1 hseen).1
    have hst : ∀ B, wB.heap.size = B → WS wp ((wB.alloc (.cells #[.slice tao TN tc] 25)).alloc (.cells #[.int .i64 (N : Int)] 3)) g B 1 1 (.slice (some ⟨B, 0, none⟩) 1 1) (.slice (some ⟨B + 1, 0, none⟩) 1 1) (tri8 (triT N (.slice tao TN tc) top cs 0)) (tri9 (triT N (.slice tao TN tc) top cs 0)) (cntL N []) := by
      rintro B rfl
      rw [triT_zero, cntL_nil]
      have hbx : Below wB.heap.size wB ((wB.alloc (.cells #[.slice tao TN tc] 25)).alloc (.cells #[.int .i64 (N : Int)] 3)) := ((Below.refl _ _).alloc (Nat.le_refl _) _).alloc (by simp) _
      refine ⟨hbB.trans (hbx.mono hbB.size), hg, own_laid _ _ _ _ _ (Nat.le_refl _) ?_, own_laid _ _ _ _ _ (Nat.le_succ _) ?_, ?_, (hbx.block g hgB).trans hseen, hgB, hbx.size⟩
      · exact heap_alloc2_old _ _ _
      · have := heap_alloc_new (wB.alloc (.cells #[.slice tao TN tc] 25)) (.cells #[.int .i64 (N : Int)] 3)
        rwa [World.size_alloc] at this
      · intro k h1 h2
        simp [Value.ownBlock] at h1 h2
        omega
    have HST := Lib.hid hst
    have hmk2 : (Instr.makeSlice 25 (.int .i64 (N : Int)) (.int .i64 (N : Int))).run Tryd.prog wp = .ok (.slice (some ⟨g, 0, Option.none⟩) N N) wB := hmk
    have g0 := hp3.cell (i := 0) rfl
    have g1 := hp3.cell (i := 1) rfl
    have g2 := hp3.cell (i := 2) rfl
    have hb4g : b4 < g := by rw [← hg]; exact hp3.lt
    have e1 : wB.cell? ⟨b4, 1, none⟩ = some (.slice ao N cap) := (hbB.cell (show b4 < wp.heap.size by rw [hg]; exact hb4g)).trans g1
    have e2 : wB.cell? ⟨b4, 2, none⟩ = some (.slice tao TN tc) := (hbB.cell (show b4 < wp.heap.size by rw [hg]; exact hb4g)).trans g2
    have e3 : ∀ o, (wB.alloc o).cell? ⟨b4, 1, none⟩ = some (.slice ao N cap) := fun o => (World.cell?_of_block (a := ⟨b4, 1, none⟩) (Below.heap_alloc _ _ _ (show b4 < wB.heap.size by omega))).trans e1
    obtain ⟨B, hBB⟩ : ∃ B, wB.heap.size = B := ⟨_, rfl⟩
    have HTN := Lib.hid hTN
    have HN := Lib.hid hN
    obtain ⟨TT, hTT⟩ : ∃ TT, triT N (.slice tao TN tc) top cs N = TT := ⟨_, rfl⟩
    have hTT2 : Ps.triOf fLM (csP cs).length (.slice tao TN tc) top (csP cs) = TT := by rw [← hTT, triT, List.take_of_length_le (Nat.le_of_eq hN), csP_len, hN]
    have hTL : TT.length = 2 * N + 1 := by rw [← hTT, triT_len _ _ (Nat.le_of_eq hN.symm)]
    have HX := Lib.hid (fun (j : Nat) x (hx : TT[j]? = some x) => (by have h := HTRI.out x (by rw [hTT2]; exact List.mem_of_getElem? hx); rw [csP_len, hN] at h; exact h : x.2.1.Pairwise (· < ·) ∧ (∀ n ∈ x.2.1, n < x.2.2) ∧ x.2.2 ≤ N))
    have HY := Lib.hid (fun (j : Nat) x (hx : TT[j]? = some x) => (by
      have hm := List.mem_of_getElem? hx
      rw [← hTT2, Ps.triOf] at hm
      rcases List.mem_cons.1 hm with rfl | hm
      · exact HTOP.out
      · obtain ⟨j', st, c, hj', he⟩ := Ps.pairs_mem fLM _ _ hm
        unfold csP at hj'
        rw [List.getElem?_map] at hj'
        cases hc : cs[j']? with
        | none => rw [hc] at hj'; cases hj'
        | some c' =>
          rw [hc] at hj'
          have hcc : (c'.st, c') = (st, c) := by simpa using hj'
          simp only [Prod.mk.injEq] at hcc
          obtain ⟨rfl, rfl⟩ := hcc
          rcases he with rfl | rfl
          · exact (HRD.out _ (List.mem_of_getElem? hc)).1.1
          · exact (HRD.out _ (List.mem_of_getElem? hc)).1.2 : Rd wp x.1 (x.2.1.map nv)))
    have HZ := Lib.hid (fun j (hj : j < N) => (by have h := HCNT.out j (by rw [csP_len, hN]; exact hj); rw [hTT2, csP_len, hN] at h; exact h : (Ps.seenL TT (2 * N + 1) 0).count j = 1))
    have HF := Lib.hid (fun i k j => (by have h := HFEW.out i k j; rw [hTT2, csP_len, hN] at h; exact h : (Ps.seenL TT i k).count j ≤ N))
    have HTT := Lib.hid hTT
    have HTL := Lib.hid hTL
    have HG := Lib.hid hg
    have HB := Lib.hid (HST.out B hBB)
    clear hst HST hmk hx hcell hrd htop hb1 hbp hp3 hsok htp htb hperm hrl hseen hbB hgB hTN hN hg hTT hTT2 hTL HTRI HCNT HFEW
    go_wp2
    go_loopw [8, 9, 10, 11] (fun s8 s9 s10 s11 wr => ∃ (i K : Nat), i ≤ N ∧ s10 = .int .i64 i ∧ Hid (K = 2 * i + 1) ∧ Hid (WS wp wr g B K K s8 s9 (tri8 (triT N (.slice tao TN tc) top cs i)) (tri9 (triT N (.slice tao TN tc) top cs i)) (cntL N []))) (fun s8 s9 s10 s11 _ => N - (intOf s10).toNat)
    case atStart => exact ⟨0, 1, Nat.zero_le _, rfl, Lib.hid rfl, HB⟩
    case round =>
      obtain ⟨i, K, hi, rfl, HK, HR⟩ := hrel
      clear HB
      have hb := HR.out.below
      have hKp : 0 < K := by rw [HK.out]; omega
      obtain ⟨a8, c8, rfl, _⟩ := own_pos HR.out.rows hKp
      obtain ⟨a9, c9, rfl, _⟩ := own_pos HR.out.own hKp
      have hP := HP3.out.below hb (show b4 < wp.heap.size by rw [HG.out]; exact hb4g)
      have p0 := hP.cell (i := 0) rfl
      have p1 := hP.cell (i := 1) rfl
      by_cases hlt : i < N
      · obtain ⟨c, hc⟩ : ∃ c, cs[i]? = some c := ⟨_, List.getElem?_eq_getElem (by rw [HN.out]; exact hlt)⟩
        obtain ⟨sg, rfl, hcell⟩ := HCELL.out i c hc
        have hC := fun (j : Nat) (u : Value) (hu : (stCells c)[j]? = some u) => (hb.cell (World.block_lt_of_cell? wp _ (hcell j u hu))).trans (hcell j u hu)
        have hok := HSOK.out i c.st (by unfold rowOf; rw [List.getElem?_map, hc]; rfl)
        obtain ⟨⟨hr1, hr2⟩, _⟩ := HRD.out c (List.mem_of_getElem? hc)
        have hsnoc := triT_snoc (N := N) (.slice tao TN tc) top hc
        obtain ⟨st, xl, xm⟩ := c
        obtain ⟨K0, S, T, U, n0, p0', L, M⟩ := st
        dsimp only at hr1 hr2 hok
        obtain ⟨lo, lc, rfl, _⟩ := hr1.formV
        obtain ⟨mo, mc, rfl, _⟩ := hr2.formV
        rw [List.length_map] at hC hsnoc
        obtain ⟨LL, hLL⟩ : ∃ LL, L.length = LL := ⟨_, rfl⟩
        obtain ⟨LM, hLM⟩ : ∃ LM, M.length = LM := ⟨_, rfl⟩
        rw [List.length_map, hLL, hLM] at hC
        rw [List.length_map, hLL, hLM] at hsnoc
        have HLL := Lib.hid hLL
        have HLM := Lib.hid hLM
        clear hLL hLM hcell hr1 hr2 hP hb hc
        by_cases h5 : K0 = 5
        · obtain rfl : K0 = 5 := h5
          have d0 : wr.cell? ⟨sg, i * 8, none⟩ = some (.int .i64 5) := hC 0 _ rfl
          have z1 : ((0 : Int) < (LL : Int)) = ((0 : Int) < (LL : Int)) := rfl
          have hd := hC
          have d1 : wr.cell? ⟨sg, i * 8 + 1, none⟩ = some (.string ⟨S.toArray⟩) := hC 1 _ rfl
          have d2 : wr.cell? ⟨sg, i * 8 + 2, none⟩ = some (.string ⟨T.toArray⟩) := hC 2 _ rfl
          have d3 : wr.cell? ⟨sg, i * 8 + 3, none⟩ = some (.string ⟨U.toArray⟩) := hC 3 _ rfl
          have d4 : wr.cell? ⟨sg, i * 8 + 4, none⟩ = some (.int .i64 (n0 : Int)) := hC 4 _ rfl
          have d5 : wr.cell? ⟨sg, i * 8 + 5, none⟩ = some (.int .i64 (p0' : Int)) := hC 5 _ rfl
          have d6 : wr.cell? ⟨sg, i * 8 + 6, none⟩ = some (.slice lo LL lc) := hC 6 _ rfl
          have d7 : wr.cell? ⟨sg, i * 8 + 7, none⟩ = some (.slice mo LM mc) := hC 7 _ rfl
          have W2 := Lib.hid (HR.out.later (((Below.refl wr.heap.size wr).alloc (Nat.le_refl _) (.cells #[.int .i64 5, .string ⟨S.toArray⟩, .string ⟨T.toArray⟩, .string ⟨U.toArray⟩, .int .i64 (n0 : Int), .int .i64 (p0' : Int), .slice lo LL lc, .slice mo LM mc] 37)).alloc (by simp) (.cells #[.slice lo LL lc, .slice mo LM mc] 25)))
          have hnew := heap_alloc2_new wr (.cells #[.int .i64 5, .string ⟨S.toArray⟩, .string ⟨T.toArray⟩, .string ⟨U.toArray⟩, .int .i64 (n0 : Int), .int .i64 (p0' : Int), .slice lo LL lc, .slice mo LM mc] 37) (.cells #[.slice lo LL lc, .slice mo LM mc] 25)
          have hnew2 := fun wx => heap_alloc_new wx (.cells #[.int .i64 (i : Int), .int .i64 (i : Int)] 3)
          have HS2 := Lib.hid hsnoc
          have HNW := Lib.hid hnew
          have HNW2 := Lib.hid hnew2
          clear hC hd hsnoc hnew hnew2 hok
          go_wp2_with (at_builtin; refine append_rows2 (.slice lo LL lc) (.slice mo LM mc) rfl (.tmp 102) (.tmp 107) rfl rfl W2.out.rows rfl HNW.out rfl rfl ?ca W2.out.sz ?_)
          case ca => have := HK.out; omega
          intro g2 c2 w2 ho hg hgg
          have W3 := W2.out.pushRows ho hg (hgg.imp id (fun e => e.trans (by simp)))
          have W4 := Lib.hid (W3.later ((Below.refl w2.heap.size w2).alloc (Nat.le_refl _) (.cells #[.int .i64 (i : Int), .int .i64 (i : Int)] 3)))
          clear ho hg hgg W3 W2
          go_wp2_with (at_builtin; refine append_ints2 i i rfl (.tmp 109) (.tmp 112) rfl rfl W4.out.own rfl (HNW2.out _) ?ca W4.out.sz ?_)
          case ca => have := HK.out; omega
          intro g3 c3 w3 ho3 hg3 hgg3
          have W5 := W4.out.pushOwn ho3 hg3 (hgg3.imp id (fun e => e.trans (by simp)))
          have W6 := Lib.hid (show WS wp w3 g B (K + 2) (K + 2) _ _ (tri8 (triT N (.slice tao TN tc) top cs (i + 1))) (tri9 (triT N (.slice tao TN tc) top cs (i + 1))) (cntL N []) by rw [HS2.out, tri8, tri9, List.map_append, List.map_append]; exact W5)
          clear ho3 hg3 hgg3 W5 W4
          go_wp2
          go_roundw
          case rel => exact ⟨i + 1, K + 2, by omega, by first | rfl | go_num, Lib.hid (by rw [HK.out]; omega), W6⟩
          case measure => simp [intOf]; omega
        by_cases h6 : K0 = 6
        · obtain rfl : K0 = 6 := h6
          obtain rfl : LM = 0 := HLM.out.symm.trans (congrArg List.length (hok.m5 (by show (6 : Nat) ≠ 5; decide)))
          have d0 : wr.cell? ⟨sg, i * 8, none⟩ = some (.int .i64 6) := hC 0 _ rfl
          have hd := hC
          have d1 : wr.cell? ⟨sg, i * 8 + 1, none⟩ = some (.string ⟨S.toArray⟩) := hC 1 _ rfl
          have d2 : wr.cell? ⟨sg, i * 8 + 2, none⟩ = some (.string ⟨T.toArray⟩) := hC 2 _ rfl
          have d3 : wr.cell? ⟨sg, i * 8 + 3, none⟩ = some (.string ⟨U.toArray⟩) := hC 3 _ rfl
          have d4 : wr.cell? ⟨sg, i * 8 + 4, none⟩ = some (.int .i64 (n0 : Int)) := hC 4 _ rfl
          have d5 : wr.cell? ⟨sg, i * 8 + 5, none⟩ = some (.int .i64 (p0' : Int)) := hC 5 _ rfl
          have d6 : wr.cell? ⟨sg, i * 8 + 6, none⟩ = some (.slice lo LL lc) := hC 6 _ rfl
          have d7 : wr.cell? ⟨sg, i * 8 + 7, none⟩ = some (.slice mo 0 mc) := hC 7 _ rfl
          have W2 := Lib.hid (HR.out.later (((Below.refl wr.heap.size wr).alloc (Nat.le_refl _) (.cells #[.int .i64 6, .string ⟨S.toArray⟩, .string ⟨T.toArray⟩, .string ⟨U.toArray⟩, .int .i64 (n0 : Int), .int .i64 (p0' : Int), .slice lo LL lc, .slice mo 0 mc] 37)).alloc (by simp) (.cells #[.slice lo LL lc, .slice mo 0 mc] 25)))
          have hnew := heap_alloc2_new wr (.cells #[.int .i64 6, .string ⟨S.toArray⟩, .string ⟨T.toArray⟩, .string ⟨U.toArray⟩, .int .i64 (n0 : Int), .int .i64 (p0' : Int), .slice lo LL lc, .slice mo 0 mc] 37) (.cells #[.slice lo LL lc, .slice mo 0 mc] 25)
          have hnew2 := fun wx => heap_alloc_new wx (.cells #[.int .i64 (i : Int), .int .i64 (i : Int)] 3)
          have HS2 := Lib.hid hsnoc
          have HNW := Lib.hid hnew
          have HNW2 := Lib.hid hnew2
          clear hC hd hsnoc hnew hnew2 hok
          go_wp2_with (at_builtin; refine append_rows2 (.slice lo LL lc) (.slice mo 0 mc) rfl (.tmp 102) (.tmp 107) rfl rfl W2.out.rows rfl HNW.out rfl rfl ?ca W2.out.sz ?_)
          case ca => have := HK.out; omega
          intro g2 c2 w2 ho hg hgg
          have W3 := W2.out.pushRows ho hg (hgg.imp id (fun e => e.trans (by simp)))
          have W4 := Lib.hid (W3.later ((Below.refl w2.heap.size w2).alloc (Nat.le_refl _) (.cells #[.int .i64 (i : Int), .int .i64 (i : Int)] 3)))
          clear ho hg hgg W3 W2
          go_wp2_with (at_builtin; refine append_ints2 i i rfl (.tmp 109) (.tmp 112) rfl rfl W4.out.own rfl (HNW2.out _) ?ca W4.out.sz ?_)
          case ca => have := HK.out; omega
          intro g3 c3 w3 ho3 hg3 hgg3
          have W5 := W4.out.pushOwn ho3 hg3 (hgg3.imp id (fun e => e.trans (by simp)))
          have W6 := Lib.hid (show WS wp w3 g B (K + 2) (K + 2) _ _ (tri8 (triT N (.slice tao TN tc) top cs (i + 1))) (tri9 (triT N (.slice tao TN tc) top cs (i + 1))) (cntL N []) by rw [HS2.out, tri8, tri9, List.map_append, List.map_append]; exact W5)
          clear ho3 hg3 hgg3 W5 W4
          go_wp2
          go_roundw
          case rel => exact ⟨i + 1, K + 2, by omega, by first | rfl | go_num, Lib.hid (by rw [HK.out]; omega), W6⟩
          case measure => simp [intOf]; omega
        · obtain rfl : LM = 0 := HLM.out.symm.trans (congrArg List.length (hok.m5 h5))
          obtain rfl : LL = 0 := HLL.out.symm.trans (congrArg List.length (hok.l6 h5 h6))
          have d0 : wr.cell? ⟨sg, i * 8, none⟩ = some (.int .i64 (K0 : Int)) := hC 0 _ rfl
          have hkd := hok.kd
          dsimp only at hkd h5 h6
          have q1 : ((K0 : Int) != 5) = true := by rw [bne_iff_ne]; omega
          have q2 : ((K0 : Int) == 5) = false := beq_eq_false_iff_ne.2 (by omega)
          have q3 : ((K0 : Int) = 5) = False := eq_false (by omega)
          have q4 : ((K0 : Int) != 6) = true := by rw [bne_iff_ne]; omega
          have q5 : ((K0 : Int) == 6) = false := beq_eq_false_iff_ne.2 (by omega)
          have q6 : ((K0 : Int) = 6) = False := eq_false (by omega)
          have q7 : ((K0 : Int) < 1) = False := eq_false (by omega)
          have q8 : ((17 : Int) < (K0 : Int)) = False := eq_false (by omega)
          have q9 : (K0 = 5) = False := eq_false h5
          have q10 : (K0 = 6) = False := eq_false h6
          clear h5 h6 hkd
          have hd := hC
          have d1 : wr.cell? ⟨sg, i * 8 + 1, none⟩ = some (.string ⟨S.toArray⟩) := hC 1 _ rfl
          have d2 : wr.cell? ⟨sg, i * 8 + 2, none⟩ = some (.string ⟨T.toArray⟩) := hC 2 _ rfl
          have d3 : wr.cell? ⟨sg, i * 8 + 3, none⟩ = some (.string ⟨U.toArray⟩) := hC 3 _ rfl
          have d4 : wr.cell? ⟨sg, i * 8 + 4, none⟩ = some (.int .i64 (n0 : Int)) := hC 4 _ rfl
          have d5 : wr.cell? ⟨sg, i * 8 + 5, none⟩ = some (.int .i64 (p0' : Int)) := hC 5 _ rfl
          have d6 : wr.cell? ⟨sg, i * 8 + 6, none⟩ = some (.slice lo 0 lc) := hC 6 _ rfl
          have d7 : wr.cell? ⟨sg, i * 8 + 7, none⟩ = some (.slice mo 0 mc) := hC 7 _ rfl
          have W2 := Lib.hid (HR.out.later (((Below.refl wr.heap.size wr).alloc (Nat.le_refl _) (.cells #[.int .i64 (K0 : Int), .string ⟨S.toArray⟩, .string ⟨T.toArray⟩, .string ⟨U.toArray⟩, .int .i64 (n0 : Int), .int .i64 (p0' : Int), .slice lo 0 lc, .slice mo 0 mc] 37)).alloc (by simp) (.cells #[.slice lo 0 lc, .slice mo 0 mc] 25)))
          have hnew := heap_alloc2_new wr (.cells #[.int .i64 (K0 : Int), .string ⟨S.toArray⟩, .string ⟨T.toArray⟩, .string ⟨U.toArray⟩, .int .i64 (n0 : Int), .int .i64 (p0' : Int), .slice lo 0 lc, .slice mo 0 mc] 37) (.cells #[.slice lo 0 lc, .slice mo 0 mc] 25)
          have hnew2 := fun wx => heap_alloc_new wx (.cells #[.int .i64 (i : Int), .int .i64 (i : Int)] 3)
          have HS2 := Lib.hid hsnoc
          have HNW := Lib.hid hnew
          have HNW2 := Lib.hid hnew2
          clear hC hd hsnoc hnew hnew2 hok
          go_wp2_with (at_builtin; refine append_rows2 (.slice lo 0 lc) (.slice mo 0 mc) rfl (.tmp 102) (.tmp 107) rfl rfl W2.out.rows rfl HNW.out rfl rfl ?ca W2.out.sz ?_)
          case ca => have := HK.out; omega
          intro g2 c2 w2 ho hg hgg
          have W3 := W2.out.pushRows ho hg (hgg.imp id (fun e => e.trans (by simp)))
          have W4 := Lib.hid (W3.later ((Below.refl w2.heap.size w2).alloc (Nat.le_refl _) (.cells #[.int .i64 (i : Int), .int .i64 (i : Int)] 3)))
          clear ho hg hgg W3 W2
          go_wp2_with (at_builtin; refine append_ints2 i i rfl (.tmp 109) (.tmp 112) rfl rfl W4.out.own rfl (HNW2.out _) ?ca W4.out.sz ?_)
          case ca => have := HK.out; omega
          intro g3 c3 w3 ho3 hg3 hgg3
          have W5 := W4.out.pushOwn ho3 hg3 (hgg3.imp id (fun e => e.trans (by simp)))
          have W6 := Lib.hid (show WS wp w3 g B (K + 2) (K + 2) _ _ (tri8 (triT N (.slice tao TN tc) top cs (i + 1))) (tri9 (triT N (.slice tao TN tc) top cs (i + 1))) (cntL N []) by rw [HS2.out, tri8, tri9, List.map_append, List.map_append]; exact W5)
          clear ho3 hg3 hgg3 W5 W4
          go_wp2
          go_roundw
          case rel => exact ⟨i + 1, K + 2, by omega, by first | rfl | go_num, Lib.hid (by rw [HK.out]; omega), W6⟩
          case measure => simp [intOf]; omega
      · obtain rfl : i = N := by omega
        have hW := HR.out
        rw [HTT.out, cntL_nil, ← cntL_nil] at hW
        have HW := Lib.hid (show WS wp wr g B K K _ _ (tri8 TT) (tri9 TT) (cntL i (Ps.seenL TT 0 0)) by rw [Ps.seen_none]; exact hW)
        have HKL : Hid (TT.length = K) := Lib.hid (by rw [HTL.out, HK.out])
        have hKb : K ≤ 201 := by rw [HK.out]; omega
        clear hW HR hP hb hlt hi p0
        go_wp2
        go_loopw [12, 13, 14] (fun s12 s13 s14 wx => ∃ (j : Nat), j ≤ K ∧ s12 = .int .i64 j ∧ Hid (WS wp wx g B K K (.slice (some ⟨a8, 0, none⟩) K c8) (.slice (some ⟨a9, 0, none⟩) K c9) (tri8 TT) (tri9 TT) (cntL i (Ps.seenL TT j 0)))) (fun s12 s13 s14 _ => K - (intOf s12).toNat)
        case atStart => exact ⟨0, Nat.zero_le _, rfl, HW⟩
        case round =>
          obtain ⟨j, hj, rfl, HJ⟩ := hrel
          clear HW
          by_cases hlt : j < K
          · obtain ⟨x, hx⟩ : ∃ x, TT[j]? = some x := ⟨_, List.getElem?_eq_getElem (by rw [HKL.out]; exact hlt)⟩
            have hxx := HX.out j x hx
            have hrd := HY.out j x hx
            obtain ⟨v, xs, o⟩ := x
            dsimp only at hxx hrd
            obtain ⟨hpw, hlo, hoN⟩ := hxx
            obtain ⟨vo, vc, rfl, hvc, _, hve⟩ := hrd.formV
            obtain ⟨M, hM⟩ : ∃ M, xs.length = M := ⟨_, rfl⟩
            rw [List.length_map, hM] at hx hrd hvc hve
            have HM := Lib.hid hM
            have HVE := Lib.hid hve
            have HPW := Lib.hid hpw
            have HLO := Lib.hid hlo
            have HXJ := Lib.hid hx
            have HO := Lib.hid hoN
            clear hM hve hpw hlo hx hrd hoN
            go_wp2
            go_loopw [13, 14] (fun s13 s14 wy => ∃ (k : Nat), k ≤ M ∧ s13 = .int .i64 k ∧ Hid (WS wp wy g B K K (.slice (some ⟨a8, 0, none⟩) K c8) (.slice (some ⟨a9, 0, none⟩) K c9) (tri8 TT) (tri9 TT) (cntL i (Ps.seenL TT j k)))) (fun s13 s14 _ => M - (intOf s13).toNat)
            case atStart => exact ⟨0, Nat.zero_le _, rfl, HJ⟩
            case round =>
              obtain ⟨k, hk, rfl, HQ⟩ := hrel
              clear HJ
              have r0 : wr.cell? ⟨a8, j, none⟩ = some (.slice vo M vc) := own_at HQ.out.rows (by rw [tri8, List.getElem?_map, HXJ.out]; rfl)
              by_cases hkM : k < M
              · obtain ⟨vb, vf, rfl, hcm, hel⟩ := HVE.out (by omega)
                unfold maxLen at hcm
                have r1 : wr.cell? ⟨a9, j, none⟩ = some (.int .i64 (o : Int)) := own_at HQ.out.own (by rw [tri9, List.getElem?_map, HXJ.out]; rfl)
                obtain ⟨n, hn⟩ : ∃ n, xs[k]? = some n := ⟨_, List.getElem?_eq_getElem (by rw [HM.out]; exact hkM)⟩
                have hno := HLO.out n (List.mem_of_getElem? hn)
                have hni : n < i := Nat.lt_of_lt_of_le hno HO.out
                have hE := fun (q m : Nat) (hm : xs[q]? = some m) => (by
                  have h := hel q (nv m) (by rw [List.getElem?_map, hm]; rfl)
                  exact (HQ.out.below.cell (World.block_lt_of_cell? wp _ h)).trans h : wr.cell? ⟨vb, vf + q, none⟩ = some (.int .i64 (m : Int)))
                have e0 := hE k n hn
                obtain ⟨s0, f0⟩ := HQ.out.at (cntL_at (n := i) (Ps.seenL TT j k) hni)
                obtain ⟨c, hc⟩ : ∃ c, (Ps.seenL TT j k).count n = c := ⟨_, rfl⟩
                have hcb : c ≤ i := by rw [← hc]; exact HF.out j k n
                have HST2 := HQ.out.store n (nv (c + 1))
                rw [← hc, cntL_set _ hni, ← Ps.seen_step HXJ.out hn] at HST2
                rw [hc] at HST2
                have HST3 := Lib.hid HST2
                have s1 : wr.cell? ⟨g, n, none⟩ = some (.int .i64 (c : Int)) := by rw [s0, hc]; rfl
                have t1 : ((n : Int) < 0) = False := eq_false (by omega)
                have t2 : ((o : Int) ≤ (n : Int)) = False := eq_false (by omega)
                have t3 : ((i : Int) ≤ (n : Int)) = False := eq_false (by omega)
                have nv1 : nv (c + 1) = .int .i64 ((c : Int) + 1) := rfl
                clear s0 HST2 hc hel
                rcases Nat.eq_zero_or_pos k with hk0 | hk0
                · have t5 : ((0 : Int) < (k : Int)) = False := eq_false (by omega)
                  have t6 : (0 < k) = False := eq_false (by omega)
                  clear hE hn hk0 nv1
                  go_wp2
                  go_roundw
                  case rel => exact ⟨k + 1, by omega, by first | rfl | go_num, HST3⟩
                  case measure => simp [intOf]; omega
                · obtain ⟨k', rfl⟩ : ∃ k', k = k' + 1 := ⟨k - 1, by omega⟩
                  obtain ⟨m, hm⟩ : ∃ m, xs[k']? = some m := ⟨_, List.getElem?_eq_getElem (by rw [HM.out]; omega)⟩
                  have hmn : m < n := by
                    obtain ⟨h1, rfl⟩ := List.getElem?_eq_some_iff.1 hm
                    obtain ⟨h2, rfl⟩ := List.getElem?_eq_some_iff.1 hn
                    exact List.pairwise_iff_getElem.1 HPW.out k' (k' + 1) h1 h2 (by omega)
                  have e1 := hE k' m hm
                  have t4 : ((n : Int) ≤ (m : Int)) = False := eq_false (by omega)
                  have t5 : ((0 : Int) < ((k' + 1 : Nat) : Int)) = True := eq_true (by omega)
                  clear hE hn hm hk0 nv1
                  go_wp2
                  go_roundw
                  case rel => exact ⟨k' + 1 + 1, by omega, by first | rfl | go_num, HST3⟩
                  case measure => simp [intOf]; omega
              · obtain rfl : k = M := by omega
                have HJ2 := Lib.hid (show WS wp wr g B K K _ _ (tri8 TT) (tri9 TT) (cntL i (Ps.seenL TT (j + 1) 0)) by rw [← Ps.seen_next HXJ.out]; dsimp only; rw [HM.out]; exact HQ.out)
                clear hkM hk
                go_wp2
                go_roundw
                case rel => exact ⟨j + 1, by omega, by first | rfl | go_num, HJ2⟩
                case measure => simp [intOf]; omega
          · obtain rfl : j = K := by omega
            have HW9 := Lib.hid HJ.out
            clear hlt hj HJ
            go_wp2
            go_loopw [15] (fun s15 wz => ∃ (q : Nat), q ≤ i ∧ s15 = .int .i64 q ∧ Hid (WS wp wz g B j j (.slice (some ⟨a8, 0, none⟩) j c8) (.slice (some ⟨a9, 0, none⟩) j c9) (tri8 TT) (tri9 TT) (cntL i (Ps.seenL TT j 0)))) (fun s15 _ => i - (intOf s15).toNat)
            case atStart => exact ⟨0, Nat.zero_le _, rfl, HW9⟩
            case round =>
              obtain ⟨q, hq, rfl, HQ⟩ := hrel
              by_cases hqi : q < i
              · obtain ⟨s0, _⟩ := HQ.out.at (cntL_at (n := i) (Ps.seenL TT j 0) hqi)
                rw [show (Ps.seenL TT j 0).count q = 1 by rw [HK.out]; exact HZ.out q hqi] at s0
                have s1 : wr.cell? ⟨g, q, none⟩ = some (.int .i64 1) := s0
                clear s0
                go_wp2
                go_roundw
                case rel => exact ⟨q + 1, by omega, by first | rfl | go_num, HQ⟩
                case measure => simp [intOf]; omega
              · obtain rfl : q = i := by omega
                have hP := HP3.out.below HQ.out.below (show b4 < wp.heap.size by rw [HG.out]; exact hb4g)
                have p0 := hP.cell (i := 0) rfl
                have m1 : ((1 : Int) ≤ (md : Int)) = True := eq_true (by omega)
                have m3 : ((md : Int) ≤ 3) = True := eq_true (by omega)
                have HBE := Lib.hid (HBW.out.trans (HQ.out.below.mono HBW.out.size))
                clear hP hqi hq
                go_wp2
                go_ret
                exact ⟨by first | rfl | simp, HBE.out⟩
end Go.Proofs.YtiikionoagmabaaDoor
