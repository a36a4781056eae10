/- CheckNames walked (layer 17). Laid by wip/tools/gen_ckln.py. -/
import Derived.Test.YthlbociimbpgkaaDoorCF
import Derived.Test.YthlbociimbpgkaaDoorRefNm
import Derived.Test.YthlbociimbpgkaaDoorLR
import Derived.Test.YthlbociimbpgkaaDoorOwnEmpty
import Derived.Deep.CutRange
namespace Go.Proofs.YthlbociimbpgkaaDoor
open Go.RowKit
open Ck (nms kLabel kSet)

theorem nms_next {q : Nat → Bool} {row : List Ps.St} {k : Nat} {st : Ps.St} (h : row[k]? = some st) : nms q (row.take (k + 1)) = nms q (row.take k) ++ (if q st.kind = true then [st.s] else []) := by
  unfold nms
  rw [List.take_add_one, h, List.filter_append, List.map_append]
  by_cases hq : q st.kind = true
  · rw [if_pos hq]; simp [hq]
  · rw [if_neg hq]; simp [hq]
theorem nms_few (q : Nat → Bool) (row : List Ps.St) (k : Nat) : (nms q (row.take k)).length ≤ k := by
  unfold nms
  rw [List.length_map]
  exact Nat.le_trans (List.length_filter_le _ _) (List.length_take_le _ _)
theorem any_eq (l : List (List UInt8)) (x : List UInt8) : l.contains x = l.any (fun y => y == x) := by
  rw [List.contains_eq_any_beq]
  congr 1
  funext y
  rw [Bool.eq_iff_iff, beq_iff_eq, beq_iff_eq]
  exact ⟨Eq.symm, Eq.symm⟩
/-- 'append(xs, x)' on a row of texts of the call's own: where the new one lies is told. -/
theorem append_strL {ops : Array Oper} {rest : List Oper} {o : Oper} {a : Act} {Q : Exit → Act → World → Prop} {w : World} {B n : Nat} {v : Value} {xs : List Value}
    (hgd : o.guard = none) (s x : Operand) (ho : o.op = .call { callee := .builtin .append, args := #[s, x], argTypes := #[31, 31] })
    (hs : a.eval s = v) (hown : w.ownsRow B 9 1 v n xs) (c : Value) (h1 : c.oneCell' = true) (b : Nat) (hx : a.eval x = .slice (some ⟨b, 0, none⟩) 1 1) (hc : w.cell? ⟨b, 0, none⟩ = some c) (hn : n ≤ 1048576) (hB : B ≤ w.heap.size)
    (h : ∀ g cap w', w'.ownsRow B 9 1 (.slice (some ⟨g, 0, none⟩) (n + 1) cap) (n + 1) (xs ++ [c]) → w.grownBy w' v.ownBlock → (v.ownBlock = some g ∨ g = w.heap.size) → wpList Tryd.prog ops Q rest (a.put o.dst (.slice (some ⟨g, 0, none⟩) (n + 1) cap)) w') :
    wpList Tryd.prog ops Q (o :: rest) a w := by
  obtain ⟨i0, hi, hz0, hz1, hz2⟩ := info_parts info_str
  refine wpList_append_lies w hgd s x 31 ho B 9 i0 (.string ByteArray.empty) 1 16 Tryd.underlying31 hi hz0 hz1 hz2 rfl (by decide) v n xs hs hown ⟨b, 0, none⟩ 1 1 [c] hx rfl (fun j u hj => ?_) (fun u hu => ?_) (by decide) (by unfold maxLen; omega) (by omega) hB _ rfl (fun g cap w' h2 h3 h4 _ => h g cap w' h2 h3 h4)
  · match j, hj with
    | 0, hj =>
      simp only [List.getElem?_cons_zero, Option.some.injEq] at hj
      rw [Addr.add_lit, ← hj]
      exact hc
    | j + 1, hj => simp at hj
  · simp only [List.mem_singleton] at hu
    rw [hu]
    exact h1
theorem within_any (v : Value) (xs : List (List UInt8)) (x : List UInt8) (w : World) (h : Rd w v (xs.map sv)) (hl : xs.length ≤ 1048576) :
    Calls Tryd.prog 10 #[v, .string ⟨x.toArray⟩] w fun e w' => e = .returned (.bool (xs.contains x)) ∧ w = w' := by
  obtain ⟨ao, cap, rfl, hc1, _, hc3⟩ := h.formV
  rw [List.length_map] at hc1 hc3 ⊢
  obtain ⟨N, hN⟩ : ∃ N, N = xs.length := ⟨_, rfl⟩
  rw [← hN] at hl hc1 hc3 ⊢
  rw [any_eq]
  have HN := Lib.hid hN
  have HC := Lib.hid hc3
  clear hN hc3 h
  go_enter Tryd.func10, Tryd.ntmps10
  go_wp2
  go_loopw [5] (fun i wr => ∃ k : Nat, k ≤ N ∧ i = .int .i64 k ∧ Hid ((xs.take k).any (fun y => y == x) = false) ∧ wr = w) (fun i _ => N - (intOf i).toNat)
  case atStart => exact ⟨0, Nat.zero_le _, rfl, rfl, rfl⟩
  case round =>
    obtain ⟨k, hk, rfl, HE, rfl⟩ := hrel
    by_cases hlt : k < N
    · obtain ⟨b, o, rfl, hm, hc⟩ := HC.out (by omega)
      have hcx := hc k _ (svs_at (by rw [← HN.out]; exact hlt))
      unfold maxLen at hm
      clear hc
      obtain ⟨y, hy⟩ : ∃ y, y = xs.getD k [] := ⟨_, rfl⟩
      rw [← hy, sv] at hcx
      have HY := Lib.hid hy
      clear hy
      cases hxy : y == x with
      | true =>
        have HB := Lib.hid hxy
        go_wp2
        go_ret
        refine ⟨ret_b ?_, rfl⟩
        rw [any_hit (k := k) (by rw [← HN.out]; exact hlt) (by rw [← HY.out]; exact HB.out)]
      | false =>
        have HB := Lib.hid hxy
        go_wp2
        go_roundw
        case rel => exact ⟨k + 1, by omega, by go_num, any_take_more HE.out (by rw [← HN.out]; exact hlt) (by rw [← HY.out]; exact HB.out), trivial⟩
        case measure => simp [intOf]; omega
    · have HF := Lib.hid (any_take_all HE.out (by have := HN.out; omega))
      go_wp2
      go_ret
      refine ⟨ret_b ?_, rfl⟩
      rw [HF.out]
/-- Two rows of texts of the call's own, side by side. -/
structure L2 (B : Nat) (wr : World) (g1 n1 c1 : Nat) (ls : List (List UInt8)) (g2 n2 c2 : Nat) (ss : List (List UInt8)) : Prop where
  l : wr.ownsRow B 9 1 (.slice (some ⟨g1, 0, none⟩) n1 c1) n1 (ls.map sv)
  s : wr.ownsRow B 9 1 (.slice (some ⟨g2, 0, none⟩) n2 c2) n2 (ss.map sv)
  ne : g1 ≠ g2
  nl : n1 = ls.length
  ns : n2 = ss.length
theorem L2.below {B : Nat} {wr w' : World} {g1 n1 c1 : Nat} {ls : List (List UInt8)} {g2 n2 c2 : Nat} {ss : List (List UInt8)} (h : L2 B wr g1 n1 c1 ls g2 n2 c2 ss) (hb : Below wr.heap.size wr w') : L2 B w' g1 n1 c1 ls g2 n2 c2 ss :=
  ⟨own_below h.l hb, own_below h.s hb, h.ne, h.nl, h.ns⟩
theorem L2.pushL {B : Nat} {wr w' : World} {g1 n1 c1 : Nat} {ls : List (List UInt8)} {g2 n2 c2 : Nat} {ss : List (List UInt8)} {g c : Nat} {x : List UInt8} (h : L2 B wr g1 n1 c1 ls g2 n2 c2 ss) (ho : w'.ownsRow B 9 1 (.slice (some ⟨g, 0, none⟩) (n1 + 1) c) (n1 + 1) (ls.map sv ++ [sv x])) (hg : wr.grownBy w' (some g1)) (hgg : (some g1 : Option Nat) = some g ∨ g = wr.heap.size) : L2 B w' g (n1 + 1) c (ls ++ [x]) g2 n2 c2 ss := by
  have h2 := (h.s.lt g2 rfl).2
  have hne : g ≠ g2 := by
    rcases hgg with e | e
    · have e2 : g1 = g := Option.some.inj e
      rw [← e2]; exact h.ne
    · omega
  exact ⟨by rw [List.map_append]; exact ho, h.s.kept hg (.inr (by simp [Value.ownBlock]; exact fun e => h.ne e.symm)), hne, by rw [List.length_append, ← h.nl]; rfl, h.ns⟩
theorem L2.pushS {B : Nat} {wr w' : World} {g1 n1 c1 : Nat} {ls : List (List UInt8)} {g2 n2 c2 : Nat} {ss : List (List UInt8)} {g c : Nat} {x : List UInt8} (h : L2 B wr g1 n1 c1 ls g2 n2 c2 ss) (ho : w'.ownsRow B 9 1 (.slice (some ⟨g, 0, none⟩) (n2 + 1) c) (n2 + 1) (ss.map sv ++ [sv x])) (hg : wr.grownBy w' (some g2)) (hgg : (some g2 : Option Nat) = some g ∨ g = wr.heap.size) : L2 B w' g1 n1 c1 ls g (n2 + 1) c (ss ++ [x]) := by
  have h2 := (h.l.lt g1 rfl).2
  have hne : g1 ≠ g := by
    rcases hgg with e | e
    · have e2 : g2 = g := Option.some.inj e
      rw [← e2]; exact h.ne
    · omega
  exact ⟨h.l.kept hg (.inr (by simp [Value.ownBlock]; exact h.ne)), by rw [List.map_append]; exact ho, hne, h.nl, by rw [List.length_append, ← h.ns]; rfl⟩

set_option maxRecDepth 20000 in
set_option maxHeartbeats 16000000 in
theorem lawNamesC (src : ByteArray) (hs : src.size ≤ maxLen) (w : World) (hS : SHP w) :
    Calls Tryd.prog 3 #[.string src] w fun e w' => e = .returned (.bool true) ∧ Below w.heap.size w w' := by
  have SW := shown_any w hS
  have SH := fun wx => short_any src hs wx
  obtain ⟨l, hl⟩ : ∃ l, src.data.toList.take 2100 = l := ⟨_, rfl⟩
  have hll : l.length ≤ 1048576 := by rw [← hl]; simp; omega
  rw [hl] at SH
  have PA := Lib.hid (fun wx hx => source_any l hll wx hx)
  obtain ⟨md, row, top, p, c, hr100, hpc, hout⟩ := source_out l
  have HPC := Lib.hid hpc
  have HOUT := Lib.hid hout
  have HS := Lib.hid hS
  clear hS hs hl hll hpc hout
  go_enter Tryd.func3, Tryd.ntmps3
  go_wp2_with fail
  refine SW.mono ?_
  rintro e wa ⟨rfl, hba⟩
  have HBA := Lib.hid hba
  have HSA := Lib.hid (HS.out.below hba)
  clear hba SW HS
  go_wp2_with fail
  refine (SH _).mono ?_
  rintro e wb ⟨rfl, hw⟩
  subst hw
  clear SH
  go_wp2_with fail
  refine (PA.out wa HSA.out).mono ?_
  rintro e w1 hP
  obtain ⟨a1, k1, u1, d1, hb1, rfl, hpr⟩ := HOUT.out _ _ _ hP
  have HB1 := Lib.hid (HBA.out.trans (hb1.mono HBA.out.size))
  clear hP hb1
  rcases HPC.out with ⟨rfl, hsrc, rfl⟩ | ⟨hc, _, rfl, rfl, rfl⟩
  · obtain ⟨hall, hprog⟩ := Ck.source_ok hsrc
    have hneat := Ps.all_neat hall
    have HW := Lib.hid (fun j s hj => Ck.wrong_zero (Ck.prog_ok hprog j s hj))
    obtain ⟨N, hN⟩ : ∃ N, row.length = N := ⟨_, rfl⟩
    have hN1 : N ≤ 100 := by rw [← hN]; exact hr100
    obtain ⟨tn, htn⟩ : ∃ tn, top.length = tn := ⟨_, rfl⟩
    rw [hN, htn] at hpr ⊢
    obtain ⟨w2, hw2⟩ : ∃ x, w1.alloc (.cells #[.int .i64 (md : Int), .slice a1 N k1, .slice u1 tn d1] 26) = x := ⟨_, rfl⟩
    have hb2 : Below w1.heap.size w1 w2 := by rw [← hw2]; exact (Below.refl _ _).alloc (Nat.le_refl _) _
    obtain ⟨q, hq⟩ : ∃ q, w1.heap.size = q := ⟨_, rfl⟩
    have hz : H3 w2 q [.int .i64 (md : Int), .slice a1 N k1, .slice u1 tn d1] := by rw [← hq, ← hw2]; exact heap_alloc_new _ _
    have HSR := Lib.hid ((hpr.below hb2).sr)
    have HB2 := Lib.hid (HB1.out.trans (hb2.mono HB1.out.size))
    have HZ := Lib.hid hz
    have HQ2 := Lib.hid (Nat.le_trans HB1.out.size hb2.size)
    have HNE := Lib.hid hneat
    have HN := Lib.hid hN
    have HW2 := Lib.hid hw2
    have HQ := Lib.hid hq
    have hwo : L2 w2.heap.size ((w2.alloc (.cells #[] 9)).alloc (.cells #[] 9)) w2.heap.size 0 0 [] (w2.heap.size + 1) 0 0 [] := by
      have o1 := own_below (own_empty w2 w2.heap.size (Nat.le_refl _)) ((Below.refl _ _).alloc (Nat.le_refl _) (.cells #[] 9))
      have o2 := own_empty (w2.alloc (.cells #[] 9)) w2.heap.size (by simp)
      rw [World.size_alloc] at o2
      exact ⟨o1, o2, by omega, rfl, rfl⟩
    have hb4 : Below w2.heap.size w2 ((w2.alloc (.cells #[] 9)).alloc (.cells #[] 9)) := ((Below.refl _ _).alloc (Nat.le_refl _) _).alloc (by simp) _
    have HWO := Lib.hid hwo
    have HB4 := Lib.hid hb4
    clear hall hprog hneat hN htn hpr hw2 hb2 hq hz hr100 hsrc hwo hb4
    go_upto_region 3 with fail
    rw [HW2.out, HQ.out]
    have g1 := HZ.out.cell (i := 1) rfl
    go_wp2
    clear g1
    go_loopw [7, 8, 9] (fun s7 s8 i wr => ∃ k n1 ga ca n2 gb cb : Nat, k ≤ N ∧ n1 ≤ k ∧ n2 ≤ k ∧ s7 = .slice (some ⟨ga, 0, none⟩) n1 ca ∧ s8 = .slice (some ⟨gb, 0, none⟩) n2 cb ∧ i = .int .i64 k ∧ Hid (Below w2.heap.size w2 wr) ∧ Hid (L2 w2.heap.size wr ga n1 ca (nms kLabel (row.take k)) gb n2 cb (nms kSet (row.take k)))) (fun _ _ i _ => N - (intOf i).toNat)
    case atStart => exact ⟨0, 0, _, _, 0, _, _, Nat.zero_le _, Nat.le_refl _, Nat.le_refl _, rfl, rfl, rfl, HB4.out, HWO.out⟩
    case round =>
      obtain ⟨k, n1, ga, ca, n2, gb, cb, hk, hn1k, hn2k, rfl, rfl, rfl, HBR, HL2⟩ := hrel
      have hzr := HZ.out.below HBR.out HZ.out.lt
      have g0 := hzr.cell (i := 0) rfl
      have g1 := hzr.cell (i := 1) rfl
      clear hzr
      by_cases hlt : k < N
      · obtain ⟨st, hst⟩ : ∃ st, row[k]? = some st := ⟨_, List.getElem?_eq_getElem (by rw [HN.out]; exact hlt)⟩
        obtain ⟨g, lo, lc, mo, mc, rfl, _, _, c8⟩ := (HSR.out.below HBR.out).at8 hst
        have HX := Lib.hid (HW.out k st hst)
        have NL := Lib.hid (nms_next (q := kLabel) hst)
        have NS := Lib.hid (nms_next (q := kSet) hst)
        obtain ⟨_, _, _, hx4, _, _⟩ := HX.out
        obtain ⟨K, S, TX, UX, n0, p0, L, M⟩ := st
        obtain ⟨LL, hLL⟩ : ∃ x, L.length = x := ⟨_, rfl⟩
        obtain ⟨LM, hLM⟩ : ∃ x, M.length = x := ⟨_, rfl⟩
        have d0 : wr.cell? ⟨g, k * 8, none⟩ = some (.int .i64 (K : Int)) := c8.c0
        have d1 : wr.cell? ⟨g, k * 8 + 1, none⟩ = some (.string ⟨S.toArray⟩) := c8.c1
        have d2 : wr.cell? ⟨g, k * 8 + 2, none⟩ = some (.string ⟨TX.toArray⟩) := c8.c2
        have d3 : wr.cell? ⟨g, k * 8 + 3, none⟩ = some (.string ⟨UX.toArray⟩) := c8.c3
        have d4 : wr.cell? ⟨g, k * 8 + 4, none⟩ = some (.int .i64 (n0 : Int)) := c8.c4
        have d5 : wr.cell? ⟨g, k * 8 + 5, none⟩ = some (.int .i64 (p0 : Int)) := c8.c5
        have d6 : wr.cell? ⟨g, k * 8 + 6, none⟩ = some (.slice lo LL lc) := by rw [← hLL]; exact c8.c6
        have d7 : wr.cell? ⟨g, k * 8 + 7, none⟩ = some (.slice mo LM mc) := by rw [← hLM]; exact c8.c7
        obtain ⟨V, hV⟩ : ∃ V, wr.alloc (.cells #[.int .i64 (K : Int), .string ⟨S.toArray⟩, .string ⟨TX.toArray⟩, .string ⟨UX.toArray⟩, .int .i64 (n0 : Int), .int .i64 (p0 : Int), .slice lo LL lc, .slice mo LM mc] 33) = V := ⟨_, rfl⟩
        have hbV : Below wr.heap.size wr V := by rw [← hV]; exact (Below.refl _ _).alloc (Nat.le_refl _) _
        obtain ⟨b, hb⟩ : ∃ b, wr.heap.size = b := ⟨_, rfl⟩
        have hcb : V.heap[b]? = some (.cells #[.int .i64 (K : Int), .string ⟨S.toArray⟩, .string ⟨TX.toArray⟩, .string ⟨UX.toArray⟩, .int .i64 (n0 : Int), .int .i64 (p0 : Int), .slice lo LL lc, .slice mo LM mc] 33 (0, 0)) := by rw [← hb, ← hV]; exact heap_alloc_new _ _
        have HV := Lib.hid hV
        have HBB := Lib.hid hb
        have HCB := Lib.hid hcb
        have hbs : b < V.heap.size := (Array.getElem?_eq_some_iff.1 hcb).1
        have hL2V := HL2.out.below hbV
        have HBV := Lib.hid (HBR.out.trans (hbV.mono HBR.out.size))
        have HSV := Lib.hid (Nat.le_trans HBR.out.size hbV.size)
        have HL2V := Lib.hid hL2V
        have hgab : ga ≠ b ∧ gb ≠ b := by
          have h1 := (HL2.out.l.lt ga rfl).2
          have h2 := (HL2.out.s.lt gb rfl).2
          omega
        have HGB := Lib.hid hgab
        have HX4 := Lib.hid hx4
        dsimp only at HX4 NL NS
        clear hst hLL hLM c8 hcb hbV hV hb hL2V hgab HX hx4
        go_upto_region 11 with fail
        rw [HV.out, HBB.out]
        clear d0 d1 d2 d3 d4 d5 d6 d7 g0 g1 HV HBB
        have s0 : V.cell? ⟨b, 0, none⟩ = some (.int .i64 (K : Int)) := cell_of_row _ _ _ _ _ _ HCB.out
        have s1 : V.cell? ⟨b, 1, none⟩ = some (.string ⟨S.toArray⟩) := cell_of_row _ _ _ _ _ _ HCB.out
        have s2 : V.cell? ⟨b, 2, none⟩ = some (.string ⟨TX.toArray⟩) := cell_of_row _ _ _ _ _ _ HCB.out
        by_cases hother : K ≠ 13 ∧ K ≠ 1 ∧ K ≠ 9 ∧ K ≠ 10
        · have e13a : ((K : Int) == 13) = false := beq_eq_false_iff_ne.2 (by omega)
          have e13b : ((K : Int) = 13) = False := eq_false (by omega)
          have e13d : (K = 13) = False := eq_false (by omega)
          have e1a : ((K : Int) == 1) = false := beq_eq_false_iff_ne.2 (by omega)
          have e1b : ((K : Int) = 1) = False := eq_false (by omega)
          have e1d : (K = 1) = False := eq_false (by omega)
          have e9a : ((K : Int) == 9) = false := beq_eq_false_iff_ne.2 (by omega)
          have e9b : ((K : Int) = 9) = False := eq_false (by omega)
          have e9d : (K = 9) = False := eq_false (by omega)
          have e10a : ((K : Int) == 10) = false := beq_eq_false_iff_ne.2 (by omega)
          have e10b : ((K : Int) = 10) = False := eq_false (by omega)
          have e10d : (K = 10) = False := eq_false (by omega)
          have HE := Lib.hid (show nms kLabel (row.take (k + 1)) = nms kLabel (row.take k) by rw [NL.out, if_neg (by simp [kLabel, e13d]), List.append_nil])
          have HE2 := Lib.hid (show nms kSet (row.take (k + 1)) = nms kSet (row.take k) by rw [NS.out, if_neg (by simp [kSet, e1d, e9d, e10d]), List.append_nil])
          clear hother
          go_wp2
          go_roundw
          case rel => exact ⟨k + 1, n1, ga, ca, n2, gb, cb, by omega, by omega, by omega, rfl, rfl, by go_num, HBV.out, by rw [HE.out, HE2.out]; exact HL2V.out⟩
          case measure => simp [intOf]; omega
        · have hw : K = 13 ∨ K = 1 ∨ K = 9 ∨ K = 10 := by omega
          clear hother
          rcases hw with rfl | rfl | rfl | rfl
          · replace s0 : V.cell? ⟨b, 0, none⟩ = some (.int .i64 13) := s0
            have hno := HX4.out rfl
            rw [← Ck.nms_labels] at hno
            have WT : Calls Tryd.prog 10 #[.slice (some ⟨ga, 0, none⟩) n1 ca, .string ⟨S.toArray⟩] V fun e w' => e = .returned (.bool false) ∧ V = w' := by
              have := within_any (.slice (some ⟨ga, 0, none⟩) n1 ca) (nms kLabel (row.take k)) S V (Rd.of_own HL2V.out.l) (by have := nms_few kLabel row k; omega)
              rwa [hno] at this
            clear hno
            go_wp2_with fail
            refine WT.mono ?_
            rintro e w3 ⟨rfl, hw⟩
            subst hw
            clear WT
            have HCC : Hid ((V.alloc (.cells #[.string ⟨S.toArray⟩] 9)).cell? ⟨V.heap.size, 0, none⟩ = some (.string ⟨S.toArray⟩)) := Lib.hid (cell_of_row _ _ _ _ _ _ (heap_alloc_new V _))
            have hba2 : Below V.heap.size V (V.alloc (.cells #[.string ⟨S.toArray⟩] 9)) := (Below.refl _ _).alloc (Nat.le_refl _) _
            have H2 := Lib.hid (HL2V.out.below hba2)
            have HCBA := Lib.hid ((hba2.block b hbs).trans HCB.out)
            have HBVA := Lib.hid (HBV.out.trans (hba2.mono HSV.out))
            clear hba2
            go_wp2_with (at_builtin; refine append_strL rfl (.tmp 64) (.tmp 67) rfl rfl H2.out.l (.string ⟨S.toArray⟩) rfl V.heap.size rfl HCC.out ?ca ?cb ?_)
            case ca => omega
            case cb => have := HSV.out; simp; omega
            intro g3 c3 w4 ho hg hgg
            have H3' := Lib.hid (H2.out.pushL ho hg (hgg.imp id (fun e => e.trans (by simp))))
            have HB5 := Lib.hid (HBVA.out.grown hg (by have := HSV.out; simp; omega) (fun k hk => (Option.some.inj hk : ga = k) ▸ (H2.out.l.lt ga rfl).1))
            have hcb4 := (hg.block b (by simp; omega) (by simp [Value.ownBlock]; exact fun e => HGB.out.1 e.symm)).trans HCBA.out
            have r0 : w4.cell? ⟨b, 0, none⟩ = some (.int .i64 13) := cell_of_row _ _ _ _ _ _ hcb4
            have HE := Lib.hid (show nms kLabel (row.take (k + 1)) = nms kLabel (row.take k) ++ [S] by rw [NL.out]; rfl)
            have HE2 := Lib.hid (show nms kSet (row.take (k + 1)) = nms kSet (row.take k) by rw [NS.out, if_neg (by decide), List.append_nil])
            clear ho hg hgg hcb4 H2 HBVA HCBA
            go_wp2
            go_roundw
            case rel => exact ⟨k + 1, n1 + 1, g3, c3, n2, gb, cb, by omega, by omega, by omega, rfl, rfl, by go_num, HB5.out, by rw [HE.out, HE2.out]; exact H3'.out⟩
            case measure => simp [intOf]; omega
          · replace s0 : V.cell? ⟨b, 0, none⟩ = some (.int .i64 1) := s0
            have HCC : Hid ((V.alloc (.cells #[.string ⟨S.toArray⟩] 9)).cell? ⟨V.heap.size, 0, none⟩ = some (.string ⟨S.toArray⟩)) := Lib.hid (cell_of_row _ _ _ _ _ _ (heap_alloc_new V _))
            have hba2 : Below V.heap.size V (V.alloc (.cells #[.string ⟨S.toArray⟩] 9)) := (Below.refl _ _).alloc (Nat.le_refl _) _
            have H2 := Lib.hid (HL2V.out.below hba2)
            have HBVA := Lib.hid (HBV.out.trans (hba2.mono HSV.out))
            clear hba2
            go_wp2_with (at_builtin; refine append_strL rfl (.tmp 82) (.tmp 85) rfl rfl H2.out.s (.string ⟨S.toArray⟩) rfl V.heap.size rfl HCC.out ?ca ?cb ?_)
            case ca => omega
            case cb => have := HSV.out; simp; omega
            intro g3 c3 w4 ho hg hgg
            have H3' := Lib.hid (H2.out.pushS ho hg (hgg.imp id (fun e => e.trans (by simp))))
            have HB5 := Lib.hid (HBVA.out.grown hg (by have := HSV.out; simp; omega) (fun k hk => (Option.some.inj hk : gb = k) ▸ (H2.out.s.lt gb rfl).1))
            have HE := Lib.hid (show nms kLabel (row.take (k + 1)) = nms kLabel (row.take k) by rw [NL.out, if_neg (by decide), List.append_nil])
            have HE2 := Lib.hid (show nms kSet (row.take (k + 1)) = nms kSet (row.take k) ++ [S] by rw [NS.out]; rfl)
            clear ho hg hgg H2 HBVA
            go_wp2
            go_roundw
            case rel => exact ⟨k + 1, n1, ga, ca, n2 + 1, g3, c3, by omega, by omega, by omega, rfl, rfl, by go_num, HB5.out, by rw [HE.out, HE2.out]; exact H3'.out⟩
            case measure => simp [intOf]; omega
          · replace s0 : V.cell? ⟨b, 0, none⟩ = some (.int .i64 9) := s0
            have HCC : Hid ((V.alloc (.cells #[.string ⟨S.toArray⟩] 9)).cell? ⟨V.heap.size, 0, none⟩ = some (.string ⟨S.toArray⟩)) := Lib.hid (cell_of_row _ _ _ _ _ _ (heap_alloc_new V _))
            have hba2 : Below V.heap.size V (V.alloc (.cells #[.string ⟨S.toArray⟩] 9)) := (Below.refl _ _).alloc (Nat.le_refl _) _
            have H2 := Lib.hid (HL2V.out.below hba2)
            have HBVA := Lib.hid (HBV.out.trans (hba2.mono HSV.out))
            clear hba2
            go_wp2_with (at_builtin; refine append_strL rfl (.tmp 82) (.tmp 85) rfl rfl H2.out.s (.string ⟨S.toArray⟩) rfl V.heap.size rfl HCC.out ?ca ?cb ?_)
            case ca => omega
            case cb => have := HSV.out; simp; omega
            intro g3 c3 w4 ho hg hgg
            have H3' := Lib.hid (H2.out.pushS ho hg (hgg.imp id (fun e => e.trans (by simp))))
            have HB5 := Lib.hid (HBVA.out.grown hg (by have := HSV.out; simp; omega) (fun k hk => (Option.some.inj hk : gb = k) ▸ (H2.out.s.lt gb rfl).1))
            have HE := Lib.hid (show nms kLabel (row.take (k + 1)) = nms kLabel (row.take k) by rw [NL.out, if_neg (by decide), List.append_nil])
            have HE2 := Lib.hid (show nms kSet (row.take (k + 1)) = nms kSet (row.take k) ++ [S] by rw [NS.out]; rfl)
            clear ho hg hgg H2 HBVA
            go_wp2
            go_roundw
            case rel => exact ⟨k + 1, n1, ga, ca, n2 + 1, g3, c3, by omega, by omega, by omega, rfl, rfl, by go_num, HB5.out, by rw [HE.out, HE2.out]; exact H3'.out⟩
            case measure => simp [intOf]; omega
          · replace s0 : V.cell? ⟨b, 0, none⟩ = some (.int .i64 10) := s0
            have HCC : Hid ((V.alloc (.cells #[.string ⟨S.toArray⟩] 9)).cell? ⟨V.heap.size, 0, none⟩ = some (.string ⟨S.toArray⟩)) := Lib.hid (cell_of_row _ _ _ _ _ _ (heap_alloc_new V _))
            have hba2 : Below V.heap.size V (V.alloc (.cells #[.string ⟨S.toArray⟩] 9)) := (Below.refl _ _).alloc (Nat.le_refl _) _
            have H2 := Lib.hid (HL2V.out.below hba2)
            have HBVA := Lib.hid (HBV.out.trans (hba2.mono HSV.out))
            clear hba2
            go_wp2_with (at_builtin; refine append_strL rfl (.tmp 82) (.tmp 85) rfl rfl H2.out.s (.string ⟨S.toArray⟩) rfl V.heap.size rfl HCC.out ?ca ?cb ?_)
            case ca => omega
            case cb => have := HSV.out; simp; omega
            intro g3 c3 w4 ho hg hgg
            have H3' := Lib.hid (H2.out.pushS ho hg (hgg.imp id (fun e => e.trans (by simp))))
            have HB5 := Lib.hid (HBVA.out.grown hg (by have := HSV.out; simp; omega) (fun k hk => (Option.some.inj hk : gb = k) ▸ (H2.out.s.lt gb rfl).1))
            have HE := Lib.hid (show nms kLabel (row.take (k + 1)) = nms kLabel (row.take k) by rw [NL.out, if_neg (by decide), List.append_nil])
            have HE2 := Lib.hid (show nms kSet (row.take (k + 1)) = nms kSet (row.take k) ++ [S] by rw [NS.out]; rfl)
            clear ho hg hgg H2 HBVA
            go_wp2
            go_roundw
            case rel => exact ⟨k + 1, n1, ga, ca, n2 + 1, g3, c3, by omega, by omega, by omega, rfl, rfl, by go_num, HB5.out, by rw [HE.out, HE2.out]; exact H3'.out⟩
            case measure => simp [intOf]; omega
      · obtain rfl : k = N := by omega
        have htk : row.take k = row := List.take_of_length_le (by rw [HN.out]; exact Nat.le_refl _)
        have hrl : Rd wr (.slice (some ⟨ga, 0, none⟩) n1 ca) ((Ck.labels row).map sv) := by
          have := Rd.of_own HL2.out.l
          rwa [htk] at this
        have hrs : Rd wr (.slice (some ⟨gb, 0, none⟩) n2 cb) ((Ck.sets row).map sv) := by
          have := Rd.of_own HL2.out.s
          rwa [htk] at this
        have HRL := Lib.hid hrl
        have HRS := Lib.hid hrs
        have HL1 := Lib.hid (show (Ck.labels row).length ≤ 1048576 by have := nms_few kLabel row k; rw [htk] at this; have e : (nms kLabel row).length = (Ck.labels row).length := rfl; omega)
        have HL3 := Lib.hid (show (Ck.sets row).length ≤ 1048576 by have := nms_few kSet row k; rw [htk] at this; have e : (nms kSet row).length = (Ck.sets row).length := rfl; omega)
        clear htk hrl hrs HL2
        obtain ⟨w9, hw9⟩ : ∃ x, x = wr := ⟨_, rfl⟩
        subst hw9
        go_wp2
        go_loopw [12] (fun i wr => ∃ j : Nat, j ≤ k ∧ i = .int .i64 j ∧ Hid (Below w9.heap.size w9 wr)) (fun i _ => k - (intOf i).toNat)
        case atStart => exact ⟨0, Nat.zero_le _, rfl, Below.refl _ _⟩
        case round =>
          obtain ⟨j, hj, rfl, HBQ⟩ := hrel
          have HBX := Lib.hid (HBR.out.trans (HBQ.out.mono HBR.out.size))
          have hzq := HZ.out.below HBX.out HZ.out.lt
          have g0 := hzq.cell (i := 0) rfl
          have g1 := hzq.cell (i := 1) rfl
          clear hzq
          by_cases hlt2 : j < k
          · obtain ⟨st, hst⟩ : ∃ st, row[j]? = some st := ⟨_, List.getElem?_eq_getElem (by rw [HN.out]; exact hlt2)⟩
            obtain ⟨g, lo, lc, mo, mc, rfl, _, _, c8⟩ := (HSR.out.below HBX.out).at8 hst
            have HX := Lib.hid (HW.out j st hst)
            have hsm := HNE.out.sm st (List.mem_of_getElem? hst)
            unfold Ps.Sm at hsm
            obtain ⟨K, S, TX, UX, n0, p0, L, M⟩ := st
            obtain ⟨LL, hLL⟩ : ∃ x, L.length = x := ⟨_, rfl⟩
            obtain ⟨LM, hLM⟩ : ∃ x, M.length = x := ⟨_, rfl⟩
            have d0 : wr.cell? ⟨g, j * 8, none⟩ = some (.int .i64 (K : Int)) := c8.c0
            have d1 : wr.cell? ⟨g, j * 8 + 1, none⟩ = some (.string ⟨S.toArray⟩) := c8.c1
            have d2 : wr.cell? ⟨g, j * 8 + 2, none⟩ = some (.string ⟨TX.toArray⟩) := c8.c2
            have d3 : wr.cell? ⟨g, j * 8 + 3, none⟩ = some (.string ⟨UX.toArray⟩) := c8.c3
            have d4 : wr.cell? ⟨g, j * 8 + 4, none⟩ = some (.int .i64 (n0 : Int)) := c8.c4
            have d5 : wr.cell? ⟨g, j * 8 + 5, none⟩ = some (.int .i64 (p0 : Int)) := c8.c5
            have d6 : wr.cell? ⟨g, j * 8 + 6, none⟩ = some (.slice lo LL lc) := by rw [← hLL]; exact c8.c6
            have d7 : wr.cell? ⟨g, j * 8 + 7, none⟩ = some (.slice mo LM mc) := by rw [← hLM]; exact c8.c7
            obtain ⟨V, hV⟩ : ∃ V, wr.alloc (.cells #[.int .i64 (K : Int), .string ⟨S.toArray⟩, .string ⟨TX.toArray⟩, .string ⟨UX.toArray⟩, .int .i64 (n0 : Int), .int .i64 (p0 : Int), .slice lo LL lc, .slice mo LM mc] 33) = V := ⟨_, rfl⟩
            have hbV : Below wr.heap.size wr V := by rw [← hV]; exact (Below.refl _ _).alloc (Nat.le_refl _) _
            obtain ⟨b, hb⟩ : ∃ b, wr.heap.size = b := ⟨_, rfl⟩
            have hcb : V.heap[b]? = some (.cells #[.int .i64 (K : Int), .string ⟨S.toArray⟩, .string ⟨TX.toArray⟩, .string ⟨UX.toArray⟩, .int .i64 (n0 : Int), .int .i64 (p0 : Int), .slice lo LL lc, .slice mo LM mc] 33 (0, 0)) := by rw [← hb, ← hV]; exact heap_alloc_new _ _
            have HV := Lib.hid hV
            have HBB := Lib.hid hb
            have HCB := Lib.hid hcb
            have hbs : b < V.heap.size := (Array.getElem?_eq_some_iff.1 hcb).1
            have HSM := Lib.hid hsm
            have HSV := Lib.hid hbV.size
            have HBV := Lib.hid (HBQ.out.trans (hbV.mono HBQ.out.size))
            have hzv := (HZ.out.below HBX.out HZ.out.lt).below hbV (HZ.out.below HBX.out HZ.out.lt).lt
            have HZV := Lib.hid hzv
            have WT := Lib.hid (fun x => within_any (.slice (some ⟨ga, 0, none⟩) n1 ca) (Ck.labels row) x V ((HRL.out.below HBQ.out).below hbV) HL1.out)
            have HRSV := Lib.hid ((HRS.out.below HBQ.out).below hbV)
            dsimp only at HX HSM
            clear hst hLL hLM c8 hcb hbV hV hb hzv hsm
            go_upto_region 22 with fail
            rw [HV.out, HBB.out]
            clear d0 d1 d2 d3 d4 d5 d6 d7 g0 g1 HV HBB
            have s0 : V.cell? ⟨b, 0, none⟩ = some (.int .i64 (K : Int)) := cell_of_row _ _ _ _ _ _ HCB.out
            have s1 : V.cell? ⟨b, 1, none⟩ = some (.string ⟨S.toArray⟩) := cell_of_row _ _ _ _ _ _ HCB.out
            have s2 : V.cell? ⟨b, 2, none⟩ = some (.string ⟨TX.toArray⟩) := cell_of_row _ _ _ _ _ _ HCB.out
            by_cases hother : K ≠ 14 ∧ K ≠ 15 ∧ K ≠ 3 ∧ K ≠ 2
            · have e14a : ((K : Int) == 14) = false := beq_eq_false_iff_ne.2 (by omega)
              have e14b : ((K : Int) = 14) = False := eq_false (by omega)
              have e14d : (K = 14) = False := eq_false (by omega)
              have e15a : ((K : Int) == 15) = false := beq_eq_false_iff_ne.2 (by omega)
              have e15b : ((K : Int) = 15) = False := eq_false (by omega)
              have e15d : (K = 15) = False := eq_false (by omega)
              have e3a : ((K : Int) == 3) = false := beq_eq_false_iff_ne.2 (by omega)
              have e3b : ((K : Int) = 3) = False := eq_false (by omega)
              have e3d : (K = 3) = False := eq_false (by omega)
              have e2a : ((K : Int) == 2) = false := beq_eq_false_iff_ne.2 (by omega)
              have e2b : ((K : Int) = 2) = False := eq_false (by omega)
              have e2d : (K = 2) = False := eq_false (by omega)
              clear hother
              have WT1 := WT.out S
              generalize (Ck.labels row).contains S = bt at WT1
              go_wp2_with fail
              refine WT1.mono ?_
              rintro e w3 ⟨rfl, hw⟩
              subst hw
              clear WT1
              have z0 : V.cell? ⟨q, 0, none⟩ = some (.int .i64 (md : Int)) := HZV.out.cell rfl
              have RC : Calls Tryd.prog 11 #[.int .i64 (md : Int), .string ⟨TX.toArray⟩] V fun e w' => e = .returned (.bool (Ln.codes (md : Int) TX)) ∧ Below V.heap.size V w' := rcodes_any (md : Int) TX (by have := HSM.out; omega) V
              generalize Ln.codes (md : Int) TX = bc at RC
              go_wp2_with fail
              refine RC.mono ?_
              rintro e w4 ⟨rfl, hb4⟩
              clear RC z0 s0 s1 s2
              have hcb4 := (hb4.block b hbs).trans HCB.out
              have s0 : w4.cell? ⟨b, 0, none⟩ = some (.int .i64 (K : Int)) := cell_of_row _ _ _ _ _ _ hcb4
              have s1 : w4.cell? ⟨b, 1, none⟩ = some (.string ⟨S.toArray⟩) := cell_of_row _ _ _ _ _ _ hcb4
              have NM := rnames_any w4 S (by have := HSM.out; omega)
              have hnl0 : (((Va.parts S).map Va.names).getD []).length ≤ 1000 := by
                cases h : Va.parts S with
                | none => simp
                | some ps => have h1 := (names_short h).1; have := HSM.out; simp; omega
              obtain ⟨nmz, hnmz⟩ : ∃ y, ((Va.parts S).map Va.names).getD [] = y := ⟨_, rfl⟩
              rw [hnmz] at NM hnl0
              have hnl := hnl0
              generalize (Va.parts S).isSome = bo at NM
              clear hnmz hnl0
              go_wp2_with fail
              refine NM.mono ?_
              rintro e w5 ⟨nv5, rfl, hr5, hb5⟩
              obtain ⟨vo, vc, rfl, _, _, hvc⟩ := hr5.formV
              rw [List.length_map] at hvc ⊢
              obtain ⟨nn, hnn⟩ : ∃ y, nmz.length = y := ⟨_, rfl⟩
              rw [hnn] at hvc hnl ⊢
              have hcb5 := (hb5.block b (Array.getElem?_eq_some_iff.1 hcb4).1).trans hcb4
              have HCB5 := Lib.hid hcb5
              have HB45 := Lib.hid (hb4.trans (hb5.mono hb4.size))
              have HRSW := Lib.hid ((HRSV.out.below hb4).below hb5)
              have HVC := Lib.hid hvc
              have HNN := Lib.hid hnn
              clear NM hb4 hb5 hr5 hvc hcb4 hcb5 s0 s1 hnn
              have s0 : w5.cell? ⟨b, 0, none⟩ = some (.int .i64 (K : Int)) := cell_of_row _ _ _ _ _ _ HCB5.out
              go_wp2
              go_loopw [18] (fun i wz => ∃ z : Nat, z ≤ nn ∧ i = .int .i64 z ∧ wz = w5) (fun i _ => nn - (intOf i).toNat)
              case atStart => exact ⟨0, Nat.zero_le _, rfl, rfl⟩
              case round =>
                obtain ⟨z, hz, rfl, rfl⟩ := hrel
                by_cases hlz : z < nn
                · obtain ⟨vb, vb0, rfl, hm, hcx0⟩ := HVC.out (by rw [HNN.out] at *; omega)
                  have hcx := hcx0 z _ (svs_at (by rw [HNN.out]; exact hlz))
                  unfold maxLen at hm
                  clear hcx0
                  have hmem : nmz.getD z [] ∈ nmz := by rw [List.getD_eq_getElem?_getD, List.getElem?_eq_getElem (by rw [HNN.out]; exact hlz)]; exact List.getElem_mem _
                  obtain ⟨y, hy⟩ : ∃ y, nmz.getD z [] = y := ⟨_, rfl⟩
                  rw [hy, sv] at hcx
                  rw [hy] at hmem
                  have WS := within_any (.slice (some ⟨gb, 0, none⟩) n2 cb) (Ck.sets row) y _ HRSW.out HL3.out
                  generalize (Ck.sets row).contains y = bs at WS
                  clear hy hmem
                  go_wp2_with fail
                  refine WS.mono ?_
                  rintro e w6 ⟨rfl, hw⟩
                  subst hw
                  clear WS
                  go_wp2
                  go_roundw
                  case rel => exact ⟨z + 1, by omega, by go_num, trivial⟩
                  case measure => simp [intOf]; omega
                · have HF := Lib.hid (HBV.out.trans (HB45.out.mono (Nat.le_trans HBQ.out.size HSV.out)))
                  go_wp2
                  go_roundw
                  case rel => exact ⟨j + 1, by omega, by go_num, HF.out⟩
                  case measure => simp [intOf]; omega
            · have hw : K = 14 ∨ K = 15 ∨ K = 3 ∨ K = 2 := by omega
              clear hother
              rcases hw with rfl | rfl | rfl | rfl
              · replace s0 : V.cell? ⟨b, 0, none⟩ = some (.int .i64 14) := s0
                have hth : (Ck.labels row).contains S = true := HX.out.2.2.2.2.1 (by simp)
                have WT1 := WT.out S
                rw [hth] at WT1
                clear hth
                go_wp2_with fail
                refine WT1.mono ?_
                rintro e w3 ⟨rfl, hw⟩
                subst hw
                clear WT1
                have z0 : V.cell? ⟨q, 0, none⟩ = some (.int .i64 (md : Int)) := HZV.out.cell rfl
                have RC : Calls Tryd.prog 11 #[.int .i64 (md : Int), .string ⟨TX.toArray⟩] V fun e w' => e = .returned (.bool (Ln.codes (md : Int) TX)) ∧ Below V.heap.size V w' := rcodes_any (md : Int) TX (by have := HSM.out; omega) V
                generalize Ln.codes (md : Int) TX = bc at RC
                go_wp2_with fail
                refine RC.mono ?_
                rintro e w4 ⟨rfl, hb4⟩
                clear RC z0 s0 s1 s2
                have hcb4 := (hb4.block b hbs).trans HCB.out
                have s0 : w4.cell? ⟨b, 0, none⟩ = some (.int .i64 14) := cell_of_row _ _ _ _ _ _ hcb4
                have s1 : w4.cell? ⟨b, 1, none⟩ = some (.string ⟨S.toArray⟩) := cell_of_row _ _ _ _ _ _ hcb4
                have NM := rnames_any w4 S (by have := HSM.out; omega)
                have hnl0 : (((Va.parts S).map Va.names).getD []).length ≤ 1000 := by
                  cases h : Va.parts S with
                  | none => simp
                  | some ps => have h1 := (names_short h).1; have := HSM.out; simp; omega
                obtain ⟨nmz, hnmz⟩ : ∃ y, ((Va.parts S).map Va.names).getD [] = y := ⟨_, rfl⟩
                rw [hnmz] at NM hnl0
                have hnl := hnl0
                generalize (Va.parts S).isSome = bo at NM
                clear hnmz hnl0
                go_wp2_with fail
                refine NM.mono ?_
                rintro e w5 ⟨nv5, rfl, hr5, hb5⟩
                obtain ⟨vo, vc, rfl, _, _, hvc⟩ := hr5.formV
                rw [List.length_map] at hvc ⊢
                obtain ⟨nn, hnn⟩ : ∃ y, nmz.length = y := ⟨_, rfl⟩
                rw [hnn] at hvc hnl ⊢
                have hcb5 := (hb5.block b (Array.getElem?_eq_some_iff.1 hcb4).1).trans hcb4
                have HCB5 := Lib.hid hcb5
                have HB45 := Lib.hid (hb4.trans (hb5.mono hb4.size))
                have HRSW := Lib.hid ((HRSV.out.below hb4).below hb5)
                have HVC := Lib.hid hvc
                have HNN := Lib.hid hnn
                clear NM hb4 hb5 hr5 hvc hcb4 hcb5 s0 s1 hnn
                have s0 : w5.cell? ⟨b, 0, none⟩ = some (.int .i64 14) := cell_of_row _ _ _ _ _ _ HCB5.out
                go_wp2
                go_loopw [18] (fun i wz => ∃ z : Nat, z ≤ nn ∧ i = .int .i64 z ∧ wz = w5) (fun i _ => nn - (intOf i).toNat)
                case atStart => exact ⟨0, Nat.zero_le _, rfl, rfl⟩
                case round =>
                  obtain ⟨z, hz, rfl, rfl⟩ := hrel
                  by_cases hlz : z < nn
                  · obtain ⟨vb, vb0, rfl, hm, hcx0⟩ := HVC.out (by rw [HNN.out] at *; omega)
                    have hcx := hcx0 z _ (svs_at (by rw [HNN.out]; exact hlz))
                    unfold maxLen at hm
                    clear hcx0
                    have hmem : nmz.getD z [] ∈ nmz := by rw [List.getD_eq_getElem?_getD, List.getElem?_eq_getElem (by rw [HNN.out]; exact hlz)]; exact List.getElem_mem _
                    obtain ⟨y, hy⟩ : ∃ y, nmz.getD z [] = y := ⟨_, rfl⟩
                    rw [hy, sv] at hcx
                    rw [hy] at hmem
                    have WS := within_any (.slice (some ⟨gb, 0, none⟩) n2 cb) (Ck.sets row) y _ HRSW.out HL3.out
                    generalize (Ck.sets row).contains y = bs at WS
                    clear hy hmem
                    go_wp2_with fail
                    refine WS.mono ?_
                    rintro e w6 ⟨rfl, hw⟩
                    subst hw
                    clear WS
                    go_wp2
                    go_roundw
                    case rel => exact ⟨z + 1, by omega, by go_num, trivial⟩
                    case measure => simp [intOf]; omega
                  · have HF := Lib.hid (HBV.out.trans (HB45.out.mono (Nat.le_trans HBQ.out.size HSV.out)))
                    go_wp2
                    go_roundw
                    case rel => exact ⟨j + 1, by omega, by go_num, HF.out⟩
                    case measure => simp [intOf]; omega
              · replace s0 : V.cell? ⟨b, 0, none⟩ = some (.int .i64 15) := s0
                have hth : (Ck.labels row).contains S = true := HX.out.2.2.2.2.1 (by simp)
                have WT1 := WT.out S
                rw [hth] at WT1
                clear hth
                go_wp2_with fail
                refine WT1.mono ?_
                rintro e w3 ⟨rfl, hw⟩
                subst hw
                clear WT1
                have z0 : V.cell? ⟨q, 0, none⟩ = some (.int .i64 (md : Int)) := HZV.out.cell rfl
                have RC : Calls Tryd.prog 11 #[.int .i64 (md : Int), .string ⟨TX.toArray⟩] V fun e w' => e = .returned (.bool (Ln.codes (md : Int) TX)) ∧ Below V.heap.size V w' := rcodes_any (md : Int) TX (by have := HSM.out; omega) V
                generalize Ln.codes (md : Int) TX = bc at RC
                go_wp2_with fail
                refine RC.mono ?_
                rintro e w4 ⟨rfl, hb4⟩
                clear RC z0 s0 s1 s2
                have hcb4 := (hb4.block b hbs).trans HCB.out
                have s0 : w4.cell? ⟨b, 0, none⟩ = some (.int .i64 15) := cell_of_row _ _ _ _ _ _ hcb4
                have s1 : w4.cell? ⟨b, 1, none⟩ = some (.string ⟨S.toArray⟩) := cell_of_row _ _ _ _ _ _ hcb4
                have NM := rnames_any w4 S (by have := HSM.out; omega)
                have hnl0 : (((Va.parts S).map Va.names).getD []).length ≤ 1000 := by
                  cases h : Va.parts S with
                  | none => simp
                  | some ps => have h1 := (names_short h).1; have := HSM.out; simp; omega
                obtain ⟨nmz, hnmz⟩ : ∃ y, ((Va.parts S).map Va.names).getD [] = y := ⟨_, rfl⟩
                rw [hnmz] at NM hnl0
                have hnl := hnl0
                generalize (Va.parts S).isSome = bo at NM
                clear hnmz hnl0
                go_wp2_with fail
                refine NM.mono ?_
                rintro e w5 ⟨nv5, rfl, hr5, hb5⟩
                obtain ⟨vo, vc, rfl, _, _, hvc⟩ := hr5.formV
                rw [List.length_map] at hvc ⊢
                obtain ⟨nn, hnn⟩ : ∃ y, nmz.length = y := ⟨_, rfl⟩
                rw [hnn] at hvc hnl ⊢
                have hcb5 := (hb5.block b (Array.getElem?_eq_some_iff.1 hcb4).1).trans hcb4
                have HCB5 := Lib.hid hcb5
                have HB45 := Lib.hid (hb4.trans (hb5.mono hb4.size))
                have HRSW := Lib.hid ((HRSV.out.below hb4).below hb5)
                have HVC := Lib.hid hvc
                have HNN := Lib.hid hnn
                clear NM hb4 hb5 hr5 hvc hcb4 hcb5 s0 s1 hnn
                have s0 : w5.cell? ⟨b, 0, none⟩ = some (.int .i64 15) := cell_of_row _ _ _ _ _ _ HCB5.out
                go_wp2
                go_loopw [18] (fun i wz => ∃ z : Nat, z ≤ nn ∧ i = .int .i64 z ∧ wz = w5) (fun i _ => nn - (intOf i).toNat)
                case atStart => exact ⟨0, Nat.zero_le _, rfl, rfl⟩
                case round =>
                  obtain ⟨z, hz, rfl, rfl⟩ := hrel
                  by_cases hlz : z < nn
                  · obtain ⟨vb, vb0, rfl, hm, hcx0⟩ := HVC.out (by rw [HNN.out] at *; omega)
                    have hcx := hcx0 z _ (svs_at (by rw [HNN.out]; exact hlz))
                    unfold maxLen at hm
                    clear hcx0
                    have hmem : nmz.getD z [] ∈ nmz := by rw [List.getD_eq_getElem?_getD, List.getElem?_eq_getElem (by rw [HNN.out]; exact hlz)]; exact List.getElem_mem _
                    obtain ⟨y, hy⟩ : ∃ y, nmz.getD z [] = y := ⟨_, rfl⟩
                    rw [hy, sv] at hcx
                    rw [hy] at hmem
                    have WS := within_any (.slice (some ⟨gb, 0, none⟩) n2 cb) (Ck.sets row) y _ HRSW.out HL3.out
                    generalize (Ck.sets row).contains y = bs at WS
                    clear hy hmem
                    go_wp2_with fail
                    refine WS.mono ?_
                    rintro e w6 ⟨rfl, hw⟩
                    subst hw
                    clear WS
                    go_wp2
                    go_roundw
                    case rel => exact ⟨z + 1, by omega, by go_num, trivial⟩
                    case measure => simp [intOf]; omega
                  · have HF := Lib.hid (HBV.out.trans (HB45.out.mono (Nat.le_trans HBQ.out.size HSV.out)))
                    go_wp2
                    go_roundw
                    case rel => exact ⟨j + 1, by omega, by go_num, HF.out⟩
                    case measure => simp [intOf]; omega
              · replace s0 : V.cell? ⟨b, 0, none⟩ = some (.int .i64 3) := s0
                have WT1 := WT.out S
                generalize (Ck.labels row).contains S = bt at WT1
                go_wp2_with fail
                refine WT1.mono ?_
                rintro e w3 ⟨rfl, hw⟩
                subst hw
                clear WT1
                have z0 : V.cell? ⟨q, 0, none⟩ = some (.int .i64 (md : Int)) := HZV.out.cell rfl
                have hcd : Ln.codes (md : Int) TX = true := HX.out.2.2.1 TX rfl
                have RC : Calls Tryd.prog 11 #[.int .i64 (md : Int), .string ⟨TX.toArray⟩] V fun e w' => e = .returned (.bool true) ∧ Below V.heap.size V w' := by
                  have := rcodes_any (md : Int) TX (by have := HSM.out; omega) V
                  rwa [hcd] at this
                clear hcd
                go_wp2_with fail
                refine RC.mono ?_
                rintro e w4 ⟨rfl, hb4⟩
                clear RC z0 s0 s1 s2
                have hcb4 := (hb4.block b hbs).trans HCB.out
                have s0 : w4.cell? ⟨b, 0, none⟩ = some (.int .i64 3) := cell_of_row _ _ _ _ _ _ hcb4
                have s1 : w4.cell? ⟨b, 1, none⟩ = some (.string ⟨S.toArray⟩) := cell_of_row _ _ _ _ _ _ hcb4
                have NM := rnames_any w4 S (by have := HSM.out; omega)
                have hkn : Ck.known row S = true := HX.out.2.2.2.2.2 S (by simp [Ck.textsOf])
                unfold Ck.known at hkn
                obtain ⟨ps, hps⟩ : ∃ ps, Va.parts S = some ps := by
                  cases h : Va.parts S with
                  | none => rw [h] at hkn; cases hkn
                  | some ps => exact ⟨ps, rfl⟩
                rw [hps] at NM hkn
                replace NM : Calls Tryd.prog 12 #[.string ⟨S.toArray⟩] w4 fun e w' => ∃ v, e = .returned (.tuple #[v, .bool true]) ∧ Rd w' v ((Va.names ps).map sv) ∧ Below w4.heap.size w4 w' := NM
                have HKN := Lib.hid (List.all_eq_true.1 hkn)
                obtain ⟨nmz, hnmz⟩ : ∃ y, Va.names ps = y := ⟨_, rfl⟩
                rw [hnmz] at NM HKN
                have hnl : nmz.length ≤ 1000 := by have h1 := (names_short hps).1; rw [hnmz] at h1; have := HSM.out; omega
                clear hkn hps hnmz
                go_wp2_with fail
                refine NM.mono ?_
                rintro e w5 ⟨nv5, rfl, hr5, hb5⟩
                obtain ⟨vo, vc, rfl, _, _, hvc⟩ := hr5.formV
                rw [List.length_map] at hvc ⊢
                obtain ⟨nn, hnn⟩ : ∃ y, nmz.length = y := ⟨_, rfl⟩
                rw [hnn] at hvc hnl ⊢
                have hcb5 := (hb5.block b (Array.getElem?_eq_some_iff.1 hcb4).1).trans hcb4
                have HCB5 := Lib.hid hcb5
                have HB45 := Lib.hid (hb4.trans (hb5.mono hb4.size))
                have HRSW := Lib.hid ((HRSV.out.below hb4).below hb5)
                have HVC := Lib.hid hvc
                have HNN := Lib.hid hnn
                clear NM hb4 hb5 hr5 hvc hcb4 hcb5 s0 s1 hnn
                have s0 : w5.cell? ⟨b, 0, none⟩ = some (.int .i64 3) := cell_of_row _ _ _ _ _ _ HCB5.out
                go_wp2
                go_loopw [18] (fun i wz => ∃ z : Nat, z ≤ nn ∧ i = .int .i64 z ∧ wz = w5) (fun i _ => nn - (intOf i).toNat)
                case atStart => exact ⟨0, Nat.zero_le _, rfl, rfl⟩
                case round =>
                  obtain ⟨z, hz, rfl, rfl⟩ := hrel
                  by_cases hlz : z < nn
                  · obtain ⟨vb, vb0, rfl, hm, hcx0⟩ := HVC.out (by rw [HNN.out] at *; omega)
                    have hcx := hcx0 z _ (svs_at (by rw [HNN.out]; exact hlz))
                    unfold maxLen at hm
                    clear hcx0
                    have hmem : nmz.getD z [] ∈ nmz := by rw [List.getD_eq_getElem?_getD, List.getElem?_eq_getElem (by rw [HNN.out]; exact hlz)]; exact List.getElem_mem _
                    obtain ⟨y, hy⟩ : ∃ y, nmz.getD z [] = y := ⟨_, rfl⟩
                    rw [hy, sv] at hcx
                    rw [hy] at hmem
                    have WS := within_any (.slice (some ⟨gb, 0, none⟩) n2 cb) (Ck.sets row) y _ HRSW.out HL3.out
                    have hin : (Ck.sets row).contains y = true := HKN.out y hmem
                    rw [hin] at WS
                    clear hin
                    clear hy hmem
                    go_wp2_with fail
                    refine WS.mono ?_
                    rintro e w6 ⟨rfl, hw⟩
                    subst hw
                    clear WS
                    go_wp2
                    go_roundw
                    case rel => exact ⟨z + 1, by omega, by go_num, trivial⟩
                    case measure => simp [intOf]; omega
                  · have HF := Lib.hid (HBV.out.trans (HB45.out.mono (Nat.le_trans HBQ.out.size HSV.out)))
                    go_wp2
                    go_roundw
                    case rel => exact ⟨j + 1, by omega, by go_num, HF.out⟩
                    case measure => simp [intOf]; omega
              · replace s0 : V.cell? ⟨b, 0, none⟩ = some (.int .i64 2) := s0
                have WT1 := WT.out S
                generalize (Ck.labels row).contains S = bt at WT1
                go_wp2_with fail
                refine WT1.mono ?_
                rintro e w3 ⟨rfl, hw⟩
                subst hw
                clear WT1
                have z0 : V.cell? ⟨q, 0, none⟩ = some (.int .i64 (md : Int)) := HZV.out.cell rfl
                have hcd : Ln.codes (md : Int) TX = true := HX.out.2.2.1 TX rfl
                have RC : Calls Tryd.prog 11 #[.int .i64 (md : Int), .string ⟨TX.toArray⟩] V fun e w' => e = .returned (.bool true) ∧ Below V.heap.size V w' := by
                  have := rcodes_any (md : Int) TX (by have := HSM.out; omega) V
                  rwa [hcd] at this
                clear hcd
                go_wp2_with fail
                refine RC.mono ?_
                rintro e w4 ⟨rfl, hb4⟩
                clear RC z0 s0 s1 s2
                have hcb4 := (hb4.block b hbs).trans HCB.out
                have s0 : w4.cell? ⟨b, 0, none⟩ = some (.int .i64 2) := cell_of_row _ _ _ _ _ _ hcb4
                have s1 : w4.cell? ⟨b, 1, none⟩ = some (.string ⟨S.toArray⟩) := cell_of_row _ _ _ _ _ _ hcb4
                have NM := rnames_any w4 S (by have := HSM.out; omega)
                have hnl0 : (((Va.parts S).map Va.names).getD []).length ≤ 1000 := by
                  cases h : Va.parts S with
                  | none => simp
                  | some ps => have h1 := (names_short h).1; have := HSM.out; simp; omega
                obtain ⟨nmz, hnmz⟩ : ∃ y, ((Va.parts S).map Va.names).getD [] = y := ⟨_, rfl⟩
                rw [hnmz] at NM hnl0
                have hnl := hnl0
                generalize (Va.parts S).isSome = bo at NM
                clear hnmz hnl0
                go_wp2_with fail
                refine NM.mono ?_
                rintro e w5 ⟨nv5, rfl, hr5, hb5⟩
                obtain ⟨vo, vc, rfl, _, _, hvc⟩ := hr5.formV
                rw [List.length_map] at hvc ⊢
                obtain ⟨nn, hnn⟩ : ∃ y, nmz.length = y := ⟨_, rfl⟩
                rw [hnn] at hvc hnl ⊢
                have hcb5 := (hb5.block b (Array.getElem?_eq_some_iff.1 hcb4).1).trans hcb4
                have HCB5 := Lib.hid hcb5
                have HB45 := Lib.hid (hb4.trans (hb5.mono hb4.size))
                have HRSW := Lib.hid ((HRSV.out.below hb4).below hb5)
                have HVC := Lib.hid hvc
                have HNN := Lib.hid hnn
                clear NM hb4 hb5 hr5 hvc hcb4 hcb5 s0 s1 hnn
                have s0 : w5.cell? ⟨b, 0, none⟩ = some (.int .i64 2) := cell_of_row _ _ _ _ _ _ HCB5.out
                go_wp2
                go_loopw [18] (fun i wz => ∃ z : Nat, z ≤ nn ∧ i = .int .i64 z ∧ wz = w5) (fun i _ => nn - (intOf i).toNat)
                case atStart => exact ⟨0, Nat.zero_le _, rfl, rfl⟩
                case round =>
                  obtain ⟨z, hz, rfl, rfl⟩ := hrel
                  by_cases hlz : z < nn
                  · obtain ⟨vb, vb0, rfl, hm, hcx0⟩ := HVC.out (by rw [HNN.out] at *; omega)
                    have hcx := hcx0 z _ (svs_at (by rw [HNN.out]; exact hlz))
                    unfold maxLen at hm
                    clear hcx0
                    have hmem : nmz.getD z [] ∈ nmz := by rw [List.getD_eq_getElem?_getD, List.getElem?_eq_getElem (by rw [HNN.out]; exact hlz)]; exact List.getElem_mem _
                    obtain ⟨y, hy⟩ : ∃ y, nmz.getD z [] = y := ⟨_, rfl⟩
                    rw [hy, sv] at hcx
                    rw [hy] at hmem
                    have WS := within_any (.slice (some ⟨gb, 0, none⟩) n2 cb) (Ck.sets row) y _ HRSW.out HL3.out
                    generalize (Ck.sets row).contains y = bs at WS
                    clear hy hmem
                    go_wp2_with fail
                    refine WS.mono ?_
                    rintro e w6 ⟨rfl, hw⟩
                    subst hw
                    clear WS
                    go_wp2
                    go_roundw
                    case rel => exact ⟨z + 1, by omega, by go_num, trivial⟩
                    case measure => simp [intOf]; omega
                  · have HF := Lib.hid (HBV.out.trans (HB45.out.mono (Nat.le_trans HBQ.out.size HSV.out)))
                    go_wp2
                    go_roundw
                    case rel => exact ⟨j + 1, by omega, by go_num, HF.out⟩
                    case measure => simp [intOf]; omega
          · have HF := Lib.hid (HB2.out.trans (HBX.out.mono HQ2.out))
            go_wp2
            go_ret
            exact ⟨rfl, HF.out⟩
  · obtain ⟨f1, f2, f3⟩ := neF c hc
    have HF := Lib.hid (fun o => HB1.out.alloc HB1.out.size o)
    clear hc HPC hpr
    go_wp2
    go_ret
    exact ⟨rfl, HF.out _⟩
end Go.Proofs.YthlbociimbpgkaaDoor
