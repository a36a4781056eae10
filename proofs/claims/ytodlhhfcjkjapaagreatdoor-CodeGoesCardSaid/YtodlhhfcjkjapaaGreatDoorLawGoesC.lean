/- CodeGoes walked (layer 18). Laid by wip/tools/gen_cgoes.py. -/
import Derived.Test.YtodlhhfcjkjapaaGreatDoorDO
namespace Go.Proofs.YtodlhhfcjkjapaaGreatDoor
open Go.RowKit
theorem goes_op {src : List UInt8} {L : List Cd.Op} {md : Nat} (h : Cd.source src = .ok (L, md)) : 1 ≤ md ∧ md ≤ 3 ∧ ∃ M, L.length = M + 1 ∧ (∃ o, L[M]? = some o ∧ o.kind = 19 ∧ o.to = 0) ∧ ∀ i o, L[i]? = some o → i < M → Cd.OpOk M i o ∧ (o.kind = 6 → ∀ q, i < q → (q : Int) < o.to → ∃ u, L[q]? = some u ∧ u.kind = 3) := by
 obtain ⟨⟨h1, h2⟩, A, rfl, hg⟩ := Cd.goes_law h
 refine ⟨h1, h2, A.length, by simp, ⟨Cd.opEnd, by simp, rfl, rfl⟩, fun i o ho hi => ?_⟩
 rw [List.getElem?_append_left hi] at ho
 have hok := hg.ok i o ho
 rw [Nat.zero_add] at hok
 refine ⟨hok, fun h6 q hq hlt => ?_⟩
 have hqA : q < A.length := by have := hok.hi; omega
 refine ⟨A[q], by rw [List.getElem?_append_left hqA, List.getElem?_eq_getElem hqA], ?_⟩
 exact hg.pipe i o ho h6 q _ hq (by rw [Nat.zero_add]; exact hlt) (List.getElem?_eq_getElem hqA)
theorem csource_cases (l : List UInt8) : (∃ p c, Cd.source l = .error (p, c)) ∨ ∃ L md, Cd.source l = .ok (L, md) := by
 cases h : Cd.source l with
 | error e => exact .inl ⟨e.1, e.2, rfl⟩
 | ok p => exact .inr ⟨p.1, p.2, rfl⟩
set_option maxRecDepth 200000 in
set_option maxHeartbeats 8000000 in
theorem lawGoesC (s : ByteArray) (hs : s.size ≤ maxLen) (w : World) (hS : SHP w) :
  Calls Tryz.prog 4 #[.string s] w fun e w' => e = .returned (.bool true) ∧ Below w.heap.size w w' := by
 have SW := shown_any w hS
 have SH := Lib.hid (fun wx => short_any s hs wx)
 obtain ⟨l, hl⟩ : ∃ l, s.data.toList.take 2100 = l := ⟨_, rfl⟩
 rw [hl] at SH
 have hll : l.length ≤ 1048576 := by rw [← hl, List.length_take]; omega
 have SRC := Lib.hid (fun wx hx => csource_any l hll wx hx)
 have HS := Lib.hid hS
 clear hS hl hs hll
 go_enter Tryz.func4, Tryz.ntmps4
 go_wp2_with fail
 refine SW.mono ?_
 rintro e wa ⟨rfl, hba⟩
 have HBA := Lib.hid hba
 clear SW hba
 go_wp2_with fail
 refine (SH.out _).mono ?_
 rintro e w1 ⟨rfl, hw⟩
 obtain rfl := hw.symm
 clear hw
 go_wp2_with fail
 refine (SRC.out _ (HS.out.below HBA.out)).mono ?_
 rintro e w2 hP
 obtain ⟨hb2, hP⟩ := hP
 clear SRC SH
 rcases csource_cases l with ⟨p, c, hs⟩ | ⟨L, md, hs⟩
 ·rw [hs] at hP
  obtain ⟨rfl, hc⟩ := hP
  obtain ⟨f1, f2, f3⟩ := neF c hc
  have HB := Lib.hid (HBA.out.trans (hb2.mono HBA.out.size))
  clear hb2 hs hc
  go_wp2
  go_ret
  exact ⟨rfl, HB.out⟩
 ·rw [hs] at hP
  obtain ⟨ov, rfl, ho⟩ := hP
  have hor := OR.of ho rfl
  obtain ⟨hm1, hm3, M, hLM, hend, hops⟩ := goes_op hs
  obtain ⟨ao, cap, rfl⟩ := hor.form
  obtain ⟨N, hN⟩ : ∃ N, L.length = N := ⟨_, rfl⟩
  rw [hN] at hor hLM ⊢
  have HOR := Lib.hid hor
  have HB := Lib.hid (HBA.out.trans (hb2.mono HBA.out.size))
  have HEND := Lib.hid hend
  have HOPS : Hid (∀ i o, L[i]? = some o → i < M → Cd.OpOk M i o ∧ (o.kind = 6 → ∀ q, i < q → (q : Int) < o.to → ∃ u, L[q]? = some u ∧ u.kind = 3)) := Lib.hid hops
  have HLN := Lib.hid hN
  have HLM := Lib.hid hLM
  have hNb : N ≤ 9223372036854775807 := by have := hor.len; unfold maxLen at this; omega
  clear hor hb2 ho hs hend hops hN hLM
  go_wp2
  go_loopw [8, 10, 11] (fun i _ _ wr => ∃ k : Nat, k ≤ N ∧ i = .int .i64 k ∧ Hid (Below w.heap.size w wr ∧ OR wr (.slice ao N cap) L)) (fun i _ _ _ => N - (intOf i).toNat)
  case atStart => exact ⟨0, Nat.zero_le _, rfl, Lib.hid ⟨HB.out, HOR.out⟩⟩
  case round =>
   obtain ⟨k, hk, rfl, HW⟩ := hrel
   by_cases hkN : k < N
   ·obtain ⟨o, ho⟩ : ∃ o, L[k]? = some o := ⟨_, List.getElem?_eq_getElem (by rw [HLN.out]; exact hkN)⟩
    obtain ⟨hb, hor⟩ := HW.out
    obtain ⟨q, rfl, c6⟩ := hor.at ho
    have hfact : (k < M ∧ Cd.OpOk M k o ∧ (o.kind = 6 → ∀ q, k < q → (q : Int) < o.to → ∃ u, L[q]? = some u ∧ u.kind = 3)) ∨ (k = M ∧ o.kind = 19 ∧ o.to = 0) := by
     rcases Nat.lt_or_ge k M with h | h
     ·obtain ⟨h1, h2⟩ := HOPS.out k o ho h
      exact .inl ⟨h, h1, h2⟩
     ·obtain ⟨o', h1, h2, h3⟩ := HEND.out
      have e : k = M := by have := HLM.out; omega
      rw [← e, ho] at h1
      cases h1
      exact .inr ⟨e, h2, h3⟩
    obtain ⟨K, SS, TT, UU, n0, T⟩ := o
    have d0 : wr.cell? ⟨q, k * 6, none⟩ = some (.int .i64 (K : Int)) := c6.c0
    have d1 : wr.cell? ⟨q, k * 6 + 1, none⟩ = some (.string ⟨SS.toArray⟩) := c6.c1
    have d2 : wr.cell? ⟨q, k * 6 + 2, none⟩ = some (.string ⟨TT.toArray⟩) := c6.c2
    have d3 : wr.cell? ⟨q, k * 6 + 3, none⟩ = some (.string ⟨UU.toArray⟩) := c6.c3
    have d4 : wr.cell? ⟨q, k * 6 + 4, none⟩ = some (.int .i64 (n0 : Int)) := c6.c4
    have d5 : wr.cell? ⟨q, k * 6 + 5, none⟩ = some (.int .i64 T) := c6.c5
    obtain ⟨V, hV⟩ : ∃ V, wr.alloc (.cells #[.int .i64 (K : Int), .string ⟨SS.toArray⟩, .string ⟨TT.toArray⟩, .string ⟨UU.toArray⟩, .int .i64 (n0 : Int), .int .i64 T] 38) = V := ⟨_, rfl⟩
    obtain ⟨b, hbb⟩ : ∃ b, wr.heap.size = b := ⟨_, rfl⟩
    have hbV : Below wr.heap.size wr V := by rw [← hV]; exact (Below.refl _ _).alloc (Nat.le_refl _) _
    have hnb : V.heap[b]? = some (.cells #[.int .i64 (K : Int), .string ⟨SS.toArray⟩, .string ⟨TT.toArray⟩, .string ⟨UU.toArray⟩, .int .i64 (n0 : Int), .int .i64 T] 38 (0, 0)) := by rw [← hbb, ← hV]; exact heap_alloc_new _ _
    have s0 : V.cell? ⟨b, 0, none⟩ = some (.int .i64 (K : Int)) := cell_of_row _ _ _ _ _ _ hnb
    have s5 : V.cell? ⟨b, 5, none⟩ = some (.int .i64 T) := cell_of_row _ _ _ _ _ _ hnb
    have HV := Lib.hid (⟨hb.trans (hbV.mono hb.size), hor.below hbV⟩ : Below w.heap.size w V ∧ OR V (.slice (some ⟨q, 0, none⟩) N cap) L)
    have HN2 := HV
    have hV' := hV
    have x1 : (k : Int) < (N : Int) := by omega
    have eN : (N : Int) - 1 = (M : Int) := by have := HLM.out; omega
    have hNM := HLM.out
    have HNM := Lib.hid hNM
    dsimp only at hfact
    clear hb hor c6 ho hbV hnb HW hV'
    rcases hfact with ⟨hkM, hok, hsix⟩ | ⟨rfl, rfl, rfl⟩
    ·have k1 := hok.lo
     have k2 := hok.hi
     have k3 := hok.no
     have k4 := hok.kd
     have k5 := hok.up
     dsimp only at k1 k2 k3 k4 k5 hsix
     clear hok
     by_cases h18 : K = 18
     ·subst h18
      have t1 : (T < 0) = False := eq_false (by omega)
      have t2 : ((N : Int) ≤ T) = False := eq_false (by omega)
      have m1 : ((k : Int) == (M : Int)) = false := beq_eq_false_iff_ne.2 (by omega)
      have m2 : ((k : Int) = (M : Int)) = False := eq_false (by omega)
      have m3 : (k = M) = False := eq_false (by omega)
      clear k1 k2 k3 k4 k5 hsix hkM hNM
      go_wp2
      go_loopw [11] (fun j wx => ∃ n : Nat, j = .int .i64 n ∧ wx = V ∧ True) (fun j _ => 0)
      case atStart => exact ⟨k + 1, by go_num, by first | rfl | exact hV, trivial⟩
      case round =>
       obtain ⟨n, rfl, rfl, hre⟩ := hrel
       clear hre
       go_wp2
       go_roundw
       case rel => exact ⟨k + 1, by omega, by go_num, HN2⟩
       case measure => simp [intOf]; omega
     by_cases h15 : K = 15
     ·subst h15
      have t1 : (T < 0) = False := eq_false (by omega)
      have t2 : ((N : Int) ≤ T) = False := eq_false (by omega)
      have m1 : ((k : Int) == (M : Int)) = false := beq_eq_false_iff_ne.2 (by omega)
      have m2 : ((k : Int) = (M : Int)) = False := eq_false (by omega)
      have m3 : (k = M) = False := eq_false (by omega)
      clear k1 k2 k3 k4 k5 hsix hkM hNM
      go_wp2
      go_loopw [11] (fun j wx => ∃ n : Nat, j = .int .i64 n ∧ wx = V ∧ True) (fun j _ => 0)
      case atStart => exact ⟨k + 1, by go_num, by first | rfl | exact hV, trivial⟩
      case round =>
       obtain ⟨n, rfl, rfl, hre⟩ := hrel
       clear hre
       go_wp2
       go_roundw
       case rel => exact ⟨k + 1, by omega, by go_num, HN2⟩
       case measure => simp [intOf]; omega
     by_cases h5 : K = 5
     ·subst h5
      have k6 := k5 (.inl rfl)
      have t1 : (T < 0) = False := eq_false (by omega)
      have t2 : ((N : Int) ≤ T) = False := eq_false (by omega)
      have m1 : ((k : Int) == (M : Int)) = false := beq_eq_false_iff_ne.2 (by omega)
      have m2 : ((k : Int) = (M : Int)) = False := eq_false (by omega)
      have m3 : (k = M) = False := eq_false (by omega)
      have t3 : (T ≤ (k : Int)) = False := eq_false (by omega)
      clear k1 k2 k3 k4 k5 k6 hsix hkM hNM
      go_wp2
      go_loopw [11] (fun j wx => ∃ n : Nat, j = .int .i64 n ∧ wx = V ∧ True) (fun j _ => 0)
      case atStart => exact ⟨k + 1, by go_num, by first | rfl | exact hV, trivial⟩
      case round =>
       obtain ⟨n, rfl, rfl, hre⟩ := hrel
       clear hre
       go_wp2
       go_roundw
       case rel => exact ⟨k + 1, by omega, by go_num, HN2⟩
       case measure => simp [intOf]; omega
     by_cases h6 : K = 6
     ·subst h6
      have k6 := k5 (.inr rfl)
      have t1 : (T < 0) = False := eq_false (by omega)
      have t2 : ((N : Int) ≤ T) = False := eq_false (by omega)
      have m1 : ((k : Int) == (M : Int)) = false := beq_eq_false_iff_ne.2 (by omega)
      have m2 : ((k : Int) = (M : Int)) = False := eq_false (by omega)
      have m3 : (k = M) = False := eq_false (by omega)
      have t3 : (T ≤ (k : Int)) = False := eq_false (by omega)
      have HSIX : Hid (∀ q, k < q → (q : Int) < T → ∃ u, L[q]? = some u ∧ u.kind = 3) := Lib.hid (hsix rfl)
      clear k3 k4 k5 hkM hNM hsix
      go_wp2
      go_loopw [11] (fun j wx => ∃ n : Nat, j = .int .i64 n ∧ wx = V ∧ k < n ∧ (n : Int) ≤ T) (fun j _ => T.toNat - (intOf j).toNat)
      case atStart => exact ⟨k + 1, by go_num, by first | rfl | exact hV, by omega, by omega⟩
      case round =>
       obtain ⟨n, rfl, rfl, hre⟩ := hrel
       by_cases hnT : (n : Int) < T
       ·obtain ⟨u, hu, hu3⟩ := HSIX.out n hre.1 hnT
        have hn1 : (n : Int) < (N : Int) := by omega
        have hn2 : n < 9223372036854775807 := by omega
        obtain ⟨q', e, d6⟩ := HV.out.2.at hu
        cases e
        have e0 : wr.cell? ⟨q, n * 6, none⟩ = some (.int .i64 3) := by have := d6.c0; rwa [hu3] at this
        clear d6 hu hu3
        have HRE := Lib.hid hre
        clear hre
        go_wp2
        go_roundw
        case rel => exact ⟨n + 1, by go_num, by first | rfl | trivial, by have := HRE.out; omega, by omega⟩
        case measure => simp [intOf]; omega
       ·have hn3 : ((n : Int) < T) = False := eq_false hnT
        clear hre hnT
        go_wp2
        go_roundw
        case rel => exact ⟨k + 1, by omega, by go_num, HN2⟩
        case measure => simp [intOf]; omega
     ·have hz := k3 (by unfold Cd.goesK; simp; omega)
      subst hz
      have k18 : ((K : Int) == 18) = false := beq_eq_false_iff_ne.2 (by omega)
      have j18 : ((K : Int) = 18) = False := eq_false (by omega)
      have k15 : ((K : Int) == 15) = false := beq_eq_false_iff_ne.2 (by omega)
      have j15 : ((K : Int) = 15) = False := eq_false (by omega)
      have k5 : ((K : Int) == 5) = false := beq_eq_false_iff_ne.2 (by omega)
      have j5 : ((K : Int) = 5) = False := eq_false (by omega)
      have k6 : ((K : Int) == 6) = false := beq_eq_false_iff_ne.2 (by omega)
      have j6 : ((K : Int) = 6) = False := eq_false (by omega)
      have k13 : ((K : Int) == 13) = false := beq_eq_false_iff_ne.2 (by omega)
      have j13 : ((K : Int) = 13) = False := eq_false (by omega)
      have k14 : ((K : Int) == 14) = false := beq_eq_false_iff_ne.2 (by omega)
      have j14 : ((K : Int) = 14) = False := eq_false (by omega)
      have k19 : ((K : Int) == 19) = false := beq_eq_false_iff_ne.2 (by omega)
      have j19 : ((K : Int) = 19) = False := eq_false (by omega)
      have t2 : ((N : Int) ≤ 0) = False := eq_false (by omega)
      have m1 : ((k : Int) == (M : Int)) = false := beq_eq_false_iff_ne.2 (by omega)
      have m2 : ((k : Int) = (M : Int)) = False := eq_false (by omega)
      have m3 : (k = M) = False := eq_false (by omega)
      have HVV := Lib.hid hV
      clear k1 k2 k3 k4 k5 hsix hkM hNM h18 h15 h5 h6 hV
      go_upto_region 9 with fail
      rw [HVV.out]
      go_wp2
      go_loopw [11] (fun j wx => ∃ n : Nat, j = .int .i64 n ∧ wx = V ∧ True) (fun j _ => 0)
      case atStart => exact ⟨k + 1, by go_num, by first | rfl | exact HVV.out, trivial⟩
      case round =>
       obtain ⟨n, rfl, rfl, hre⟩ := hrel
       clear hre
       go_wp2
       go_roundw
       case rel => exact ⟨k + 1, by omega, by go_num, HN2⟩
       case measure => simp [intOf]; omega
    ·have t2 : ((N : Int) ≤ 0) = False := eq_false (by omega)
     have HVV := Lib.hid (show wr.alloc (.cells #[.int .i64 19, .string ⟨SS.toArray⟩, .string ⟨TT.toArray⟩, .string ⟨UU.toArray⟩, .int .i64 (n0 : Int), .int .i64 0] 38) = V from hV)
     clear hNM hV
     go_upto_region 9 with fail
     rw [HVV.out]
     go_wp2
     go_loopw [11] (fun j wx => ∃ n : Nat, j = .int .i64 n ∧ wx = V ∧ True) (fun j _ => 0)
     case atStart => exact ⟨k + 1, by go_num, by first | rfl | exact HVV.out, trivial⟩
     case round =>
      obtain ⟨n, rfl, rfl, hre⟩ := hrel
      clear hre
      go_wp2
      go_roundw
      case rel => exact ⟨k + 1, by omega, by go_num, HN2⟩
      case measure => simp [intOf]; omega
   ·obtain rfl : k = N := by omega
    have HF := Lib.hid HW.out.1
    have m4 : (1 : Int) ≤ (md : Int) := by omega
    have m5 : (md : Int) ≤ 3 := by omega
    have m6 : (0 : Int) < (k : Int) := by have := HLM.out; omega
    clear HW
    go_wp2
    go_ret
    exact ⟨rfl, HF.out⟩
end Go.Proofs.YtodlhhfcjkjapaaGreatDoor
