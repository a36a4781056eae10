/- The law QueueCuts walked. -/
import Derived.Test.YtocbmknbmnojkaaQueueQL
import Derived.Test.YtocbmknbmnojkaaOpenRows
namespace Go.Proofs.Ytocbmknbmnojkaa
open Go.RowKit Go.ChangeShapes

theorem own_cells {w : World} {B g n cap : Nat} {e : TypeId} {vs : List Value} (h : w.ownsRow B e 1 (.slice (some ⟨g, 0, none⟩) n cap) n vs) : ∃ C, w.heap[g]? = some (.cells C e (0, 0)) ∧ n ≤ C.size ∧ B ≤ g := by
  rcases h.2 with ⟨e, _⟩ | ⟨g', cap', cur, e, h1, h2, h3, _, h5, _⟩
  · cases e
  · simp only [Value.slice.injEq, Option.some.injEq, Addr.mk.injEq, and_true, true_and] at e
    obtain ⟨rfl, rfl⟩ := e
    exact ⟨cur, h2, by omega, h1⟩

/-- A store into a block that is none of the queue's. -/
theorem QL.other {W wr : World} {g t gb : Nat} {s : Value} {most : Int} {xs : List UInt8} (h : QL W g s most xs t wr) (h1 : g ≠ gb) (h2 : s.ownBlock ≠ some gb) (hW : W.heap.size ≤ gb) (i : Nat) (u : Value) : QL W g s most xs t (wr.setCell ⟨gb, i, none⟩ u) := by
  refine ⟨h.q.apart (turn_setCell wr gb i (.slice none 0 0) u) h1 (fun e => by cases e) h2 ?_, h.below.setCell hW u⟩
  cases hs : s.ownBlock with
  | none => exact .inl rfl
  | some k => exact .inr (fun e => by cases e)

/-- What stands in the inner loop of QueueCuts. -/
structure CU (W : World) (g : Nat) (s : Value) (xs : List UInt8) (t gb n : Nat) (wr : World) : Prop where
  q : QL W g s 5000 xs t wr
  b : ∃ C, wr.heap[gb]? = some (.cells C 5 (0, 0)) ∧ n ≤ C.size
  ng : g ≠ gb
  ns : s.ownBlock ≠ some gb
  hW : W.heap.size ≤ gb
theorem CU.set {W wr : World} {g t gb n : Nat} {s : Value} {xs : List UInt8} (h : CU W g s xs t gb n wr) (i : Nat) (u : Value) : CU W g s xs t gb n (wr.setCell ⟨gb, i, none⟩ u) := by
  obtain ⟨C, hC, hn⟩ := h.b
  exact ⟨h.q.other h.ng h.ns h.hW i u, ⟨_, setCell_row hC, by simpa using hn⟩, h.ng, h.ns, h.hW⟩

set_option maxRecDepth 20000 in
set_option maxHeartbeats 1000000 in
theorem lawCuts (v0 : Value) (ys : List (Value × List UInt8)) (v1 : Value) (x1 : List UInt8) (h0 : ys.length ≤ maxLen) (h1 : x1.length ≤ maxLen) (w : World) (r0 : RdN 1 w v0 (ys.map fun y => [y.1])) (m0 : ∀ y ∈ ys, Rd w y.1 (y.2.map bv) ∧ y.2.length ≤ maxLen) (r1 : Rd w v1 (x1.map bv)) :
    Calls Try.prog 4 #[v0, v1] w fun e w' => e = .returned (.bool true) ∧ Below w.heap.size w w' := by
  obtain ⟨lo, cl, rfl, hcl, hll⟩ := r0.form
  rw [List.length_map] at hcl hll ⊢
  obtain ⟨L, hL⟩ : ∃ L, L = ys.length := ⟨_, rfl⟩
  rw [← hL] at h0 hcl hll ⊢
  obtain ⟨ao, ca, rfl, hca, hxl⟩ := r1.form
  obtain ⟨M, hM⟩ : ∃ M, M = x1.length := ⟨_, rfl⟩
  rw [← hM] at h1 hca hxl ⊢
  have HLL := Lib.hid hll
  have HXL := Lib.hid hxl
  have HM0 := Lib.hid m0
  have HL := Lib.hid hL
  have HM := Lib.hid hM
  unfold maxLen at h0 h1
  clear hll hxl m0 hL hM r0 r1
  go_enter Try.func4, Try.ntmps4
  go_wp2_with fail
  refine (shown_any w).mono ?_
  rintro e wa ⟨rfl, hba⟩
  have HBA := Lib.hid hba
  clear hba
  go_wp2_with fail
  refine (QL.new HBA.out 5000 (by omega) (by omega)).mono ?_
  rintro e wb ⟨g, rfl, hq⟩
  have HQ := Lib.hid hq
  clear hq HBA
  go_wp2
  go_loopw [7, 8, 9] (fun a c i wr => ∃ (W : List UInt8) (t k : Nat) (s : Value), k ≤ L ∧ k ≤ 20 ∧ t ≤ W.length ∧ W.length ≤ 60 * k ∧ a = .string (kb W) ∧ c = .string (kb (W.take t)) ∧ i = .int .i64 k ∧ Hid (QL w g s 5000 W t wr)) (fun _ _ i _ => 20 - (intOf i).toNat)
  case atStart => exact ⟨[], 0, 0, _, by omega, by omega, by simp, by simp, rfl, rfl, rfl, HQ.out⟩
  case round =>
    obtain ⟨W, t, k, s, hk, hk20, hT, hW, rfl, rfl, rfl, HQ⟩ := hrel
    by_cases hgo : k < L ∧ k < 20
    · obtain ⟨hlt, hlt20⟩ := hgo
      obtain ⟨b, o, rfl, hm, hcell⟩ := HLL.out (by omega)
      obtain ⟨y, hy⟩ : ∃ y, ys[k]? = some y := ⟨_, List.getElem?_eq_getElem (by rw [← HL.out]; exact hlt)⟩
      obtain ⟨hry, hly⟩ := HM0.out y (List.mem_of_getElem? hy)
      have hc0 := hcell k [y.1] (by rw [List.getElem?_map, hy]; rfl) 0 _ rfl
      obtain ⟨v, xs⟩ := y
      simp only at hry hly hc0
      have u_size := HQ.out.below.size
      have ha : Below wr.heap.size wr (wr.alloc (.cells #[] 5)) := (Below.refl _ _).alloc (Nat.le_refl _) _
      have hb1 := HQ.out.below.trans (ha.mono HQ.out.below.size)
      have hcr := (hb1.cell (World.block_lt_of_cell? w _ hc0)).trans hc0
      rw [Nat.mul_one, Nat.add_zero] at hcr
      have HA := Lib.hid ha
      have HB1 := Lib.hid hb1
      clear hc0 hy hcell ha hb1
      go_wp2_with fail
      refine (short_any v xs _ (hry.below HB1.out) hly).mono ?_
      rintro e wc ⟨va, rfl, ra, hwc⟩
      obtain rfl := hwc
      have ra := (ra w hry).below HB1.out
      obtain ⟨Y, hY⟩ : ∃ Y, Y = xs.take 60 := ⟨_, rfl⟩
      have lY : Y.length ≤ 60 := by rw [hY]; exact List.length_take_le _ _
      rw [← hY] at ra
      have RA := Lib.hid ra
      clear hY ra hry hly hcr
      go_wp2_with (at_builtin; refine append_where rfl (.tmp 33) (.tmp 38) rfl rfl (World.ownsRow_made (base := wr.heap.size) wr #[] 0 (Nat.le_refl _) (Nat.zero_le _) rfl) Y RA.out (by omega) HA.out.size ?_)
      intro v2 w2 ho hT2 _ hw
      have hbw2 : Below wr.heap.size wr w2 := HA.out.grown hT2 HA.out.size (fun k hk => by cases hk; exact Nat.le_refl _)
      have hform : ∃ gb cb, v2 = .slice (some ⟨gb, 0, none⟩) Y.length cb ∧ wr.heap.size ≤ gb := by
        rcases ho.2 with ⟨e, _⟩ | ⟨gb, cb, cur, e, h1, _⟩
        · rw [e] at hw
          rcases hw with h | ⟨_, ⟨_, h⟩, _⟩ <;> cases h
        · exact ⟨gb, cb, e, h1⟩
      obtain ⟨gb, cb, rfl, hgb⟩ := hform
      obtain ⟨N, hN⟩ : ∃ N, N = Y.length := ⟨_, rfl⟩
      rw [← hN] at ho lY ⊢
      have Q2 := HQ.out.next hbw2
      obtain ⟨Cb, hCb, hCn, _⟩ := own_cells ho
      have hgl : gb < w2.heap.size := (Array.getElem?_eq_some_iff.1 hCb).1
      have hg : g < wr.heap.size := HQ.out.q.lt
      have hsl : ∀ k, s.ownBlock = some k → k < wr.heap.size := fun k e => (HQ.out.q.slt k e).2
      have hcb : N ≤ cb := by
        rcases ho.2 with ⟨e, _⟩ | ⟨_, _, _, e, _, _, h, _⟩
        · cases e
        · simp only [Value.slice.injEq] at e
          obtain ⟨_, _, rfl⟩ := e
          exact h
      have rdb := Rd.of_own ho
      have c1 := str_of rdb (K := kb Y) rfl
      obtain ⟨A, hA⟩ : ∃ A, A = W.length := ⟨_, rfl⟩
      have sW : (kb W).size = A := hA.symm
      have HAW := Lib.hid hA
      have sY : (kb Y).size = N := hN.symm
      have HN := Lib.hid hN
      have HSL := Lib.hid hsl
      have HQ2 := Lib.hid Q2
      have HO := Lib.hid ho
      have HGB := Lib.hid hgb
      have HGL := Lib.hid hgl
      have HG := Lib.hid hg
      have RDB := Lib.hid rdb
      have HCB := Lib.hid hCb
      have HW := Lib.hid hW
      have lW : A ≤ 1200 := by omega
      have lWk : A ≤ 60 * k := by omega
      have lt : t ≤ A := by omega
      have HLW := Lib.hid lWk
      have HLT := Lib.hid lt
      clear lWk lt hA hT
      clear hN hsl Q2 ho hgb hgl hg rdb hCb hw hT2 hbw2 HQ hW RA HA HB1
      go_wp2_with fail
      refine (put_room HQ2.out.q _ Y RDB.out (by rw [← HN.out, ← HAW.out]; omega) (by rw [← HN.out, ← HAW.out]; omega) HQ2.out.below.size).mono ?_
      rintro e w3 ⟨s', rfl, q3, hT3, hs3⟩
      have cu : CU w g s' (W ++ Y) t gb N w3 := by
        have n1 : gb ≠ g := by have := HG.out; have := HGB.out; omega
        have n2 : s.ownBlock ≠ some gb := fun e => by
          have h := HSL.out _ e
          have := HGB.out
          omega
        have o3 := hT3.own HO.out (fun e => n1 (by simpa [Value.ownBlock] using e)) (.inr fun e => n2 e.symm)
        obtain ⟨C3, h3, h4, _⟩ := own_cells o3
        refine ⟨⟨q3, HQ2.out.turn hT3⟩, ⟨C3, h3, h4⟩, ?_, ?_, ?_⟩
        · have := HG.out
          have := HGB.out
          omega
        · rcases hs3 with e | e
          · rw [e]
            intro e
            have := HSL.out _ e
            have := HGB.out
            omega
          · rw [e]
            intro e
            cases e
            have := HGL.out
            omega
        · have := HGB.out
          have := u_size
          omega
      have HCU := Lib.hid cu
      clear cu q3 hT3 hs3 HQ2 HO RDB HCB HSL HGL c1
      go_wp2
      go_loopw [11] (fun i wq => ∃ j : Nat, j ≤ N ∧ i = .int .i64 j ∧ Hid (CU w g s' (W ++ Y) t gb N wq)) (fun i _ => N - (intOf i).toNat)
      case atStart => exact ⟨0, by omega, rfl, HCU.out⟩
      case round =>
        obtain ⟨j, hj, rfl, HC⟩ := hrel
        by_cases hjn : j < N
        · obtain ⟨C, hC, hCn⟩ := HC.out.b
          have k1 : wr.cell? ⟨gb, j, none⟩ = some (C.getD j default) := by
            rw [cell_of_row _ _ _ _ _ _ hC, Array.getD_eq_getD_getElem?, Array.getElem?_eq_getElem (by omega)]
            rfl
          have k2 : wr.frozen? ⟨gb, j, none⟩ = false := frozen_of_row _ _ _ _ _ hC
          have lj : j < cb := by omega
          clear hC hCn
          go_wp2
          go_roundw
          case rel => exact ⟨j + 1, by omega, by go_num, HC.out.set _ _⟩
          case measure => simp [intOf]; omega
        · obtain rfl : j = N := by omega
          have q5 := HC.out.q
          have Q5 := Lib.hid q5
          clear HC q5 HCU
          by_cases hkm : k < M
          · obtain ⟨b2, o2, rfl, hm2, hcell2⟩ := HXL.out (by omega)
            have hc2 := hcell2 k hkm
            obtain ⟨z, hz⟩ : ∃ z, z = (x1.getD k 0).toNat := ⟨_, rfl⟩
            have hz2 : z < 256 := by rw [hz]; exact UInt8.toNat_lt _
            have hcr2 := (Q5.out.below.cell (World.block_lt_of_cell? w _ hc2)).trans hc2
            unfold bv at hcr2
            rw [← hz] at hcr2
            obtain ⟨k1, hk1⟩ : ∃ k1, k1 = min z (A + j - t) := ⟨_, rfl⟩
            have HK1 := Lib.hid hk1
            have hlen : (W ++ Y).length = A + j := by rw [List.length_append, ← HAW.out, ← HN.out]
            have HLEN := Lib.hid hlen
            obtain ⟨K1, hK1⟩ : ∃ K, K = kb (((W ++ Y).drop t).take k1) := ⟨_, rfl⟩
            have sK1 : K1.size = k1 := by rw [hK1, kb_size, List.length_take, List.length_drop, hlen]; omega
            have sKT : (kb (W.take t)).size = t := by rw [kb_size, List.length_take, ← HAW.out]; have := HLT.out; omega
            have lk1 : t + k1 ≤ 1260 := by have := HLT.out; omega
            have HK2 := Lib.hid hK1
            clear hc2 hz hk1 hlen hK1 hcell2 hm2
            go_wp2_with fail
            refine (QL.take Q5.out (z : Int) (k := k1) (by rw [HLEN.out, HK1.out]; omega) (K := K1) HK2.out).mono ?_
            rintro e w6 ⟨xo, xc, rfl, c6, q6⟩
            have Q6 := Lib.hid q6
            clear q6 Q5
            go_wp2
            go_roundw
            case rel => exact ⟨W ++ Y, t + k1, k + 1, s', by omega, by omega, by rw [HLEN.out, HK1.out]; have := HLT.out; omega, by rw [HLEN.out]; have := HLW.out; omega, by rw [kb_append], by rw [List.take_add, kb_append, ← HK2.out, List.take_append_of_le_length (by rw [← HAW.out]; exact HLT.out)], by go_num, Q6.out⟩
            case measure => simp [intOf]; omega
          · go_wp2
            go_roundw
            case rel => exact ⟨W ++ Y, t, k + 1, s', by omega, by omega, by rw [List.length_append, ← HAW.out]; have := HLT.out; omega, by rw [List.length_append, ← HAW.out, ← HN.out]; have := HLW.out; omega, by rw [kb_append], by rw [List.take_append_of_le_length (by rw [← HAW.out]; exact HLT.out)], by go_num, Q5.out⟩
            case measure => simp [intOf]; omega
    · by_cases hlt : k < L
      · have h10 : ((k : Int) < 20) = False := eq_false (by omega)
        obtain ⟨A, hA⟩ : ∃ A, A = W.length := ⟨_, rfl⟩
        obtain ⟨D, hD⟩ : ∃ D, A = t + D := ⟨A - t, by omega⟩
        obtain ⟨KT, hKT⟩ : ∃ K, K = kb (W.take t) := ⟨_, rfl⟩
        obtain ⟨KW, hKW⟩ : ∃ K, K = kb W := ⟨_, rfl⟩
        obtain ⟨K2, hK2⟩ : ∃ K, K = kb (W.drop t) := ⟨_, rfl⟩
        have sT : KT.size = t := by rw [hKT, kb_size, List.length_take]; omega
        have sW : KW.size = A := by rw [hKW, kb_size, hA]
        have s2 : K2.size = D := by rw [hK2, kb_size, List.length_drop]; omega
        have hcat : KT ++ K2 = KW := by rw [hKT, hK2, hKW, ← kb_append, List.take_append_drop]
        have e1 : (t : Int) + (D : Int) = (A : Int) := by omega
        have lA : A ≤ 1200 := by omega
        rw [← hKT, ← hKW]
        have HA := Lib.hid hA
        have HD := Lib.hid hD
        have HKT := Lib.hid hKT
        have HK2 := Lib.hid hK2
        clear hA hD hKT hKW hK2 hT hW
        go_wp2_with fail
        refine (HQ.out.taken (K := KT) HKT.out (n := t) rfl).mono ?_
        rintro e w1 ⟨xo, xc, rfl, c1, q1⟩
        have Q1 := Lib.hid q1
        clear q1 HQ
        go_wp2_with fail
        refine (QL.len Q1.out (D := D) (by rw [← HA.out]; have := HD.out; omega)).mono ?_
        rintro e w2 ⟨rfl, q2⟩
        have Q2 := Lib.hid q2
        clear q2 Q1 c1
        go_wp2_with fail
        refine (QL.take Q2.out (D : Int) (k := D) (by rw [← HA.out]; have := HD.out; omega) (K := K2) (by rw [HK2.out, List.take_of_length_le]; rw [List.length_drop, ← HA.out]; have := HD.out; omega)).mono ?_
        rintro e w3 ⟨yo, yc, rfl, c3, q3⟩
        rw [← HD.out] at q3
        have Q3 := Lib.hid q3
        clear q3 Q2
        go_wp2_with fail
        refine (QL.len Q3.out (D := 0) (by rw [← HA.out]; omega)).mono ?_
        rintro e w4 ⟨rfl, q4⟩
        have Q4 := Lib.hid q4
        clear q4 Q3 c3
        go_wp2_with fail
        refine (QL.total Q4.out (L := A) HA.out).mono ?_
        rintro e w5 ⟨rfl, q5⟩
        have Q5 := Lib.hid q5
        clear q5 Q4
        go_wp2_with fail
        refine (QL.take Q5.out 3 (k := 0) (by rw [← HA.out]; omega) (K := kb []) (by rw [List.take_zero])).mono ?_
        rintro e w6 ⟨zo, zc, rfl, _, q6⟩
        have Q6 := Lib.hid q6.below
        clear q6 Q5
        go_wp2
        go_ret
        exact ⟨rfl, Q6.out⟩
      · obtain rfl : k = L := by omega
        obtain ⟨A, hA⟩ : ∃ A, A = W.length := ⟨_, rfl⟩
        obtain ⟨D, hD⟩ : ∃ D, A = t + D := ⟨A - t, by omega⟩
        obtain ⟨KT, hKT⟩ : ∃ K, K = kb (W.take t) := ⟨_, rfl⟩
        obtain ⟨KW, hKW⟩ : ∃ K, K = kb W := ⟨_, rfl⟩
        obtain ⟨K2, hK2⟩ : ∃ K, K = kb (W.drop t) := ⟨_, rfl⟩
        have sT : KT.size = t := by rw [hKT, kb_size, List.length_take]; omega
        have sW : KW.size = A := by rw [hKW, kb_size, hA]
        have s2 : K2.size = D := by rw [hK2, kb_size, List.length_drop]; omega
        have hcat : KT ++ K2 = KW := by rw [hKT, hK2, hKW, ← kb_append, List.take_append_drop]
        have e1 : (t : Int) + (D : Int) = (A : Int) := by omega
        have lA : A ≤ 1200 := by omega
        rw [← hKT, ← hKW]
        have HA := Lib.hid hA
        have HD := Lib.hid hD
        have HKT := Lib.hid hKT
        have HK2 := Lib.hid hK2
        clear hA hD hKT hKW hK2 hT hW
        go_wp2_with fail
        refine (HQ.out.taken (K := KT) HKT.out (n := t) rfl).mono ?_
        rintro e w1 ⟨xo, xc, rfl, c1, q1⟩
        have Q1 := Lib.hid q1
        clear q1 HQ
        go_wp2_with fail
        refine (QL.len Q1.out (D := D) (by rw [← HA.out]; have := HD.out; omega)).mono ?_
        rintro e w2 ⟨rfl, q2⟩
        have Q2 := Lib.hid q2
        clear q2 Q1 c1
        go_wp2_with fail
        refine (QL.take Q2.out (D : Int) (k := D) (by rw [← HA.out]; have := HD.out; omega) (K := K2) (by rw [HK2.out, List.take_of_length_le]; rw [List.length_drop, ← HA.out]; have := HD.out; omega)).mono ?_
        rintro e w3 ⟨yo, yc, rfl, c3, q3⟩
        rw [← HD.out] at q3
        have Q3 := Lib.hid q3
        clear q3 Q2
        go_wp2_with fail
        refine (QL.len Q3.out (D := 0) (by rw [← HA.out]; omega)).mono ?_
        rintro e w4 ⟨rfl, q4⟩
        have Q4 := Lib.hid q4
        clear q4 Q3 c3
        go_wp2_with fail
        refine (QL.total Q4.out (L := A) HA.out).mono ?_
        rintro e w5 ⟨rfl, q5⟩
        have Q5 := Lib.hid q5
        clear q5 Q4
        go_wp2_with fail
        refine (QL.take Q5.out 3 (k := 0) (by rw [← HA.out]; omega) (K := kb []) (by rw [List.take_zero])).mono ?_
        rintro e w6 ⟨zo, zc, rfl, _, q6⟩
        have Q6 := Lib.hid q6.below
        clear q6 Q5
        go_wp2
        go_ret
        exact ⟨rfl, Q6.out⟩
end Go.Proofs.Ytocbmknbmnojkaa
