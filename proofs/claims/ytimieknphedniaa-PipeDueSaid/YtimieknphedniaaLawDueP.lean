/- PipeDue, walked: the least time of those who wait is told, and that of who waits no more is not: of any times, eight at most. -/
import Derived.Test.YtimieknphedniaaPipeLaw
import Derived.Test.YtimieknphedniaaOpenRows
import Derived.BigQuiet
namespace Go.Proofs.Ytimieknphedniaa
open Go.RowKit

/-- Who waits till then. -/
def dw (d : Int) : Wt := ⟨⟨#[]⟩, ⟨#[]⟩, false, d⟩
theorem dues_dw (l : List Int) : dues (l.map dw) = l := by
  rw [dues, List.map_map]
  exact (List.map_congr_left fun _ _ => rfl).trans (List.map_id l)
/-- Whether one of those at K and behind it, before i, is the least; or none is asked for. -/
def foundAt (ys : List Int) (n K : Nat) (D : Int) (i : Nat) : Bool := decide (K = n) || ((ys.take i).drop K).any (· == D)
theorem found_next (ys : List Int) (n K : Nat) (D : Int) (i : Nat) (y : Int) (hK : K ≤ i) (hy : ys[i]? = some y) : foundAt ys n K D (i + 1) = (foundAt ys n K D i || (y == D)) := by
  obtain ⟨hi, rfl⟩ := List.getElem?_eq_some_iff.1 hy
  unfold foundAt
  rw [List.take_succ_eq_append_getElem hi, List.drop_append_of_le_length (by simp; omega), List.any_append, Bool.or_assoc]
  simp
theorem found_start (ys : List Int) (n K : Nat) (D : Int) : foundAt ys n K D K = decide (K = n) := by
  unfold foundAt
  rw [List.drop_of_length_le (by simp; omega)]; simp
theorem found_end {ys : List Int} {n K : Nat} (hn : n ≤ ys.length) (hK : K ≤ n) (hy : ∀ x ∈ ys, x ≤ Pi.never) : foundAt ys n K (Pi.due ((ys.take n).drop K)) n = true := by
  unfold foundAt
  rcases Nat.lt_or_ge K n with h | h
  · obtain ⟨i, hi, hk, e⟩ := (Pi.due_law hn hK hy).2.1 h
    rw [Bool.or_eq_true]
    refine .inr (List.any_eq_true.2 ⟨_, List.mem_iff_getElem.2 ⟨i - K, by simp; omega, rfl⟩, ?_⟩)
    rw [List.getElem_drop, List.getElem_take, beq_iff_eq, ← e]
    congr 1; omega
  · rw [decide_eq_true (by omega)]; rfl

theorem sub_few {m j : Nat} (h : j ≤ m) (hm : m ≤ 8) : IntKind.i64.wrap ((m : Int) - (j : Int)) = ((m - j : Nat) : Int) ∧ wrap64 ((m : Int) - (j : Int)) = ((m - j : Nat) : Int) := by
  have h1 : ((m - j : Nat) : Int) = (m : Int) - (j : Int) := Int.ofNat_sub h
  rw [h1]
  exact ⟨wraps_i64 _ (by omega) (by omega), IntWalk.wrap64_in _ ⟨by omega, by omega⟩⟩

set_option maxRecDepth 20000 in
set_option maxHeartbeats 4000000 in
theorem lawDueP (v : Value) (ys : List Int) (r : Int) (hl : ys.length ≤ maxLen) (hz : ∀ y ∈ ys, (Lit.int .i64 y).wf = true) (hr : (Lit.int .u8 r).wf = true) (w : World) (hrd : RdN 1 w v (ys.map fun y => [.int .i64 y])) :
    Calls Try.prog 5 #[v, .int .u8 r] w fun e w' => e = .returned (.bool true) ∧ Below w.heap.size w w' := by
  have hb0 := bounds_u8 hr
  obtain ⟨R, rfl⟩ := Int.eq_ofNat_of_zero_le hb0.1
  have hle : ∀ y ∈ ys, y ≤ Pi.never := fun y hy => by have := bounds_i64 (hz y hy); unfold Pi.never; omega
  obtain ⟨ao, cap, rfl, hcap, hcell⟩ := hrd.form
  have hxs : ∀ i y, ys[i]? = some y → ∃ b o, ao = some ⟨b, o, none⟩ ∧ w.cell? ⟨b, o + i, none⟩ = some (.int .i64 y) := fun i y hy => by
    have hi := (List.getElem?_eq_some_iff.1 hy).1
    obtain ⟨b, o, e, _, hc⟩ := hcell (by rw [List.length_map]; omega)
    refine ⟨b, o, e, ?_⟩
    have := hc i [.int .i64 y] (by rw [List.getElem?_map, hy]; rfl) 0 _ rfl
    simpa using this
  rw [List.length_map] at hcap ⊢
  unfold maxLen at hl
  obtain ⟨L, hL⟩ : ∃ L, ys.length = L := ⟨_, rfl⟩
  rw [hL] at hcap hl ⊢
  obtain ⟨n, hn⟩ : ∃ n, min L 8 = n := ⟨_, rfl⟩
  obtain ⟨M, hM⟩ : ∃ M, R % 9 = M := ⟨_, rfl⟩
  obtain ⟨K, hK⟩ : ∃ K, min M n = K := ⟨_, rfl⟩
  have hn8 : n ≤ 8 := by omega
  have hnL : n ≤ L := by omega
  have hKn : K ≤ n := by omega
  have HXS := Lib.hid hxs
  have HYL := Lib.hid hL
  have HLE := Lib.hid hle
  have hS := shown_any w
  have m3 : (R : Int).tmod 9 = (M : Int) := by rw [Int.tmod_eq_emod_of_nonneg (by omega)]; omega
  have m1 : min (L : Int) 8 = (n : Int) := by omega
  have m2 : IntKind.i64.wrap (R : Int) = (R : Int) := wraps_i64 _ (by omega) (by omega)
  have m5 : wrap64 (R : Int) = (R : Int) := IntWalk.wrap64_in _ ⟨by omega, by omega⟩
  have m4 : min (M : Int) (n : Int) = (K : Int) := by omega
  have HNL := Lib.hid hnL
  have HKN := Lib.hid hKn
  clear hrd hxs hcell hz hr hb0 hL hle hM hK hn
  go_enter Try.func5, Try.ntmps5
  go_wp2_with fail
  refine hS.mono ?_
  rintro e w1 ⟨rfl, hb1⟩
  have HB1 := Lib.hid hb1
  have hN := new_any w1
  clear hS hb1
  go_wp2_with fail
  refine hN.mono ?_
  rintro e w2 ⟨rfl, hb2, hp2⟩
  have HB2 := Lib.hid (HB1.out.trans (hb2.mono HB1.out.size))
  have hD := due_any hp2
  have HP2 := Lib.hid hp2
  have hd0 : Pi.due (dues []) = 9223372036854775807 := rfl
  rw [hd0] at hD
  have hg1 : w.heap.size ≤ w1.heap.size := HB1.out.size
  generalize w1.heap.size = g at *
  have HG := Lib.hid hg1
  clear hN hb2 hp2 hd0 hg1
  go_wp2_with (refine hD.mono ?_; rintro e w' ⟨rfl, hw⟩; obtain rfl := hw; clear hD)
  go_loopw [8] (fun i wr => ∃ k : Nat, k ≤ n ∧ i = .int .i64 (k : Int) ∧ Hid (Below w.heap.size w wr) ∧ Hid (PO wr g ((ys.take k).map dw))) (fun i _ => n - (intOf i).toNat)
  case atStart => exact ⟨0, Nat.zero_le _, rfl, HB2, HP2⟩
  case round =>
    obtain ⟨k, hk, rfl, HBR, HPR⟩ := hrel
    clear HB2 HP2
    by_cases hlt : k < n
    · obtain ⟨y, hy⟩ : ∃ y, ys[k]? = some y := ⟨_, List.getElem?_eq_getElem (by rw [HYL.out]; have := HNL.out; omega)⟩
      obtain ⟨b, o, rfl, hc⟩ := HXS.out k y hy
      have hcr := (HBR.out.cell (World.block_lt_of_cell? w _ hc)).trans hc
      have hkl : ((ys.take k).map dw).length < 8 := by rw [List.length_map, List.length_take]; omega
      have hP := push_any HPR.out (dw y) hkl
      unfold Wt.val at hP
      dsimp only [dw] at hP
      have hnx : (ys.take k).map dw ++ [dw y] = (ys.take (k + 1)).map dw := by
        obtain ⟨h1, rfl⟩ := List.getElem?_eq_some_iff.1 hy
        rw [List.take_succ_eq_append_getElem h1, List.map_append]; rfl
      have HNX := Lib.hid hnx
      have hkL : (k : Int) < (L : Int) := by omega
      have hkL2 : k < L := by omega
      clear hc hkl hy hnx HPR
      go_wp2_with fail
      refine hP.mono ?_
      rintro e w3 ⟨rfl, hp3, ht3⟩
      have HB3 := Lib.hid (HBR.out.trans (ht3.below (fun k hk => by rw [hk]; exact HG.out) HBR.out.size))
      have HP3 := Lib.hid (show PO w3 g ((ys.take (k + 1)).map dw) by rw [← HNX.out]; exact hp3)
      clear hP hp3 ht3 hcr
      go_wp2
      go_roundw
      case rel => exact ⟨k + 1, hlt, by go_num, HB3, HP3⟩
      case measure => simp [intOf]; omega
    · obtain rfl : k = n := by omega
      clear hlt hk
      have HP2 : Hid (PO wr g (((ys.take k).drop 0).map dw)) := HPR
      go_wp2
      go_loopw [10] (fun i w5 => ∃ j : Nat, j ≤ K ∧ i = .int .i64 (j : Int) ∧ Hid (Below w.heap.size w w5) ∧ Hid (PO w5 g (((ys.take k).drop j).map dw))) (fun i _ => K - (intOf i).toNat)
      case atStart => exact ⟨0, Nat.zero_le _, rfl, HBR, HP2⟩
      case round =>
        obtain ⟨j, hj, rfl, HBQ, HPQ⟩ := hrel
        clear HP2 HPR HBR
        by_cases hlt : j < K
        · obtain ⟨y, hy⟩ : ∃ y, (ys.take k).drop j = y :: (ys.take k).drop (j + 1) := ⟨_, List.drop_eq_getElem_cons (by rw [List.length_take, HYL.out]; omega)⟩
          have hp5 := HPQ.out
          rw [hy, List.map_cons] at hp5
          have hR := reply_goes hp5 2 ⟨#[49]⟩ rfl
          unfold Wt.val repV at hR
          dsimp only [dw] at hR
          clear hp5 hy HPQ
          go_wp2_with fail
          refine hR.mono ?_
          rintro e w6 ⟨rfl, hp6, ht6⟩
          have HB6 := Lib.hid (HBQ.out.trans (ht6.below (fun k hk => by rw [hk]; exact HG.out) HBQ.out.size))
          have HP6 := Lib.hid hp6
          clear hR hp6 ht6
          go_wp2
          go_roundw
          case rel => exact ⟨j + 1, hlt, by go_num, HB6, HP6⟩
          case measure => simp [intOf]; omega
        · obtain rfl : j = K := by omega
          clear hlt hj
          obtain ⟨D, hD⟩ : ∃ D, Pi.due ((ys.take k).drop j) = D := ⟨_, rfl⟩
          obtain ⟨f0, hf0⟩ : ∃ f0, ((j : Int) == (k : Int)) = f0 := ⟨_, rfl⟩
          have hf1 : f0 = foundAt ys k j D j := by rw [found_start, ← hf0]; exact Bool.eq_iff_iff.2 (by simp; omega)
          have HF1 := Lib.hid hf1
          have HDD := Lib.hid hD
          clear hf1 hD
          go_wp2
          go_loopw [11, 12] (fun f i w7 => ∃ (m : Nat) (b : Bool), j ≤ m ∧ m ≤ k ∧ i = .int .i64 (m : Int) ∧ f = .bool b ∧ Hid (b = foundAt ys k j D m) ∧ Hid (Below w.heap.size w w7) ∧ Hid (PO w7 g (((ys.take k).drop j).map dw))) (fun _ i _ => k - (intOf i).toNat)
          case atStart => exact ⟨j, f0, Nat.le_refl _, hKn, rfl, rfl, HF1, HBQ, HPQ⟩
          case round =>
            obtain ⟨m, b, hjm, hmk, rfl, rfl, HFM, HBU, HPU⟩ := hrel
            clear HBQ HPQ HF1 hf0
            by_cases hlt : m < k
            · obtain ⟨y, hy⟩ : ∃ y, ys[m]? = some y := ⟨_, List.getElem?_eq_getElem (by rw [HYL.out]; have := HNL.out; omega)⟩
              obtain ⟨bb, o, rfl, hc⟩ := HXS.out m y hy
              have hfacts : ∀ wr : World, Below w.heap.size w wr → PO wr g (((ys.take k).drop j).map dw) → (∀ q, (wr.drewN q).cell? ⟨bb, o + m, none⟩ = some (.int .i64 y))
                  ∧ ∀ q, Calls Try.prog 16 #[.pointer (some ⟨g, 0, none⟩)] (wr.drewN q) fun e w' => e = .returned (.int .i64 D) ∧ w' = wr.drewN q := fun wr hbu hpu => ⟨fun q => ((below_drewN hbu q).cell (World.block_lt_of_cell? w _ hc)).trans hc, fun q => by
                have h1 : PO (wr.drewN q) g (((ys.take k).drop j).map dw) := ⟨hpu.c, hpu.le⟩
                have h2 := due_any h1
                rw [dues_dw, HDD.out] at h2
                exact h2.mono fun _ _ ⟨a, b⟩ => ⟨a, b.symm⟩⟩
              have HFA := Lib.hid hfacts
              obtain ⟨hcr, hDu⟩ := hfacts wr HBU.out HPU.out
              have hyD : D ≤ y := by
                rw [← HDD.out]
                have h1 : m < ys.length := (List.getElem?_eq_some_iff.1 hy).1
                have h2 : y = ys[m] := (List.getElem?_eq_some_iff.1 hy).2.symm
                rw [h2]
                exact (Pi.due_law (by rw [HYL.out]; exact HNL.out) HKN.out HLE.out).1 m hlt hjm
              have hyD2 : (y < D) = False := eq_false (by omega)
              have hnx := found_next ys k j D m y hjm hy
              rw [← HFM.out] at hnx
              have HNX := Lib.hid hnx
              have hkL : (m : Int) < (L : Int) := by omega
              have hkL2 : m < L := by omega
              have HDU := Lib.hid hDu
              have hc0 := hcr 0
              have HCR := Lib.hid hcr
              clear hc hy hnx hyD hcr hDu hfacts
              go_wp2
              refine wp_region_quiet_lit (by kernel_rfl) (by kernel_rfl) ?_
              have hcr := HCR.out
              repeat (quiet_step (exact Calls.quiet_of_same (HDU.out _)))
              refine wpQuiet_nil ?_
              rintro _ ⟨nq, rfl⟩
              have HBV := Lib.hid (below_drewN HBU.out nq)
              have HPV := Lib.hid (show PO (wr.drewN nq) g (((ys.take k).drop j).map dw) from ⟨HPU.out.c, HPU.out.le⟩)
              generalize wr.drewN nq = wx at HBV HPV ⊢
              clear hcr HCR HDU hc0 HBU HPU
              obtain ⟨hcr, hDu⟩ := HFA.out wx HBV.out HPV.out
              have HDU := Lib.hid hDu
              have HCR := Lib.hid hcr
              clear hcr hDu
              cases b with
              | false =>
                go_wp2
                refine wp_region_quiet_lit (by kernel_rfl) (by kernel_rfl) ?_
                have hcr := HCR.out
                obtain ⟨e, he⟩ : ∃ e, (y == D) = e := ⟨_, rfl⟩
                repeat (quiet_step (exact Calls.quiet_of_same (HDU.out _)))
                refine wpQuiet_nil ?_
                rintro _ ⟨nq, rfl⟩
                have HBW := Lib.hid (below_drewN HBV.out nq)
                have HPW := Lib.hid (show PO (wx.drewN nq) g (((ys.take k).drop j).map dw) from ⟨HPV.out.c, HPV.out.le⟩)
                generalize wx.drewN nq = wy at HBW HPW ⊢
                clear hcr HCR HDU HBV HPV
                have HFN := Lib.hid (show e = foundAt ys k j D (m + 1) by rw [HNX.out, he]; rfl)
                clear he
                go_wp2
                go_roundw
                case rel => exact ⟨m + 1, e, Nat.le_succ_of_le hjm, hlt, by go_num, rfl, HFN, HBW, HPW⟩
                case measure => simp [intOf]; omega
              | true =>
                clear HDU
                go_wp2
                go_quiet (fail)
                have HBW := Lib.hid (below_drewN HBV.out nq)
                have HPW := Lib.hid (show PO (wx.drewN nq) g (((ys.take k).drop j).map dw) from ⟨HPV.out.c, HPV.out.le⟩)
                generalize wx.drewN nq = wy at HBW HPW ⊢
                clear HCR HBV HPV
                have HFN := Lib.hid (show true = foundAt ys k j D (m + 1) by rw [HNX.out]; rfl)
                go_wp2
                go_roundw
                case rel => exact ⟨m + 1, true, Nat.le_succ_of_le hjm, hlt, by go_num, rfl, HFN, HBW, HPW⟩
                case measure => simp [intOf]; omega
            · obtain rfl : m = k := Nat.le_antisymm hmk (Nat.le_of_not_lt hlt)
              clear hlt hmk
              have hfm := HFM.out
              rw [← HDD.out, found_end (by rw [HYL.out]; exact HNL.out) HKN.out HLE.out] at hfm
              subst hfm
              have hlen := len_any HPU.out
              rw [List.length_map, List.length_drop, List.length_take, HYL.out, Nat.min_eq_left HNL.out] at hlen
              obtain ⟨hs1, hs2⟩ := sub_few (m := m) (j := j) HKN.out hn8
              have hdl := due_any HPU.out
              have HBU2 := HBU
              rcases Nat.lt_or_ge j m with hjk | hjk
              · have hjk2 : (j : Int) < (m : Int) := by omega
                clear hdl
                go_wp2_with (refine hlen.mono ?_; rintro e w' ⟨rfl, hw⟩; obtain rfl := hw; clear hlen)
                go_ret
                exact ⟨rfl, HBU2.out⟩
              · obtain rfl : j = m := Nat.le_antisymm HKN.out hjk
                rw [Nat.sub_self] at hlen hs1 hs2
                have hdn : ((ys.take j).drop j) = [] := List.drop_of_length_le (by rw [List.length_take]; omega)
                rw [hdn] at hdl
                have hdd : Pi.due (dues ([].map dw)) = 9223372036854775807 := rfl
                rw [hdd] at hdl
                clear hdn hdd
                go_wp2_with (first
                  | (go_at_call 15; refine hlen.mono ?_; rintro e w' ⟨rfl, hw⟩; obtain rfl := hw; clear hlen)
                  | (go_at_call 16; refine hdl.mono ?_; rintro e w' ⟨rfl, hw⟩; obtain rfl := hw; clear hdl))
                go_ret
                exact ⟨rfl, HBU2.out⟩
end Go.Proofs.Ytimieknphedniaa
