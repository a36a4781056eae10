/- ClockDue, walked: a time that is due is as far as it was said, and nothing is late that is ahead: of any ticks. -/
import Derived.Test.YtooijkndndoolaaClockLaw
import Derived.Test.YtooijkndndoolaaOpenRows
import Derived.Test.YtooijkndndoolaaLowBits
namespace Go.Proofs.Ytooijkndndoolaa
open Go.RowKit Go.ChangeShapes Go.WideShapes Go.ChangeAt

set_option maxHeartbeats 4000000 in
theorem lawDueK (v : Value) (ys : List Int) (d : Int) (hl : ys.length ≤ maxLen) (hz : ∀ y ∈ ys, (Lit.int .i64 y).wf = true) (_hd : (Lit.int .i64 d).wf = true) (w : World) (hrd : RdN 1 w v (ys.map fun y => [.int .i64 y])) :
    Calls Try.prog 6 #[v, .int .i64 d] w fun e w' => e = .returned (.bool true) ∧ Below w.heap.size w w' := by
  obtain ⟨ao, cap, rfl, hcap, hcell⟩ := hrd.form
  have hxs : ∀ i y, ys[i]? = some y → ∃ b o, ao = some ⟨b, o, none⟩ ∧ w.cell? ⟨b, o + i, none⟩ = some (.int .i64 y) ∧ -9223372036854775808 ≤ y ∧ y ≤ 9223372036854775807 := fun i y hy => by
    have hi := (List.getElem?_eq_some_iff.1 hy).1
    obtain ⟨b, o, e, _, hc⟩ := hcell (by rw [List.length_map]; omega)
    have hw := bounds_i64 (hz y (List.mem_of_getElem? hy))
    refine ⟨b, o, e, ?_, by omega, by omega⟩
    have := hc i [.int .i64 y] (by rw [List.getElem?_map, hy]; rfl) 0 _ rfl
    simpa using this
  rw [List.length_map] at hcap ⊢
  unfold maxLen at hl
  obtain ⟨L, hL⟩ : ∃ L, ys.length = L := ⟨_, rfl⟩
  rw [hL] at hcap hl ⊢
  have HXS := Lib.hid hxs
  have HYL := Lib.hid hL
  have hmd := i64_30 d
  obtain ⟨r, hr⟩ : ∃ r, d % 1073741824 = r := ⟨_, rfl⟩
  have hr0 : 0 ≤ r ∧ r ≤ 1073741823 := by omega
  rw [hr] at hmd
  obtain ⟨p, hp⟩ : ∃ p, 1 + r = p := ⟨_, rfl⟩
  have hp0 : 1 ≤ p ∧ p ≤ 1073741824 := by omega
  have HP := Lib.hid hp0
  have HPD : Hid (-9223372036854775808 ≤ p ∧ p ≤ 9223372036854775807) := Lib.hid ⟨by omega, by omega⟩
  clear hrd hxs hcell hz _hd hL hr hp0
  go_enter Try.func6, Try.ntmps6
  go_wp2_with fail
  refine (shown_any _).mono ?_
  rintro e w1 ⟨rfl, hb1⟩
  have HB1 := Lib.hid hb1
  clear hb1
  go_wp2_with fail
  refine (new_any _).mono ?_
  rintro e w2 ⟨rfl, hb2, hc2⟩
  have HBx := Lib.hid (HB1.out.trans (hb2.mono HB1.out.size))
  have HCx := Lib.hid hc2
  have HG := Lib.hid HB1.out.size
  generalize w1.heap.size = g at *
  clear hb2 hc2 HB1
  go_wp2
  go_loopw [7, 9] (fun s i wr => ∃ (k : Nat) (t : Int), k ≤ 20 ∧ i = .int .i64 (k : Int) ∧ s = .int .i64 t ∧ Hid (0 ≤ t ∧ t ≤ (k : Int) * 1073741823) ∧ Hid (Below w.heap.size w wr) ∧ Hid (CO wr g t)) (fun _ i _ => 20 - (intOf i).toNat)
  case atStart => exact ⟨0, 0, by omega, rfl, rfl, Lib.hid ⟨by omega, by omega⟩, HBx, HCx⟩
  case round =>
    clear HBx HCx hmd hp hr0
    obtain ⟨k, t, hk20, rfl, rfl, HTT, HBx, HCx⟩ := hrel
    obtain ⟨p0, p1⟩ := HP.out
    by_cases hlt : k < L ∧ k < 20
    · obtain ⟨hkL, hk2⟩ := hlt
      obtain ⟨y, hy⟩ : ∃ y, ys[k]? = some y := ⟨_, List.getElem?_eq_getElem (by rw [HYL.out]; omega)⟩
      obtain ⟨b, o, rfl, hc, _, _⟩ := HXS.out k y hy
      have hcr := (HBx.out.cell (World.block_lt_of_cell? w _ hc)).trans hc
      have hmn := i64_30 y
      obtain ⟨n, hn⟩ : ∃ n, y % 1073741824 = n := ⟨_, rfl⟩
      rw [hn] at hmn
      have n0 : 0 ≤ n := by omega
      have n1 : n ≤ 1073741823 := by omega
      have HN : Hid (-9223372036854775808 ≤ n ∧ n ≤ 9223372036854775807) := Lib.hid ⟨by omega, by omega⟩
      obtain ⟨t0, t1⟩ := HTT.out
      have t2 : t ≤ 21474836480 := by omega
      obtain ⟨x1, x2, x3, x4, x5⟩ := Cl.due_law t0 t2 n0 n1 p0 p1
      have HTN := Lib.hid (show 0 ≤ t + n ∧ t + n ≤ ((k + 1 : Nat) : Int) * 1073741823 from ⟨by omega, by push_cast; omega⟩)
      obtain ⟨e1, he1⟩ : ∃ e1, decide (p ≤ n) = e1 := ⟨_, rfl⟩
      obtain ⟨e2, he2⟩ : ∃ e2, decide (p < n) = e2 := ⟨_, rfl⟩
      rw [he1] at x2
      rw [he2] at x3
      have X1 := Lib.hid x1
      have X2 := Lib.hid x2
      have X3 := Lib.hid x3
      have X4 := Lib.hid x4
      clear x1 x2 x3 x4 x5 hn hc hy t1
      have hk := due_any HCx.out HPD.out
      rw [X1.out] at hk
      go_wp2_with fail
      refine hk.mono ?_
      rintro e wk15 ⟨rfl, hb⟩
      replace HBx := Lib.hid (HBx.out.trans (hb.mono HBx.out.size))
      replace HCx := Lib.hid (HCx.out.next hb)
      clear hk hb
      have hk := late_any HCx.out (t + p) HN.out
      rw [X2.out] at hk
      go_wp2_with fail
      refine hk.mono ?_
      rintro e wk16 ⟨rfl, hb⟩
      replace HBx := Lib.hid (HBx.out.trans (hb.mono HBx.out.size))
      replace HCx := Lib.hid (HCx.out.next hb)
      clear hk hb
      have hk := late_any HCx.out (t + p + 1) HN.out
      rw [X3.out] at hk
      go_wp2_with fail
      refine hk.mono ?_
      rintro e wk17 ⟨rfl, hb⟩
      replace HBx := Lib.hid (HBx.out.trans (hb.mono HBx.out.size))
      replace HCx := Lib.hid (HCx.out.next hb)
      clear hk hb
      have hk := tick_any HCx.out HN.out
      rw [X4.out] at hk
      go_wp2_with fail
      refine hk.mono ?_
      rintro e wk18 ⟨rfl, hc, ho⟩
      replace HBx := Lib.hid (HBx.out.trans (ho.below HG.out HBx.out.size))
      replace HCx := Lib.hid hc
      clear hk hc ho
      go_wp2
      go_roundw
      case rel => exact ⟨k + 1, t + n, by omega, by go_num, rfl, HTN, HBx, HCx⟩
      case measure => simp [intOf]; omega
    · have x5 : Cl.late t p 9223372036854775807 = false := (Cl.late_not _ _ _).2 (.inl rfl)
      have X5 := Lib.hid x5
      clear x5
      by_cases hkL : k < L
      · obtain rfl : k = 20 := by omega
        clear hlt hk20
        have hk := now_any HCx.out
        go_wp2_with fail
        refine hk.mono ?_
        rintro e w' ⟨rfl, hw⟩
        obtain rfl := hw.symm
        clear hk hw
        have hk := late_any HCx.out 9223372036854775807 HPD.out
        rw [X5.out] at hk
        go_wp2_with fail
        refine hk.mono ?_
        rintro e wk19 ⟨rfl, hb⟩
        replace HBx := Lib.hid (HBx.out.trans (hb.mono HBx.out.size))
        replace HCx := Lib.hid (HCx.out.next hb)
        clear hk hb
        go_wp2
        go_ret
        exact ⟨rfl, HBx.out⟩
      · clear hlt
        have hk := now_any HCx.out
        go_wp2_with fail
        refine hk.mono ?_
        rintro e w' ⟨rfl, hw⟩
        obtain rfl := hw.symm
        clear hk hw
        have hk := late_any HCx.out 9223372036854775807 HPD.out
        rw [X5.out] at hk
        go_wp2_with fail
        refine hk.mono ?_
        rintro e wk20 ⟨rfl, hb⟩
        replace HBx := Lib.hid (HBx.out.trans (hb.mono HBx.out.size))
        replace HCx := Lib.hid (HCx.out.next hb)
        clear hk hb
        go_wp2
        go_ret
        exact ⟨rfl, HBx.out⟩
end Go.Proofs.Ytooijkndndoolaa
