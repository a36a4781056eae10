/- ClockPlays, walked: however the time goes on, it, what is due, and what is late, is as the document says: of any ticks, any number of ticks, any time. -/
import Derived.Test.YtooijkndndoolaaClockLaw
import Derived.Test.YtooijkndndoolaaClockRef
import Derived.Test.YtooijkndndoolaaOpenRows
namespace Go.Proofs.Ytooijkndndoolaa
open Go.RowKit Go.ChangeShapes Go.WideShapes Go.ChangeAt

set_option maxHeartbeats 4000000 in
theorem lawPlaysK (v : Value) (ys : List Int) (d due : Int) (hl : ys.length ≤ maxLen) (hz : ∀ y ∈ ys, (Lit.int .i64 y).wf = true) (hd : (Lit.int .i64 d).wf = true) (_hdue : (Lit.int .i64 due).wf = true) (w : World) (hrd : RdN 1 w v (ys.map fun y => [.int .i64 y])) :
    Calls Try.prog 3 #[v, .int .i64 d, .int .i64 due] w fun e w' => e = .returned (.bool true) ∧ Below w.heap.size w w' := by
  have hD : -9223372036854775808 ≤ d ∧ d ≤ 9223372036854775807 := by have := bounds_i64 hd; exact ⟨by omega, by omega⟩
  have HD := Lib.hid hD
  obtain ⟨ao, cap, rfl, hcap, hcell⟩ := hrd.form
  have hxs : ∀ i y, ys[i]? = some y → ∃ b o, ao = some ⟨b, o, none⟩ ∧ w.cell? ⟨b, o + i, none⟩ = some (.int .i64 y) ∧ -9223372036854775808 ≤ y ∧ y ≤ 9223372036854775807 := fun i y hy => by
    have hi := (List.getElem?_eq_some_iff.1 hy).1
    obtain ⟨b, o, e, _, hc⟩ := hcell (by rw [List.length_map]; omega)
    have hw := bounds_i64 (hz y (List.mem_of_getElem? hy))
    refine ⟨b, o, e, ?_, by omega, by omega⟩
    have := hc i [.int .i64 y] (by rw [List.getElem?_map, hy]; rfl) 0 _ rfl
    simpa using this
  rw [List.length_map] at hcap ⊢
  unfold maxLen at hl
  obtain ⟨L, hL⟩ : ∃ L, ys.length = L := ⟨_, rfl⟩
  rw [hL] at hcap hl ⊢
  have HXS := Lib.hid hxs
  have HYL := Lib.hid hL
  clear hrd hxs hcell hz hd _hdue hL hD
  go_enter Try.func3, Try.ntmps3
  go_wp2_with fail
  refine (shown_any _).mono ?_
  rintro e w1 ⟨rfl, hb1⟩
  have HB1 := Lib.hid hb1
  clear hb1
  go_wp2_with fail
  refine (new_any _).mono ?_
  rintro e w2 ⟨rfl, hb2, hc2⟩
  have HBx := Lib.hid (HB1.out.trans (hb2.mono HB1.out.size))
  have HCx := Lib.hid hc2
  have HG := Lib.hid HB1.out.size
  generalize w1.heap.size = g at *
  clear hb2 hc2 HB1
  go_wp2
  go_loopw [9, 10] (fun s i wr => ∃ (k : Nat) (t : Int), k ≤ 40 ∧ k ≤ L + 1 ∧ i = .int .i64 (k : Int) ∧ s = .int .i64 t ∧ Hid (Below w.heap.size w wr) ∧ Hid (CO wr g t)) (fun _ i _ => 40 - (intOf i).toNat)
  case atStart => exact ⟨0, 0, by omega, by omega, rfl, rfl, HBx, HCx⟩
  case round =>
    clear HBx HCx
    obtain ⟨k, t, hk40, hkL1, rfl, rfl, HBx, HCx⟩ := hrel
    by_cases hlt : k ≤ L ∧ k < 40
    · obtain ⟨hkL, hk2⟩ := hlt
      have HO := Lib.hid HCx.out.on
      obtain ⟨x, hx⟩ : ∃ x, Cl.due t d = x := ⟨_, rfl⟩
      obtain ⟨z, hz⟩ : ∃ z, Cl.late t d due = z := ⟨_, rfl⟩
      have HX := Lib.hid hx
      have HZ := Lib.hid hz
      clear hx hz
      have hk := now_any HCx.out
      go_wp2_with fail
      refine hk.mono ?_
      rintro e w' ⟨rfl, hw⟩
      obtain rfl := hw.symm
      clear hk hw
      have hk := due_any HCx.out HD.out
      rw [HX.out] at hk
      go_wp2_with fail
      refine hk.mono ?_
      rintro e wk21 ⟨rfl, hb⟩
      replace HBx := Lib.hid (HBx.out.trans (hb.mono HBx.out.size))
      replace HCx := Lib.hid (HCx.out.next hb)
      clear hk hb
      have hk := fun w => rdue_any HO.out HD.out w
      rw [HX.out] at hk
      go_wp2_with fail
      refine (hk _).mono ?_
      rintro e w' ⟨rfl, hw⟩
      obtain rfl := hw.symm
      clear hk hw
      have hk := late_any HCx.out due HD.out
      rw [HZ.out] at hk
      go_wp2_with fail
      refine hk.mono ?_
      rintro e wk22 ⟨rfl, hb⟩
      replace HBx := Lib.hid (HBx.out.trans (hb.mono HBx.out.size))
      replace HCx := Lib.hid (HCx.out.next hb)
      clear hk hb
      have hk := fun w => rlate_any due HO.out HD.out w
      rw [HZ.out] at hk
      go_wp2_with fail
      refine (hk _).mono ?_
      rintro e w' ⟨rfl, hw⟩
      obtain rfl := hw.symm
      clear hk hw
      by_cases hkl : k < L
      · obtain ⟨y, hy⟩ : ∃ y, ys[k]? = some y := ⟨_, List.getElem?_eq_getElem (by rw [HYL.out]; omega)⟩
        obtain ⟨b, o, rfl, hc, y0, y1⟩ := HXS.out k y hy
        have HN := Lib.hid (And.intro y0 y1)
        have hcr := (HBx.out.cell (World.block_lt_of_cell? w _ hc)).trans hc
        obtain ⟨u, hu⟩ : ∃ u, Cl.after t y = u := ⟨_, rfl⟩
        have HU := Lib.hid hu
        have HCC := Lib.hid (show ∀ wr, Below w.heap.size w wr → wr.cell? ⟨b, o + k, none⟩ = some (.int .i64 y) from fun wr h => (h.cell (World.block_lt_of_cell? w _ hc)).trans hc)
        clear hc y0 y1 hu hy
        have hk := tick_any HCx.out HN.out
        rw [HU.out] at hk
        go_wp2_with fail
        refine hk.mono ?_
        rintro e wk23 ⟨rfl, hc, ho⟩
        replace HBx := Lib.hid (HBx.out.trans (ho.below HG.out HBx.out.size))
        replace HCx := Lib.hid hc
        clear hk hc ho
        replace hcr := HCC.out _ HBx.out
        have hk := fun w => rafter_any HO.out HN.out w
        rw [HU.out] at hk
        go_wp2_with fail
        refine (hk _).mono ?_
        rintro e w' ⟨rfl, hw⟩
        obtain rfl := hw.symm
        clear hk hw
        go_wp2
        go_roundw
        case rel => exact ⟨k + 1, u, by omega, by omega, by go_num, rfl, HBx, HCx⟩
        case measure => simp [intOf]; omega
      · obtain rfl : k = L := by omega
        go_wp2
        go_roundw
        case rel => exact ⟨k + 1, t, by omega, by omega, by go_num, rfl, HBx, HCx⟩
        case measure => simp [intOf]; omega
    · by_cases hkL : k ≤ L
      · obtain rfl : k = 40 := by omega
        clear hlt hk40 hkL1
        go_wp2
        go_ret
        exact ⟨rfl, HBx.out⟩
      · clear hlt
        go_wp2
        go_ret
        exact ⟨rfl, HBx.out⟩
end Go.Proofs.Ytooijkndndoolaa
