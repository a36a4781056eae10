/- ParseAll walked (layer 15). -/
import Derived.Test.YtiikionoagmabaaDoorPT
import Derived.Test.YtiikionoagmabaaDoorPM
import Derived.Test.YtiikionoagmabaaDoorPJ
namespace Go.Proofs.YtiikionoagmabaaDoor
open Go.RowKit

theorem all_hundred {l : List UInt8} {md : Nat} {row : List Ps.St} {top : List Nat} (h : Ps.all l = .ok (md, row, top)) : row.length ≤ 100 := by
  unfold Ps.all at h
  cases hx : Lx.all l with
  | error e => rw [hx] at h; cases h
  | ok ts =>
    rw [hx] at h
    dsimp only at h
    unfold Ps.prog at h
    cases hh : Ps.head ts with
    | error e => rw [hh] at h; cases h
    | ok y =>
      obtain ⟨m, r⟩ := y
      rw [hh] at h
      dsimp only at h
      cases ht : Ps.tops (Ps.fuel r.length) [] r with
      | error e => rw [ht] at h; cases h
      | ok z =>
        obtain ⟨a, b⟩ := z
        rw [ht] at h
        dsimp only at h
        by_cases h1 : 100 < b.length
        · rw [if_pos h1] at h; cases h
        · rw [if_neg h1] at h; cases h; omega
theorem pr_forms {w : World} {B : Nat} {sv tv : Value} {row : List Ps.St} {top : List Nat} (h : PR B w sv tv row top) : ∃ a c u d, sv = .slice a row.length c ∧ tv = .slice u top.length d := by
  obtain ⟨cs, r1, ⟨a, c, e, _⟩, _, ht, _⟩ := h
  obtain ⟨u, d, e2⟩ := rd_form ht
  rw [List.length_map] at e2
  exact ⟨a, c, u, d, by rw [← r1]; unfold rowOf; rw [List.length_map]; exact e, e2⟩
/-- What All answers, whichever of the two. -/
theorem pall_out (l : List UInt8) : ∃ (md : Nat) (row : List Ps.St) (top : List Nat) (p c : Nat), row.length ≤ 100 ∧ ∀ w e w', PAllP (Ps.all l) w e w' → ∃ a1 c1 u1 d1, Below w.heap.size w w' ∧ e = .returned (.tuple #[.agg #[.int .i64 (md : Int), .slice a1 row.length c1, .slice u1 top.length d1], .int .i64 (p : Int), .int .i64 (c : Int)]) ∧ PR 0 w' (.slice a1 row.length c1) (.slice u1 top.length d1) row top := by
  cases hr : Ps.all l with
  | error x =>
    obtain ⟨p, c⟩ := x
    refine ⟨0, [], [], p, c, by simp, fun w e w' h => ?_⟩
    obtain ⟨hb, rfl, _⟩ := h
    exact ⟨none, 0, none, 0, hb, rfl, PR.zero _⟩
  | ok x =>
    obtain ⟨md, row, top⟩ := x
    refine ⟨md, row, top, 0, 0, all_hundred hr, fun w e w' h => ?_⟩
    obtain ⟨hb, sv, tv, rfl, hp⟩ := h
    obtain ⟨a1, c1, u1, d1, rfl, rfl⟩ := pr_forms hp
    exact ⟨a1, c1, u1, d1, hb, rfl, hp.lower (Nat.zero_le _)⟩
/-- Shape, of both. -/
theorem shape_two (n : Int) (w : World) (hS : SHP w) : ∃ X : List UInt8, (∀ wx, Below w.heap.size w wx → Calls Tryd.prog 16 #[.int .i64 n] wx fun e w' => e = .returned (.string ⟨X.toArray⟩) ∧ wx = w') ∧ ∀ wx, Calls Tryd.prog 17 #[.int .i64 n] wx fun e w' => e = .returned (.string ⟨X.toArray⟩) ∧ Below wx.heap.size wx w' := by
  by_cases h : n < 0 ∨ 18 ≤ n
  · exact ⟨[], fun wx _ => pshape_out n h wx, fun wx => rshape_out n h wx⟩
  · obtain ⟨k, rfl⟩ := Int.eq_ofNat_of_zero_le (show 0 ≤ n by omega)
    exact ⟨Ps.shapeS k, fun wx hb => pshape_any k (by omega) wx (hS.below hb), fun wx => rshape_any k (by omega) wx⟩

set_option maxRecDepth 20000 in
set_option maxHeartbeats 8000000 in
theorem lawAllP (src : ByteArray) (kind : Int) (s : ByteArray) (hs : src.size ≤ maxLen) (_hk : (Lit.int .i64 kind).wf = true) (_hs2 : s.size ≤ maxLen) (w : World) (hS : SHP w) :
    Calls Tryd.prog 3 #[.string src, .int .i64 kind, .string s] w fun e w' => e = .returned (.bool true) ∧ Below w.heap.size w w' := by
  have SW := shown_any w hS
  have SH := fun wx => short_any src hs wx
  obtain ⟨l, hl⟩ : ∃ l, src.data.toList.take 2100 = l := ⟨_, rfl⟩
  have hll : l.length ≤ 1048576 := by rw [← hl]; simp; omega
  rw [hl] at SH
  obtain ⟨sl, rfl⟩ : ∃ sl : List UInt8, s = ⟨sl.toArray⟩ := ⟨s.data.toList, by simp⟩
  have PA := fun wx hx => pall_any l hll wx hx
  have RA := Lib.hid (fun wx => rpall_any l hll wx)
  obtain ⟨md, row, top, p, c, hn, hout⟩ := pall_out l
  obtain ⟨X, hX1, hX2⟩ := shape_two kind w hS
  obtain ⟨Y, hY⟩ : ∃ Y, Ps.mode sl = Y := ⟨_, rfl⟩
  have PM := Lib.hid (fun wx => pmode_any sl wx)
  have RM := Lib.hid (fun wx => rmode_any sl wx)
  rw [hY] at PM RM
  have HX1 := Lib.hid hX1
  have HX2 := Lib.hid hX2
  have HOUT := Lib.hid hout
  have HN := Lib.hid hn
  have HS := Lib.hid hS
  clear hS hs hl hll hout hX1 hX2 hn hY
  go_enter Tryd.func3, Tryd.ntmps3
  go_wp2_with fail
  refine SW.mono ?_
  rintro e wa ⟨rfl, hba⟩
  have HBA := Lib.hid hba
  replace PA := PA wa (HS.out.below hba)
  clear hba SW
  go_wp2_with fail
  refine (SH _).mono ?_
  rintro e wb ⟨rfl, hw⟩
  subst hw
  clear SH
  go_wp2_with fail
  refine PA.mono ?_
  rintro e w1 hP
  obtain ⟨a1, c1, u1, d1, hb1, rfl, hpr1⟩ := HOUT.out _ _ _ hP
  clear PA hP
  obtain ⟨w2, hw2⟩ : ∃ x, w1.alloc (.cells #[.int .i64 (md : Int), .slice a1 row.length c1, .slice u1 top.length d1] 27) = x := ⟨_, rfl⟩
  have hb2 : Below w1.heap.size w1 w2 := by rw [← hw2]; exact (Below.refl _ _).alloc (Nat.le_refl _) _
  obtain ⟨q1, hq1⟩ : ∃ q, w1.heap.size = q := ⟨_, rfl⟩
  have hz2 : H3 w2 q1 [.int .i64 (md : Int), .slice a1 row.length c1, .slice u1 top.length d1] := by rw [← hw2, ← hq1]; exact heap_alloc_new _ _
  have hpr2 := hpr1.below hb2
  have HB2 := Lib.hid (HBA.out.trans ((hb1.trans (hb2.mono hb1.size)).mono HBA.out.size))
  have HZ2 := Lib.hid hz2
  have HPR2 := Lib.hid hpr2
  have HW2 := Lib.hid hw2
  have HQ1 := Lib.hid hq1
  clear hb2 hz2 hpr1 hpr2 hw2 hq1 hb1
  go_upto_region 4 with fail
  rw [HW2.out, HQ1.out]
  go_wp2_with fail
  refine (RA.out _).mono ?_
  rintro e w3 hP
  obtain ⟨a2, c2, u2, d2, hb3, rfl, hpr3⟩ := HOUT.out _ _ _ hP
  obtain ⟨w4, hw4⟩ : ∃ x, w3.alloc (.cells #[.int .i64 (md : Int), .slice a2 row.length c2, .slice u2 top.length d2] 27) = x := ⟨_, rfl⟩
  have hb4 : Below w3.heap.size w3 w4 := by rw [← hw4]; exact (Below.refl _ _).alloc (Nat.le_refl _) _
  obtain ⟨q2, hq2⟩ : ∃ q, w3.heap.size = q := ⟨_, rfl⟩
  have hz4 : H3 w4 q2 [.int .i64 (md : Int), .slice a2 row.length c2, .slice u2 top.length d2] := by rw [← hw4, ← hq2]; exact heap_alloc_new _ _
  have hz24 := (HZ2.out.below hb3 HZ2.out.lt).below hb4 (HZ2.out.below hb3 HZ2.out.lt).lt
  have SM := Lib.hid (psame_any md ((HPR2.out.below hb3).below hb4) (hpr3.below hb4) HN.out)
  have HB4 := Lib.hid (HB2.out.trans ((hb3.trans (hb4.mono hb3.size)).mono HB2.out.size))
  have r0 := hz24.cell (i := 0) rfl
  have r1 := hz24.cell (i := 1) rfl
  have r2 := hz24.cell (i := 2) rfl
  have v0 := hz4.cell (i := 0) rfl
  have v1 := hz4.cell (i := 1) rfl
  have v2 := hz4.cell (i := 2) rfl
  have HW4 := Lib.hid hw4
  have HQ2 := Lib.hid hq2
  clear hb3 hb4 hz4 hz24 hpr3 hw4 hq2 hP
  go_upto_region 5 with fail
  rw [HW4.out, HQ2.out]
  go_wp2_with fail
  refine SM.out.mono ?_
  rintro e w5 ⟨rfl, hb5⟩
  have HB5 := Lib.hid (HB4.out.trans (hb5.mono HB4.out.size))
  clear hb5 SM r0 r1 r2 v0 v1 v2
  go_wp2_with fail
  refine (PM.out _).mono ?_
  rintro e w6 ⟨rfl, hw⟩
  subst hw
  go_wp2_with fail
  refine (RM.out _).mono ?_
  rintro e w6 ⟨rfl, hw⟩
  subst hw
  go_wp2_with fail
  refine (HX1.out _ HB5.out).mono ?_
  rintro e w6 ⟨rfl, hw⟩
  subst hw
  go_wp2_with fail
  refine (HX2.out _).mono ?_
  rintro e w6 ⟨rfl, hb6⟩
  have HB6 := Lib.hid (HB5.out.trans (hb6.mono HB5.out.size))
  clear hb6
  go_wp2
  go_ret
  exact ⟨by first | rfl | simp, HB6.out⟩
end Go.Proofs.YtiikionoagmabaaDoor
