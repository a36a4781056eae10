/- CheckAll walked (layer 17). -/
import Derived.Test.YthlbociimbpgkaaGreatDoorCF
import Derived.Test.YthlbociimbpgkaaGreatDoorCR
import Derived.Test.YthlbociimbpgkaaGreatDoorPM
import Derived.Test.YthlbociimbpgkaaGreatDoorPJ
namespace Go.Proofs.YthlbociimbpgkaaGreatDoor
open Go.RowKit
set_option maxRecDepth 20000 in
set_option maxHeartbeats 8000000 in
theorem lawAllK (src : ByteArray) (hs : src.size ≤ maxLen) (w : World) (hS : SHP w) :
  Calls Tryz.prog 3 #[.string src] w fun e w' => e = .returned (.bool true) ∧ Below w.heap.size w w' := by
 have SW := shown_any w hS
 have SH := fun wx => short_any src hs wx
 obtain ⟨l, hl⟩ : ∃ l, src.data.toList.take 2100 = l := ⟨_, rfl⟩
 have hll : l.length ≤ 1048576 := by rw [← hl]; simp; omega
 rw [hl] at SH
 have PA := fun wx hx => source_any l hll wx hx
 have RA := Lib.hid (fun wx => rsource_any l hll wx)
 have AA := Lib.hid (fun wx => rpall_any l hll wx)
 obtain ⟨md, row, top, p, c, hn, _, hout⟩ := source_out l
 have HOUT := Lib.hid hout
 have HN := Lib.hid hn
 have HS := Lib.hid hS
 clear hS hs hl hll hout hn
 go_enter Tryz.func3, Tryz.ntmps3
 go_wp2_with fail
 refine SW.mono ?_
 rintro e wa ⟨rfl, hba⟩
 have HBA := Lib.hid hba
 replace PA := PA wa (HS.out.below hba)
 clear hba SW
 go_wp2_with fail
 refine (SH _).mono ?_
 rintro e wb ⟨rfl, hw⟩
 subst hw
 clear SH
 go_wp2_with fail
 refine PA.mono ?_
 rintro e w1 hP
 obtain ⟨a1, c1, u1, d1, hb1, rfl, hpr1⟩ := HOUT.out _ _ _ hP
 clear PA hP
 obtain ⟨w2, hw2⟩ : ∃ x, w1.alloc (.cells #[.int .i64 (md : Int), .slice a1 row.length c1, .slice u1 top.length d1] 27) = x := ⟨_, rfl⟩
 have hb2 : Below w1.heap.size w1 w2 := by rw [← hw2]; exact (Below.refl _ _).alloc (Nat.le_refl _) _
 obtain ⟨q1, hq1⟩ : ∃ q, w1.heap.size = q := ⟨_, rfl⟩
 have hz2 : H3 w2 q1 [.int .i64 (md : Int), .slice a1 row.length c1, .slice u1 top.length d1] := by rw [← hw2, ← hq1]; exact heap_alloc_new _ _
 have hpr2 := hpr1.below hb2
 have HB2 := Lib.hid (HBA.out.trans ((hb1.trans (hb2.mono hb1.size)).mono HBA.out.size))
 have HZ2 := Lib.hid hz2
 have HPR2 := Lib.hid hpr2
 have HW2 := Lib.hid hw2
 have HQ1 := Lib.hid hq1
 clear hb2 hz2 hpr1 hpr2 hw2 hq1 hb1
 go_upto_region 4 with fail
 rw [HW2.out, HQ1.out]
 go_wp2_with fail
 refine (RA.out _).mono ?_
 rintro e w3 hP
 obtain ⟨a2, c2, u2, d2, hb3, rfl, hpr3⟩ := HOUT.out _ _ _ hP
 obtain ⟨w4, hw4⟩ : ∃ x, w3.alloc (.cells #[.int .i64 (md : Int), .slice a2 row.length c2, .slice u2 top.length d2] 27) = x := ⟨_, rfl⟩
 have hb4 : Below w3.heap.size w3 w4 := by rw [← hw4]; exact (Below.refl _ _).alloc (Nat.le_refl _) _
 obtain ⟨q2, hq2⟩ : ∃ q, w3.heap.size = q := ⟨_, rfl⟩
 have hz4 : H3 w4 q2 [.int .i64 (md : Int), .slice a2 row.length c2, .slice u2 top.length d2] := by rw [← hw4, ← hq2]; exact heap_alloc_new _ _
 have hz24 := (HZ2.out.below hb3 HZ2.out.lt).below hb4 (HZ2.out.below hb3 HZ2.out.lt).lt
 have SM := Lib.hid (psame_any md ((HPR2.out.below hb3).below hb4) (hpr3.below hb4) HN.out)
 have HB4 := Lib.hid (HB2.out.trans ((hb3.trans (hb4.mono hb3.size)).mono HB2.out.size))
 have r0 := hz24.cell (i := 0) rfl
 have r1 := hz24.cell (i := 1) rfl
 have r2 := hz24.cell (i := 2) rfl
 have v0 := hz4.cell (i := 0) rfl
 have v1 := hz4.cell (i := 1) rfl
 have v2 := hz4.cell (i := 2) rfl
 have HW4 := Lib.hid hw4
 have HQ2 := Lib.hid hq2
 clear hb3 hb4 hz4 hz24 hpr3 hw4 hq2 hP
 go_upto_region 5 with fail
 rw [HW4.out, HQ2.out]
 go_wp2_with fail
 refine SM.out.mono ?_
 rintro e w5 ⟨rfl, hb5⟩
 have HB5 := Lib.hid (HB4.out.trans (hb5.mono HB4.out.size))
 clear hb5 SM r0 r1 r2 v0 v1 v2
 go_wp2_with fail
 refine (AA.out _).mono ?_
 rintro e w6 hP
 obtain ⟨hb6, hP⟩ := hP
 have HB6 := Lib.hid (HB5.out.trans (hb6.mono HB5.out.size))
 clear hb6
 cases hx : Ps.all l with
 | error y =>
  obtain ⟨p2, e2⟩ := y
  rw [hx] at hP
  obtain ⟨rfl, hc⟩ := hP
  obtain ⟨f1, f2, f3⟩ := neF e2 hc
  have HF := Lib.hid (fun o => HB6.out.alloc HB6.out.size o)
  clear hc hx
  go_wp2
  go_ret
  exact ⟨by first | rfl | simp, HF.out _⟩
 | ok y =>
  obtain ⟨md2, row2, top2⟩ := y
  rw [hx] at hP
  obtain ⟨sv2, tv2, rfl, hpr6⟩ := hP
  obtain ⟨a3, c3, u3, d3, rfl, rfl⟩ := pr_formed hpr6
  have hne := Ps.all_neat hx
  obtain ⟨N, hN⟩ : ∃ N, row2.length = N := ⟨_, rfl⟩
  obtain ⟨M, hM⟩ : ∃ M, top2.length = M := ⟨_, rfl⟩
  rw [hN, hM] at hpr6 ⊢
  obtain ⟨w7, hw7⟩ : ∃ x, w6.alloc (.cells #[.int .i64 (md2 : Int), .slice a3 N c3, .slice u3 M d3] 27) = x := ⟨_, rfl⟩
  have hb7 : Below w6.heap.size w6 w7 := by rw [← hw7]; exact (Below.refl _ _).alloc (Nat.le_refl _) _
  obtain ⟨q3, hq3⟩ : ∃ q, w6.heap.size = q := ⟨_, rfl⟩
  have hz7 : H3 w7 q3 [.int .i64 (md2 : Int), .slice a3 N c3, .slice u3 M d3] := by rw [← hw7, ← hq3]; exact heap_alloc_new _ _
  have hsr := (hpr6.below hb7).sr
  have PG := prog_any (uo := u3) (un := M) (uc := d3) md2 hsr hne
  have HRG := Lib.hid (fun (wx : World) (hb : Below w7.heap.size w7 wx) => rprog_any (md := md2) (uo := u3) (un := M) (uc := d3) ⟨hsr.below hb, hne⟩)
  have HB7 := Lib.hid (HB6.out.trans (hb7.mono HB6.out.size))
  have HZ7 := Lib.hid hz7
  have HW7 := Lib.hid hw7
  have HQ3 := Lib.hid hq3
  generalize (Ck.prog md2 row2).1 = pp at PG HRG
  generalize (Ck.prog md2 row2).2 = pc at PG HRG
  have r0 := hz7.cell (i := 0) rfl
  have r1 := hz7.cell (i := 1) rfl
  have r2 := hz7.cell (i := 2) rfl
  clear hx hpr6 hne hN hM hw7 hb7 hq3 hz7 hsr
  go_upto_region 7 with fail
  rw [HW7.out, HQ3.out]
  go_wp2_with fail
  refine PG.mono ?_
  rintro e w8 ⟨rfl, hb8⟩
  have hz8 := HZ7.out.below hb8 HZ7.out.lt
  have HB8 := Lib.hid (HB7.out.trans (hb8.mono HB7.out.size))
  have RG := HRG.out w8 hb8
  clear PG r0 r1 r2 hb8
  have r0 := hz8.cell (i := 0) rfl
  have r1 := hz8.cell (i := 1) rfl
  have r2 := hz8.cell (i := 2) rfl
  clear hz8
  go_wp2_with fail
  refine RG.mono ?_
  rintro e w9 ⟨rfl, hb9⟩
  have HB9 := Lib.hid (HB8.out.trans (hb9.mono HB8.out.size))
  clear RG hb9 r0 r1 r2
  go_wp2
  go_ret
  exact ⟨by first | rfl | simp, HB9.out⟩
end Go.Proofs.YthlbociimbpgkaaGreatDoor
