/- check.Source walked (layer 17). Laid by wip/tools/gen_cks.py. -/
import Derived.Test.YtodlhhfcjkjapaaGreatDoorCX
namespace Go.Proofs.YtodlhhfcjkjapaaGreatDoor
open Go.RowKit
theorem pr_formed {w : World} {B : Nat} {sv tv : Value} {row : List Ps.St} {top : List Nat} (h : PR B w sv tv row top) : ∃ a c u d, sv = .slice a row.length c ∧ tv = .slice u top.length d := by
 obtain ⟨ao, cap, rfl, _⟩ := h.sr
 obtain ⟨cs, _, _, _, ht, _⟩ := h
 obtain ⟨u, d, e2, _⟩ := ht.formV
 rw [List.length_map] at e2
 exact ⟨ao, cap, u, d, rfl, e2⟩
theorem neF (c : Nat) (h : c ≠ 0) : ((c : Int) != 0) = true ∧ ((c : Int) == 0) = false ∧ ((c : Int) = 0) = False := ⟨by rw [bne_iff_ne]; omega, beq_eq_false_iff_ne.2 (by omega), eq_false (by omega)⟩
set_option maxRecDepth 20000 in
set_option maxHeartbeats 8000000 in
theorem source_any (l : List UInt8) (hl : l.length ≤ 1048576) (w : World) (hS : SHP w) :
  Calls Tryz.prog 16 #[.string ⟨l.toArray⟩] w fun e w' => PAllP (Ck.source l) w e w' := by
 obtain ⟨T, hT⟩ : ∃ T, w.alloc (.cells #[.int .i64 0, .slice none 0 0, .slice none 0 0] 32) = T := ⟨_, rfl⟩
 have hbT : Below w.heap.size w T := by rw [← hT]; exact (Below.refl _ _).alloc (Nat.le_refl _) _
 have hz : H3 T w.heap.size [.int .i64 0, .slice none 0 0, .slice none 0 0] := by rw [← hT]; exact heap_alloc_new _ _
 have hTs : T.heap.size = w.heap.size + 1 := by rw [← hT]; simp
 have PA := pall_any l hl T (hS.below hbT)
 obtain ⟨q, hq⟩ : ∃ q, w.heap.size = q := ⟨_, rfl⟩
 have hsrc := Ck.source_cases l
 rw [hq] at hbT hz hTs
 have HQ := Lib.hid hq
 have HZ := Lib.hid hz
 have HBT := Lib.hid hbT
 have HT := Lib.hid hT
 have HQT := Lib.hid hTs
 clear hz hbT hS hl hT hq
 go_enter Tryz.func16, Tryz.ntmps16
 go_upto_region 1 with fail
 rw [HT.out, HQ.out]
 go_wp2_with fail
 refine PA.mono ?_
 rintro e w2 hP
 obtain ⟨hb2, hP⟩ := hP
 clear PA
 have hbw : Below q w w2 := HBT.out.trans (hb2.mono (by have := HQT.out; omega))
 have hz2 := HZ.out.below hb2 (by have := HQT.out; omega)
 rcases hsrc with ⟨p, c, ha, hs⟩ | ⟨md, row, top, ha, hs⟩
 ·rw [ha] at hP
  have HSRC := Lib.hid hs
  obtain ⟨rfl, hc⟩ := hP
  obtain ⟨w3, hw3⟩ : ∃ w3, w2.alloc (.cells #[.int .i64 0, .slice none 0 0, .slice none 0 0] 32) = w3 := ⟨_, rfl⟩
  have hb3 : Below w2.heap.size w2 w3 := by rw [← hw3]; exact (Below.refl _ _).alloc (Nat.le_refl _) _
  have hq2 : q ≤ w2.heap.size := Nat.le_trans (by have := HQT.out; omega) hb2.size
  have hb : Below q w w3 := hbw.trans (hb3.mono hq2)
  have hz := hz2.below hb3 hz2.lt
  obtain ⟨f1, f2, f3⟩ := neF c hc
  have HW3 := Lib.hid hw3
  have HC := Lib.hid hc
  clear hw3 hb3 hz2 hbw hb2 ha hs hc hq2
  go_upto_region 2 with fail
  rw [HW3.out]
  have zc0 := hz.cell (i := 0) rfl
  have zc1 := hz.cell (i := 1) rfl
  have zc2 := hz.cell (i := 2) rfl
  have zf0 := hz.fr 0
  have zf1 := hz.fr 1
  have zf2 := hz.fr 2
  have HSET := Lib.hid (hz.set (vs := [.int .i64 0, .slice none 0 0, .slice none 0 0]) rfl)
  have HBL := Lib.hid (below_setN q [.int .i64 0, .slice none 0 0, .slice none 0 0] 0 (Nat.le_refl _) hb)
  clear hz hb
  go_wp2
  change bodyPost _ _ _ _ _ (setN w3 q 0 [.int .i64 0, .slice none 0 0, .slice none 0 0])
  have hset := HSET.out
  have hbl := HBL.out
  generalize hWW : setN w3 q 0 [.int .i64 0, .slice none 0 0, .slice none 0 0] = W at hset hbl ⊢
  have r0 := hset.cell (i := 0) rfl
  have r1 := hset.cell (i := 1) rfl
  have r2 := hset.cell (i := 2) rfl
  refine bodyPost_ret (v := .tuple #[.agg #[.int .i64 0, .slice none 0 0, .slice none 0 0], .int .i64 (p : Int), .int .i64 (c : Int)]) (by simp [results, Tryz.results16, go_sem, r0, r1, r2]) rfl ?_
  unfold PAllP
  rw [HQ.out, HSRC.out]
  exact ⟨hbl, rfl, HC.out⟩
 ·rw [ha] at hP
  obtain ⟨sv', tv, rfl, hpr⟩ := hP
  obtain ⟨ao, cap, uo, ud, rfl, rfl⟩ := pr_formed hpr
  obtain ⟨N, hN⟩ : ∃ N, row.length = N := ⟨_, rfl⟩
  obtain ⟨M, hM⟩ : ∃ M, top.length = M := ⟨_, rfl⟩
  rw [hN, hM] at hpr ⊢
  obtain ⟨w3, hw3⟩ : ∃ w3, w2.alloc (.cells #[.int .i64 (md : Int), .slice ao N cap, .slice uo M ud] 32) = w3 := ⟨_, rfl⟩
  have hb3 : Below w2.heap.size w2 w3 := by rw [← hw3]; exact (Below.refl _ _).alloc (Nat.le_refl _) _
  obtain ⟨b5, hb5⟩ : ∃ b5, w2.heap.size = b5 := ⟨_, rfl⟩
  have hz5 : H3 w3 b5 [.int .i64 (md : Int), .slice ao N cap, .slice uo M ud] := by rw [← hb5, ← hw3]; exact heap_alloc_new _ _
  have hq2 : q < b5 := by rw [← hb5]; exact Nat.lt_of_lt_of_le (by have := HQT.out; omega) hb2.size
  have hpr3 := hpr.below hb3
  have PG := prog_any (uo := uo) (un := M) (uc := ud) md hpr3.sr (Ps.all_neat ha)
  rw [hb5] at hb3
  have HW3 := Lib.hid hw3
  have HB5 := Lib.hid hb5
  have e0 := hz5.cell (i := 0) rfl
  have e1 := hz5.cell (i := 1) rfl
  have e2 := hz5.cell (i := 2) rfl
  have HPR3 := Lib.hid hpr3
  have HB3 := Lib.hid (hbw.trans (hb3.mono (Nat.le_of_lt hq2)))
  have HZ3 := Lib.hid (hz2.below (show Below w2.heap.size w2 w3 by rw [hb5]; exact hb3) hz2.lt)
  have HZ5 := Lib.hid hz5
  have HQ3 := Lib.hid (show q ≤ w3.heap.size from Nat.le_of_lt (Nat.lt_trans hq2 hz5.lt))
  clear hw3 hb5 hb3 hz5 hz2 hbw hb2 ha hpr hpr3
  go_upto_region 2 with fail
  rw [HW3.out, HB5.out]
  go_wp2_with fail
  refine PG.mono ?_
  rintro e w4 ⟨rfl, hb4⟩
  clear PG e0 e1 e2
  have hb : Below q w w4 := HB3.out.trans (hb4.mono HQ3.out)
  have hz := HZ3.out.below hb4 HZ3.out.lt
  have hz5 := HZ5.out.below hb4 HZ5.out.lt
  have hpr4 := HPR3.out.below hb4
  have g0 := hz5.cell (i := 0) rfl
  have g1 := hz5.cell (i := 1) rfl
  have g2 := hz5.cell (i := 2) rfl
  have HPR4 := Lib.hid hpr4
  clear hz5 hpr4 hb4 HW3 HB5
  obtain ⟨p, c, hpc⟩ : ∃ p c, Ck.prog md row = (p, c) := ⟨_, _, rfl⟩
  rw [hpc] at hs ⊢
  rcases hs with ⟨hc, hs⟩ | ⟨hc, hs⟩
  ·dsimp only at hc ⊢
   subst hc
   have HSRC := Lib.hid hs
   clear hs hpc
   have zc0 := hz.cell (i := 0) rfl
   have zc1 := hz.cell (i := 1) rfl
   have zc2 := hz.cell (i := 2) rfl
   have zf0 := hz.fr 0
   have zf1 := hz.fr 1
   have zf2 := hz.fr 2
   have HSET := Lib.hid (hz.set (vs := [.int .i64 (md : Int), .slice ao N cap, .slice uo M ud]) rfl)
   have HBL := Lib.hid (below_setN q [.int .i64 (md : Int), .slice ao N cap, .slice uo M ud] 0 (Nat.le_refl _) hb)
   clear hz hb
   go_wp2
   change bodyPost _ _ _ _ _ (setN w4 q 0 [.int .i64 (md : Int), .slice ao N cap, .slice uo M ud])
   have hset := HSET.out
   have hbl := HBL.out
   generalize hWW : setN w4 q 0 [.int .i64 (md : Int), .slice ao N cap, .slice uo M ud] = W at hset hbl ⊢
   have r0 := hset.cell (i := 0) rfl
   have r1 := hset.cell (i := 1) rfl
   have r2 := hset.cell (i := 2) rfl
   refine bodyPost_ret (v := .tuple #[.agg #[.int .i64 (md : Int), .slice ao N cap, .slice uo M ud], .int .i64 0, .int .i64 0]) (by simp [results, Tryz.results16, go_sem, r0, r1, r2]) rfl ?_
   unfold PAllP
   rw [HQ.out, HSRC.out]
   refine ⟨hbl, _, _, rfl, ?_⟩
   rw [← hWW]
   exact (HPR4.out.past (fun k hk => setN_other (show k ≠ q by have := HQT.out; omega) _ _)).lower (by have := HQT.out; omega)
  ·dsimp only at hc ⊢
   have HSRC := Lib.hid hs
   obtain ⟨f1, f2, f3⟩ := neF c hc
   have HC := Lib.hid hc
   clear hs hpc hc
   have zc0 := hz.cell (i := 0) rfl
   have zc1 := hz.cell (i := 1) rfl
   have zc2 := hz.cell (i := 2) rfl
   have zf0 := hz.fr 0
   have zf1 := hz.fr 1
   have zf2 := hz.fr 2
   have HSET := Lib.hid (hz.set (vs := [.int .i64 0, .slice none 0 0, .slice none 0 0]) rfl)
   have HBL := Lib.hid (below_setN q [.int .i64 0, .slice none 0 0, .slice none 0 0] 0 (Nat.le_refl _) hb)
   clear hz hb
   go_wp2
   change bodyPost _ _ _ _ _ (setN w4 q 0 [.int .i64 0, .slice none 0 0, .slice none 0 0])
   have hset := HSET.out
   have hbl := HBL.out
   generalize hWW : setN w4 q 0 [.int .i64 0, .slice none 0 0, .slice none 0 0] = W at hset hbl ⊢
   have r0 := hset.cell (i := 0) rfl
   have r1 := hset.cell (i := 1) rfl
   have r2 := hset.cell (i := 2) rfl
   refine bodyPost_ret (v := .tuple #[.agg #[.int .i64 0, .slice none 0 0, .slice none 0 0], .int .i64 (p : Int), .int .i64 (c : Int)]) (by simp [results, Tryz.results16, go_sem, r0, r1, r2]) rfl ?_
   unfold PAllP
   rw [HQ.out, HSRC.out]
   exact ⟨hbl, rfl, HC.out⟩
end Go.Proofs.YtodlhhfcjkjapaaGreatDoor
