/- addr.Epsv walked (layer 13). -/
import Derived.Test.YtonophhhndhhhaaDoorAddrEpW
namespace Go.Proofs.YtonophhhndhhhaaDoor
open Go.RowKit

set_option maxHeartbeats 2000000 in
theorem epsv_any (l : List UInt8) (hl : l.length ≤ 1048576) (w : World) :
    Calls Tryd.prog 12 #[.string ⟨l.toArray⟩] w fun e w' => e = .returned (adr ((Ad.epsv l).map Ad.mk)) ∧ Below w.heap.size w w' := by
  have P1 := Ad.epsv_ext l
  have P2 := Ad.epsv_told l
  have CU := fun wx => sCut_any l 40 (by omega) wx
  have hfr : (cut1 40 l).2.1.length ≤ 1048576 := by
    rcases cut1_at 40 l with ⟨_, e⟩ | ⟨k, _, _, _, e⟩
    · rw [e]; show 0 ≤ _; omega
    · rw [e]; show (l.drop (k + 1)).length ≤ _; rw [List.length_drop]; omega
  have PS := Lib.hid (fun wx => extended_any (cut1 40 l).2.1 hfr wx)
  have TO := Lib.hid (fun wx => told_any (Ad.ext (cut1 40 l).2.1) wx)
  rw [P2] at TO
  unfold adr
  rw [← P1]
  obtain ⟨y, hy⟩ : ∃ y, Ad.ext (cut1 40 l).2.1 = y := ⟨_, rfl⟩
  obtain ⟨r, hr⟩ : ∃ r, ((Ad.epsv l).map Ad.mk).isSome = r := ⟨_, rfl⟩
  rw [hy] at TO PS
  rw [hr] at TO
  rw [hy, hr]
  obtain ⟨s0, hs0⟩ : ∃ s, (cut1 40 l).1 = s := ⟨_, rfl⟩
  obtain ⟨s, hs⟩ : ∃ s, (cut1 40 l).2.1 = s := ⟨_, rfl⟩
  obtain ⟨s2, hs2⟩ : ∃ s, (cut1 40 l).2.2 = s := ⟨_, rfl⟩
  rw [hs] at PS
  rw [hs0, hs, hs2] at CU
  unfold sv at CU
  clear P1 P2 hy hr hfr hs0 hs hs2
  have HA0 := Lib.hid (show AB (w.alloc (.cells #[.int .i64 0, .int .i64 0, .int .i64 0, .int .i64 0, .int .i64 0] 24)) w.heap.size ad0 from ⟨heap_alloc_new _ _⟩)
  have HB0 := Lib.hid (show Below w.heap.size w (w.alloc (.cells #[.int .i64 0, .int .i64 0, .int .i64 0, .int .i64 0, .int .i64 0] 24)) from (Below.refl _ _).alloc (Nat.le_refl _) _)
  show Calls _ _ _ _ fun e w' => e = .returned (.tuple #[.agg #[.int .i64 y.a, .int .i64 y.b, .int .i64 y.c, .int .i64 y.d, .int .i64 y.port], .bool r]) ∧ Below w.heap.size w w'
  have PS : Hid (∀ wx, Calls Tryd.prog 25 #[.string ⟨s.toArray⟩] wx fun e w' => e = .returned (.agg #[.int .i64 y.a, .int .i64 y.b, .int .i64 y.c, .int .i64 y.d, .int .i64 y.port]) ∧ Below wx.heap.size wx w') := PS
  have TO : Hid (∀ wx, Calls Tryd.prog 19 #[.agg #[.int .i64 y.a, .int .i64 y.b, .int .i64 y.c, .int .i64 y.d, .int .i64 y.port]] wx fun e w' => e = .returned (.tuple #[.agg #[.int .i64 y.a, .int .i64 y.b, .int .i64 y.c, .int .i64 y.d, .int .i64 y.port], .bool r]) ∧ Below wx.heap.size wx w') := TO
  go_enter Tryd.func12, Tryd.ntmps12
  go_wp2_with fail
  refine (CU _).mono ?_
  rintro e w1 ⟨rfl, q, hw1⟩
  have hb1 := below_drewN (Below.refl (w.alloc (.cells #[.int .i64 0, .int .i64 0, .int .i64 0, .int .i64 0, .int .i64 0] 24)).heap.size (w.alloc (.cells #[.int .i64 0, .int .i64 0, .int .i64 0, .int .i64 0, .int .i64 0] 24))) q
  rw [← hw1] at hb1
  clear hw1
  have HA1 := HA0.out.below hb1 (by simp)
  have HB1 := Lib.hid (HB0.out.trans (hb1.mono (by simp)))
  clear hb1 CU
  go_wp2_with fail
  refine (PS.out _).mono ?_
  rintro e w2 ⟨rfl, hb2⟩
  have HA2 := HA1.below hb2 (Array.getElem?_eq_some_iff.1 HA1.blk).1
  have HB2 := Lib.hid (HB1.out.trans (hb2.mono HB1.out.size))
  clear hb2 PS HA1 HB1
  go_wp2_with fail
  refine (TO.out _).mono ?_
  rintro e w3 ⟨rfl, hb3⟩
  have HA3 := HA2.below hb3 (Array.getElem?_eq_some_iff.1 HA2.blk).1
  have HB3 := Lib.hid (HB2.out.trans (hb3.mono HB2.out.size))
  clear hb3 TO HA2 HB2
  have r0 := HA3.c0
  have r1 := HA3.c1
  have r2 := HA3.c2
  have r3 := HA3.c3
  have r4 := HA3.c4
  have rf := HA3.froz
  have HZ := Lib.hid (HA3.put y)
  have HBZ := Lib.hid (below_set5 HB3.out (Nat.le_refl _) (.int .i64 y.a) (.int .i64 y.b) (.int .i64 y.c) (.int .i64 y.d) (.int .i64 y.port))
  clear HA3
  go_wp2
  generalize ((((w3.setCell ⟨w.heap.size, 0, none⟩ (.int .i64 y.a)).setCell ⟨w.heap.size, 1, none⟩ (.int .i64 y.b)).setCell ⟨w.heap.size, 2, none⟩ (.int .i64 y.c)).setCell ⟨w.heap.size, 3, none⟩ (.int .i64 y.d)).setCell ⟨w.heap.size, 4, none⟩ (.int .i64 y.port) = wz at *
  have HA := HZ.out
  clear r0 r1 r2 r3 r4
  refine bodyPost_ret (v := .tuple #[.agg #[.int .i64 y.a, .int .i64 y.b, .int .i64 y.c, .int .i64 y.d, .int .i64 y.port], .bool r]) (by have d0 := HA.c0; have d1 := HA.c1; have d2 := HA.c2; have d3 := HA.c3; have d4 := HA.c4; simp [results, Tryd.results12, go_sem, d0, d1, d2, d3, d4]) rfl ⟨rfl, HBZ.out⟩
end Go.Proofs.YtonophhhndhhhaaDoor
