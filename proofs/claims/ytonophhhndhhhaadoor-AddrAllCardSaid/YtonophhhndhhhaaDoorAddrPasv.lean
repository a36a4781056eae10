/- addr.Pasv walked (layer 13). -/
import Derived.Test.YtonophhhndhhhaaDoorAddrPas
import Derived.Test.YtonophhhndhhhaaDoorTenAny
namespace Go.Proofs.YtonophhhndhhhaaDoor
open Go.RowKit

/-- An address, and whether it is one, as a result. -/
def adr (o : Option Ad.Ad) : Value := .tuple #[adv (o.getD ad0), .bool o.isSome]

set_option maxHeartbeats 2000000 in
theorem pasv_any (l : List UInt8) (hl : l.length ≤ 1048576) (w : World) :
    Calls Tryd.prog 10 #[.string ⟨l.toArray⟩] w fun e w' => e = .returned (adr (Ad.pasv l)) ∧ Below w.heap.size w w' := by
  obtain ⟨P1, P2⟩ := Ad.pasv_told l
  have IX := fun wx => indexT_any ⟨l.toArray⟩ (by show l.length ≤ _; omega) wx
  rw [show (⟨l.toArray⟩ : ByteArray).data.toList = l from rfl, show ten.data.toList = [48, 49, 50, 51, 52, 53, 54, 55, 56, 57] from rfl] at IX
  have hfr : (Ad.fromDigit l).length ≤ 1048576 := by
    unfold Ad.fromDigit
    split
    · rw [List.length_drop]; omega
    · exact hl
  have PS := Lib.hid (fun wx => passive_any (Ad.fromDigit l) hfr wx)
  have TO := Lib.hid (fun wx => told_any (Ad.passive (Ad.fromDigit l)) wx)
  rw [P2] at TO
  unfold adr
  rw [← P1]
  obtain ⟨y, hy⟩ : ∃ y, Ad.passive (Ad.fromDigit l) = y := ⟨_, rfl⟩
  obtain ⟨r, hr⟩ : ∃ r, (Ad.pasv l).isSome = r := ⟨_, rfl⟩
  obtain ⟨s, hs⟩ : ∃ s, Ad.fromDigit l = s := ⟨_, rfl⟩
  rw [hy, hr] at TO
  rw [hs] at PS
  rw [hs] at hy
  rw [hy] at PS
  rw [hs, hy, hr]
  unfold Ad.fromDigit at hs
  clear P1 P2 hy hr hfr
  have HA0 := Lib.hid (show AB (w.alloc (.cells #[.int .i64 0, .int .i64 0, .int .i64 0, .int .i64 0, .int .i64 0] 24)) w.heap.size ad0 from ⟨heap_alloc_new _ _⟩)
  have HB0 := Lib.hid (show Below w.heap.size w (w.alloc (.cells #[.int .i64 0, .int .i64 0, .int .i64 0, .int .i64 0, .int .i64 0] 24)) from (Below.refl _ _).alloc (Nat.le_refl _) _)
  show Calls _ _ _ _ fun e w' => e = .returned (.tuple #[.agg #[.int .i64 y.a, .int .i64 y.b, .int .i64 y.c, .int .i64 y.d, .int .i64 y.port], .bool r]) ∧ Below w.heap.size w w'
  have PS : Hid (∀ wx, Calls Tryd.prog 20 #[.string ⟨s.toArray⟩] wx fun e w' => e = .returned (.agg #[.int .i64 y.a, .int .i64 y.b, .int .i64 y.c, .int .i64 y.d, .int .i64 y.port]) ∧ Below wx.heap.size wx w') := PS
  have TO : Hid (∀ wx, Calls Tryd.prog 19 #[.agg #[.int .i64 y.a, .int .i64 y.b, .int .i64 y.c, .int .i64 y.d, .int .i64 y.port]] wx fun e w' => e = .returned (.tuple #[.agg #[.int .i64 y.a, .int .i64 y.b, .int .i64 y.c, .int .i64 y.d, .int .i64 y.port], .bool r]) ∧ Below wx.heap.size wx w') := TO
  have hz : (⟨l.toArray⟩ : ByteArray).size = l.length := rfl
  rcases Ad.index_drop l with ⟨h1, _, _⟩ | ⟨k, h1, h2, _⟩
  · rw [h1] at IX hs
    rw [if_neg (by omega)] at hs
    subst hs
    clear h1
    go_enter Tryd.func10, Tryd.ntmps10
    go_wp2_with fail
    refine (IX _).mono ?_
    rintro e w1 ⟨rfl, hb1⟩
    have HA1 := HA0.out.below hb1 (by simp)
    have HB1 := Lib.hid (HB0.out.trans (hb1.mono (by simp)))
    clear hb1 IX
    go_wp2_with fail
    refine (PS.out _).mono ?_
    rintro e w2 ⟨rfl, hb2⟩
    have HA2 := HA1.below hb2 (Array.getElem?_eq_some_iff.1 HA1.blk).1
    have HB2 := Lib.hid (HB1.out.trans (hb2.mono HB1.out.size))
    clear hb2 PS HA1 HB1
    go_wp2_with fail
    refine (TO.out _).mono ?_
    rintro e w3 ⟨rfl, hb3⟩
    have HA3 := HA2.below hb3 (Array.getElem?_eq_some_iff.1 HA2.blk).1
    have HB3 := Lib.hid (HB2.out.trans (hb3.mono HB2.out.size))
    clear hb3 TO HA2 HB2
    have r0 := HA3.c0
    have r1 := HA3.c1
    have r2 := HA3.c2
    have r3 := HA3.c3
    have r4 := HA3.c4
    have rf := HA3.froz
    have HZ := Lib.hid (HA3.put y)
    have HBZ := Lib.hid (below_set5 HB3.out (Nat.le_refl _) (.int .i64 y.a) (.int .i64 y.b) (.int .i64 y.c) (.int .i64 y.d) (.int .i64 y.port))
    clear HA3
    go_wp2
    generalize ((((w3.setCell ⟨w.heap.size, 0, none⟩ (.int .i64 y.a)).setCell ⟨w.heap.size, 1, none⟩ (.int .i64 y.b)).setCell ⟨w.heap.size, 2, none⟩ (.int .i64 y.c)).setCell ⟨w.heap.size, 3, none⟩ (.int .i64 y.d)).setCell ⟨w.heap.size, 4, none⟩ (.int .i64 y.port) = wz at *
    have HA := HZ.out
    clear r0 r1 r2 r3 r4
    refine bodyPost_ret (v := .tuple #[.agg #[.int .i64 y.a, .int .i64 y.b, .int .i64 y.c, .int .i64 y.d, .int .i64 y.port], .bool r]) (by have d0 := HA.c0; have d1 := HA.c1; have d2 := HA.c2; have d3 := HA.c3; have d4 := HA.c4; simp [results, Tryd.results10, go_sem, d0, d1, d2, d3, d4]) rfl ⟨rfl, HBZ.out⟩
  · rw [h2] at IX hs
    rw [if_pos (by omega), Int.toNat_natCast] at hs
    have hx : (⟨l.toArray⟩ : ByteArray).extract k l.length = ⟨s.toArray⟩ := by rw [ba_extract, ← hs]; simp
    have hk0 : (0 : Int) ≤ (k : Int) := by omega
    clear h2 hs
    go_enter Tryd.func10, Tryd.ntmps10
    go_wp2_with fail
    refine (IX _).mono ?_
    rintro e w1 ⟨rfl, hb1⟩
    have HA1 := HA0.out.below hb1 (by simp)
    have HB1 := Lib.hid (HB0.out.trans (hb1.mono (by simp)))
    clear hb1 IX
    go_wp2_with fail
    refine (PS.out _).mono ?_
    rintro e w2 ⟨rfl, hb2⟩
    have HA2 := HA1.below hb2 (Array.getElem?_eq_some_iff.1 HA1.blk).1
    have HB2 := Lib.hid (HB1.out.trans (hb2.mono HB1.out.size))
    clear hb2 PS HA1 HB1
    go_wp2_with fail
    refine (TO.out _).mono ?_
    rintro e w3 ⟨rfl, hb3⟩
    have HA3 := HA2.below hb3 (Array.getElem?_eq_some_iff.1 HA2.blk).1
    have HB3 := Lib.hid (HB2.out.trans (hb3.mono HB2.out.size))
    clear hb3 TO HA2 HB2
    have r0 := HA3.c0
    have r1 := HA3.c1
    have r2 := HA3.c2
    have r3 := HA3.c3
    have r4 := HA3.c4
    have rf := HA3.froz
    have HZ := Lib.hid (HA3.put y)
    have HBZ := Lib.hid (below_set5 HB3.out (Nat.le_refl _) (.int .i64 y.a) (.int .i64 y.b) (.int .i64 y.c) (.int .i64 y.d) (.int .i64 y.port))
    clear HA3
    go_wp2
    generalize ((((w3.setCell ⟨w.heap.size, 0, none⟩ (.int .i64 y.a)).setCell ⟨w.heap.size, 1, none⟩ (.int .i64 y.b)).setCell ⟨w.heap.size, 2, none⟩ (.int .i64 y.c)).setCell ⟨w.heap.size, 3, none⟩ (.int .i64 y.d)).setCell ⟨w.heap.size, 4, none⟩ (.int .i64 y.port) = wz at *
    have HA := HZ.out
    clear r0 r1 r2 r3 r4
    refine bodyPost_ret (v := .tuple #[.agg #[.int .i64 y.a, .int .i64 y.b, .int .i64 y.c, .int .i64 y.d, .int .i64 y.port], .bool r]) (by have d0 := HA.c0; have d1 := HA.c1; have d2 := HA.c2; have d3 := HA.c3; have d4 := HA.c4; simp [results, Tryd.results10, go_sem, d0, d1, d2, d3, d4]) rfl ⟨rfl, HBZ.out⟩
end Go.Proofs.YtonophhhndhhhaaDoor
