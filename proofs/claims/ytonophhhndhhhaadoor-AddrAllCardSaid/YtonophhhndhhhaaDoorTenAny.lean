/- strings.IndexAny of the ten digits, whatever text. -/
import Derived.Test.YtonophhhndhhhaaDoorTenL
namespace Go.Proofs.YtonophhhndhhhaaDoor
open Go.RowKit

/-- 'strings.IndexRune' of any rune. -/
theorem rune_ten (r : Nat) (hv : 128 ≤ r → r ≤ 1114111 ∧ (r ≠ 65533 → Utf8.valid (r : Int) = true)) (C : ByteArray) (hC : C = ten) (w : World) :
    Calls Tryd.prog 30 #[.string C, .int .i32 (r : Int)] w fun e w' => e = .returned (.int .i64 (if r < 128 then Lib.indexByte ten.data.toList r.toUInt8 else -1)) ∧ Below w.heap.size w w' := by
  by_cases h : r < 128
  · refine (Tryd.strings_IndexRune_ascii C (r : Int) w (Int.natCast_nonneg _) (by omega)).mono ?_
    rintro e w' ⟨rfl, rfl⟩
    rw [if_pos h, hC]
    exact ⟨rfl, Below.refl _ _⟩
  · rw [if_neg h, hC]
    exact rune_high r (by omega) (hv (by omega)).1 (hv (by omega)).2 w

theorem in_ten (x : UInt8) : decide (0 ≤ Lib.indexByte ten.data.toList x) = ten.data.toList.contains x := (Lib.contains_iff_indexByte _ x).symm
theorem noAny_ten {xs : List UInt8} {p n : Nat} (h : Lib.NoAny xs ten.data.toList p) (hb : ∀ j, p ≤ j → j < p + n → 128 ≤ (xs.getD j 0).toNat) : Lib.NoAny xs ten.data.toList (p + n) := fun j b hj hx => by
  by_cases hlt : j < p
  · exact h j b hlt hx
  · have := hb j (by omega) hj
    rw [List.getD_eq_getElem?_getD, hx] at this
    cases hc : ten.data.toList.contains b
    · rfl
    · have := ten_low b (by simpa using hc)
      simp only [Option.getD_some] at *
      omega

set_option maxHeartbeats 4000000 in
set_option maxRecDepth 1000000 in
/-- 'strings.IndexAny' of few bytes. -/
theorem indexT_short (s : ByteArray) (h8 : s.size ≤ 8) (w : World) (C : ByteArray) (hC : C = ten) (T : List UInt8) (hT : ten.data.toList = T) :
    Calls Tryd.prog 18 #[.string s, .string C] w fun e w' => e = .returned (.int .i64 (Lib.indexAny s.data.toList T)) ∧ Below w.heap.size w w' := by
  have g1 : C.toList.isEmpty = false := by rw [hC, Lib.toList_data]; rfl
  have g2 : ((C.size : Int) == 1) = false := by rw [hC]; rfl
  have g3 : C.size = 10 := by rw [hC]; rfl
  have h8z : decide ((8 : Int) < (s.size : Int)) = false := decide_eq_false (by omega)
  have RI := Lib.hid (fun r hv wx => rune_ten r hv C hC wx)
  have ID := Lib.hid in_ten
  have NM := Lib.hid (fun (xs : List UInt8) p n h hb => noAny_ten (xs := xs) (p := p) (n := n) h hb)
  rw [hT] at RI ID NM
  have hl : s.data.toList.length = s.size := (Lib.size_eq s).symm
  have HL := Lib.hid hl
  clear hC hl hT
  go_enter Tryd.func18, Tryd.ntmps18
  go_wp2_with fail
  refine (Tryd.strings_shouldUseASCIISet _ _).mono ?_
  rintro e w' ⟨rfl, hw⟩
  rw [hw, h8z]
  clear hw
  go_wp2
  go_loopw [9, 10] (fun _ _ wr => ∃ p : Nat, p ≤ s.size ∧ wr.heap[w.heap.size]? = some (.stringIter s p) ∧ Hid (Lib.NoAny s.data.toList T p) ∧ Hid (Below w.heap.size w wr)) (fun _ _ wr => s.size - wr.iterPos w.heap.size)
  case atStart => exact ⟨0, Nat.zero_le _, World.iter_heap _ _ _, Lib.NoAny.zero _ _, (Below.refl _ _).alloc (Nat.le_refl _) _⟩
  case round =>
    obtain ⟨p, hp, hit, HNO, HB⟩ := hrel
    have HP := Lib.hid (iterPos_of hit)
    by_cases hlt : p < s.size
    · have hnx := fun ty => Lib.run_next_any_at (P := Tryd.prog) wr w.heap.size s p ty hit hlt
      have hit2 := Lib.iterAt_heap wr w.heap.size s p (p + (Utf8.decode s p).2) hit
      have hb2 := Lib.below_iterAt HB.out (Nat.le_refl _) s (p + (Utf8.decode s p).2)
      have hxl : s.data.toList[p]? = some (s.data.toList.getD p 0) := by rw [List.getD_eq_getElem?_getD, List.getElem?_eq_getElem (by rw [HL.out]; exact hlt)]; rfl
      by_cases hb : (s.data.toList.getD p 0).toNat < 128
      · have hd := decode_ascii s p hlt (by rw [Tx.get_eq s p hlt]; exact hb)
        rw [Tx.get_eq s p hlt] at hd
        rw [hd] at hnx hit2 hb2
        obtain ⟨x, hx⟩ : ∃ x, x = s.data.toList.getD p 0 := ⟨_, rfl⟩
        rw [← hx] at hnx hxl hb
        have hr := RI.out x.toNat (fun h => absurd hb (by omega))
        rw [if_pos hb, show x.toNat.toUInt8 = x by simp] at hr
        have hc := ID.out x
        have HX := Lib.hid hxl
        dsimp only at hnx hit2 hb2
        have HR := Lib.hid hr
        have HB2 := Lib.hid hb2
        have HI2 := Lib.hid hit2
        generalize Lib.indexByte T x = k at *
        clear hx hd hxl hr hb2 hit2 hb
        cases hin : T.contains x
        · have hk : ¬ (0 : Int) ≤ k := of_decide_eq_false (hc.trans hin)
          have HIN := Lib.hid hin
          clear hin hc
          go_wp2_with fail
          refine (HR.out _).mono ?_
          rintro e w1 ⟨rfl, hb1⟩
          have HB1 := Lib.hid (HB2.out.trans (hb1.mono HB2.out.size))
          have hit1 := (hb1.block _ (Array.getElem?_eq_some_iff.1 HI2.out).1).trans HI2.out
          clear hb1 hnx
          go_wp2
          go_roundw
          case rel => exact ⟨p + 1, by omega, hit1, HNO.out.succ HX.out HIN.out, HB1.out⟩
          case measure =>
            rw [iterPos_of hit1, HP.out]
            omega
        · have hk : (0 : Int) ≤ k := of_decide_eq_true (hc.trans hin)
          have HIN := Lib.hid hin
          clear hin hc
          go_wp2_with fail
          refine (HR.out _).mono ?_
          rintro e w1 ⟨rfl, hb1⟩
          have HB1 := Lib.hid (HB2.out.trans (hb1.mono HB2.out.size))
          clear hb1 hnx
          go_wp2
          go_ret
          refine ⟨?_, HB1.out⟩
          rw [Lib.indexAny_hit HNO.out HX.out HIN.out]
          rfl
      · have hh := Tx.high_of s p hlt (by omega)
        generalize (Utf8.decode s p).1 = r at *
        generalize (Utf8.decode s p).2 = n at *
        have hr := RI.out r (fun _ => ⟨hh.big, fun h => (hh.enc h).1⟩)
        rw [if_neg (by have := hh.r128; omega)] at hr
        have HNK := Lib.hid (NM.out _ _ _ HNO.out hh.bytes)
        have hf := hh.fits
        have hn := hh.n1
        have HR := Lib.hid hr
        have HB2 := Lib.hid hb2
        have HI2 := Lib.hid hit2
        clear hxl hr hb2 hit2 hb hh
        go_wp2_with fail
        refine (HR.out _).mono ?_
        rintro e w1 ⟨rfl, hb1⟩
        have HB1 := Lib.hid (HB2.out.trans (hb1.mono HB2.out.size))
        have hit1 := (hb1.block _ (Array.getElem?_eq_some_iff.1 HI2.out).1).trans HI2.out
        clear hb1 hnx
        go_wp2
        go_roundw
        case rel => exact ⟨p + n, by omega, hit1, HNK.out, HB1.out⟩
        case measure =>
          rw [iterPos_of hit1, HP.out]
          omega
    · have hnx := fun ty => Lib.run_next_end_at (P := Tryd.prog) wr w.heap.size s p ty hit hlt
      obtain rfl : p = s.size := by omega
      go_wp2
      go_ret
      refine ⟨?_, HB.out⟩
      rw [Lib.indexAny_none (by rw [HL.out]; exact HNO.out)]
      rfl

/-- 'strings.IndexAny' of the ten digits. -/
theorem indexT_any (s : ByteArray) (hs : s.size ≤ 16777216) (w : World) :
    Calls Tryd.prog 18 #[.string s, .string ⟨#[48, 49, 50, 51, 52, 53, 54, 55, 56, 57]⟩] w fun e w' => e = .returned (.int .i64 (Lib.indexAny s.data.toList ten.data.toList)) ∧ Below w.heap.size w w' := by
  by_cases h8 : s.size ≤ 8
  · exact indexT_short s h8 w _ rfl _ rfl
  · refine (Tryd.strings_IndexAny_long ((zero_of_info (P := Tryd.prog) (n := 256) (by kernel_rfl)).1) s ten w (by decide) (by omega) (by omega) (by decide) (fun j b hj => ten_low b (List.mem_of_getElem? hj))).mono ?_
    rintro e w' ⟨rfl, rfl⟩
    exact ⟨rfl, (((Below.refl _ _).alloc (Nat.le_refl _) _).alloc (by simp) _)⟩
end Go.Proofs.YtonophhhndhhhaaDoor
