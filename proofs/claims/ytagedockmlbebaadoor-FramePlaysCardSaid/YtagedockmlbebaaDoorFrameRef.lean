/- The reference's lines of all bytes at once, walked. -/
import Derived.Test.YtagedockmlbebaaDoorLinesP
import Derived.Test.YtagedockmlbebaaDoorRdB
import Derived.Test.YtagedockmlbebaaDoorRdCut
import Derived.Test.YtagedockmlbebaaDoorStrs
import Derived.Test.YtagedockmlbebaaDoorBits
import Derived.OwnWalk
namespace Go.Proofs.YtagedockmlbebaaDoor
open Go.RowKit
namespace Li
theorem go_on {M : Int} {xs : List UInt8} {k : Nat} {lines : List (List UInt8)} {ls : List UInt8} (h : start.put M (xs.take k) = (lines, ⟨ls, 0⟩)) (hk : k < xs.length) {o : Option (List UInt8)} {f' : Fm} (hs : (⟨ls, 0⟩ : Fm).step M (xs.getD k 0) = (o, f')) :
    start.put M (xs.take (k + 1)) = (lines ++ o.toList, f') := by
  have e : xs.take (k + 1) = xs.take k ++ [xs.getD k 0] := by
    rw [List.take_succ_eq_append_getElem hk, List.getD_eq_getElem?_getD, List.getElem?_eq_getElem hk]; rfl
  rw [e, put_snoc, h]
  dsimp only
  rw [hs]
theorem stop {M : Int} {xs : List UInt8} {k : Nat} {lines : List (List UInt8)} {ls : List UInt8} (h : start.put M (xs.take k) = (lines, ⟨ls, 0⟩)) (hk : k < xs.length) {e : Nat} (hs : (⟨ls, 0⟩ : Fm).step M (xs.getD k 0) = (none, ⟨[], e⟩)) (he : e ≠ 0) :
    start.put M xs = (lines, ⟨[], e⟩) := by
  have h1 := go_on h hk hs
  have e2 : xs = xs.take (k + 1) ++ xs.drop (k + 1) := (List.take_append_drop ..).symm
  rw [e2, put_append, h1]
  dsimp only
  rw [put_err (f := ⟨[], e⟩) he]
  simp
/-- What came since the last line, as the reference counts it. -/
theorem since_last {xs : List UInt8} {fr D : Nat} (h : fr + D < xs.length) : ((xs.take (fr + D + 1)).drop fr).getLast? = some (xs.getD (fr + D) 0) := by
  rw [List.getLast?_eq_getElem?, List.getElem?_drop, List.length_drop, List.length_take]
  rw [show fr + (min (fr + D + 1) xs.length - fr - 1) = fr + D by omega, List.getElem?_take_of_lt (by omega), List.getD_eq_getElem?_getD, List.getElem?_eq_getElem h]
  rfl
theorem since_drop {xs : List UInt8} {fr D : Nat} (h : fr + D < xs.length) : ((xs.take (fr + D + 1)).drop fr).dropLast = (xs.drop fr).take D := by
  rw [List.dropLast_eq_take, List.length_drop, List.length_take, List.drop_take, List.take_take]
  congr 1
  omega
theorem since_more {xs : List UInt8} {fr k : Nat} (hf : fr ≤ k) (h : k < xs.length) : (xs.take k).drop fr ++ [xs.getD k 0] = (xs.take (k + 1)).drop fr := by
  rw [List.take_succ_eq_append_getElem h, List.drop_append_of_le_length (by rw [List.length_take]; omega), List.getD_eq_getElem?_getD, List.getElem?_eq_getElem h]; rfl
theorem since_len {xs : List UInt8} {fr k : Nat} (h : k ≤ xs.length) : ((xs.take k).drop fr).length = k - fr := by
  rw [List.length_drop, List.length_take]; omega
end Li

/-- What stands at the head of the reference's loop. -/
structure RL (w : World) (M : Int) (xs : List UInt8) (k fr : Nat) (v : Value) (lines : List (List UInt8)) (wr : World) : Prop where
  own : wr.ownsRow w.heap.size 9 1 v lines.length (lines.map sv)
  below : Below w.heap.size w wr
  put : Li.start.put M (xs.take k) = (lines, ⟨(xs.take k).drop fr, 0⟩)
  le : fr ≤ k
  few : lines.length ≤ k

set_option maxRecDepth 20000 in
set_option maxHeartbeats 4000000 in
/-- 'Lines'. -/
theorem lines_any (v : Value) (xs : List UInt8) (m : Int) (w : World) (hr : Rd w v (xs.map bv)) (hs : xs.length ≤ 1048576) (hm : m < 9223372036854775808) {M : Int} (hM : M = max m 0) {ls : List (List UInt8)} {f : Li.Fm} (hp : Li.start.put M xs = (ls, f)) :
    Calls Tryd.prog 13 #[v, .int .i64 m] w fun e w' => ∃ lv, e = .returned (.tuple #[lv, .int .i64 (f.err : Int), .int .i64 ((f.ls.length : Nat) : Int)]) ∧ w'.ownsRow w.heap.size 9 1 lv ls.length (ls.map sv) ∧ Below w.heap.size w w' := by
  obtain ⟨ao, cap, rfl, hcap, hc⟩ := hr.form
  have HRD := Lib.hid hr
  have HC := Lib.hid hc
  have HP := Lib.hid hp
  have HM := Lib.hid hM
  obtain ⟨L, hL⟩ : ∃ L, L = xs.length := ⟨_, rfl⟩
  have HL := Lib.hid hL
  rw [← hL] at hcap hs HRD ⊢
  have hMm : (if m < 0 then 0 else m) = M := by rw [hM]; split <;> omega
  have h0M : 0 ≤ M := by omega
  have hMb : M < 9223372036854775808 := by omega
  clear hr hc hp hL hM
  go_enter Tryd.func13, Tryd.ntmps13
  go_wp2
  go_loopw [7, 8, 9] (fun a b c wr => ∃ (k fr : Nat) (lines : List (List UInt8)), k ≤ L ∧ fr ≤ k ∧ b = .int .i64 fr ∧ c = .int .i64 k ∧ Hid (RL w M xs k fr a lines wr)) (fun _ _ c _ => L - (intOf c).toNat)
  case atStart =>
    exact ⟨0, 0, [], Nat.zero_le _, Nat.zero_le _, rfl, rfl, World.ownsRow_made (base := w.heap.size) w #[] 0 (Nat.le_refl _) (Nat.zero_le _) rfl, (Below.refl _ _).alloc (Nat.le_refl _) _, rfl, Nat.le_refl _, Nat.le_refl _⟩
  case round =>
    obtain ⟨k, fr, lines, hk, hfk, rfl, rfl, HR⟩ := hrel
    have hl0 := Li.since_len (xs := xs) (fr := fr) (k := k) (by rw [← HL.out]; exact hk)
    obtain ⟨D, hD⟩ : ∃ D, D = k - fr := ⟨_, rfl⟩
    rw [← hD] at hl0
    have HLN := Lib.hid hl0
    have i1 : (k : Int) - (fr : Int) = (D : Int) := by omega
    have HDD := Lib.hid hD
    have HFK := Lib.hid hfk
    have hDk : D ≤ k := by omega
    clear hl0 hD
    by_cases hlt : k < L
    · obtain ⟨b, o, rfl, hmx, hcell⟩ := HC.out (by rw [← HL.out]; omega)
      have HLT := Lib.hid hlt
      have hc1 := HR.out.below.cell (World.block_lt_of_cell? w _ (hcell k (by rw [← HL.out]; exact hlt)))
      rw [hcell k (by rw [← HL.out]; exact hlt)] at hc1
      obtain ⟨x, hx⟩ : ∃ x, x = xs.getD k 0 := ⟨_, rfl⟩
      rw [← hx] at hc1
      unfold bv at hc1
      have HX := Lib.hid hx
      have h256 : (x.toNat : Int) < 256 := by have := x.toNat_lt; omega
      have HCELL := Lib.hid hcell
      unfold maxLen at hmx
      clear hx hcell HC
      by_cases hz : fr = k
      · subst hz
        have hD0 : D = 0 := by have := HDD.out; omega
        subst hD0
        have HNL := Lib.hid (show ((xs.take fr).drop fr).getLast? ≠ some 13 by
          have e : (xs.take fr).drop fr = [] := List.drop_of_length_le (by rw [List.length_take]; omega)
          rw [e]; simp)
        clear i1
        by_cases hx10 : x = 10
        · have q10 : ((x.toNat : Int) == 10) = true := by rw [hx10]; rfl
          have HX10 := Lib.hid hx10
          clear hx10
          go_wp2
          go_ret3
          have hp := Li.stop HR.out.put (by rw [← HL.out]; exact HLT.out) (by rw [← HX.out, HX10.out]; exact Li.step_lf rfl HNL.out) (by decide)
          rw [HP.out] at hp
          cases hp
          exact ⟨_, rfl, HR.out.own, HR.out.below⟩
        · have q10 : ((x.toNat : Int) == 10) = false := beq_eq_false_iff_ne.2 (fun e => hx10 (UInt8.toNat_inj.1 (by show x.toNat = 10; omega)))
          have q10b : (x.toNat = 10) = False := eq_false (fun e => hx10 (UInt8.toNat_inj.1 e))
          have HX10 := Lib.hid hx10
          clear hx10
          by_cases hx13 : x = 13
          · have q13 : ((x.toNat : Int) != 13) = false := by rw [hx13]; rfl
            have HMO := Lib.hid (show x = 13 ∨ ((((xs.take fr).drop fr).length : Nat) : Int) + 1 ≤ M from .inl hx13)
            clear hx13
            go_wp2
            go_roundw
            case rel =>
              refine ⟨fr + 1, fr, lines, by omega, by omega, rfl, by go_num, ⟨HR.out.own, HR.out.below, ?_, by have := HFK.out; omega, by have := HR.out.few; omega⟩⟩
              have hp := Li.go_on HR.out.put (by rw [← HL.out]; exact HLT.out) (Li.step_more (f := ⟨_, 0⟩) rfl HNL.out (by rw [← HX.out]; exact HX10.out) (by rw [← HX.out]; exact HMO.out))
              rw [Li.since_more HFK.out (by rw [← HL.out]; exact HLT.out)] at hp
              simpa using hp
            case measure => simp [intOf]; omega
          · have q13 : ((x.toNat : Int) != 13) = true := by
              have h2 : ((x.toNat : Int) == 13) = false := beq_eq_false_iff_ne.2 (fun e => hx13 (UInt8.toNat_inj.1 (by show x.toNat = 13; omega)))
              rw [bne, h2]; rfl
            have q13b : (x.toNat = 13) = False := eq_false (fun e => hx13 (UInt8.toNat_inj.1 e))
            have HX13 := Lib.hid hx13
            clear hx13
            by_cases hlg : M < 1
            · have HLG := Lib.hid hlg
              have hlg1 : decide (M < 1) = true := decide_eq_true hlg
              go_wp2
              go_ret3
              have hp := Li.stop HR.out.put (by rw [← HL.out]; exact HLT.out) (by rw [← HX.out]; exact Li.step_long rfl HNL.out HX10.out HX13.out (by dsimp only; rw [HLN.out]; exact HLG.out)) (by decide)
              rw [HP.out] at hp
              cases hp
              exact ⟨_, rfl, HR.out.own, HR.out.below⟩
            · have HMO := Lib.hid (show x = 13 ∨ ((((xs.take fr).drop fr).length : Nat) : Int) + 1 ≤ M from .inr (by rw [HLN.out]; omega))
              have hlg1 : decide (M < 1) = false := decide_eq_false hlg
              go_wp2
              go_roundw
              case rel =>
                refine ⟨fr + 1, fr, lines, by omega, by omega, rfl, by go_num, ⟨HR.out.own, HR.out.below, ?_, by have := HFK.out; omega, by have := HR.out.few; omega⟩⟩
                have hp := Li.go_on HR.out.put (by rw [← HL.out]; exact HLT.out) (Li.step_more (f := ⟨_, 0⟩) rfl HNL.out (by rw [← HX.out]; exact HX10.out) (by rw [← HX.out]; exact HMO.out))
                rw [Li.since_more HFK.out (by rw [← HL.out]; exact HLT.out)] at hp
                simpa using hp
              case measure => simp [intOf]; omega
      · obtain ⟨K1, hK1⟩ : ∃ K1, k = K1 + 1 := ⟨k - 1, by omega⟩
        have hfK : fr ≤ K1 := by omega
        have hc0 := HR.out.below.cell (World.block_lt_of_cell? w _ (HCELL.out K1 (by rw [← HL.out]; omega)))
        rw [HCELL.out K1 (by rw [← HL.out]; omega)] at hc0
        obtain ⟨y, hy⟩ : ∃ y, y = xs.getD K1 0 := ⟨_, rfl⟩
        rw [← hy] at hc0
        unfold bv at hc0
        have HY := Lib.hid hy
        have h256y : (y.toNat : Int) < 256 := by have := y.toNat_lt; omega
        have hgl : ((xs.take k).drop fr).getLast? = some y := by
          have := Li.since_last (xs := xs) (fr := fr) (D := K1 - fr) (by rw [← HL.out]; omega)
          rw [show fr + (K1 - fr) = K1 by omega, ← hK1, ← hy] at this
          exact this
        have HGL := Lib.hid hgl
        have i2 : (k : Int) - 1 = (K1 : Int) := by omega
        have i3 : (fr : Int) < (k : Int) := by omega
        have hKL : K1 < L := by omega
        have HK1 := Lib.hid hK1
        have HFK1 := Lib.hid hfK
        clear hz hy hgl hK1
        by_cases hy13 : y = 13
        · have p13 : ((y.toNat : Int) == 13) = true := by rw [hy13]; rfl
          have HCR := Lib.hid (show ((xs.take k).drop fr).getLast? = some 13 by rw [HGL.out, hy13])
          clear hy13
          by_cases hx10 : x = 10
          · have q10 : ((x.toNat : Int) == 10) = true := by rw [hx10]; rfl
            have HX10 := Lib.hid hx10
            have hcut := ((HRD.out.below HR.out.below).rest HL.out (m := fr) (by omega)).head (m := K1 - fr) (by rw [List.length_drop, ← HL.out]) (by omega) (by omega)
            have hcv := bytes_string hcut
            have e := Li.since_drop (xs := xs) (fr := fr) (D := K1 - fr) (by rw [← HL.out]; omega)
            rw [show fr + (K1 - fr) + 1 = k by have := HK1.out; omega] at e
            rw [← e] at hcv
            have HOWN := Lib.hid HR.out.own
            have HBL := Lib.hid HR.out.below
            have HFEW := Lib.hid HR.out.few
            have hcf : (cap = fr) = False := eq_false (by omega)
            clear hx10 hcut e
            unfold sv at hcv
            go_wp2_with (at_builtin; refine append_str rfl (.tmp 39) (.tmp 46) rfl rfl HOWN.out rfl rfl ?ca ?cb ?cc ?_)
            case ca => rfl
            case cb => have := HFEW.out; omega
            case cc => exact HBL.out.size
            intro v' w' hown hgrow
            have HB' := Lib.hid (HBL.out.grown hgrow HBL.out.size (fun j hj => (HOWN.out.lt j hj).1))
            have HO' := Lib.hid hown
            clear hown hgrow
            go_wp2
            go_roundw
            case rel =>
              refine ⟨k + 1, k + 1, lines ++ [((xs.take k).drop fr).dropLast], by omega, by omega, by go_num, by go_num, ⟨?_, HB'.out, ?_, Nat.le_refl _, ?_⟩⟩
              · have := HO'.out
                simpa [sv] using this
              · have hp := Li.go_on HR.out.put (by rw [← HL.out]; exact HLT.out) (by rw [← HX.out, HX10.out])
                rw [hp]
                rw [Li.step_line rfl HCR.out]
                have e : (xs.take (k + 1)).drop (k + 1) = [] := List.drop_of_length_le (by rw [List.length_take]; omega)
                rw [e]; rfl
              · rw [List.length_append]; have := HFEW.out; simp only [List.length_singleton]; omega
            case measure => simp [intOf]; omega
          · have q10 : ((x.toNat : Int) == 10) = false := beq_eq_false_iff_ne.2 (fun e => hx10 (UInt8.toNat_inj.1 (by show x.toNat = 10; omega)))
            have q10b : (x.toNat = 10) = False := eq_false (fun e => hx10 (UInt8.toNat_inj.1 e))
            have HX10 := Lib.hid hx10
            clear hx10
            go_wp2
            go_ret3
            have hp := Li.stop HR.out.put (by rw [← HL.out]; exact HLT.out) (by rw [← HX.out]; exact Li.step_cr rfl HCR.out HX10.out) (by decide)
            rw [HP.out] at hp
            cases hp
            exact ⟨_, rfl, HR.out.own, HR.out.below⟩
        · have p13 : ((y.toNat : Int) == 13) = false := beq_eq_false_iff_ne.2 (fun e => hy13 (UInt8.toNat_inj.1 (by show y.toNat = 13; omega)))
          have p13b : (y.toNat = 13) = False := eq_false (fun e => hy13 (UInt8.toNat_inj.1 e))
          have HNL := Lib.hid (show ((xs.take k).drop fr).getLast? ≠ some 13 by rw [HGL.out]; simpa using hy13)
          clear hy13
          by_cases hx10 : x = 10
          · have q10 : ((x.toNat : Int) == 10) = true := by rw [hx10]; rfl
            have HX10 := Lib.hid hx10
            clear hx10
            go_wp2
            go_ret3
            have hp := Li.stop HR.out.put (by rw [← HL.out]; exact HLT.out) (by rw [← HX.out, HX10.out]; exact Li.step_lf rfl HNL.out) (by decide)
            rw [HP.out] at hp
            cases hp
            exact ⟨_, rfl, HR.out.own, HR.out.below⟩
          · have q10 : ((x.toNat : Int) == 10) = false := beq_eq_false_iff_ne.2 (fun e => hx10 (UInt8.toNat_inj.1 (by show x.toNat = 10; omega)))
            have q10b : (x.toNat = 10) = False := eq_false (fun e => hx10 (UInt8.toNat_inj.1 e))
            have HX10 := Lib.hid hx10
            clear hx10
            by_cases hx13 : x = 13
            · have q13 : ((x.toNat : Int) != 13) = false := by rw [hx13]; rfl
              have HMO := Lib.hid (show x = 13 ∨ ((((xs.take k).drop fr).length : Nat) : Int) + 1 ≤ M from .inl hx13)
              clear hx13
              go_wp2
              go_roundw
              case rel =>
                refine ⟨k + 1, fr, lines, by omega, by omega, rfl, by go_num, ⟨HR.out.own, HR.out.below, ?_, by have := HFK.out; omega, by have := HR.out.few; omega⟩⟩
                have hp := Li.go_on HR.out.put (by rw [← HL.out]; exact HLT.out) (Li.step_more (f := ⟨_, 0⟩) rfl HNL.out (by rw [← HX.out]; exact HX10.out) (by rw [← HX.out]; exact HMO.out))
                rw [Li.since_more HFK.out (by rw [← HL.out]; exact HLT.out)] at hp
                simpa using hp
              case measure => simp [intOf]; omega
            · have q13 : ((x.toNat : Int) != 13) = true := by
                have h2 : ((x.toNat : Int) == 13) = false := beq_eq_false_iff_ne.2 (fun e => hx13 (UInt8.toNat_inj.1 (by show x.toNat = 13; omega)))
                rw [bne, h2]; rfl
              have q13b : (x.toNat = 13) = False := eq_false (fun e => hx13 (UInt8.toNat_inj.1 e))
              have HX13 := Lib.hid hx13
              clear hx13
              by_cases hlg : M < (D : Int) + 1
              · have HLG := Lib.hid hlg
                have hlg1 : decide (M < (D : Int) + 1) = true := decide_eq_true hlg
                go_wp2
                go_ret3
                have hp := Li.stop HR.out.put (by rw [← HL.out]; exact HLT.out) (by rw [← HX.out]; exact Li.step_long rfl HNL.out HX10.out HX13.out (by dsimp only; rw [HLN.out]; exact HLG.out)) (by decide)
                rw [HP.out] at hp
                cases hp
                exact ⟨_, rfl, HR.out.own, HR.out.below⟩
              · have HMO := Lib.hid (show x = 13 ∨ ((((xs.take k).drop fr).length : Nat) : Int) + 1 ≤ M from .inr (by rw [HLN.out]; omega))
                have hlg1 : decide (M < (D : Int) + 1) = false := decide_eq_false hlg
                go_wp2
                go_roundw
                case rel =>
                  refine ⟨k + 1, fr, lines, by omega, by omega, rfl, by go_num, ⟨HR.out.own, HR.out.below, ?_, by have := HFK.out; omega, by have := HR.out.few; omega⟩⟩
                  have hp := Li.go_on HR.out.put (by rw [← HL.out]; exact HLT.out) (Li.step_more (f := ⟨_, 0⟩) rfl HNL.out (by rw [← HX.out]; exact HX10.out) (by rw [← HX.out]; exact HMO.out))
                  rw [Li.since_more HFK.out (by rw [← HL.out]; exact HLT.out)] at hp
                  simpa using hp
                case measure => simp [intOf]; omega
    · obtain rfl : k = L := by omega
      go_wp2
      go_ret3
      have hp := HR.out.put
      rw [List.take_of_length_le (by rw [HL.out]; exact Nat.le_refl _)] at hp
      rw [HP.out] at hp
      cases hp
      have e := HLN.out
      rw [List.take_of_length_le (by rw [HL.out]; exact Nat.le_refl _)] at e
      refine ⟨_, ?_, HR.out.own, HR.out.below⟩
      dsimp only
      rw [e]
      rfl
end Go.Proofs.YtagedockmlbebaaDoor
