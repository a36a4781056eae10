/- ParseDeep walked (layer 15). -/
import Derived.Test.YtiikionoagmabaaDoorParseLaw
import Derived.Test.YtiikionoagmabaaDoorPA
import Derived.Test.YtiikionoagmabaaDoorFrame
namespace Go.Proofs.YtiikionoagmabaaDoor
open Go.RowKit

theorem ba_snocP (X : List UInt8) (c : UInt8) : ∃ X2 : List UInt8, (⟨X.toArray⟩ : ByteArray) ++ ⟨#[c]⟩ = ⟨X2.toArray⟩ ∧ X2.length = X.length + 1 ∧ X2 = X ++ [c] := ⟨X ++ [c], ByteArray.mk_append_mk X [c], by simp, rfl⟩
theorem ba_joinP (X Y : List UInt8) : ∃ X2 : List UInt8, (⟨X.toArray⟩ : ByteArray) ++ ⟨Y.toArray⟩ = ⟨X2.toArray⟩ ∧ X2.length = X.length + Y.length ∧ X2 = X ++ Y := ⟨X ++ Y, ByteArray.mk_append_mk X Y, by simp, rfl⟩
theorem openN_len (other : Bool) : ∀ k, (Ps.openN other k).length = k * (Ps.openS other).length
  | 0 => by simp [Ps.openN]
  | k + 1 => by rw [Ps.openN, List.length_append, openN_len other k, Nat.add_mul, Nat.one_mul]

set_option maxRecDepth 20000 in
set_option maxHeartbeats 4000000 in
theorem lawDeepP (a0 : Int) (other : Bool) (h0 : (Lit.int .u8 a0).wf = true) (w : World) (hS : SHP w) :
    Calls Tryd.prog 6 #[.int .u8 a0, .bool other] w fun e w' => e = .returned (.bool true) ∧ Below w.heap.size w w' := by
  have hb0 := bounds_u8 h0
  obtain ⟨A, rfl⟩ := Int.eq_ofNat_of_zero_le hb0.1
  obtain ⟨N, hN⟩ : ∃ N, A % 21 = N := ⟨_, rfl⟩
  have hA : A < 256 := by omega
  have hN1 : N < 21 := by omega
  have n1 : (A : Int) % 21 = (N : Int) := by omega
  have n2 : (A : Int).tmod 21 = (N : Int) := by rw [Int.tmod_eq_emod_of_nonneg (by omega)]; exact n1
  have HS := Lib.hid hS
  have SW := shown_any w hS
  clear h0 hb0 hN hS
  cases other with
  | false =>
    go_enter Tryd.func6, Tryd.ntmps6
    go_wp2_with fail
    refine SW.mono ?_
    rintro e wa ⟨rfl, hba⟩
    have HBA := Lib.hid hba
    have HSA := Lib.hid (HS.out.below hba)
    clear hba SW
    go_wp2
    go_loopw [7, 9] (fun s7 s9 wr => ∃ (k : Nat) (X : List UInt8), k ≤ N ∧ s9 = .int .i64 k ∧ s7 = .string ⟨X.toArray⟩ ∧ X.length = 10 + k * 12 ∧ wr = wa ∧ Hid (X = Ps.modeS ++ Ps.openN false k)) (fun _ i _ => N - (intOf i).toNat)
    case atStart => exact ⟨0, Ps.modeS, Nat.zero_le _, rfl, rfl, rfl, rfl, by show _ = _; simp [Ps.openN]⟩
    case round =>
      obtain ⟨k, X, hk, rfl, rfl, hX, rfl, HX⟩ := hrel
      obtain ⟨LX, hLX⟩ : ∃ LX, X.length = LX := ⟨_, rfl⟩
      rw [hLX] at hX
      have hz : (⟨X.toArray⟩ : ByteArray).size = LX := hLX
      by_cases hlt : k < N
      · obtain ⟨X2, hX2, hlen, hX3⟩ := ba_joinP X [105, 102, 32, 99, 97, 112, 32, 34, 97, 34, 32, 123]
        rw [hLX] at hlen
        have hz1 : (⟨#[105, 102, 32, 99, 97, 112, 32, 34, 97, 34, 32, 123]⟩ : ByteArray).size = 12 := rfl
        have HX2 : Hid (X2 = Ps.modeS ++ Ps.openN false (k + 1)) := Lib.hid (by rw [hX3, HX.out, Ps.openN]; simp [Ps.openS])
        have hsm : (9223372036854775807 < LX + 12) = False := eq_false (by omega)
        have HLX := Lib.hid hX
        clear hX3 hX hLX
        go_wp2
        go_roundw
        case rel => exact ⟨k + 1, X2, by omega, by first | rfl | go_num, by first | rfl | simp only [hX2], by rw [hlen, HLX.out]; simp; omega, by first | rfl | trivial, HX2⟩
        case measure => simp [intOf]; omega
      · have hkN : k = N := by omega
        subst hkN
        have HX := Lib.hid HX.out
        have HLX := Lib.hid hX
        have HLEN := Lib.hid hLX
        clear hlt hk hX hLX hz
        go_wp2
        go_loopw [7, 10] (fun s7 s10 wx => ∃ (j : Nat) (Y : List UInt8), j ≤ k ∧ s10 = .int .i64 j ∧ s7 = .string ⟨Y.toArray⟩ ∧ Y.length = LX + j ∧ wx = wr ∧ Hid (Y = X ++ List.replicate j 125)) (fun _ i _ => k - (intOf i).toNat)
        case atStart => exact ⟨0, X, Nat.zero_le _, rfl, rfl, HLEN.out, rfl, by show _ = _; simp⟩
        case round =>
          obtain ⟨j, Y, hj, rfl, rfl, hY, rfl, HY⟩ := hrel
          obtain ⟨LY, hLY⟩ : ∃ LY, Y.length = LY := ⟨_, rfl⟩
          rw [hLY] at hY
          have hz : (⟨Y.toArray⟩ : ByteArray).size = LY := hLY
          have hLX := HLX.out
          by_cases hlt : j < k
          · obtain ⟨X2, hX2, hlen, hX3⟩ := ba_snocP Y 125
            rw [hLY] at hlen
            have hz1 : (⟨#[125]⟩ : ByteArray).size = 1 := rfl
            have HX2 : Hid (X2 = X ++ List.replicate (j + 1) 125) := Lib.hid (by rw [hX3, HY.out, List.replicate_succ', List.append_assoc])
            have hsm : (9223372036854775807 < LY + 1) = False := eq_false (by omega)
            have HLY := Lib.hid hY
            clear hX3 hY hLY hLX
            go_wp2
            go_roundw
            case rel => exact ⟨j + 1, X2, by omega, by first | rfl | go_num, by first | rfl | simp only [hX2], by rw [hlen, HLY.out]; omega, by first | rfl | trivial, HX2⟩
            case measure => simp [intOf]; omega
          · have hjk : j = k := by omega
            subst hjk
            have hV : Y = Ps.deepSrc j false := by rw [HY.out, HX.out]; rfl
            have PA := pall_any Y (by rw [hLY]; omega) _ HSA.out
            have hsrc := hV
            clear hlt hj hz hY hLY hLX
            by_cases h8 : 8 < j
            · rw [hV, Ps.deep_err hN1 h8] at PA
              rw [← hV] at PA
              unfold PAllP at PA
              have t8 : (8 : Int) < (j : Int) := by omega
              clear hV hsrc h8
              go_wp2_with fail
              refine PA.mono ?_
              rintro e w2 ⟨hb2, rfl, _⟩
              have HB2 := Lib.hid (HBA.out.trans (hb2.mono HBA.out.size))
              clear hb2 PA
              simp only [Ps.deepWant, if_true, if_false, Bool.false_eq_true]
              go_wp2
              go_ret
              exact ⟨rfl, HB2.out.alloc HB2.out.size _⟩
            · obtain ⟨md, row, top, hok, hrl⟩ := Ps.deep_ok (n := j) (by omega) false
              rw [hV, hok] at PA
              rw [← hV] at PA
              unfold PAllP at PA
              have t8 : ((8 : Int) < (j : Int)) = False := eq_false (by omega)
              clear hV hsrc h8
              go_wp2_with fail
              refine PA.mono ?_
              rintro e w2 ⟨hb2, sv', tv, rfl, hpr⟩
              have HB2 := Lib.hid (HBA.out.trans (hb2.mono HBA.out.size))
              obtain ⟨so, sc, rfl, _⟩ := hpr.at
              obtain ⟨tvo, tvc, rfl, _⟩ := hpr.top.formV
              rw [List.length_map, hrl]
              generalize top.length = M
              clear hb2 PA hpr hok hrl
              go_wp2
              go_ret
              exact ⟨rfl, HB2.out.alloc HB2.out.size _⟩
  | true =>
    go_enter Tryd.func6, Tryd.ntmps6
    go_wp2_with fail
    refine SW.mono ?_
    rintro e wa ⟨rfl, hba⟩
    have HBA := Lib.hid hba
    have HSA := Lib.hid (HS.out.below hba)
    clear hba SW
    go_wp2
    go_loopw [7, 9] (fun s7 s9 wr => ∃ (k : Nat) (X : List UInt8), k ≤ N ∧ s9 = .int .i64 k ∧ s7 = .string ⟨X.toArray⟩ ∧ X.length = 10 + k * 20 ∧ wr = wa ∧ Hid (X = Ps.modeS ++ Ps.openN true k)) (fun _ i _ => N - (intOf i).toNat)
    case atStart => exact ⟨0, Ps.modeS, Nat.zero_le _, rfl, rfl, rfl, rfl, by show _ = _; simp [Ps.openN]⟩
    case round =>
      obtain ⟨k, X, hk, rfl, rfl, hX, rfl, HX⟩ := hrel
      obtain ⟨LX, hLX⟩ : ∃ LX, X.length = LX := ⟨_, rfl⟩
      rw [hLX] at hX
      have hz : (⟨X.toArray⟩ : ByteArray).size = LX := hLX
      by_cases hlt : k < N
      · obtain ⟨X2, hX2, hlen, hX3⟩ := ba_joinP X [105, 102, 32, 99, 97, 112, 32, 34, 97, 34, 32, 123, 125, 32, 101, 108, 115, 101, 32, 123]
        rw [hLX] at hlen
        have hz1 : (⟨#[105, 102, 32, 99, 97, 112, 32, 34, 97, 34, 32, 123, 125, 32, 101, 108, 115, 101, 32, 123]⟩ : ByteArray).size = 20 := rfl
        have HX2 : Hid (X2 = Ps.modeS ++ Ps.openN true (k + 1)) := Lib.hid (by rw [hX3, HX.out, Ps.openN]; simp [Ps.openS])
        have hsm : (9223372036854775807 < LX + 20) = False := eq_false (by omega)
        have HLX := Lib.hid hX
        clear hX3 hX hLX
        go_wp2
        go_roundw
        case rel => exact ⟨k + 1, X2, by omega, by first | rfl | go_num, by first | rfl | simp only [hX2], by rw [hlen, HLX.out]; simp; omega, by first | rfl | trivial, HX2⟩
        case measure => simp [intOf]; omega
      · have hkN : k = N := by omega
        subst hkN
        have HX := Lib.hid HX.out
        have HLX := Lib.hid hX
        have HLEN := Lib.hid hLX
        clear hlt hk hX hLX hz
        go_wp2
        go_loopw [7, 10] (fun s7 s10 wx => ∃ (j : Nat) (Y : List UInt8), j ≤ k ∧ s10 = .int .i64 j ∧ s7 = .string ⟨Y.toArray⟩ ∧ Y.length = LX + j ∧ wx = wr ∧ Hid (Y = X ++ List.replicate j 125)) (fun _ i _ => k - (intOf i).toNat)
        case atStart => exact ⟨0, X, Nat.zero_le _, rfl, rfl, HLEN.out, rfl, by show _ = _; simp⟩
        case round =>
          obtain ⟨j, Y, hj, rfl, rfl, hY, rfl, HY⟩ := hrel
          obtain ⟨LY, hLY⟩ : ∃ LY, Y.length = LY := ⟨_, rfl⟩
          rw [hLY] at hY
          have hz : (⟨Y.toArray⟩ : ByteArray).size = LY := hLY
          have hLX := HLX.out
          by_cases hlt : j < k
          · obtain ⟨X2, hX2, hlen, hX3⟩ := ba_snocP Y 125
            rw [hLY] at hlen
            have hz1 : (⟨#[125]⟩ : ByteArray).size = 1 := rfl
            have HX2 : Hid (X2 = X ++ List.replicate (j + 1) 125) := Lib.hid (by rw [hX3, HY.out, List.replicate_succ', List.append_assoc])
            have hsm : (9223372036854775807 < LY + 1) = False := eq_false (by omega)
            have HLY := Lib.hid hY
            clear hX3 hY hLY hLX
            go_wp2
            go_roundw
            case rel => exact ⟨j + 1, X2, by omega, by first | rfl | go_num, by first | rfl | simp only [hX2], by rw [hlen, HLY.out]; omega, by first | rfl | trivial, HX2⟩
            case measure => simp [intOf]; omega
          · have hjk : j = k := by omega
            subst hjk
            have hV : Y = Ps.deepSrc j true := by rw [HY.out, HX.out]; rfl
            have PA := pall_any Y (by rw [hLY]; omega) _ HSA.out
            have hsrc := hV
            clear hlt hj hz hY hLY hLX
            by_cases h8 : 8 < j
            · rw [hV, Ps.deep_err hN1 h8] at PA
              rw [← hV] at PA
              unfold PAllP at PA
              have t8 : (8 : Int) < (j : Int) := by omega
              clear hV hsrc h8
              go_wp2_with fail
              refine PA.mono ?_
              rintro e w2 ⟨hb2, rfl, _⟩
              have HB2 := Lib.hid (HBA.out.trans (hb2.mono HBA.out.size))
              clear hb2 PA
              simp only [Ps.deepWant, if_true, if_false, Bool.false_eq_true]
              go_wp2
              go_ret
              exact ⟨rfl, HB2.out.alloc HB2.out.size _⟩
            · obtain ⟨md, row, top, hok, hrl⟩ := Ps.deep_ok (n := j) (by omega) true
              rw [hV, hok] at PA
              rw [← hV] at PA
              unfold PAllP at PA
              have t8 : ((8 : Int) < (j : Int)) = False := eq_false (by omega)
              clear hV hsrc h8
              go_wp2_with fail
              refine PA.mono ?_
              rintro e w2 ⟨hb2, sv', tv, rfl, hpr⟩
              have HB2 := Lib.hid (HBA.out.trans (hb2.mono HBA.out.size))
              obtain ⟨so, sc, rfl, _⟩ := hpr.at
              obtain ⟨tvo, tvc, rfl, _⟩ := hpr.top.formV
              rw [List.length_map, hrl]
              generalize top.length = M
              clear hb2 PA hpr hok hrl
              go_wp2
              go_ret
              exact ⟨rfl, HB2.out.alloc HB2.out.size _⟩
end Go.Proofs.YtiikionoagmabaaDoor
