/- The law LexWords walked (layer 14). -/
import Derived.Test.YtdeocejjneghjaaDoorLexLaw
import Derived.Test.YtdeocejjneghjaaDoorFrame
import Derived.ProofKit
import Derived.OpenShut
namespace Go.Proofs.YtdeocejjneghjaaDoor
open Go.RowKit

theorem rep_snoc (k : Nat) (c : UInt8) : (⟨(List.replicate k c).toArray⟩ : ByteArray) ++ ⟨#[c]⟩ = ⟨(List.replicate (k + 1) c).toArray⟩ := by
  rw [List.replicate_succ']
  exact ByteArray.mk_append_mk (List.replicate k c) [c]

theorem ba_inj {X Y : List UInt8} (h : (⟨X.toArray⟩ : ByteArray) = ⟨Y.toArray⟩) : X = Y := congrArg (fun b : ByteArray => b.data.toList) h
theorem ba_snoc (X : List UInt8) (c : UInt8) : ∃ X2 : List UInt8, (⟨X.toArray⟩ : ByteArray) ++ ⟨#[c]⟩ = ⟨X2.toArray⟩ ∧ X2.length = X.length + 1 ∧ X2 = X ++ [c] := ⟨X ++ [c], ByteArray.mk_append_mk X [c], by simp, rfl⟩
set_option maxRecDepth 20000 in
set_option maxHeartbeats 4000000 in
theorem lawWordsX (a0 a1 : Int) (h0 : (Lit.int .u8 a0).wf = true) (h1 : (Lit.int .u8 a1).wf = true) (w : World) :
    Calls Tryd.prog 6 #[.int .u8 a0, .int .u8 a1] w fun e w' => e = .returned (.bool true) ∧ Below w.heap.size w w' := by
  have hb0 := bounds_u8 h0
  have hb1 := bounds_u8 h1
  obtain ⟨A, rfl⟩ := Int.eq_ofNat_of_zero_le hb0.1
  obtain ⟨B, rfl⟩ := Int.eq_ofNat_of_zero_le hb1.1
  have hA : A < 256 := by omega
  have hB : B < 256 := by omega
  obtain ⟨N, hN⟩ : ∃ N, 1 + A % 20 = N := ⟨_, rfl⟩
  obtain ⟨M, hM⟩ : ∃ M, 1 + B % 15 = M := ⟨_, rfl⟩
  have hN1 : 1 ≤ N := by omega
  have hN2 : N ≤ 20 := by omega
  have hM1 : 1 ≤ M := by omega
  have hM2 : M ≤ 15 := by omega
  have n1 : (1 : Int) + (A : Int) % 20 = (N : Int) := by omega
  have m1 : (1 : Int) + (B : Int) % 15 = (M : Int) := by omega
  have n2 : (1 : Int) + (A : Int).tmod 20 = (N : Int) := by rw [Int.tmod_eq_emod_of_nonneg (by omega)]; exact n1
  have m2 : (1 : Int) + (B : Int).tmod 15 = (M : Int) := by rw [Int.tmod_eq_emod_of_nonneg (by omega)]; exact m1
  clear h0 h1 hb0 hb1 hN hM
  go_enter Tryd.func6, Tryd.ntmps6
  go_wp2_with fail
  refine (shown_any w).mono ?_
  rintro e wa ⟨rfl, hba⟩
  have HBA := Lib.hid hba
  clear hba
  go_wp2
  go_loopw [8, 9] (fun s8 s9 wr => ∃ (k : Nat) (X : List UInt8), k ≤ N ∧ s9 = .int .i64 k ∧ s8 = .string ⟨X.toArray⟩ ∧ X.length = k ∧ wr = wa ∧ Hid (X = List.replicate k 97)) (fun _ i _ => N - (intOf i).toNat)
  case atStart => exact ⟨0, [], Nat.zero_le _, rfl, rfl, rfl, rfl, rfl⟩
  case round =>
    obtain ⟨k, X, hk, rfl, rfl, hX, rfl, HX⟩ := hrel
    have hz : (⟨X.toArray⟩ : ByteArray).size = k := hX
    by_cases hlt : k < N
    · obtain ⟨X2, hX2, hlen, hX3⟩ := ba_snoc X 97
      have hz1 : (⟨#[97]⟩ : ByteArray).size = 1 := rfl
      rw [hX] at hlen
      have HX2 : Hid (X2 = List.replicate (k + 1) 97) := Lib.hid (by rw [hX3, HX.out, List.replicate_succ'])
      have hsm : (9223372036854775807 < k + 1) = False := eq_false (by omega)
      clear hX3
      clear hX
      go_wp2
      go_roundw
      case rel => exact ⟨k + 1, X2, by omega, by first | rfl | go_num, by first | rfl | simp only [hX2], hlen, trivial, HX2⟩
      case measure => simp [intOf]; omega
    · have hkN : k = N := by omega
      subst hkN
      have HX := Lib.hid HX.out
      clear hlt hk
      go_wp2
      go_loopw [10, 11] (fun s10 s11 wx => ∃ (j : Nat) (Y : List UInt8), j ≤ M ∧ s11 = .int .i64 j ∧ s10 = .string ⟨Y.toArray⟩ ∧ Y.length = j ∧ wx = wr ∧ Hid (Y = List.replicate j 55)) (fun _ i _ => M - (intOf i).toNat)
      case atStart => exact ⟨0, [], Nat.zero_le _, rfl, rfl, rfl, rfl, rfl⟩
      case round =>
        obtain ⟨j, Y, hj, rfl, rfl, hY, rfl, HY⟩ := hrel
        have hzy : (⟨Y.toArray⟩ : ByteArray).size = j := hY
        by_cases hlt : j < M
        · obtain ⟨X2, hX2, hlen, hX3⟩ := ba_snoc Y 55
          have hz1 : (⟨#[55]⟩ : ByteArray).size = 1 := rfl
          rw [hY] at hlen
          have HX2 : Hid (X2 = List.replicate (j + 1) 55) := Lib.hid (by rw [hX3, HY.out, List.replicate_succ'])
          have hsm : (9223372036854775807 < j + 1) = False := eq_false (by omega)
          clear hX3 hY
          go_wp2
          go_roundw
          case rel => exact ⟨j + 1, X2, by omega, by first | rfl | go_num, by first | rfl | simp only [hX2], hlen, trivial, HX2⟩
          case measure => simp [intOf]; omega
        · have hjM : j = M := by omega
          subst hjM
          obtain ⟨Z, hZ, hZl, hZ3⟩ := ba_snoc X 61
          obtain ⟨V, hV⟩ : ∃ V : List UInt8, (⟨Z.toArray⟩ : ByteArray) ++ ⟨Y.toArray⟩ = ⟨V.toArray⟩ := ⟨_, ByteArray.mk_append_mk Z Y⟩
          rw [hX] at hZl
          have hzZ : (⟨Z.toArray⟩ : ByteArray).size = k + 1 := hZl
          have hz1 : (⟨#[61]⟩ : ByteArray).size = 1 := rfl
          have hVw : V = Lx.word k j := by
            refine ba_inj (hV.symm.trans ?_)
            rw [hZ3, HX.out, HY.out]
            exact (ByteArray.mk_append_mk _ _).trans (by unfold Lx.word; simp)
          have hVl : V.length ≤ 1048576 := by
            rw [hVw]; unfold Lx.word; simp; omega
          have AL := Lib.hid (fun wx => all_any V hVl wx)
          have hs1 : (9223372036854775807 < k + 1) = False := eq_false (by omega)
          have hs2 : (9223372036854775807 < k + 1 + j) = False := eq_false (by omega)
          by_cases h12 : 12 < k
          · have ha := Lx.word_long (n := k) (m := j) h12 (by omega)
            rw [← hVw] at ha
            rw [ha] at AL
            have hk12 : ((12 : Int) < (k : Int)) = True := eq_true (by omega)
            clear hVw ha hZ3 hX hY hZl
            go_wp2_with fail
            refine (AL.out _).mono ?_
            rintro e w2 ⟨hb2, rfl⟩
            go_wp2
            go_ret
            exact ⟨rfl, HBA.out.trans (hb2.mono HBA.out.size)⟩
          · have ha := Lx.word_step (n := k) (m := j) hN1 (by omega) (by omega) hM1
            rw [← hVw] at ha
            have hk12 : ((12 : Int) < (k : Int)) = False := eq_false (by omega)
            by_cases h9 : 9 < j
            · rw [if_pos h9] at ha
              rw [ha] at AL
              have hj9 : ((9 : Int) < (j : Int)) = True := eq_true (by omega)
              clear hVw ha hZ3 hX hY hZl
              go_wp2_with fail
              refine (AL.out _).mono ?_
              rintro e w2 ⟨hb2, rfl⟩
              go_wp2_with fail
              refine (AL.out _).mono ?_
              rintro e w3 ⟨hb3, rfl⟩
              go_wp2
              go_ret
              have h2 := HBA.out.trans (hb2.mono HBA.out.size)
              exact ⟨rfl, h2.trans (hb3.mono h2.size)⟩
            · rw [if_neg h9] at ha
              rw [ha] at AL
              have hj9 : ((9 : Int) < (j : Int)) = False := eq_false (by omega)
              rw [← HX.out, ← HY.out] at AL
              clear hVw ha hZ3 hX hY hZl
              go_wp2_with fail
              refine (AL.out _).mono ?_
              rintro e w2 ⟨hb2, v, rfl, hv⟩
              obtain ⟨ao, cap, rfl, hc⟩ := hv.form
              obtain ⟨g, rfl, _, c0, _⟩ := hc 0 _ rfl
              obtain ⟨g', hg, c6, c7, _⟩ := hc 2 _ rfl
              cases hg
              obtain ⟨g', hg, _, _, c9⟩ := hc 3 _ rfl
              cases hg
              simp only [Nat.zero_mul, Nat.reduceMul, Nat.reduceAdd] at c0 c6 c7 c9
              have e1 : ((⟨X.toArray⟩ : ByteArray).toList == (⟨X.toArray⟩ : ByteArray).toList) = true := beq_self_eq_true _
              have e2 : ((⟨Y.toArray⟩ : ByteArray).toList == (⟨Y.toArray⟩ : ByteArray).toList) = true := beq_self_eq_true _
              have HB := Lib.hid (HBA.out.trans (hb2.mono HBA.out.size))
              have hkj : ((k + j + 1 : Nat) : Int) = (k : Int) + (j : Int) + 1 := by omega
              rw [hkj] at c9
              clear hc hv hb2 AL
              simp only [List.length_cons, List.length_nil, Nat.reduceAdd]
              go_wp2
              go_ret
              exact ⟨rfl, HB.out⟩
end Go.Proofs.YtdeocejjneghjaaDoor
