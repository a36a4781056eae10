/- The law FrameLong walked. -/
import Derived.Test.YtagedockmlbebaaDoorFrameLaw
import Derived.ProofKit
import Derived.OpenShut
namespace Go.Proofs.YtagedockmlbebaaDoor
open Go.RowKit

namespace Li
/-- So many letters x. -/
def xs8 (M n : Nat) : Fm := if n ≤ M then ⟨List.replicate n 120, 0⟩ else ⟨[], 61⟩
theorem bare_x (n : Nat) : Bare (List.replicate n 120) := fun b hb => by
  rw [List.mem_replicate] at hb
  obtain ⟨_, rfl⟩ := hb
  decide
theorem xs8_in {M n : Nat} (h : n ≤ M) : xs8 M n = ⟨List.replicate n 120, 0⟩ := if_pos h
theorem xs8_out {M n : Nat} (h : ¬ n ≤ M) : xs8 M n = ⟨[], 61⟩ := if_neg h
theorem xs8_len (M n : Nat) : (xs8 M n).ls.length ≤ n := by
  unfold xs8
  split
  · simp
  · simp
theorem xs8_put (M n : Nat) : (xs8 M n).put (M : Int) [120] = ([], xs8 M (n + 1)) := by
  by_cases h : n ≤ M
  · rw [xs8_in h]
    by_cases h1 : n + 1 ≤ M
    · rw [put_bare [120] _ (bare_x 1) (bare_x n) (by simp; omega), xs8_in h1, List.replicate_succ']
    · rw [put_long [120] _ (bare_x 1) (bare_x n) (by simp; omega) (by simp; omega), xs8_out h1]
  · rw [xs8_out h, xs8_out (by omega), put_err (f := ⟨[], 61⟩) (by decide)]
theorem put_cr1 {m : Int} {ys : List UInt8} (hy : Bare ys) : (⟨ys, 0⟩ : Fm).put m [13] = ([], ⟨ys ++ [13], 0⟩) := by
  rw [put_one, step_more (f := ⟨ys, 0⟩) rfl hy.last (by decide) (.inl rfl)]; rfl
theorem put_lf1 {m : Int} {ys : List UInt8} : (⟨ys ++ [13], 0⟩ : Fm).put m [10] = ([ys], ⟨[], 0⟩) := by
  rw [put_one, step_line (f := ⟨ys ++ [13], 0⟩) rfl (by simp)]; simp
end Li

set_option maxRecDepth 20000 in
set_option maxHeartbeats 4000000 in
theorem lawLongF (a0 a1 : Int) (h0 : (Lit.int .u8 a0).wf = true) (h1 : (Lit.int .u8 a1).wf = true) (w : World) (ht : LT w) :
    Calls Tryd.prog 7 #[.int .u8 a0, .int .u8 a1] w fun e w' => e = .returned (.bool true) ∧ Below w.heap.size w w' := by
  have hb0 := bounds_u8 h0
  have hb1 := bounds_u8 h1
  obtain ⟨M, rfl⟩ := Int.eq_ofNat_of_zero_le hb0.1
  obtain ⟨N, rfl⟩ := Int.eq_ofNat_of_zero_le hb1.1
  have hM : M < 256 := by omega
  have hN : N < 256 := by omega
  clear h0 h1 hb0 hb1
  have kc := fun (w : World) (C : Array Value) (n c : Nat) => Lib.run_convert_bytes_const (P := Tryd.prog) w 26 5 C n c Tryd.underlying26 Tryd.underlying5
  have HT := Lib.hid ht
  clear ht
  go_enter Tryd.func7, Tryd.ntmps7
  go_wp2_with fail
  refine (shown_any w HT.out).mono ?_
  rintro e wa ⟨rfl, hba⟩
  have HBA := Lib.hid hba
  clear hba
  go_wp2_with fail
  refine (FL.new HBA.out (M : Int) (by omega)).mono ?_
  rintro e w1 ⟨rfl, f1, _⟩
  rw [show max (0 : Int) (M : Int) = (M : Int) by omega] at f1
  have F1 := Lib.hid f1
  clear f1 HBA
  obtain ⟨g, hg⟩ : ∃ g, g = wa.heap.size := ⟨_, rfl⟩
  rw [← hg] at F1 ⊢
  clear hg
  go_wp2
  go_loopw [7] (fun i wr => ∃ (k : Nat) (s : Value), k ≤ N ∧ i = .int .i64 k ∧ Hid (FL w g s (M : Int) (Li.xs8 M k) wr)) (fun i _ => N - (intOf i).toNat)
  case atStart => exact ⟨0, _, Nat.zero_le _, rfl, by show FL _ _ _ _ _ _; rw [Li.xs8_in (Nat.zero_le _)]; exact F1.out⟩
  case round =>
    obtain ⟨k, s, hk, rfl, HF⟩ := hrel
    clear F1
    by_cases hlt : k < N
    · go_wp2_with fail
      have ha := HF.out.fresh [120] 5 (1, 2) 1 rfl (by decide)
      refine (ha.1.put HT.out _ [120] ha.2 (by have := Li.xs8_len M k; simp only [List.length_singleton]; omega) (Li.xs8_put M k)).mono ?_
      rintro e w2 ⟨s2, lo, lc, rfl, f2, _, _, _⟩
      have F2 := Lib.hid f2
      clear f2 ha HF
      by_cases hin : k + 1 ≤ M
      · have he : ((Li.xs8 M (k + 1)).err : Int) = 0 := by rw [Li.xs8_in hin]; rfl
        have hge : ¬ ((M : Int) ≤ (k : Int)) := by omega
        rw [he]
        go_wp2
        go_roundw
        case rel => exact ⟨k + 1, s2, by omega, by go_num, F2.out⟩
        case measure => simp [intOf]; omega
      · have he : ((Li.xs8 M (k + 1)).err : Int) = 61 := by rw [Li.xs8_out hin]; rfl
        have hge : (M : Int) ≤ (k : Int) := by omega
        rw [he]
        go_wp2
        go_roundw
        case rel => exact ⟨k + 1, s2, by omega, by go_num, F2.out⟩
        case measure => simp [intOf]; omega
    · obtain rfl : k = N := by omega
      clear hlt hk
      by_cases hin : k ≤ M
      · rw [Li.xs8_in hin] at HF
        go_wp2_with fail
        have ha := HF.out.fresh [13] 5 (1, 2) 1 rfl (by decide)
        refine (ha.1.put HT.out _ [13] ha.2 (by simp; omega) (Li.put_cr1 (Li.bare_x k))).mono ?_
        rintro e w2 ⟨s2, lo, lc, rfl, f2, _, _, _⟩
        have F2 := Lib.hid f2
        clear f2 ha HF
        go_wp2_with fail
        have ha := F2.out.fresh [10] 5 (1, 2) 1 rfl (by decide)
        refine (ha.1.put HT.out _ [10] ha.2 (by simp; omega) Li.put_lf1).mono ?_
        rintro e w3 ⟨s3, lo3, lc3, rfl, f3, o3, _, _⟩
        have F3 := Lib.hid f3
        obtain ⟨b, rfl, hcap, hmx, _, hcell⟩ := own_at o3 (by simp)
        have hc := hcell 0 _ rfl
        have CR := Lib.hid (F3.out.rest (r := 0) rfl)
        have HCAP := Lib.hid hcap
        clear f3 ha F2 o3 hcell kc hcap
        unfold sv at hc
        obtain ⟨K, hK⟩ : ∃ K : ByteArray, K = ⟨(List.replicate k 120).toArray⟩ := ⟨_, rfl⟩
        have hks : K.size = k := by rw [hK]; show (List.replicate k (120 : UInt8)).length = k; simp
        rw [← hK] at hc
        clear hK
        dsimp only [List.length_nil, List.length_singleton]
        have hgt : ¬ ((M : Int) < (k : Int)) := by omega
        go_wp2_with fail
        refine CR.out.mono ?_
        rintro e w5 ⟨rfl, rfl⟩
        go_wp2
        go_ret
        exact ⟨rfl, F3.out.b⟩
      · rw [Li.xs8_out hin] at HF
        go_wp2_with fail
        have ha := HF.out.fresh [13] 5 (1, 2) 1 rfl (by decide)
        refine (ha.1.put HT.out _ [13] ha.2 (by simp) (Li.put_err (f := ⟨[], 61⟩) (by decide) _)).mono ?_
        rintro e w2 ⟨s2, lo, lc, rfl, f2, _, _, _⟩
        have F2 := Lib.hid f2
        clear f2 ha HF
        go_wp2_with fail
        have ha := F2.out.fresh [10] 5 (1, 2) 1 rfl (by decide)
        refine (ha.1.put HT.out _ [10] ha.2 (by simp) (Li.put_err (f := ⟨[], 61⟩) (by decide) _)).mono ?_
        rintro e w3 ⟨s3, lo3, lc3, rfl, f3, o3, _, _⟩
        have F3 := Lib.hid f3
        clear f3 ha F2 o3 kc
        have hgt : (M : Int) < (k : Int) := by omega
        go_wp2
        go_ret
        exact ⟨rfl, F3.out.b⟩
end Go.Proofs.YtagedockmlbebaaDoor
