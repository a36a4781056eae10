/- The law VarsMany walked (layer 16). -/
import Derived.Test.YtkpahkcamgmlnaaDoorVarsLaw
import Derived.Test.YtkpahkcamgmlnaaDoorRefDigits
import Derived.Test.YtkpahkcamgmlnaaDoorFrame
import Derived.ProofKit
import Derived.OpenShut
namespace Go.Proofs.YtkpahkcamgmlnaaDoor
open Go.RowKit

def nmI (i : Nat) : List UInt8 := 120 :: Lib.itoa (i : Int)
def vlI (i : Nat) : List UInt8 := 118 :: Lib.itoa (i : Int)
theorem itoa_apart : ∀ i j : Fin 31, Lib.itoa (i.val : Int) = Lib.itoa (j.val : Int) → i = j := by decide +kernel
theorem itoa_short : ∀ i : Fin 31, (Lib.itoa (i.val : Int)).length ≤ 2 := by decide +kernel
theorem nmI_inj {i j : Nat} (hi : i < 31) (hj : j < 31) (h : nmI i = nmI j) : i = j := by
  have := itoa_apart ⟨i, hi⟩ ⟨j, hj⟩ (List.cons.inj h).2
  exact congrArg Fin.val this
theorem nmI_len {i : Nat} (hi : i < 31) : (nmI i).length ≤ 3 := by
  have h2 : (Lib.itoa (i : Int)).length ≤ 2 := itoa_short ⟨i, hi⟩
  show (Lib.itoa (i : Int)).length + 1 ≤ 3
  omega
theorem vlI_len {i : Nat} (hi : i < 31) : (vlI i).length ≤ 3 := nmI_len hi
/-- What is set behind k rounds. -/
def sgI (k : Nat) : Va.Env := (List.range (min k 16)).map fun i => (nmI i, vlI i)
theorem sgI_len (k : Nat) : (sgI k).length = min k 16 := by simp [sgI]
theorem look_range (j : Nat) (hj : j < 31) : ∀ m, m ≤ 16 → Va.look ((List.range m).map fun i => (nmI i, vlI i)) (nmI j) = if j < m then some (vlI j) else none := by
  have key : ∀ (l : List Nat), (∀ i ∈ l, i < 31) → Va.look (l.map fun i => (nmI i, vlI i)) (nmI j) = if j ∈ l then some (vlI j) else none := fun l => by
    induction l with
    | nil => intro _; rfl
    | cons a l ih =>
      intro hl
      rw [List.map_cons, Va.look]
      by_cases e : a = j
      · subst e
        rw [if_pos rfl, if_pos (List.mem_cons_self ..)]
      · rw [if_neg (fun h => e (nmI_inj (hl a (List.mem_cons_self ..)) hj h)), ih (fun i hi => hl i (List.mem_cons_of_mem _ hi))]
        by_cases h : j ∈ l
        · rw [if_pos h, if_pos (List.mem_cons_of_mem _ h)]
        · rw [if_neg h, if_neg (by rw [List.mem_cons]; exact fun h2 => h2.elim (fun h2 => e h2.symm) h)]
  intro m hm
  rw [key _ (fun i hi => by have := List.mem_range.1 hi; omega)]
  simp [List.mem_range]
theorem look_sgI {k j : Nat} (hj : j < 31) : Va.look (sgI k) (nmI j) = if j < min k 16 then some (vlI j) else none := look_range j hj _ (Nat.min_le_right _ _)
theorem put_new {x v : List UInt8} : ∀ {σ : Va.Env}, Va.look σ x = none → Va.put σ x v = σ ++ [(x, v)]
  | [], _ => rfl
  | (y, u) :: σ, h => by
    rw [Va.look] at h
    by_cases e : y = x
    · rw [if_pos e] at h; cases h
    · rw [if_neg e] at h
      rw [Va.put, if_neg e, put_new h]; rfl
theorem set_sgI {k : Nat} (hk : k < 31) : Va.set (sgI k) (nmI k) (vlI k) = (sgI (k + 1), if k < 16 then 0 else 72) := by
  have hl := look_sgI (k := k) hk
  rw [if_neg (by omega)] at hl
  have hv := vlI_len hk
  unfold Va.set
  rw [if_neg (by omega), sgI_len]
  by_cases h : k < 16
  · rw [if_neg (by rw [Nat.min_eq_left (by omega)]; omega), if_pos h, put_new hl]
    congr 1
    unfold sgI
    rw [Nat.min_eq_left (by omega), Nat.min_eq_left (by omega), List.range_succ, List.map_append]
    rfl
  · rw [if_pos ⟨hl, by omega⟩, if_neg h]
    congr 1
    unfold sgI
    rw [Nat.min_eq_right (by omega), Nat.min_eq_right (by omega)]
def oth : List UInt8 := [111, 116, 104, 101, 114]
theorem set_oth {n k : Nat} (hk : k < min n 16) (hn : n < 31) : Va.set (sgI n) (nmI k) oth = (Va.put (sgI n) (nmI k) oth, 0) := by
  have hl := look_sgI (k := n) (j := k) (by omega)
  rw [if_pos hk] at hl
  unfold Va.set
  rw [if_neg (by decide), if_neg (by rw [hl]; simp)]
theorem look_oth {n k i : Nat} (hk : k < min n 16) (hn : n < 31) (hi : i < n) : Va.look (Va.put (sgI n) (nmI k) oth) (nmI i) = if i = k then some oth else if i < 16 then some (vlI i) else none := by
  rw [Va.look_put]
  by_cases e : i = k
  · subst e; rw [if_pos rfl, if_pos rfl]
  · rw [if_neg (fun h => e (nmI_inj (by omega) (by omega) h).symm), if_neg e, look_sgI (by omega)]
    by_cases h : i < 16
    · rw [if_pos (by omega), if_pos h]
    · rw [if_neg (by omega), if_neg h]
theorem len_oth {n k : Nat} (hk : k < min n 16) (hn : n < 31) : (Va.put (sgI n) (nmI k) oth).length = min n 16 := by
  have hl := look_sgI (k := n) (j := k) (by omega)
  rw [if_pos hk] at hl
  rw [Va.put_length, if_neg (by rw [hl]; simp), sgI_len]
theorem vl_ne_oth {i : Nat} (hi : i < 31) : vlI i ≠ oth := fun e => by
  have := vlI_len hi
  rw [e] at this
  exact absurd this (by decide)

set_option maxRecDepth 20000 in
set_option maxHeartbeats 8000000 in
theorem lawManyV (a0 a1 : Int) (h0 : (Lit.int .u8 a0).wf = true) (h1 : (Lit.int .u8 a1).wf = true) (w : World) :
    Calls Tryd.prog 6 #[.int .u8 a0, .int .u8 a1] w fun e w' => e = .returned (.bool true) ∧ Below w.heap.size w w' := by
  have hb0 := bounds_u8 h0
  have hb1 := bounds_u8 h1
  obtain ⟨A, rfl⟩ := Int.eq_ofNat_of_zero_le hb0.1
  obtain ⟨B, rfl⟩ := Int.eq_ofNat_of_zero_le hb1.1
  have hA : A < 256 := by omega
  have hB : B < 256 := by omega
  obtain ⟨N, hN⟩ : ∃ N, A % 31 = N := ⟨_, rfl⟩
  have hN2 : N ≤ 30 := by omega
  have n1 : (A : Int) % 31 = (N : Int) := by omega
  have n2 : (A : Int).tmod 31 = (N : Int) := by rw [Int.tmod_eq_emod_of_nonneg (by omega)]; exact n1
  have hdig : ∀ i : Nat, i ≤ 30 → ∀ w, Calls Tryd.prog 22 #[.int .i64 (i : Int)] w fun e w' => e = .returned (.string ⟨(Lib.itoa (i : Int)).toArray⟩) ∧ w = w' := fun i hi w => ref_digits i w (by omega) (by omega)
  have hcx : ∀ i : Nat, (⟨#[120]⟩ : ByteArray) ++ ⟨(Lib.itoa (i : Int)).toArray⟩ = ⟨(nmI i).toArray⟩ := fun i => ByteArray.mk_append_mk [120] _
  have hcv : ∀ i : Nat, (⟨#[118]⟩ : ByteArray) ++ ⟨(Lib.itoa (i : Int)).toArray⟩ = ⟨(vlI i).toArray⟩ := fun i => ByteArray.mk_append_mk [118] _
  have hD := Lib.hid hdig
  have HX := Lib.hid hcx
  have HV := Lib.hid hcv
  clear h0 h1 hb0 hb1 hN hdig hcx hcv
  go_enter Tryd.func6, Tryd.ntmps6
  go_wp2_with fail
  refine (shown_any w).mono ?_
  rintro e wa ⟨rfl, hba⟩
  have HBA := Lib.hid hba
  clear hba
  go_wp2_with fail
  refine (vnew_own wa).mono ?_
  rintro e w1 ⟨b, rfl, h1, _⟩
  have H1 := Lib.hid (show VN wa w1 b none (sgI 0) from h1)
  clear h1
  go_wp2
  go_loopw [8, 9] (fun s8 _ wr => ∃ (k : Nat) (x : Option Nat), s8 = .int .i64 k ∧ k ≤ N ∧ Hid (VN wa wr b x (sgI k))) (fun s8 _ _ => N - (intOf s8).toNat)
  case atStart => exact ⟨0, none, rfl, Nat.zero_le _, H1⟩
  case round =>
    obtain ⟨k, x, rfl, hk, HK⟩ := hrel
    clear H1
    by_cases hlt : k < N
    · have hki : ((k : Int) < (N : Int)) := by omega
      have hk31 : k < 31 := by omega
      have hst := vset_own HK.out (nmI k) (vlI k) (by have := nmI_len hk31; omega) (by have := vlI_len hk31; omega)
      rw [set_sgI hk31] at hst
      have HST := Lib.hid hst
      have hd := hD.out k (by omega)
      have hzd : (Lib.itoa (k : Int)).length ≤ 2 := itoa_short ⟨k, hk31⟩
      obtain ⟨D, hDD⟩ : ∃ D, D = Lib.itoa (k : Int) := ⟨_, rfl⟩
      have hx := HX.out k
      have hv := HV.out k
      rw [← hDD] at hd hzd hx hv
      obtain ⟨X, hX⟩ : ∃ X, X = nmI k := ⟨_, rfl⟩
      obtain ⟨V, hV⟩ : ∃ V, V = vlI k := ⟨_, rfl⟩
      rw [← hX] at hx HST
      rw [← hV] at hv HST
      have hz1 : (⟨#[120]⟩ : ByteArray).size = 1 := rfl
      have hz2 : (⟨#[118]⟩ : ByteArray).size = 1 := rfl
      have hz3 : (⟨D.toArray⟩ : ByteArray).size = D.length := rfl
      have hov : (9223372036854775807 < 1 + D.length) = False := eq_false (by omega)
      clear hst hDD hX hV
      by_cases h16 : k < 16
      · rw [if_pos h16] at HST
        have h16i : ((k : Int) < 16) = True := eq_true (by omega)
        go_wp2_with (first | (go_at_call 22; refine (hd _).mono ?_; rintro e w9 ⟨rfl, rfl⟩) | (go_at_call 14; refine HST.out.mono ?_; rintro e w2 ⟨x2, rfl, h2⟩; have H2 := Lib.hid h2; clear h2))
        go_roundw
        case rel => exact ⟨k + 1, x2, by go_num, by omega, H2⟩
        case measure => simp [intOf]; omega
      · rw [if_neg h16] at HST
        have h16i : ((k : Int) < 16) = False := eq_false (by omega)
        go_wp2_with (first | (go_at_call 22; refine (hd _).mono ?_; rintro e w9 ⟨rfl, rfl⟩) | (go_at_call 14; refine HST.out.mono ?_; rintro e w2 ⟨x2, rfl, h2⟩; have H2 := Lib.hid h2; clear h2))
        go_roundw
        case rel => exact ⟨k + 1, x2, by go_num, by omega, H2⟩
        case measure => simp [intOf]; omega
    · have hkN : k = N := by omega
      rw [hkN] at HK
      have hki : ((k : Int) < (N : Int)) = False := eq_false (by omega)
      clear hkN hlt hk
      by_cases hN0 : N = 0
      · subst hN0
        have hl := vlen_any HK.out.vo
        rw [sgI_len] at hl
        have hl : Calls Tryd.prog 21 #[.pointer (some ⟨b, 0, none⟩)] wr fun e w' => e = .returned (.int .i64 0) ∧ wr = w' := hl
        have HB := Lib.hid (HBA.out.trans (HK.out.below.mono HBA.out.size))
        go_wp2_with (go_at_call 21; refine hl.mono ?_; rintro e w9 ⟨rfl, rfl⟩)
        go_ret
        exact ⟨rfl, HB.out⟩
      · obtain ⟨m, hm⟩ : ∃ m, m = min N 16 := ⟨_, rfl⟩
        have hm1 : 1 ≤ m := by omega
        have hm16 : m ≤ 16 := by omega
        have hmi : min (N : Int) 16 = (m : Int) := by omega
        obtain ⟨K, hK⟩ : ∃ K, B % m = K := ⟨_, rfl⟩
        have hKm : K < m := by rw [← hK]; exact Nat.mod_lt _ (by omega)
        have k1 : (B : Int) % (m : Int) = (K : Int) := by rw [← hK]; omega
        have k2 : (B : Int).tmod (m : Int) = (K : Int) := by rw [Int.tmod_eq_emod_of_nonneg (by omega)]; exact k1
        have hm0 : ((m : Int) == 0) = false := beq_eq_false_iff_ne.2 (by omega)
        have hm0' : ((m : Int) = 0) = False := eq_false (by omega)
        have hN0i : ((N : Int) == 0) = false := beq_eq_false_iff_ne.2 (by omega)
        have hN0j : (N = 0) = False := eq_false hN0
        have hN0k : ((N : Int) = 0) = False := eq_false (by omega)
        have HM := Lib.hid hm
        have hKN : K < min N 16 := by omega
        have HKN := Lib.hid hKN
        have hst := vset_own HK.out (nmI K) oth (by have := nmI_len (i := K) (by omega); omega) (by decide)
        rw [set_oth hKN (by omega)] at hst
        have HST := Lib.hid hst
        have hd := hD.out K (by omega)
        have hzd : (Lib.itoa (K : Int)).length ≤ 2 := itoa_short ⟨K, by omega⟩
        obtain ⟨D, hDD⟩ : ∃ D, D = Lib.itoa (K : Int) := ⟨_, rfl⟩
        have hx := HX.out K
        rw [← hDD] at hd hzd hx
        obtain ⟨X, hX⟩ : ∃ X, X = nmI K := ⟨_, rfl⟩
        rw [← hX] at hx HST
        have hz1 : (⟨#[120]⟩ : ByteArray).size = 1 := rfl
        have hz3 : (⟨D.toArray⟩ : ByteArray).size = D.length := rfl
        have hov : (9223372036854775807 < 1 + D.length) = False := eq_false (by omega)
        have HST2 : Hid (Calls Tryd.prog 14 #[.pointer (some ⟨b, 0, none⟩), .string ⟨X.toArray⟩, .string ⟨#[111, 116, 104, 101, 114]⟩] wr fun e w' => ∃ x', e = .returned (.int .i64 0) ∧ VN wa w' b x' (Va.put (sgI N) X oth)) := Lib.hid HST.out
        rw [hX] at HST2
        have HXE := Lib.hid hX
        clear hst hDD hK hKN HST hm hN0
        rw [← hX] at HST2
        clear hX
        go_wp2_with (first | (go_at_call 22; refine (hd _).mono ?_; rintro e w9 ⟨rfl, rfl⟩) | (go_at_call 14; refine HST2.out.mono ?_; rintro e w2 ⟨x2, rfl, h2⟩; have H2 := Lib.hid h2; clear h2))
        rw [HXE.out] at H2
        clear hd hzd hx hz3 hov HST2 HXE
        go_loopw [12, 13, 14, 15] (fun s12 _ _ _ wx => ∃ i : Nat, s12 = .int .i64 i ∧ i ≤ N ∧ Hid (VN wa wx b x2 (Va.put (sgI N) (nmI K) oth))) (fun s12 _ _ _ _ => N - (intOf s12).toNat)
        case atStart => exact ⟨0, rfl, Nat.zero_le _, H2⟩
        case round =>
          obtain ⟨i, rfl, hi, HI⟩ := hrel
          clear H2
          by_cases hlt : i < N
          · have hii : ((i : Int) < (N : Int)) := by omega
            have hi31 : i < 31 := by omega
            have hgt := vget_any HI.out.vo (nmI i) (by have := nmI_len hi31; omega)
            rw [look_oth HKN.out (by omega) hlt] at hgt
            have hd := hD.out i (by omega)
            have hzd : (Lib.itoa (i : Int)).length ≤ 2 := itoa_short ⟨i, hi31⟩
            obtain ⟨D2, hDD⟩ : ∃ D, D = Lib.itoa (i : Int) := ⟨_, rfl⟩
            have hx := HX.out i
            have hv := HV.out i
            rw [← hDD] at hd hzd hx hv
            obtain ⟨X2, hX⟩ : ∃ X, X = nmI i := ⟨_, rfl⟩
            obtain ⟨V2, hV⟩ : ∃ V, V = vlI i := ⟨_, rfl⟩
            rw [← hX] at hx hgt
            rw [← hV] at hv hgt
            have hz2 : (⟨#[118]⟩ : ByteArray).size = 1 := rfl
            have hz3 : (⟨D2.toArray⟩ : ByteArray).size = D2.length := rfl
            have hov : (9223372036854775807 < 1 + D2.length) = False := eq_false (by omega)
            have hsame : ((⟨V2.toArray⟩ : ByteArray).toList == (⟨V2.toArray⟩ : ByteArray).toList) = true := beq_self_eq_true _
            have hoth : ((⟨#[111, 116, 104, 101, 114]⟩ : ByteArray).toList == (⟨#[111, 116, 104, 101, 114]⟩ : ByteArray).toList) = true := beq_self_eq_true _
            clear hDD hX hV
            by_cases hiK : i = K
            · rw [if_pos hiK] at hgt
              have hgt : Calls Tryd.prog 16 #[.pointer (some ⟨b, 0, none⟩), .string ⟨X2.toArray⟩] _ fun e w' => e = .returned (.tuple #[.string ⟨#[111, 116, 104, 101, 114]⟩, .bool true]) ∧ Below _ _ w' := hgt
              have HGT := Lib.hid hgt
              have e1 : ((i : Int) == (K : Int)) = true := beq_iff_eq.2 (by omega)
              have e2 : ((i : Int) = (K : Int)) = True := eq_true (by omega)
              have e3 : (i = K) = True := eq_true hiK
              have h16i : ((i : Int) < 16) = True := eq_true (by omega)
              clear hgt hiK
              go_wp2_with (first | (go_at_call 22; refine (hd _).mono ?_; rintro e w9 ⟨rfl, rfl⟩) | (go_at_call 16; refine HGT.out.mono ?_; rintro e w3 ⟨rfl, h3⟩; have H3 := Lib.hid (HI.out.later h3); clear h3))
              go_roundw
              case rel => exact ⟨i + 1, by go_num, by omega, H3⟩
              case measure => simp [intOf]; omega
            · rw [if_neg hiK] at hgt
              have e1 : ((i : Int) == (K : Int)) = false := beq_eq_false_iff_ne.2 (by omega)
              have e2 : ((i : Int) = (K : Int)) = False := eq_false (by omega)
              have e3 : (i = K) = False := eq_false hiK
              by_cases h16 : i < 16
              · rw [if_pos h16] at hgt
                have hgt : Calls Tryd.prog 16 #[.pointer (some ⟨b, 0, none⟩), .string ⟨X2.toArray⟩] _ fun e w' => e = .returned (.tuple #[.string ⟨V2.toArray⟩, .bool true]) ∧ Below _ _ w' := hgt
                have HGT := Lib.hid hgt
                have h16i : ((i : Int) < 16) = True := eq_true (by omega)
                clear hgt hiK
                go_wp2_with (first | (go_at_call 22; refine (hd _).mono ?_; rintro e w9 ⟨rfl, rfl⟩) | (go_at_call 16; refine HGT.out.mono ?_; rintro e w3 ⟨rfl, h3⟩; have H3 := Lib.hid (HI.out.later h3); clear h3))
                go_roundw
                case rel => exact ⟨i + 1, by go_num, by omega, H3⟩
                case measure => simp [intOf]; omega
              · rw [if_neg h16] at hgt
                have hgt : Calls Tryd.prog 16 #[.pointer (some ⟨b, 0, none⟩), .string ⟨X2.toArray⟩] _ fun e w' => e = .returned (.tuple #[.string ⟨#[]⟩, .bool false]) ∧ Below _ _ w' := hgt
                have HGT := Lib.hid hgt
                have h16i : ((i : Int) < 16) = False := eq_false (by omega)
                clear hgt hiK
                go_wp2_with (first | (go_at_call 22; refine (hd _).mono ?_; rintro e w9 ⟨rfl, rfl⟩) | (go_at_call 16; refine HGT.out.mono ?_; rintro e w3 ⟨rfl, h3⟩; have H3 := Lib.hid (HI.out.later h3); clear h3))
                go_roundw
                case rel => exact ⟨i + 1, by go_num, by omega, H3⟩
                case measure => simp [intOf]; omega
          · have hii : ((i : Int) < (N : Int)) = False := eq_false (by omega)
            have hl := vlen_any HI.out.vo
            rw [len_oth HKN.out (by omega), ← HM.out] at hl
            have HB := Lib.hid (HBA.out.trans (HI.out.below.mono HBA.out.size))
            clear hlt
            go_wp2_with (go_at_call 21; refine hl.mono ?_; rintro e w9 ⟨rfl, rfl⟩)
            go_ret
            exact ⟨rfl, HB.out⟩
end Go.Proofs.YtkpahkcamgmlnaaDoor
