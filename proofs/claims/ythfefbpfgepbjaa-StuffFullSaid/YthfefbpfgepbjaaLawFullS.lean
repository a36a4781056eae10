/- The law StuffFull walked. -/
import Derived.Test.YthfefbpfgepbjaaStuffBF
import Derived.Test.YthfefbpfgepbjaaOpenRows
import Derived.ProofKit
import Derived.OpenShut
namespace Go.Proofs.Ythfefbpfgepbjaa
open Go.RowKit

set_option maxRecDepth 20000 in
set_option maxHeartbeats 4000000 in
theorem lawFullS (a0 : Int) (v1 : Value) (ys : List ByteArray) (h0 : (Lit.int .u8 a0).wf = true) (h1 : ys.length ≤ maxLen) (w : World) (r1 : RdN 1 w v1 (ys.map fun y => [.string y])) (m1 : ∀ y ∈ ys, y.size ≤ maxLen) (hm : MX w) :
    Calls Try.prog 6 #[.int .u8 a0, v1] w fun e w' => e = .returned (.bool true) ∧ Below w.heap.size w w' := by
  have hb1 := bounds_u8 h0
  obtain ⟨M, rfl⟩ := Int.eq_ofNat_of_zero_le hb1.1
  have hM : M < 256 := by omega
  obtain ⟨lo, cl, rfl, hcl, hll⟩ := r1.form
  rw [List.length_map] at hcl hll ⊢
  obtain ⟨L, hL⟩ : ∃ L, L = ys.length := ⟨_, rfl⟩
  rw [← hL] at h1 hcl hll ⊢
  have HLL := Lib.hid hll
  have HM0 := Lib.hid m1
  have HL := Lib.hid hL
  have HT := Lib.hid hm
  unfold maxLen at h1
  clear hm hll m1 hL r1 h0 hb1
  go_enter Try.func6, Try.ntmps6
  go_wp2_with fail
  refine (shown_any w HT.out).mono ?_
  rintro e wa ⟨rfl, hba⟩
  have HBA := Lib.hid hba
  clear hba
  go_wp2_with fail
  refine (BF.new HBA.out (M : Int) (by omega)).mono ?_
  rintro e wb ⟨rfl, hbf, _⟩
  rw [show max (0 : Int) (M : Int) = (M : Int) by omega] at hbf
  have HBF := Lib.hid hbf
  clear hbf
  generalize wa.heap.size = g at HBF ⊢
  go_wp2
  go_loopw [7, 8, 9, 10, 11, 12, 13] (fun want n i _ _ _ _ wr => ∃ (k N : Nat) (W : ByteArray) (b : St.Bd) (s : Value), want = .string W ∧ n = .int .i64 (N : Int) ∧ i = .int .i64 k ∧ k ≤ 30 ∧ N ≤ k ∧ W.size ≤ M ∧ Hid (W = kt b.bs ∧ N = b.n ∧ BF w g s (M : Int) b wr)) (fun _ _ i _ _ _ _ _ => 30 - (intOf i).toNat)
  case atStart => exact ⟨0, 0, ⟨#[]⟩, ⟨[], 0⟩, _, rfl, rfl, rfl, by omega, by omega, by show 0 ≤ M; omega, rfl, rfl, HBF.out⟩
  case round =>
    obtain ⟨k, N, W, b, s, rfl, rfl, rfl, hk, hN, hW, hR⟩ := hrel
    by_cases hlt : k < L ∧ k < 30
    · obtain ⟨hkL, hk30⟩ := hlt
      obtain ⟨y, hy⟩ : ∃ y, ys[k]? = some y := ⟨_, List.getElem?_eq_getElem (by rw [← HL.out]; exact hkL)⟩
      obtain ⟨bb, oo, rfl, hcm, hcell⟩ := HLL.out (by omega)
      have hce : w.cell? ⟨bb, oo + k, none⟩ = some (.string y) := by
        have := hcell k [.string y] (by rw [List.getElem?_map, hy]; rfl) 0 (.string y) rfl
        simpa using this
      have hcw : wr.cell? ⟨bb, oo + k, none⟩ = some (.string y) := (hR.out.2.2.b.cell (World.block_lt_of_cell? w _ hce)).trans hce
      have hys : y.size ≤ maxLen := HM0.out y (List.mem_of_getElem? hy)
      unfold maxLen at hys
      clear hy hcell hcm hce
      have hz : ∃ z : ByteArray, z.size ≤ 100 ∧ (100 < y.size ∧ y.extract 0 100 = z ∨ ¬ 100 < y.size ∧ z = y) := by
        by_cases h100 : 100 < y.size
        · exact ⟨y.extract 0 100, by rw [ByteArray.size_extract]; omega, .inl ⟨h100, rfl⟩⟩
        · exact ⟨y, by omega, .inr ⟨h100, rfl⟩⟩
      obtain ⟨z, hzs, hz⟩ := hz
      have i0 : (k : Int) < (L : Int) := by omega
      have i1 : (k : Int) < 30 := by omega
      rcases hz with ⟨hy1, hy2⟩ | ⟨hy1, hy2⟩
      rotate_left
      · subst hy2
        obtain ⟨Z, hZ⟩ : ∃ Z, z.size = Z := ⟨_, rfl⟩
        obtain ⟨V, hV⟩ : ∃ V, W.size = V := ⟨_, rfl⟩
        have hb1 : b.bs.length = V := by rw [← hV, hR.out.1, kt_size]
        have hlim : (9223372036854775807 < 1 + Z) = False := eq_false (by omega)
        have hlim2 : (9223372036854775807 < V + Z) = False := eq_false (by omega)
        have hlim3 : (9223372036854775807 < V + Z + 2) = False := eq_false (by omega)
        have hds : ∃ t : ByteArray, (⟨#[46]⟩ : ByteArray) ++ z = t ∧ t.data.toList = 46 :: z.data.toList ∧ t.size ≤ 1000000 := ⟨_, rfl, by rw [ByteArray.data_append]; simp, by rw [ByteArray.size_append]; show 1 + z.size ≤ _; omega⟩
        obtain ⟨t, ht, ht2, ht3⟩ := hds
        have BL := fun {x : Bool} {er : Nat} {b' : St.Bd} (hr : b.line (M : Int) t.data.toList = (x, er, b')) => hR.out.2.2.line t (by omega) (by rw [← hR.out.2.1]; omega) ht3 hr
        rw [ht2] at BL
        by_cases hz0 : z.data.toList = []
        · have hzz : z = ⟨#[]⟩ := by
            cases z with
            | mk d =>
              have : d = #[] := by simpa using hz0
              rw [this]
          have BL2 := Lib.hid (BL (x := true) (er := 0) (b' := b) (by rw [hz0]; exact St.line_end _ _))
          have hzt : (z.toList == []) = true := by rw [Lib.toList_data, hz0]; rfl
          have hze : z.toList.isEmpty = true := by rw [Lib.toList_data, hz0]; rfl
          have HR := Lib.hid hR.out
          clear BL hR hzz hz0 ht2
          go_wp2_with fail
          refine BL2.out.mono ?_
          rintro e w2 ⟨s2, rfl, hf, _, _⟩
          have HF := Lib.hid hf
          clear hf BL2
          go_wp2
          go_roundw
          case rel => exact ⟨k + 1, N, W, b, s2, rfl, rfl, by go_num, by omega, by omega, by omega, HR.out.1, HR.out.2.1, HF.out⟩
          case measure => simp [intOf]; omega
        · have hzt : (z.toList == []) = false := by rw [Lib.toList_data]; exact beq_eq_false_iff_ne.2 hz0
          have hze : z.toList.isEmpty = false := by
            rw [Lib.toList_data]
            cases h : z.data.toList with
            | nil => exact absurd h hz0
            | cons => rfl
          have hne : (46 :: z.data.toList) ≠ [46] := fun e => hz0 (by simpa using e)
          have hzl : z.data.toList.length = Z := by rw [← Lib.size_eq, hZ]
          by_cases hfit : V + Z + 2 ≤ M
          · have BL2 := Lib.hid (BL (x := false) (er := 0) (b' := ⟨b.bs ++ z.data.toList ++ [13, 10], b.n + 1⟩) (by rw [St.line_more hne (by rw [St.bare_dot, hb1, hzl]; omega), St.bare_dot]))
            obtain ⟨W1, hW1⟩ : ∃ W1, W ++ z = W1 := ⟨_, rfl⟩
            obtain ⟨W2, hW2⟩ : ∃ W2, W1 ++ (⟨#[13, 10]⟩ : ByteArray) = W2 := ⟨_, rfl⟩
            have sW1 : W1.size = V + Z := by rw [← hW1, ByteArray.size_append, hV, hZ]
            have sW2 : W2.size = V + Z + 2 := by rw [← hW2, ByteArray.size_append, sW1]; rfl
            have hW3 : W2 = kt (b.bs ++ z.data.toList ++ [13, 10]) := by
              rw [← hW2, ← hW1, kt_append, kt_append, ← hR.out.1]
              rfl
            have hN2 : N + 1 = b.n + 1 := by rw [hR.out.2.1]
            have hfi : ((V : Int) + (Z : Int) + 2 ≤ (M : Int)) = True := eq_true (by omega)
            have BY := Lib.hid (fun (wr : World) (s : Value) (h : BF w g s (M : Int) ⟨b.bs ++ z.data.toList ++ [13, 10], b.n + 1⟩ wr) => h.bytes (K := W2) (n := V + Z + 2) (by show (b.bs ++ z.data.toList ++ [13, 10]).length ≤ _; rw [List.length_append, List.length_append, hb1, hzl]; show V + Z + 2 ≤ _; omega) hW3 sW2.symm)
            have LI := Lib.hid (fun (wr : World) (s : Value) (h : BF w g s (M : Int) ⟨b.bs ++ z.data.toList ++ [13, 10], b.n + 1⟩ wr) => h.lines hN2)
            have HW3 := Lib.hid hW3
            have HN2 := Lib.hid hN2
            have HWS := Lib.hid (show W2.size ≤ M by omega)
            clear BL hR hz0 ht2 hzl hb1 hne hW3 hN2
            go_wp2_with fail
            refine BL2.out.mono ?_
            rintro e w2 ⟨s2, rfl, hf, _, _⟩
            have HF := Lib.hid hf
            clear hf BL2
            go_wp2_with fail
            refine (BY.out _ _ HF.out).mono ?_
            rintro e w3 ⟨ao, c, rfl, hst, hf, _⟩
            have HF3 := Lib.hid hf
            clear hf HF BY
            go_wp2_with fail
            refine (LI.out _ _ HF3.out).mono ?_
            rintro e w4 ⟨rfl, hw⟩
            rw [← hw]
            clear hw LI
            go_wp2
            go_roundw
            case rel => exact ⟨k + 1, N + 1, W2, _, s2, rfl, by go_num, by go_num, by omega, by omega, HWS.out, HW3.out, HN2.out, HF3.out⟩
            case measure => simp [intOf]; omega
          · have BL2 := Lib.hid (BL (x := false) (er := 72) (b' := b) (St.line_full hne (by rw [St.bare_dot, hb1, hzl]; omega)))
            have hfi : ((V : Int) + (Z : Int) + 2 ≤ (M : Int)) = False := eq_false (by omega)
            have BY := Lib.hid (fun (wr : World) (s : Value) (h : BF w g s (M : Int) b wr) => h.bytes (K := W) (n := V) (by omega) hR.out.1 hV.symm)
            have LI := Lib.hid (fun (wr : World) (s : Value) (h : BF w g s (M : Int) b wr) => h.lines hR.out.2.1)
            have HR := Lib.hid hR.out
            clear BL hR hz0 ht2 hzl hb1 hne hfit
            go_wp2_with fail
            refine BL2.out.mono ?_
            rintro e w2 ⟨s2, rfl, hf, _, _⟩
            have HF := Lib.hid hf
            clear hf BL2
            go_wp2_with fail
            refine (BY.out _ _ HF.out).mono ?_
            rintro e w3 ⟨ao, c, rfl, hst, hf, _⟩
            have HF3 := Lib.hid hf
            clear hf HF BY
            go_wp2_with fail
            refine (LI.out _ _ HF3.out).mono ?_
            rintro e w4 ⟨rfl, hw⟩
            rw [← hw]
            clear hw LI
            go_wp2
            go_roundw
            case rel => exact ⟨k + 1, N, W, b, s2, rfl, rfl, by go_num, by omega, by omega, by omega, HR.out.1, HR.out.2.1, HF3.out⟩
            case measure => simp [intOf]; omega
      · obtain ⟨Z, hZ⟩ : ∃ Z, z.size = Z := ⟨_, rfl⟩
        obtain ⟨V, hV⟩ : ∃ V, W.size = V := ⟨_, rfl⟩
        have hb1 : b.bs.length = V := by rw [← hV, hR.out.1, kt_size]
        have hlim : (9223372036854775807 < 1 + Z) = False := eq_false (by omega)
        have hlim2 : (9223372036854775807 < V + Z) = False := eq_false (by omega)
        have hlim3 : (9223372036854775807 < V + Z + 2) = False := eq_false (by omega)
        have hds : ∃ t : ByteArray, (⟨#[46]⟩ : ByteArray) ++ z = t ∧ t.data.toList = 46 :: z.data.toList ∧ t.size ≤ 1000000 := ⟨_, rfl, by rw [ByteArray.data_append]; simp, by rw [ByteArray.size_append]; show 1 + z.size ≤ _; omega⟩
        obtain ⟨t, ht, ht2, ht3⟩ := hds
        have BL := fun {x : Bool} {er : Nat} {b' : St.Bd} (hr : b.line (M : Int) t.data.toList = (x, er, b')) => hR.out.2.2.line t (by omega) (by rw [← hR.out.2.1]; omega) ht3 hr
        rw [ht2] at BL
        by_cases hz0 : z.data.toList = []
        · have hzz : z = ⟨#[]⟩ := by
            cases z with
            | mk d =>
              have : d = #[] := by simpa using hz0
              rw [this]
          have BL2 := Lib.hid (BL (x := true) (er := 0) (b' := b) (by rw [hz0]; exact St.line_end _ _))
          have hzt : (z.toList == []) = true := by rw [Lib.toList_data, hz0]; rfl
          have hze : z.toList.isEmpty = true := by rw [Lib.toList_data, hz0]; rfl
          have HR := Lib.hid hR.out
          clear BL hR hzz hz0 ht2
          go_wp2_with fail
          refine BL2.out.mono ?_
          rintro e w2 ⟨s2, rfl, hf, _, _⟩
          have HF := Lib.hid hf
          clear hf BL2
          go_wp2
          go_roundw
          case rel => exact ⟨k + 1, N, W, b, s2, rfl, rfl, by go_num, by omega, by omega, by omega, HR.out.1, HR.out.2.1, HF.out⟩
          case measure => simp [intOf]; omega
        · have hzt : (z.toList == []) = false := by rw [Lib.toList_data]; exact beq_eq_false_iff_ne.2 hz0
          have hze : z.toList.isEmpty = false := by
            rw [Lib.toList_data]
            cases h : z.data.toList with
            | nil => exact absurd h hz0
            | cons => rfl
          have hne : (46 :: z.data.toList) ≠ [46] := fun e => hz0 (by simpa using e)
          have hzl : z.data.toList.length = Z := by rw [← Lib.size_eq, hZ]
          by_cases hfit : V + Z + 2 ≤ M
          · have BL2 := Lib.hid (BL (x := false) (er := 0) (b' := ⟨b.bs ++ z.data.toList ++ [13, 10], b.n + 1⟩) (by rw [St.line_more hne (by rw [St.bare_dot, hb1, hzl]; omega), St.bare_dot]))
            obtain ⟨W1, hW1⟩ : ∃ W1, W ++ z = W1 := ⟨_, rfl⟩
            obtain ⟨W2, hW2⟩ : ∃ W2, W1 ++ (⟨#[13, 10]⟩ : ByteArray) = W2 := ⟨_, rfl⟩
            have sW1 : W1.size = V + Z := by rw [← hW1, ByteArray.size_append, hV, hZ]
            have sW2 : W2.size = V + Z + 2 := by rw [← hW2, ByteArray.size_append, sW1]; rfl
            have hW3 : W2 = kt (b.bs ++ z.data.toList ++ [13, 10]) := by
              rw [← hW2, ← hW1, kt_append, kt_append, ← hR.out.1]
              rfl
            have hN2 : N + 1 = b.n + 1 := by rw [hR.out.2.1]
            have hfi : ((V : Int) + (Z : Int) + 2 ≤ (M : Int)) = True := eq_true (by omega)
            have BY := Lib.hid (fun (wr : World) (s : Value) (h : BF w g s (M : Int) ⟨b.bs ++ z.data.toList ++ [13, 10], b.n + 1⟩ wr) => h.bytes (K := W2) (n := V + Z + 2) (by show (b.bs ++ z.data.toList ++ [13, 10]).length ≤ _; rw [List.length_append, List.length_append, hb1, hzl]; show V + Z + 2 ≤ _; omega) hW3 sW2.symm)
            have LI := Lib.hid (fun (wr : World) (s : Value) (h : BF w g s (M : Int) ⟨b.bs ++ z.data.toList ++ [13, 10], b.n + 1⟩ wr) => h.lines hN2)
            have HW3 := Lib.hid hW3
            have HN2 := Lib.hid hN2
            have HWS := Lib.hid (show W2.size ≤ M by omega)
            clear BL hR hz0 ht2 hzl hb1 hne hW3 hN2
            go_wp2_with fail
            refine BL2.out.mono ?_
            rintro e w2 ⟨s2, rfl, hf, _, _⟩
            have HF := Lib.hid hf
            clear hf BL2
            go_wp2_with fail
            refine (BY.out _ _ HF.out).mono ?_
            rintro e w3 ⟨ao, c, rfl, hst, hf, _⟩
            have HF3 := Lib.hid hf
            clear hf HF BY
            go_wp2_with fail
            refine (LI.out _ _ HF3.out).mono ?_
            rintro e w4 ⟨rfl, hw⟩
            rw [← hw]
            clear hw LI
            go_wp2
            go_roundw
            case rel => exact ⟨k + 1, N + 1, W2, _, s2, rfl, by go_num, by go_num, by omega, by omega, HWS.out, HW3.out, HN2.out, HF3.out⟩
            case measure => simp [intOf]; omega
          · have BL2 := Lib.hid (BL (x := false) (er := 72) (b' := b) (St.line_full hne (by rw [St.bare_dot, hb1, hzl]; omega)))
            have hfi : ((V : Int) + (Z : Int) + 2 ≤ (M : Int)) = False := eq_false (by omega)
            have BY := Lib.hid (fun (wr : World) (s : Value) (h : BF w g s (M : Int) b wr) => h.bytes (K := W) (n := V) (by omega) hR.out.1 hV.symm)
            have LI := Lib.hid (fun (wr : World) (s : Value) (h : BF w g s (M : Int) b wr) => h.lines hR.out.2.1)
            have HR := Lib.hid hR.out
            clear BL hR hz0 ht2 hzl hb1 hne hfit
            go_wp2_with fail
            refine BL2.out.mono ?_
            rintro e w2 ⟨s2, rfl, hf, _, _⟩
            have HF := Lib.hid hf
            clear hf BL2
            go_wp2_with fail
            refine (BY.out _ _ HF.out).mono ?_
            rintro e w3 ⟨ao, c, rfl, hst, hf, _⟩
            have HF3 := Lib.hid hf
            clear hf HF BY
            go_wp2_with fail
            refine (LI.out _ _ HF3.out).mono ?_
            rintro e w4 ⟨rfl, hw⟩
            rw [← hw]
            clear hw LI
            go_wp2
            go_roundw
            case rel => exact ⟨k + 1, N, W, b, s2, rfl, rfl, by go_num, by omega, by omega, by omega, HR.out.1, HR.out.2.1, HF3.out⟩
            case measure => simp [intOf]; omega
    · have hR2 := hR.out.2.2.b
      clear hR
      by_cases hkL : k < L
      · obtain rfl : k = 30 := by omega
        go_wp2
        go_ret
        exact ⟨rfl, hR2⟩
      · clear hlt
        go_wp2
        go_ret
        exact ⟨rfl, hR2⟩
end Go.Proofs.Ythfefbpfgepbjaa
