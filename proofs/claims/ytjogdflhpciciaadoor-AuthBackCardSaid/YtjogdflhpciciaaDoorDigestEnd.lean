/- digest.ending walked. -/
import Derived.Test.YtjogdflhpciciaaDoorRdMake
import Derived.Test.YtjogdflhpciciaaDoorDigestAll
namespace Go.Proofs.YtjogdflhpciciaaDoor
open Go.RowKit

/-- What stands behind the last whole block, the bytes of the count from the i-th on being noughts yet. -/
def endB (xs : List UInt8) (size cnt i j : Nat) : UInt8 :=
  if j < xs.length then xs.getD j 0 else if j = xs.length then 128 else if size ≤ j + 8 ∧ j + 8 < size + i then UInt8.ofNat (cnt / 2 ^ (8 * (j + 8 - size))) else 0
def endL (xs : List UInt8) (size cnt : Nat) : List UInt8 := (List.range size).map (endB xs size cnt 8)
def sizeOf64 (m : Nat) : Nat := if m ≤ 55 then 64 else 128

theorem endB_step {xs : List UInt8} {size cnt i j : Nat} (h : j ≠ size - 8 + i) (h8 : 8 ≤ size) : endB xs size cnt i j = endB xs size cnt (i + 1) j := by
  unfold endB
  split
  · rfl
  split
  · rfl
  by_cases hj : size ≤ j + 8 ∧ j + 8 < size + i
  · rw [if_pos hj, if_pos (by omega)]
  · rw [if_neg hj, if_neg (by omega)]
theorem endB_new {xs : List UInt8} {size cnt i : Nat} (h8 : xs.length + 9 ≤ size) : endB xs size cnt (i + 1) (size - 8 + i) = UInt8.ofNat (cnt / 2 ^ (8 * i)) := by
  unfold endB
  rw [if_neg (by omega), if_neg (by omega), if_pos (by omega), show size - 8 + i + 8 - size = i by omega]
theorem end_start {xs : List UInt8} {size cnt : Nat} (h8 : xs.length + 9 ≤ size) :
    (splice (List.replicate size (Value.int .u8 0)) 0 (xs.map bv)).toArray.setIfInBounds xs.length (.int .u8 128) = (rowF size (endB xs size cnt 0)).toArray := by
  rw [List.setIfInBounds_toArray]
  congr 1
  refine rowF_ext ?_ fun j hj => ?_
  · rw [List.length_set, length_splice _ _ _ (by simp; omega), List.length_replicate]
  · rw [List.getElem?_set]
    have hsl : (splice (List.replicate size (Value.int .u8 0)) 0 (xs.map bv)).length = size := by rw [length_splice _ _ _ (by simp; omega), List.length_replicate]
    by_cases h1 : xs.length = j
    · rw [if_pos h1, if_pos (by omega)]
      unfold endB
      rw [if_neg (by omega), if_pos (by omega)]
      rfl
    · rw [if_neg h1]
      simp only [splice, List.take_zero, List.nil_append, Nat.zero_add]
      by_cases h2 : j < xs.length
      · rw [List.getElem?_append_left (by simpa using h2), List.getElem?_map]
        unfold endB
        rw [if_pos h2, List.getD_eq_getElem?_getD, List.getElem?_eq_getElem h2]
        rfl
      · rw [List.getElem?_append_right (by simp; omega), List.getElem?_drop, List.getElem?_replicate, if_pos (by simp; omega)]
        unfold endB
        rw [if_neg h2, if_neg (by omega), if_neg (by omega)]
        rfl

theorem endL_eq {xs : List UInt8} {n : Nat} (h : n % 64 = xs.length) : endL xs (sizeOf64 xs.length) (n * 8 % 18446744073709551616) = xs ++ [128] ++ List.replicate (Md5.zeros n) 0 ++ Md5.bitsOf n := by
  have hm : xs.length < 64 := by omega
  obtain ⟨m, hmm⟩ : ∃ m, m = xs.length := ⟨_, rfl⟩
  have hz : Md5.zeros n + m + 9 = sizeOf64 m := by
    unfold Md5.zeros sizeOf64
    split <;> omega
  rw [← hmm]
  unfold endL
  generalize sizeOf64 m = size at hz
  apply List.ext_getElem?
  intro j
  have hlen : (xs ++ [128] ++ List.replicate (Md5.zeros n) 0 ++ Md5.bitsOf n).length = size := by
    simp only [List.length_append, List.length_replicate, Md5.bitsOf, List.length_map, List.length_range, List.length_cons, List.length_nil]
    omega
  by_cases hj : j < size
  · rw [List.getElem?_map, List.getElem?_range hj]
    simp only [Option.map_some]
    unfold endB
    by_cases h1 : j < xs.length
    · rw [if_pos h1, List.append_assoc, List.append_assoc, List.getElem?_append_left h1, List.getD_eq_getElem?_getD, List.getElem?_eq_getElem h1]
      rfl
    · rw [if_neg h1]
      by_cases h2 : j = xs.length
      · subst h2
        rw [if_pos rfl, List.append_assoc, List.append_assoc, List.getElem?_append_right (Nat.le_refl _), Nat.sub_self]
        rfl
      · rw [if_neg h2]
        by_cases h3 : size ≤ j + 8
        · rw [if_pos ⟨h3, by omega⟩, List.getElem?_append_right (by simp only [List.length_append, List.length_replicate, List.length_cons, List.length_nil]; omega)]
          simp only [List.length_append, List.length_replicate, List.length_cons, List.length_nil]
          rw [show j - (xs.length + (0 + 1) + Md5.zeros n) = j + 8 - size by omega, Md5.bitsOf, List.getElem?_map, List.getElem?_range (by omega)]
          rfl
        · rw [if_neg (by omega), List.getElem?_append_left (by simp only [List.length_append, List.length_replicate, List.length_cons, List.length_nil]; omega),
            List.getElem?_append_right (by simp only [List.length_append, List.length_cons, List.length_nil]; omega), List.getElem?_replicate, if_pos (by simp only [List.length_append, List.length_cons, List.length_nil]; omega)]
  · rw [List.getElem?_eq_none (by simp; omega), List.getElem?_eq_none (by omega)]

theorem shr_u64 (cnt i : Nat) : (cnt : Int) / 2 ^ (8 * i) % 256 = ((UInt8.ofNat (cnt / 2 ^ (8 * i))).toNat : Int) := by
  rw [UInt8.toNat_ofNat']
  simp

set_option maxRecDepth 20000 in
set_option maxHeartbeats 1000000 in
theorem ending_any (v : Value) (xs : List UInt8) (n : Nat) (w : World) (h : Rd w v (xs.map bv)) (hx : xs.length < 64) (hn : n ≤ 1048576) :
    Calls Tryd.prog 39 #[v, .int .i64 (n : Int)] w fun e w' => ∃ v', e = .returned v' ∧ Rd w' v' ((endL xs (sizeOf64 xs.length) (n * 8 % 18446744073709551616)).map bv) ∧ Below w.heap.size w w' := by
  obtain ⟨ao, cap, rfl, hcap, hc⟩ := h.form
  obtain ⟨m, hm⟩ : ∃ m, m = xs.length := ⟨_, rfl⟩
  rw [← hm] at hx hcap hc ⊢
  have HC := Lib.hid hc
  have HM := Lib.hid hm
  obtain ⟨X, hX⟩ : ∃ X, X = xs.map bv := ⟨_, rfl⟩
  have hXl : X.length = m := by rw [hX, List.length_map, hm]
  have HX := Lib.hid hX
  have HXl := Lib.hid hXl
  have HXb := Lib.hid (show ∀ u ∈ X, u.oneCell' = true by rw [hX]; exact bv_cell _)
  obtain ⟨cnt, hcnt⟩ : ∃ cnt, cnt = n * 8 % 18446744073709551616 := ⟨_, rfl⟩
  rw [← hcnt]
  have HCN := Lib.hid (show cnt = n * 8 by omega)
  clear hc hm h hX hXl hcnt
  by_cases h55 : m ≤ 55
  · rw [sizeOf64, if_pos h55]
    obtain ⟨wm, hmk, hg0, hbm⟩ := make_u8n w 64 (by decide)
    have hmk : (Instr.makeSlice 29 (.int .i64 64) (.int .i64 64)).run Tryd.prog w = .ok (.slice (some ⟨w.heap.size, 0, Option.none⟩) 64 64) wm := hmk
    obtain ⟨Z, hZ⟩ : ∃ Z, Z = List.replicate 64 (Value.int .u8 0) := ⟨_, rfl⟩
    rw [← hZ] at hg0
    have hZl : Z.length = 64 := by rw [hZ, List.length_replicate]
    have HZ := Lib.hid hZ
    have HZl := Lib.hid hZl
    clear hZ hZl
    have HG0 := Lib.hid hg0
    have HBM := Lib.hid hbm
    have hbl : w.heap.size < wm.heap.size := (Array.getElem?_eq_some_iff.1 hg0).1
    clear hg0 hbm
    go_enter Tryd.func39, Tryd.ntmps39
    go_wp2_with (with_reducible refine wpList_copy_splice rfl (.tmp 16) (.tmp 17) 29 29 rfl 5 Tryd.underlying29 (by kernel_rfl) (some ⟨w.heap.size, 0, none⟩) ao 64 64 m cap rfl rfl w.heap.size 0 Z 5 HG0.out X ?cb ?cc ?cd HXb.out w.heap.size w HBM.out (Nat.le_refl _) ?_)
    case cb => rw [HXl.out]; show _ = min _ _; omega
    case cc =>
      rw [HXl.out]
      intro hp
      obtain ⟨b, o, e, _, hc⟩ := HC.out hp
      refine ⟨_, e, fun j u hj => ?_⟩
      have hjm : j < m := by rw [← HXl.out]; exact (List.getElem?_eq_some_iff.1 hj).1
      rw [Addr.add_lit]
      have := hc j hjm
      rw [HX.out, List.getElem?_map, List.getElem?_eq_getElem (by rw [← HM.out]; exact hjm)] at hj
      rw [HBM.out.cell (World.block_lt_of_cell? w _ this), this, ← hj, List.getD_eq_getElem?_getD, List.getElem?_eq_getElem (by rw [← HM.out]; exact hjm)]
      rfl
    case cd => rw [HXl.out, HZl.out]; omega
    intro w2 hg2 hb2
    have hsl : (splice Z 0 X).length = 64 := by rw [length_splice _ _ _ (by rw [HXl.out, HZl.out]; omega), HZl.out]
    have e1 : ∃ u, w2.cell? ⟨w.heap.size, m, none⟩ = some u := by
      refine ⟨(splice Z 0 X)[m]'(by omega), ?_⟩
      rw [cell_of_row _ _ _ _ _ _ hg2.out, List.getElem?_toArray, List.getElem?_eq_getElem (by omega)]
    obtain ⟨u1, e1⟩ := e1
    have f1 : w2.frozen? ⟨w.heap.size, m, none⟩ = false := frozen_of_row _ _ _ _ _ hg2.out
    have i0 : (0 : Int) ≤ (m : Int) := Int.natCast_nonneg _
    have i1 : (m : Int) < 64 := by omega
    have hg3 := setCell_row (i := m) (u := .int .u8 128) hg2.out
    rw [HX.out, HZ.out] at hg3
    have hst := end_start (xs := xs) (size := 64) (cnt := cnt) (by rw [← HM.out]; omega)
    rw [← HM.out] at hst
    rw [hst] at hg3
    have HG3 := Lib.hid hg3
    have HB3 := Lib.hid (hb2.setCell (p := ⟨w.heap.size, m, none⟩) (Nat.le_refl _) (.int .u8 128))
    clear hg2 hb2 hsl hg3 hst
    go_wp2
    generalize w2.setCell ⟨w.heap.size, m, none⟩ (.int .u8 128) = w3 at HG3 HB3 ⊢
    clear e1 f1
    go_loopw [26] (fun i wr => ∃ k : Nat, k ≤ 8 ∧ i = .int .i64 k ∧ wr.heap[w.heap.size]? = some (.cells (rowF 64 (endB xs 64 cnt k)).toArray 5) ∧ Below w.heap.size w wr) (fun i _ => 8 - (intOf i).toNat)
    case atStart => exact ⟨0, by omega, rfl, HG3.out, HB3.out⟩
    case round =>
      obtain ⟨k, hk, rfl, hg, hb⟩ := hrel
      by_cases hlt : k < 8
      · obtain ⟨p, hp⟩ : ∃ p, p = 56 + k := ⟨_, rfl⟩
        have e1 : wr.cell? ⟨w.heap.size, p, none⟩ = some (.int .u8 ((endB xs 64 cnt k p).toNat : Int)) := (cell_of_row _ _ _ _ _ _ hg).trans (rowF_at (by omega))
        have f1 : wr.frozen? ⟨w.heap.size, p, none⟩ = false := frozen_of_row _ _ _ _ _ hg
        have i0 : (56 : Int) + (k : Int) = (p : Int) := by omega
        have i1 : (p : Int) < 64 := by omega
        have i2 : (8 * (k : Int)).toNat = 8 * k := by omega
        have HP := Lib.hid hp
        have HG := Lib.hid hg
        have HB := Lib.hid hb
        clear hg hb hp
        go_wp2
        go_roundw
        case rel =>
          refine ⟨k + 1, by omega, by go_num, ?_, HB.out.setCell (Nat.le_refl _) _⟩
          refine (setCell_row HG.out).trans ?_
          have hp := HP.out
          rw [rowF_set (g := endB xs 64 cnt (k + 1)) (by omega) (fun j hj => endB_step (by omega) (by decide))]
          rw [hp, show 56 + k = 64 - 8 + k by omega, endB_new (by rw [← HM.out]; omega)]
          refine congrArg (Value.int .u8) ?_
          rw [← shr_u64, HCN.out]
          simp
        case measure => simp [intOf]; omega
      · obtain rfl : k = 8 := by omega
        have hrd := rowF_rd (l := endL xs 64 cnt) hg (by decide) rfl
        have HR := Lib.hid hrd
        clear hrd hg
        go_wp2
        go_ret
        exact ⟨_, rfl, HR.out, hb⟩
  · rw [sizeOf64, if_neg h55]
    obtain ⟨wm, hmk, hg0, hbm⟩ := make_u8n w 128 (by decide)
    have hmk : (Instr.makeSlice 29 (.int .i64 128) (.int .i64 128)).run Tryd.prog w = .ok (.slice (some ⟨w.heap.size, 0, Option.none⟩) 128 128) wm := hmk
    obtain ⟨Z, hZ⟩ : ∃ Z, Z = List.replicate 128 (Value.int .u8 0) := ⟨_, rfl⟩
    rw [← hZ] at hg0
    have hZl : Z.length = 128 := by rw [hZ, List.length_replicate]
    have HZ := Lib.hid hZ
    have HZl := Lib.hid hZl
    clear hZ hZl
    have HG0 := Lib.hid hg0
    have HBM := Lib.hid hbm
    have hbl : w.heap.size < wm.heap.size := (Array.getElem?_eq_some_iff.1 hg0).1
    clear hg0 hbm
    go_enter Tryd.func39, Tryd.ntmps39
    go_wp2_with (with_reducible refine wpList_copy_splice rfl (.tmp 16) (.tmp 17) 29 29 rfl 5 Tryd.underlying29 (by kernel_rfl) (some ⟨w.heap.size, 0, none⟩) ao 128 128 m cap rfl rfl w.heap.size 0 Z 5 HG0.out X ?cb ?cc ?cd HXb.out w.heap.size w HBM.out (Nat.le_refl _) ?_)
    case cb => rw [HXl.out]; show _ = min _ _; omega
    case cc =>
      rw [HXl.out]
      intro hp
      obtain ⟨b, o, e, _, hc⟩ := HC.out hp
      refine ⟨_, e, fun j u hj => ?_⟩
      have hjm : j < m := by rw [← HXl.out]; exact (List.getElem?_eq_some_iff.1 hj).1
      rw [Addr.add_lit]
      have := hc j hjm
      rw [HX.out, List.getElem?_map, List.getElem?_eq_getElem (by rw [← HM.out]; exact hjm)] at hj
      rw [HBM.out.cell (World.block_lt_of_cell? w _ this), this, ← hj, List.getD_eq_getElem?_getD, List.getElem?_eq_getElem (by rw [← HM.out]; exact hjm)]
      rfl
    case cd => rw [HXl.out, HZl.out]; omega
    intro w2 hg2 hb2
    have hsl : (splice Z 0 X).length = 128 := by rw [length_splice _ _ _ (by rw [HXl.out, HZl.out]; omega), HZl.out]
    have e1 : ∃ u, w2.cell? ⟨w.heap.size, m, none⟩ = some u := by
      refine ⟨(splice Z 0 X)[m]'(by omega), ?_⟩
      rw [cell_of_row _ _ _ _ _ _ hg2.out, List.getElem?_toArray, List.getElem?_eq_getElem (by omega)]
    obtain ⟨u1, e1⟩ := e1
    have f1 : w2.frozen? ⟨w.heap.size, m, none⟩ = false := frozen_of_row _ _ _ _ _ hg2.out
    have i0 : (0 : Int) ≤ (m : Int) := Int.natCast_nonneg _
    have i1 : (m : Int) < 128 := by omega
    have hg3 := setCell_row (i := m) (u := .int .u8 128) hg2.out
    rw [HX.out, HZ.out] at hg3
    have hst := end_start (xs := xs) (size := 128) (cnt := cnt) (by rw [← HM.out]; omega)
    rw [← HM.out] at hst
    rw [hst] at hg3
    have HG3 := Lib.hid hg3
    have HB3 := Lib.hid (hb2.setCell (p := ⟨w.heap.size, m, none⟩) (Nat.le_refl _) (.int .u8 128))
    clear hg2 hb2 hsl hg3 hst
    go_wp2
    generalize w2.setCell ⟨w.heap.size, m, none⟩ (.int .u8 128) = w3 at HG3 HB3 ⊢
    clear e1 f1
    go_loopw [26] (fun i wr => ∃ k : Nat, k ≤ 8 ∧ i = .int .i64 k ∧ wr.heap[w.heap.size]? = some (.cells (rowF 128 (endB xs 128 cnt k)).toArray 5) ∧ Below w.heap.size w wr) (fun i _ => 8 - (intOf i).toNat)
    case atStart => exact ⟨0, by omega, rfl, HG3.out, HB3.out⟩
    case round =>
      obtain ⟨k, hk, rfl, hg, hb⟩ := hrel
      by_cases hlt : k < 8
      · obtain ⟨p, hp⟩ : ∃ p, p = 120 + k := ⟨_, rfl⟩
        have e1 : wr.cell? ⟨w.heap.size, p, none⟩ = some (.int .u8 ((endB xs 128 cnt k p).toNat : Int)) := (cell_of_row _ _ _ _ _ _ hg).trans (rowF_at (by omega))
        have f1 : wr.frozen? ⟨w.heap.size, p, none⟩ = false := frozen_of_row _ _ _ _ _ hg
        have i0 : (120 : Int) + (k : Int) = (p : Int) := by omega
        have i1 : (p : Int) < 128 := by omega
        have i2 : (8 * (k : Int)).toNat = 8 * k := by omega
        have HP := Lib.hid hp
        have HG := Lib.hid hg
        have HB := Lib.hid hb
        clear hg hb hp
        go_wp2
        go_roundw
        case rel =>
          refine ⟨k + 1, by omega, by go_num, ?_, HB.out.setCell (Nat.le_refl _) _⟩
          refine (setCell_row HG.out).trans ?_
          have hp := HP.out
          rw [rowF_set (g := endB xs 128 cnt (k + 1)) (by omega) (fun j hj => endB_step (by omega) (by decide))]
          rw [hp, show 120 + k = 128 - 8 + k by omega, endB_new (by rw [← HM.out]; omega)]
          refine congrArg (Value.int .u8) ?_
          rw [← shr_u64, HCN.out]
          simp
        case measure => simp [intOf]; omega
      · obtain rfl : k = 8 := by omega
        have hrd := rowF_rd (l := endL xs 128 cnt) hg (by decide) rfl
        have HR := Lib.hid hrd
        clear hrd hg
        go_wp2
        go_ret
        exact ⟨_, rfl, HR.out, hb⟩
end Go.Proofs.YtjogdflhpciciaaDoor
