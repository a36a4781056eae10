/- digest.Hex and digest.Unhex walked. -/
import Derived.Test.YtjogdflhpciciaaDoorRdMake
import Derived.Test.YtjogdflhpciciaaDoorDigestSmall
namespace Go.Proofs.YtjogdflhpciciaaDoor
open Go.RowKit

def hexB (xs : List UInt8) (n j : Nat) : UInt8 := if j < n then (Md5.hex xs).getD j 0 else 0
theorem hex_at : ∀ (xs : List UInt8) (k : Nat), k < xs.length → (Md5.hex xs).getD (2 * k) 0 = Md5.hl ((xs.getD k 0).toNat / 16) ∧ (Md5.hex xs).getD (2 * k + 1) 0 = Md5.hl ((xs.getD k 0).toNat % 16)
  | [], k, h => by cases h
  | b :: r, 0, _ => ⟨rfl, rfl⟩
  | b :: r, k + 1, h => by
    have := hex_at r k (by simpa using h)
    rw [show 2 * (k + 1) = 2 * k + 2 by omega]
    exact this
theorem hexB_other {xs : List UInt8} {n j : Nat} (h : j ≠ n) : hexB xs n j = hexB xs (n + 1) j := by
  unfold hexB
  by_cases hj : j < n
  · rw [if_pos hj, if_pos (by omega)]
  · rw [if_neg hj, if_neg (by omega)]
theorem hexB_new (xs : List UInt8) (n : Nat) : hexB xs (n + 1) n = (Md5.hex xs).getD n 0 := by unfold hexB; rw [if_pos (by omega)]
theorem hexB_all (xs : List UInt8) : (List.range (2 * xs.length)).map (hexB xs (2 * xs.length)) = Md5.hex xs := by
  apply List.ext_getElem?
  intro j
  have hl := Md5.hex_len xs
  by_cases hj : j < 2 * xs.length
  · rw [List.getElem?_map, List.getElem?_range hj]
    simp only [Option.map_some, hexB]
    rw [if_pos hj, List.getD_eq_getElem?_getD, List.getElem?_eq_getElem (by omega)]
    rfl
  · rw [List.getElem?_eq_none (by simp; omega), List.getElem?_eq_none (by omega)]

theorem hexb_any (v : Value) (xs : List UInt8) (w : World) (h : Rd w v (xs.map bv)) (hs : xs.length ≤ 1048576) :
    Calls Tryd.prog 28 #[v] w fun e w' => e = .returned (sv (Md5.hex xs)) ∧ Below w.heap.size w w' := by
  obtain ⟨ao, cap, rfl, hcap, hc⟩ := h.form
  obtain ⟨L, hL⟩ : ∃ L, L = xs.length := ⟨_, rfl⟩
  rw [← hL] at hs hcap hc ⊢
  obtain ⟨D, hD⟩ : ∃ D, D = 2 * L := ⟨_, rfl⟩
  obtain ⟨wm, hmk, hg0, hbm⟩ := make_u8n w D (by omega)
  have i0 : 2 * (L : Int) = (D : Int) := by omega
  have hz : rowF D (hexB xs 0) = List.replicate D (.int .u8 0) := by
    refine (rowF_ext (by simp) fun j hj => ?_).symm
    rw [List.getElem?_replicate, if_pos hj]
    rfl
  have HC := Lib.hid hc
  have HL := Lib.hid hL
  have HD := Lib.hid hD
  have HG0 := Lib.hid hg0
  have HZ := Lib.hid hz
  have HBM := Lib.hid hbm
  clear hc hL hD hg0 h hz hbm
  go_enter Tryd.func28, Tryd.ntmps28
  go_wp2
  go_loopw [11] (fun i wr => ∃ k : Nat, k ≤ L ∧ i = .int .i64 k ∧ wr.heap[w.heap.size]? = some (.cells (rowF D (hexB xs (2 * k))).toArray 5) ∧ Below w.heap.size w wr) (fun i _ => L - (intOf i).toNat)
  case atStart => exact ⟨0, by omega, rfl, by rw [Nat.mul_zero, HZ.out]; exact HG0.out, HBM.out⟩
  case round =>
    obtain ⟨k, hk, rfl, hg, hb⟩ := hrel
    by_cases hlt : k < L
    · obtain ⟨b, o, rfl, hm, hc⟩ := HC.out (by omega)
      unfold maxLen at hm
      have hcw := hc k hlt
      have hcr : wr.cell? ⟨b, o + k, none⟩ = some (bv (xs.getD k 0)) := (hb.cell (World.block_lt_of_cell? w _ hcw)).trans hcw
      have hne : b < w.heap.size := World.block_lt_of_cell? w _ hcw
      obtain ⟨hx1, hx2⟩ := hex_at xs k (by rw [← HL.out]; exact hlt)
      unfold bv at hcr
      have hx : (xs.getD k 0).toNat < 256 := UInt8.toNat_lt _
      generalize (xs.getD k 0).toNat = x at hcr hx hx1 hx2
      have HX1 := Lib.hid hx1
      have HX2 := Lib.hid hx2
      obtain ⟨p, hp⟩ : ∃ p, p = 2 * k := ⟨_, rfl⟩
      have i1 : 2 * (k : Int) = (p : Int) := by omega
      have i2 : (p : Int) + 1 < (D : Int) := by have := HD.out; omega
      have hand : bits BinOp.and IntKind.u8 (x : Int) 15 = (x : Int) % 16 := u8_and15 _ (by omega) (by omega)
      have hp1 : (p : Int) < (D : Int) := by omega
      have HP := Lib.hid hp
      have HB := Lib.hid hb
      rw [← hp] at hg
      have HG := Lib.hid hg
      have e1 : wr.cell? ⟨w.heap.size, p, none⟩ = some (.int .u8 ((hexB xs p p).toNat : Int)) := (cell_of_row _ _ _ _ _ _ hg).trans (rowF_at (by omega))
      have e2 : wr.cell? ⟨w.heap.size, p + 1, none⟩ = some (.int .u8 ((hexB xs p (p + 1)).toNat : Int)) := (cell_of_row _ _ _ _ _ _ hg).trans (rowF_at (by omega))
      have f1 : wr.frozen? ⟨w.heap.size, p, none⟩ = false := frozen_of_row _ _ _ _ _ hg
      have f2 : wr.frozen? ⟨w.heap.size, p + 1, none⟩ = false := frozen_of_row _ _ _ _ _ hg
      clear hc hcw hx1 hx2 hp hg
      go_wp2
      go_roundw
      case rel =>
        refine ⟨k + 1, by omega, by go_num, ?_, (HB.out.setCell (Nat.le_refl _) _).setCell (Nat.le_refl _) _⟩
        refine (setCell_row (setCell_row HG.out)).trans ?_
        have hp := HP.out
        have h16 : x / 16 < 16 := by omega
        have h17 : x % 16 < 16 := Nat.mod_lt _ (by decide)
        rw [rowF_set (q := p) (g := hexB xs (p + 1)) (by omega) (fun j hj => hexB_other hj) (by rw [hexB_new, hp, HX1.out, byte_at _ _ h16]; rfl),
          rowF_set (q := p + 1) (g := hexB xs (p + 1 + 1)) (by omega) (fun j hj => hexB_other hj) (by rw [hexB_new, hp, HX2.out, byte_at _ _ h17]; rfl),
          hp, show 2 * k + 1 + 1 = 2 * (k + 1) by omega]
      case measure => simp [intOf]; omega
    · obtain rfl : k = L := by omega
      have hrd := rowF_rd (l := Md5.hex xs) hg (by have := HD.out; omega) (by rw [HD.out, HL.out]; exact (hexB_all xs).symm)
      have hcv := bytes_string hrd
      have HB := Lib.hid hb
      clear hrd hg hb hmk
      go_wp2
      go_ret
      exact ⟨rfl, HB.out⟩
end Go.Proofs.YtjogdflhpciciaaDoor
