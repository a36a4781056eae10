/- digest.Unhex walked. -/
import Derived.Test.YtnbgafcfildhaaaDoorDigestHex
namespace Go.Proofs.YtnbgafcfildhaaaDoor
open Go.RowKit

def decB (s : List UInt8) (j : Nat) : UInt8 := UInt8.ofNat ((Md5.half (s.getD (2 * j) 0)).toNat * 16 + (Md5.half (s.getD (2 * j + 1) 0)).toNat)
def unB (s : List UInt8) (k j : Nat) : UInt8 := if j < k then decB s j else 0

theorem decB_hex {l : List UInt8} {k : Nat} (h : k < l.length) : decB (Md5.hex l) k = l.getD k 0 := by
  obtain ⟨h1, h2⟩ := hex_at l k h
  have hb : (l.getD k 0).toNat < 256 := UInt8.toNat_lt _
  rw [decB, h1, h2, Md5.half_of (by omega), Md5.half_of (by omega), ← UInt8.toNat_inj, UInt8.toNat_ofNat']
  simp only [Int.toNat_natCast]
  omega
theorem decB_all {s : List UInt8} {n : Nat} (h : s.length = 2 * n) (hh : ∀ j, j < 2 * n → 0 ≤ Md5.half (s.getD j 0)) : Md5.hex ((List.range n).map (decB s)) = s := by
  obtain ⟨l, hl⟩ := Md5.unhex_some s (by omega) (fun c hc => by
    obtain ⟨j, hj, rfl⟩ := List.getElem_of_mem hc
    have := hh j (by omega)
    rwa [List.getD_eq_getElem?_getD, List.getElem?_eq_getElem hj] at this)
  have hn : l.length = n := by
    have := Md5.hex_len l
    rw [hl] at this
    omega
  rw [← hl]
  congr 1
  apply List.ext_getElem?
  intro j
  by_cases hj : j < n
  · rw [List.getElem?_map, List.getElem?_range hj, List.getElem?_eq_getElem (by omega)]
    simp only [Option.map_some]
    rw [decB_hex (by omega), List.getD_eq_getElem?_getD, List.getElem?_eq_getElem (by omega)]
    rfl
  · rw [List.getElem?_eq_none (by simp; omega), List.getElem?_eq_none (by omega)]
theorem bad_letter {s : List UInt8} {j : Nat} (hj : j < s.length) (h : Md5.half (s.getD j 0) < 0) : ∀ b, Md5.hex b ≠ s := fun b hb => by
  have := Md5.hex_letters b (s.getD j 0) (by rw [hb, List.getD_eq_getElem?_getD, List.getElem?_eq_getElem hj]; exact List.getElem_mem hj)
  omega
theorem index_half (c : UInt8) : Lib.indexByte (⟨#[48, 49, 50, 51, 52, 53, 54, 55, 56, 57, 97, 98, 99, 100, 101, 102]⟩ : ByteArray).data.toList ((c.toNat : Int).toNat.toUInt8) = Md5.half c :=
  Md5.all_bytes (p := fun c => Lib.indexByte (⟨#[48, 49, 50, 51, 52, 53, 54, 55, 56, 57, 97, 98, 99, 100, 101, 102]⟩ : ByteArray).data.toList ((c.toNat : Int).toNat.toUInt8) = Md5.half c) (by decide +kernel) c

theorem unhexb_any (s : ByteArray) (w : World) (hs : s.size ≤ 1048576) :
    Calls Tryd.prog 10 #[.string s] w fun e w' => (∃ b v, Md5.hex b = s.data.toList ∧ e = .returned (.tuple #[v, .bool true]) ∧ Rd w' v (b.map bv) ∧ Below w.heap.size w w') ∨
      ((∀ b, Md5.hex b ≠ s.data.toList) ∧ e = .returned (.tuple #[.slice none 0 0, .bool false]) ∧ Below w.heap.size w w') := by
  have hsl := Lib.size_eq s
  by_cases hpar : s.size % 2 = 0
  · obtain ⟨H, hH⟩ : ∃ H, H = s.size / 2 := ⟨_, rfl⟩
    have i0 : ((s.size : Int) % 2 != 0) = false := by simp; omega
    have i1 : (s.size : Int) / 2 = (H : Int) := by omega
    obtain ⟨wm, hmk, hg0, hbm⟩ := make_u8n w H (by omega)
    have hz : rowF H (unB s.data.toList 0) = List.replicate H (.int .u8 0) := by
      refine (rowF_ext (by simp) fun j hj => ?_).symm
      rw [List.getElem?_replicate, if_pos hj]
      rfl
    have hHs : 2 * H = s.size := by omega
    have HSL := Lib.hid hsl
    have HH := Lib.hid hHs
    have HG0 := Lib.hid hg0
    have HZ := Lib.hid hz
    have HBM := Lib.hid hbm
    clear hsl hH hg0 hz hbm hpar hHs
    go_enter Tryd.func10, Tryd.ntmps10
    go_wp2
    go_loopw [18] (fun i wr => ∃ k : Nat, k ≤ H ∧ i = .int .i64 k ∧ wr.heap[w.heap.size]? = some (.cells (rowF H (unB s.data.toList k)).toArray 5) ∧ Below w.heap.size w wr ∧ Hid (∀ j, j < 2 * k → 0 ≤ Md5.half (s.data.toList.getD j 0))) (fun i _ => H - (intOf i).toNat)
    case atStart => exact ⟨0, by omega, rfl, by rw [HZ.out]; exact HG0.out, HBM.out, fun j hj => by omega⟩
    case round =>
      obtain ⟨k, hk, rfl, hg, hb, hgood⟩ := hrel
      by_cases hlt : k < H
      · obtain ⟨p, hp⟩ : ∃ p, p = 2 * k := ⟨_, rfl⟩
        have j1 : 2 * (k : Int) = (p : Int) := by omega
        have j2 : p < s.size := by have := HH.out; omega
        have j3 : p + 1 < s.size := by have := HH.out; omega
        have d1 := byte_at s p j2
        have d2 := byte_at s (p + 1) j3
        have e1 : wr.cell? ⟨w.heap.size, k, none⟩ = some (.int .u8 ((unB s.data.toList k k).toNat : Int)) := (cell_of_row _ _ _ _ _ _ hg).trans (rowF_at hlt)
        have f1 : wr.frozen? ⟨w.heap.size, k, none⟩ = false := frozen_of_row _ _ _ _ _ hg
        have hdec : decB s.data.toList k = UInt8.ofNat ((Md5.half (s[p]'j2)).toNat * 16 + (Md5.half (s[p + 1]'j3)).toNat) := by rw [d1, d2, decB, hp]
        have HG := Lib.hid hg
        have HB := Lib.hid hb
        have HP := Lib.hid hp
        have HDEC := Lib.hid hdec
        have D1 := Lib.hid d1
        have D2 := Lib.hid d2
        clear hg hb hp hdec d1 d2
        obtain ⟨x, hx⟩ : ∃ x, x = Md5.half (s[p]'j2) := ⟨_, rfl⟩
        obtain ⟨y, hy⟩ : ∃ y, y = Md5.half (s[p + 1]'j3) := ⟨_, rfl⟩
        have bx := Md5.half_small (s[p]'j2)
        have b2 := Md5.half_small (s[p + 1]'j3)
        rw [← hx] at bx
        rw [← hy] at b2
        have HX := Lib.hid hx
        have HY := Lib.hid hy
        clear hx hy
        go_wp2_with fail
        refine (Tryd.strings_IndexByte _ _ _).mono ?_
        rintro e w' ⟨rfl, rfl⟩
        rw [index_half, ← HX.out]
        go_wp2_with fail
        refine (Tryd.strings_IndexByte _ _ _).mono ?_
        rintro e w' ⟨rfl, rfl⟩
        rw [index_half, ← HY.out]
        by_cases hx0 : x < 0
        · have hbad := bad_letter (s := s.data.toList) (j := p) (by rw [← HSL.out]; exact j2) (by rw [← D1.out, ← HX.out]; exact hx0)
          have HBAD := Lib.hid hbad
          clear hbad
          go_wp2
          go_ret2
          exact Or.inr ⟨HBAD.out, rfl, HB.out⟩
        by_cases hy0 : y < 0
        · have hbad := bad_letter (s := s.data.toList) (j := p + 1) (by rw [← HSL.out]; exact j3) (by rw [← D2.out, ← HY.out]; exact hy0)
          have HBAD := Lib.hid hbad
          clear hbad
          go_wp2
          go_ret2
          exact Or.inr ⟨HBAD.out, rfl, HB.out⟩
        have hor : bits BinOp.or IntKind.i64 (x * 16) y = x * 16 + y := or_i64 4 (by omega) (by omega) (by omega) (by omega) (by omega) (by omega)
        go_wp2
        go_roundw
        case rel =>
          refine ⟨k + 1, by omega, by go_num, ?_, HB.out.setCell (Nat.le_refl _) _, ?_⟩
          · refine (setCell_row HG.out).trans ?_
            rw [rowF_set (g := unB s.data.toList (k + 1)) hlt (fun j hj => by unfold unB; by_cases hjk : j < k; { rw [if_pos hjk, if_pos (by omega)] }; { rw [if_neg hjk, if_neg (by omega)] })]
            unfold unB
            rw [if_pos (by omega), HDEC.out, ← HX.out, ← HY.out]
            refine congrArg (Value.int .u8) ?_
            rw [UInt8.toNat_ofNat']
            omega
          · intro j hj
            by_cases hj2 : j < 2 * k
            · exact hgood.out j hj2
            · have hp := HP.out
              rcases (by omega : j = p ∨ j = p + 1) with rfl | rfl
              · rw [← D1.out, ← HX.out]; omega
              · rw [← D2.out, ← HY.out]; omega
        case measure => simp [intOf]; omega
      · obtain rfl : k = H := by omega
        have hrd := rowF_rd (l := (List.range k).map (decB s.data.toList)) hg (by omega) (List.map_congr_left fun j hj => by
          have hj : j < k := by simpa using hj
          unfold unB; rw [if_pos hj])
        have hdec := decB_all (s := s.data.toList) (n := k) (by rw [← HSL.out]; exact HH.out.symm) hgood.out
        have HRD := Lib.hid hrd
        have HDEC := Lib.hid hdec
        have HB := Lib.hid hb
        clear hrd hdec hg hb hmk
        go_wp2
        go_ret2
        exact Or.inl ⟨_, _, HDEC.out, rfl, HRD.out, HB.out⟩
  · have i0 : ((s.size : Int) % 2 != 0) = true := by simp; omega
    have hno := Md5.hex_odd (s := s.data.toList) (by omega)
    have HNO := Lib.hid hno
    clear hno hsl
    go_enter Tryd.func10, Tryd.ntmps10
    go_wp2
    go_ret2
    exact Or.inr ⟨HNO.out, rfl, Below.refl _ _⟩
end Go.Proofs.YtnbgafcfildhaaaDoor
