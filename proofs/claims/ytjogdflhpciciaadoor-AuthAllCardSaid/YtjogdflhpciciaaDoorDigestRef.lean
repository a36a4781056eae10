/- The reference of layer 3: padded, sines walked. -/
import Derived.Test.YtjogdflhpciciaaDoorDigestSum
namespace Go.Proofs.YtjogdflhpciciaaDoor
open Go.RowKit

namespace Md5
def bit1 (n i : Nat) : UInt8 := UInt8.ofNat (n * 8 % 18446744073709551616 / 2 ^ (8 * i))
def bitsTo (n i : Nat) : List UInt8 := (List.range i).map (bit1 n)
theorem bitsTo_all (n : Nat) : bitsTo n 8 = bitsOf n := rfl
theorem bitsTo_step (n i : Nat) : bitsTo n (i + 1) = bitsTo n i ++ [bit1 n i] := by
  rw [bitsTo, List.range_succ, List.map_append]
  rfl
theorem bitsTo_len (n i : Nat) : (bitsTo n i).length = i := by simp [bitsTo]
theorem zeros_end {n z : Nat} (h : z ≤ zeros n) (h2 : (n + 1 + z) % 64 = 56) : z = zeros n := by unfold zeros at *; omega
theorem zeros_not {n z : Nat} (h : z ≤ zeros n) (h2 : (n + 1 + z) % 64 ≠ 56) : z < zeros n := by unfold zeros at *; omega
theorem zeros_lt (n : Nat) : zeros n < 64 := Nat.mod_lt _ (by decide)
end Md5

theorem padded_any (v : Value) (xs : List UInt8) (w : World) (h : Rd w v (xs.map bv)) (hs : xs.length ≤ 1048576) :
    Calls Tryd.prog 42 #[v] w fun e w' => ∃ v', e = .returned v' ∧ Rd w' v' ((Md5.padded xs).map bv) ∧ Below w.heap.size w w' := by
  obtain ⟨ao, cap, rfl, hcap, _⟩ := h.form
  obtain ⟨L, hL⟩ : ∃ L, L = xs.length := ⟨_, rfl⟩
  rw [← hL] at hs hcap h ⊢
  have HL := Lib.hid hL
  clear hL
  have hbn : Below w.heap.size w (w.alloc (.cells #[] 5)) := (Below.refl _ _).alloc (Nat.le_refl _) _
  have hrn := h.below hbn
  have hz64 := Md5.zeros_lt L
  obtain ⟨Z, hZ⟩ : ∃ Z, Z = Md5.zeros L := ⟨_, rfl⟩
  rw [← hZ] at hz64
  have HZ := Lib.hid hZ
  clear h hZ
  go_enter Tryd.func42, Tryd.ntmps42
  go_wp2_with (at_builtin; refine append_u8s rfl (.tmp 6) (.tmp 7) rfl rfl (World.ownsRow_made (base := w.heap.size) w #[] 0 (Nat.le_refl _) (Nat.zero_le _) rfl) (xs.map bv) hrn (bv_cell _) ?ca ?cb ?_)
  case ca => rw [List.length_map, ← HL.out]; omega
  case cb => simp
  intro v4 w4 hown4 hg4
  have hb4 : Below w.heap.size w w4 := hbn.grown hg4 (by simp) (fun k hk => by cases hk; exact Nat.le_refl _)
  rw [← HL.out] at hown4
  have hown4 : w4.ownsRow w.heap.size 5 1 v4 L (xs.map bv) := hown4
  clear hg4 hrn hbn
  go_wp2_with (at_builtin; refine append_u8s rfl (.tmp 8) (.tmp 9) rfl rfl (hown4.alloc _) ([(128 : UInt8)].map bv) (Rd.made w4 [128] _ _ 1 rfl (by decide)) (bv_cell _) ?ca ?cb ?_)
  case ca => simp; omega
  case cb => have := hb4.size; simp; omega
  intro v5 w5 hown5 hg5
  have hb5 : Below w.heap.size w w5 := (hb4.alloc hb4.size _).grown hg5 (by have := hb4.size; simp; omega) (fun k hk => (hown4.lt k hk).1)
  have hown5 : w5.ownsRow w.heap.size 5 1 v5 (L + 1) ((xs ++ [128]).map bv) := by simpa using hown5
  have HO := Lib.hid hown5
  clear hg5 hown4 hown5 hb4
  go_wp2
  go_loopw [3] (fun o wr => ∃ z : Nat, z ≤ Z ∧ Hid (wr.ownsRow w.heap.size 5 1 o (L + 1 + z) ((xs ++ [128] ++ List.replicate z 0).map bv)) ∧ Below w.heap.size w wr) (fun o _ => match o with | .slice _ n _ => L + 100 - n | _ => 0)
  case atStart => exact ⟨0, by omega, Lib.hid (by simpa using HO.out), hb5⟩
  case round =>
    obtain ⟨z, hz, ho, hb⟩ := hrel
    clear hb5
    obtain ⟨g, cp, rfl, hgl, _, hcp, _⟩ := own_pos ho.out (by omega)
    by_cases hm : (L + 1 + z) % 64 = 56
    · have hq : (((L : Int) + 1 + (z : Int)) % 64 != 56) = false := by simp; omega
      have hzz := Md5.zeros_end (n := L) (z := z) (by rw [← HZ.out]; exact hz) hm
      have HZZ := Lib.hid hzz
      clear hm hzz
      go_wp2
      go_loopw [3, 5] (fun o i wr2 => ∃ k : Nat, k ≤ 8 ∧ i = .int .i64 k ∧ Hid (wr2.ownsRow w.heap.size 5 1 o (L + 1 + z + k) ((xs ++ [128] ++ List.replicate z 0 ++ Md5.bitsTo L k).map bv)) ∧ Below w.heap.size w wr2) (fun _ i _ => 8 - (intOf i).toNat)
      case atStart => exact ⟨0, by omega, rfl, Lib.hid (by simpa [Md5.bitsTo] using ho.out), hb⟩
      case round =>
        obtain ⟨k, hk, rfl, ho2, hb2⟩ := hrel
        obtain ⟨g3, c3, rfl, _, _, hc3, _⟩ := own_pos ho2.out (by omega)
        by_cases hlt : k < 8
        · have i2 : (8 * (k : Int)).toNat = 8 * k := by omega
          have hbit : ((L : Int) * 8 / 2 ^ (8 * k) % 256) = ((Md5.bit1 L k).toNat : Int) := by
            rw [Md5.bit1, show L * 8 % 18446744073709551616 = L * 8 by omega, ← shr_u64]
            simp
          have hrd := Rd.made wr [Md5.bit1 L k] 5 (0, 0) 1 rfl (by decide)
          have hrd : Rd (wr.alloc (.cells #[.int .u8 ((Md5.bit1 L k).toNat : Int)] 5)) (.slice (some ⟨wr.heap.size, 0, none⟩) 1 1) ([Md5.bit1 L k].map bv) := hrd
          have HBIT := Lib.hid (Md5.bitsTo_step L k)
          generalize Md5.bit1 L k = c at hbit hrd HBIT
          have HRD := Lib.hid hrd
          clear hrd
          go_wp2_with (at_builtin; refine append_u8s rfl (.tmp 26) (.tmp 32) rfl rfl (ho2.out.alloc _) ([c].map bv) HRD.out (bv_cell _) ?ca ?cb ?_)
          case ca => simp; omega
          case cb => have := hb2.size; simp; omega
          intro v7 w7 hown7 hg7
          have hb7 : Below w.heap.size w w7 := (hb2.alloc hb2.size _).grown hg7 (by have := hb2.size; simp; omega) (fun k hk => (ho2.out.lt k hk).1)
          have ho7 : Hid (w7.ownsRow w.heap.size 5 1 v7 (L + 1 + z + (k + 1)) ((xs ++ [128] ++ List.replicate z 0 ++ Md5.bitsTo L (k + 1)).map bv)) := Lib.hid (by
            rw [HBIT.out]
            simpa [Nat.add_assoc] using hown7)
          clear hg7 hown7
          go_wp2
          go_roundw
          case rel => exact ⟨k + 1, by omega, by go_num, ho7, hb7⟩
          case measure => simp [intOf]; omega
        · obtain rfl : k = 8 := by omega
          have hpad : xs ++ [128] ++ List.replicate z 0 ++ Md5.bitsTo L 8 = Md5.padded xs := by
            rw [Md5.bitsTo_all, HZZ.out, HL.out]
            rfl
          have hrd := Rd.of_own ho2.out
          rw [hpad] at hrd
          have HRD := Lib.hid hrd
          clear hrd hpad
          go_wp2
          go_ret
          exact ⟨_, rfl, HRD.out, hb2⟩
    · have hq : (((L : Int) + 1 + (z : Int)) % 64 != 56) = true := by simp; omega
      have hzz := Md5.zeros_not (n := L) (z := z) (by rw [← HZ.out]; exact hz) hm
      rw [← HZ.out] at hzz
      clear hm
      go_wp2_with (at_builtin; refine append_u8s rfl (.tmp 15) (.tmp 16) rfl rfl (ho.out.alloc _) ([(0 : UInt8)].map bv) (Rd.made wr [0] _ _ 1 rfl (by decide)) (bv_cell _) ?ca ?cb ?_)
      case ca => simp; omega
      case cb => have := hb.size; simp; omega
      intro v7 w7 hown7 hg7
      have hb7 : Below w.heap.size w w7 := (hb.alloc hb.size _).grown hg7 (by have := hb.size; simp; omega) (fun k hk => (ho.out.lt k hk).1)
      have ho7 : Hid (w7.ownsRow w.heap.size 5 1 v7 (L + 1 + (z + 1)) ((xs ++ [128] ++ List.replicate (z + 1) 0).map bv)) := Lib.hid (by
        rw [List.replicate_succ']
        simpa [Nat.add_assoc] using hown7)
      have hv7 : ∃ g7 c7, v7 = .slice (some ⟨g7, 0, none⟩) (L + 1 + (z + 1)) c7 := by
        obtain ⟨g7, c7, e, _⟩ := own_pos ho7.out (by omega)
        exact ⟨g7, c7, e⟩
      obtain ⟨g7, c7, rfl⟩ := hv7
      clear hg7 hown7
      go_wp2
      go_roundw
      case rel => exact ⟨z + 1, by omega, ho7, hb7⟩
      case measure => show L + 100 - (L + 1 + (z + 1)) < L + 100 - (L + 1 + z); omega
end Go.Proofs.YtjogdflhpciciaaDoor
