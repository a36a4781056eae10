/- b64.bytesOf walked. -/
import Derived.Test.YtjogdflhpciciaaDoorB64Walk
namespace Go.Proofs.YtjogdflhpciciaaDoor
open Go.RowKit

/-- What the first k letters say. -/
def acc (c0 c1 c2 c3 : UInt8) : Nat → Nat
  | 0 => 0
  | 1 => B64.val c0
  | 2 => B64.val c0 * 64 + B64.val c1
  | 3 => (B64.val c0 * 64 + B64.val c1) * 64 + B64.val c2
  | _ => B64.rowV c0 c1 c2 c3
def nth (c0 c1 c2 c3 : UInt8) (k : Nat) : UInt8 := [c0, c1, c2, c3].getD k 0
theorem acc_step (c0 c1 c2 c3 : UInt8) {k : Nat} (h : k < 4) : acc c0 c1 c2 c3 (k + 1) = acc c0 c1 c2 c3 k * 64 + B64.val (nth c0 c1 c2 c3 k) ∧ acc c0 c1 c2 c3 k < 262144 := by
  have h0 := B64.val_small c0; have h1 := B64.val_small c1; have h2 := B64.val_small c2; have h3 := B64.val_small c3
  match k, h with
  | 0, _ => exact ⟨by simp [acc, nth], by simp [acc]⟩
  | 1, _ => exact ⟨by simp [acc, nth], by simp only [acc]; omega⟩
  | 2, _ => exact ⟨by simp [acc, nth], by simp only [acc]; omega⟩
  | 3, _ => exact ⟨by simp [acc, nth, B64.rowV], by simp only [acc]; omega⟩

theorem index4 (c0 c1 c2 c3 : UInt8) {k : Nat} (h : k < 4) (w : World) : (Instr.index 39 (.agg #[.int .u8 (c0.toNat : Int), .int .u8 (c1.toNat : Int), .int .u8 (c2.toNat : Int), .int .u8 (c3.toNat : Int)]) (.int .i64 (k : Int))).run Tryd.prog w = .ok (.int .u8 ((nth c0 c1 c2 c3 k).toNat : Int)) w := by
  match k, h with
  | 0, _ => simp [Instr.index, run_underlying Tryd.underlying39, asIntOf, go_sem, nth]
  | 1, _ => simp [Instr.index, run_underlying Tryd.underlying39, asIntOf, go_sem, nth]
  | 2, _ => simp [Instr.index, run_underlying Tryd.underlying39, asIntOf, go_sem, nth]
  | 3, _ => simp [Instr.index, run_underlying Tryd.underlying39, asIntOf, go_sem, nth]

theorem toNat_ofNat (n : Nat) : ((UInt8.ofNat n).toNat : Int) = (n : Int) % 256 := by rw [UInt8.toNat_ofNat']; simp
theorem cnt_3 {c2 c3 : UInt8} (h : ((c3.toNat : Int) != 61) = true) : B64.cnt c2 c3 = 3 := by
  have : c3 ≠ 61 := fun e => by subst e; simp at h
  simp [B64.cnt, this]
theorem cnt_2 {c2 c3 : UInt8} (h3 : ((c3.toNat : Int) != 61) = false) (h : ((c2.toNat : Int) != 61) = true) : B64.cnt c2 c3 = 2 := by
  have e : c3 = 61 := by rw [← UInt8.toNat_inj]; simp at h3; show c3.toNat = 61; omega
  have : c2 ≠ 61 := fun e => by subst e; simp at h
  simp [B64.cnt, this, e]
theorem cnt_1 {c2 c3 : UInt8} (h3 : ((c3.toNat : Int) != 61) = false) (h : ((c2.toNat : Int) != 61) = false) : B64.cnt c2 c3 = 1 := by
  have e : c3 = 61 := by rw [← UInt8.toNat_inj]; simp at h3; show c3.toNat = 61; omega
  have e2 : c2 = 61 := by rw [← UInt8.toNat_inj]; simp at h; show c2.toNat = 61; omega
  simp [B64.cnt, e, e2]

theorem bytesOf_any (c0 c1 c2 c3 : UInt8) (w : World) :
    Calls Tryd.prog 31 #[.agg #[bv c0, bv c1, bv c2, bv c3]] w fun e w' =>
      e = .returned (.tuple #[.agg #[bv (UInt8.ofNat (B64.rowV c0 c1 c2 c3 / 65536)), bv (UInt8.ofNat (B64.rowV c0 c1 c2 c3 / 256)), bv (UInt8.ofNat (B64.rowV c0 c1 c2 c3))], .int .i64 (B64.cnt c2 c3)]) ∧ Below w.heap.size w w' := by
  have hr : acc c0 c1 c2 c3 4 = B64.rowV c0 c1 c2 c3 := rfl
  have hR := B64.rowV_small c0 c1 c2 c3
  generalize B64.rowV c0 c1 c2 c3 = row at hr hR ⊢
  have HR := Lib.hid hr
  clear hr
  have e0 : bv (UInt8.ofNat (row / 65536)) = .int .u8 ((row : Int) / 65536) := by rw [bv, toNat_ofNat]; congr 1; omega
  have e1 : bv (UInt8.ofNat (row / 256)) = .int .u8 ((row : Int) / 256 % 256) := by rw [bv, toNat_ofNat]; congr 1
  have e2 : bv (UInt8.ofNat row) = .int .u8 ((row : Int) % 256) := by rw [bv, toNat_ofNat]
  rw [e0, e1, e2]
  clear e0 e1 e2
  unfold bv
  have HI := Lib.hid (fun (k : Nat) (h : k < 4) w => index4 c0 c1 c2 c3 h w)
  have b2 := c2.toNat_lt
  have b3 := c3.toNat_lt
  go_enter Tryd.func31, Tryd.ntmps31
  go_wp2
  go_loopw [9, 4] (fun i r wr => ∃ k : Nat, k ≤ 4 ∧ i = .int .i64 k ∧ r = .int .i64 (acc c0 c1 c2 c3 k) ∧ wr = (w.alloc (.cells #[.int .u8 (c0.toNat : Int), .int .u8 (c1.toNat : Int), .int .u8 (c2.toNat : Int), .int .u8 (c3.toNat : Int)] 39)).alloc (.cells #[.int .u8 0, .int .u8 0, .int .u8 0] 40)) (fun i _ _ => 4 - (intOf i).toNat)
  case atStart => exact ⟨0, Nat.zero_le _, rfl, rfl, rfl⟩
  case round =>
    obtain ⟨k, hk, rfl, rfl, rfl⟩ := hrel
    by_cases hlt : k < 4
    · obtain ⟨hst, hsm⟩ := acc_step c0 c1 c2 c3 hlt
      have hv := B64.val_small (nth c0 c1 c2 c3 k)
      have hor : bits BinOp.or IntKind.i64 ((acc c0 c1 c2 c3 k : Int) * 64) (B64.val (nth c0 c1 c2 c3 k) : Int) = ((acc c0 c1 c2 c3 (k + 1) : Nat) : Int) :=
        (or_i64 6 (by omega) (by omega) (by omega) (by omega) (by omega) (by omega)).trans (by rw [hst]; omega)
      have hix := HI.out k hlt
      clear hst
      go_wp2_with fail
      refine (valueOf_any (nth c0 c1 c2 c3 k) _).mono ?_
      rintro e w' ⟨rfl, rfl⟩
      go_wp2
      go_roundw
      case rel => exact ⟨k + 1, by omega, by go_num, by simp⟩
      case measure => simp [intOf]; omega
    · obtain rfl : k = 4 := by omega
      rw [HR.out]
      go_wp2
      · refine bodyPost_ret (v := .tuple #[.agg #[.int .u8 ((row : Int) / 65536), .int .u8 ((row : Int) / 256 % 256), .int .u8 ((row : Int) % 256)], .int .i64 3]) (by simp [results, Tryd.results31, go_sem]) rfl ⟨by rw [cnt_3 ‹((c3.toNat : Int) != 61) = true›]; rfl, ?_⟩
        exact (((Below.refl _ _).alloc (Nat.le_refl _) _).alloc (by simp) _).alloc (by simp; omega) _
      · refine bodyPost_ret (v := .tuple #[.agg #[.int .u8 ((row : Int) / 65536), .int .u8 ((row : Int) / 256 % 256), .int .u8 ((row : Int) % 256)], .int .i64 2]) (by simp [results, Tryd.results31, go_sem]) rfl ⟨by rw [cnt_2 ‹((c3.toNat : Int) != 61) = false› ‹((c2.toNat : Int) != 61) = true›]; rfl, ?_⟩
        exact (((Below.refl _ _).alloc (Nat.le_refl _) _).alloc (by simp) _).alloc (by simp; omega) _
      · refine bodyPost_ret (v := .tuple #[.agg #[.int .u8 ((row : Int) / 65536), .int .u8 ((row : Int) / 256 % 256), .int .u8 ((row : Int) % 256)], .int .i64 1]) (by simp [results, Tryd.results31, go_sem]) rfl ⟨by rw [cnt_1 ‹((c3.toNat : Int) != 61) = false› ‹((c2.toNat : Int) != 61) = false›]; rfl, ?_⟩
        exact (((Below.refl _ _).alloc (Nat.le_refl _) _).alloc (by simp) _).alloc (by simp; omega) _
end Go.Proofs.YtjogdflhpciciaaDoor
