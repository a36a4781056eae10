/- strings.IndexRune of a rune beyond 127, in the ten digits. -/
import Derived.Test.YtonophhhndhhhaaDoorTenB
namespace Go.Proofs.YtonophhhndhhhaaDoor
open Go.RowKit

set_option maxHeartbeats 8000000 in
set_option maxRecDepth 1000000 in
theorem rune_long1 (r : Nat) (h128 : 128 ≤ r) (hr0 : r ≠ 65533) (hvr : Lib.validRune (r : Int) = true) (C E : ByteArray) (hC : C = ten) (hE : Utf8.encode (r : Int) = E) (g3 : C.size = 10) (h2 : E.size = 2) (hlt1 : 1 < C.size) (hlt2 : 1 < E.size) (c : Nat) (k1 : (C[1]'hlt1).toNat < 128) (k0 : (E[1]'hlt2).toNat = c) (k2 : 128 ≤ c) (w : World) :
    Calls Tryd.prog 30 #[.string C, .int .i32 (r : Int)] w fun e w' => e = .returned (.int .i64 (-1)) ∧ Below w.heap.size w w' := by
  have h0 : (0 : Int) ≤ (r : Int) := Int.natCast_nonneg _
  have hlt : ¬ ((r : Int) < 128) := by omega
  have hq1 : ((r : Int) == 65533) = false := by simp; omega
  have HR0 := Lib.hid hr0
  have hc256 : c < 256 := by rw [← k0]; exact UInt8.toNat_lt _
  have hne : (((C[1]'hlt1).toNat : Int) != (c : Int)) = true := by simp; omega
  have i1 : IntKind.i64.wrap 2 = 2 := by decide
  have IB := Lib.hid (fun (wx : World) (i : Nat) => show Calls Tryd.prog 45 #[.string (C.extract i 10), .int .u8 (c : Int)] wx fun e w' => e = .returned (.int .i64 (-1)) ∧ w' = wx by rw [hC]; exact ten_none i c (by omega) (by omega) wx)
  clear hr0 hC
  go_enter Tryd.func30, Tryd.ntmps30
  go_wp2_with (first | (go_at_call 46; refine (Tryd.utf8_ValidRune _ _).mono ?_; rintro e w' ⟨rfl, hw⟩; rw [hw, hvr]))
  refine wp_scope_many (fun _ _ _ => False) (fun _ _ _ => 0) (fun _ _ _ h => h.elim) (fun _ => ?_)
  go_wp2
  refine wp_loop_rounds 1 ?_
  rw [rounds_succ]
  go_wp2_with fail
  refine wp_scope_many (fun _ _ _ => False) (fun _ _ _ => 0) (fun _ _ _ h => h.elim) (fun _ => ?_)
  go_wp2_with fail
  go_quiet (fail)
  have HB := Lib.hid (below_drewN (Below.refl w.heap.size w) nq)
  generalize w.drewN nq = w1 at *
  go_wp2_with fail
  refine wp_region_quiet_lit (by kernel_rfl) (by kernel_rfl) ?_
  repeat (quiet_step (exact Calls.quiet_of_same (IB.out _ _)))
  refine wpQuiet_nil ?_
  rintro _ ⟨nq, rfl⟩
  go_wp2
  rw [jumps_ret]
  simp only [Exit.inBlock, Exit.then]
  change jumps (fun _ _ _ => False) _ Exit.ret _ _
  rw [jumps_ret]
  go_ret
  exact ⟨rfl, below_drewN HB.out _⟩

set_option maxHeartbeats 8000000 in
set_option maxRecDepth 1000000 in
theorem rune_long2 (r : Nat) (h128 : 128 ≤ r) (hr0 : r ≠ 65533) (hvr : Lib.validRune (r : Int) = true) (C E : ByteArray) (hC : C = ten) (hE : Utf8.encode (r : Int) = E) (g3 : C.size = 10) (h2 : E.size = 3) (hlt1 : 2 < C.size) (hlt2 : 2 < E.size) (c : Nat) (k1 : (C[2]'hlt1).toNat < 128) (k0 : (E[2]'hlt2).toNat = c) (k2 : 128 ≤ c) (w : World) :
    Calls Tryd.prog 30 #[.string C, .int .i32 (r : Int)] w fun e w' => e = .returned (.int .i64 (-1)) ∧ Below w.heap.size w w' := by
  have h0 : (0 : Int) ≤ (r : Int) := Int.natCast_nonneg _
  have hlt : ¬ ((r : Int) < 128) := by omega
  have hq1 : ((r : Int) == 65533) = false := by simp; omega
  have HR0 := Lib.hid hr0
  have hc256 : c < 256 := by rw [← k0]; exact UInt8.toNat_lt _
  have hne : (((C[2]'hlt1).toNat : Int) != (c : Int)) = true := by simp; omega
  have i1 : IntKind.i64.wrap 3 = 3 := by decide
  have IB := Lib.hid (fun (wx : World) (i : Nat) => show Calls Tryd.prog 45 #[.string (C.extract i 10), .int .u8 (c : Int)] wx fun e w' => e = .returned (.int .i64 (-1)) ∧ w' = wx by rw [hC]; exact ten_none i c (by omega) (by omega) wx)
  clear hr0 hC
  go_enter Tryd.func30, Tryd.ntmps30
  go_wp2_with (first | (go_at_call 46; refine (Tryd.utf8_ValidRune _ _).mono ?_; rintro e w' ⟨rfl, hw⟩; rw [hw, hvr]))
  refine wp_scope_many (fun _ _ _ => False) (fun _ _ _ => 0) (fun _ _ _ h => h.elim) (fun _ => ?_)
  go_wp2
  refine wp_loop_rounds 1 ?_
  rw [rounds_succ]
  go_wp2_with fail
  refine wp_scope_many (fun _ _ _ => False) (fun _ _ _ => 0) (fun _ _ _ h => h.elim) (fun _ => ?_)
  go_wp2_with fail
  go_quiet (fail)
  have HB := Lib.hid (below_drewN (Below.refl w.heap.size w) nq)
  generalize w.drewN nq = w1 at *
  go_wp2_with fail
  refine wp_region_quiet_lit (by kernel_rfl) (by kernel_rfl) ?_
  repeat (quiet_step (exact Calls.quiet_of_same (IB.out _ _)))
  refine wpQuiet_nil ?_
  rintro _ ⟨nq, rfl⟩
  go_wp2
  rw [jumps_ret]
  simp only [Exit.inBlock, Exit.then]
  change jumps (fun _ _ _ => False) _ Exit.ret _ _
  rw [jumps_ret]
  go_ret
  exact ⟨rfl, below_drewN HB.out _⟩

set_option maxHeartbeats 8000000 in
set_option maxRecDepth 1000000 in
theorem rune_long3 (r : Nat) (h128 : 128 ≤ r) (hr0 : r ≠ 65533) (hvr : Lib.validRune (r : Int) = true) (C E : ByteArray) (hC : C = ten) (hE : Utf8.encode (r : Int) = E) (g3 : C.size = 10) (h2 : E.size = 4) (hlt1 : 3 < C.size) (hlt2 : 3 < E.size) (c : Nat) (k1 : (C[3]'hlt1).toNat < 128) (k0 : (E[3]'hlt2).toNat = c) (k2 : 128 ≤ c) (w : World) :
    Calls Tryd.prog 30 #[.string C, .int .i32 (r : Int)] w fun e w' => e = .returned (.int .i64 (-1)) ∧ Below w.heap.size w w' := by
  have h0 : (0 : Int) ≤ (r : Int) := Int.natCast_nonneg _
  have hlt : ¬ ((r : Int) < 128) := by omega
  have hq1 : ((r : Int) == 65533) = false := by simp; omega
  have HR0 := Lib.hid hr0
  have hc256 : c < 256 := by rw [← k0]; exact UInt8.toNat_lt _
  have hne : (((C[3]'hlt1).toNat : Int) != (c : Int)) = true := by simp; omega
  have i1 : IntKind.i64.wrap 4 = 4 := by decide
  have IB := Lib.hid (fun (wx : World) (i : Nat) => show Calls Tryd.prog 45 #[.string (C.extract i 10), .int .u8 (c : Int)] wx fun e w' => e = .returned (.int .i64 (-1)) ∧ w' = wx by rw [hC]; exact ten_none i c (by omega) (by omega) wx)
  clear hr0 hC
  go_enter Tryd.func30, Tryd.ntmps30
  go_wp2_with (first | (go_at_call 46; refine (Tryd.utf8_ValidRune _ _).mono ?_; rintro e w' ⟨rfl, hw⟩; rw [hw, hvr]))
  refine wp_scope_many (fun _ _ _ => False) (fun _ _ _ => 0) (fun _ _ _ h => h.elim) (fun _ => ?_)
  go_wp2
  refine wp_loop_rounds 1 ?_
  rw [rounds_succ]
  go_wp2_with fail
  refine wp_scope_many (fun _ _ _ => False) (fun _ _ _ => 0) (fun _ _ _ h => h.elim) (fun _ => ?_)
  go_wp2_with fail
  go_quiet (fail)
  have HB := Lib.hid (below_drewN (Below.refl w.heap.size w) nq)
  generalize w.drewN nq = w1 at *
  go_wp2_with fail
  refine wp_region_quiet_lit (by kernel_rfl) (by kernel_rfl) ?_
  repeat (quiet_step (exact Calls.quiet_of_same (IB.out _ _)))
  refine wpQuiet_nil ?_
  rintro _ ⟨nq, rfl⟩
  go_wp2
  rw [jumps_ret]
  simp only [Exit.inBlock, Exit.then]
  change jumps (fun _ _ _ => False) _ Exit.ret _ _
  rw [jumps_ret]
  go_ret
  exact ⟨rfl, below_drewN HB.out _⟩

theorem rune_high (r : Nat) (h128 : 128 ≤ r) (hbig : r ≤ 1114111) (hv : r ≠ 65533 → Utf8.valid (r : Int) = true) (w : World) :
    Calls Tryd.prog 30 #[.string ten, .int .i32 (r : Int)] w fun e w' => e = .returned (.int .i64 (-1)) ∧ Below w.heap.size w w' := by
  by_cases hr0 : r = 65533
  · rw [hr0]; exact rune_bad ten rfl w
  · have hvr : Lib.validRune (r : Int) = true := by
      have := hv hr0
      rw [validRune_eq, Go.validRune, decide_eq_true_eq] at this
      unfold Lib.validRune
      exact decide_eq_true (by omega)
    obtain ⟨hs2, hs4, hlast⟩ := encode_facts (r : Int) (hv hr0) (by omega)
    obtain ⟨E, hE⟩ : ∃ E, Utf8.encode (r : Int) = E := ⟨_, rfl⟩
    rw [hE] at hs2 hs4
    have hl : ∀ m (h : m < E.size), E.size = m + 1 → 128 ≤ (E[m]'h).toNat := by
      intro m h h2
      have := hlast (by rw [hE]; omega)
      simp only [hE, h2, Nat.add_sub_cancel] at this
      exact this
    clear hlast
    obtain ⟨C, hC⟩ : ∃ C, C = ten := ⟨_, rfl⟩
    have hC10 : C.size = 10 := by rw [hC]; rfl
    have k : ∀ m (h : m < C.size), (C[m]'h).toNat < 128 := fun m h => by subst hC; exact ten_low _ (Array.getElem_mem_toList h)
    rw [← hC]
    rcases (show E.size = 2 ∨ E.size = 3 ∨ E.size = 4 by omega) with h | h | h
    · exact rune_long1 r h128 hr0 hvr C E hC hE hC10 h (by omega) (by omega) _ (k _ _) rfl (hl 1 _ h) w
    · exact rune_long2 r h128 hr0 hvr C E hC hE hC10 h (by omega) (by omega) _ (k _ _) rfl (hl 2 _ h) w
    · exact rune_long3 r h128 hr0 hvr C E hC hE hC10 h (by omega) (by omega) _ (k _ _) rfl (hl 3 _ h) w
end Go.Proofs.YtonophhhndhhhaaDoor
