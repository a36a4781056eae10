/- strings.IndexRune of a rune of two bytes, in a text of two. -/
import Derived.Test.YtagedockmlbebaaDoorIndexB
import Derived.Test.YtagedockmlbebaaDoorShelf
import Derived.Lib.OthersKept
import Derived.Test.YtagedockmlbebaaDoorScope
import Derived.BigQuiet
import Derived.Deep.QuietTactic
namespace Go.Proofs.YtagedockmlbebaaDoor
open Go.RowKit

theorem indexByte_none (D : ByteArray) (hD : D.size = 0) (c : Int) (w : World) : Calls Tryd.prog 43 #[.string D, .int .u8 c] w fun e w' => e = .returned (.int .i64 (-1)) ∧ w' = w := by
  have e : D.data.toList = [] := List.eq_nil_of_length_eq_zero (hD)
  refine (Tryd.strings_IndexByte D c w).mono ?_
  rintro e' w' ⟨rfl, rfl⟩
  rw [e]
  exact ⟨rfl, rfl⟩

set_option maxHeartbeats 8000000 in
set_option maxRecDepth 1000000 in
/-- 'strings.IndexRune' of a rune of two bytes. -/
theorem rune_two (r : Nat) (h128 : 128 ≤ r) (hr0 : r ≠ 65533) (hvr : Lib.validRune (r : Int) = true) (C E : ByteArray) (hE : Utf8.encode (r : Int) = E) (g3 : C.size = 2) (h2 : E.size = 2) (hlt1 : 1 < C.size) (hlt2 : 1 < E.size) (k1 : (C[1]'hlt1).toNat = 10) (k2 : 128 ≤ (E[1]'hlt2).toNat) (w : World) :
    Calls Tryd.prog 33 #[.string C, .int .i32 (r : Int)] w fun e w' => e = .returned (.int .i64 (-1)) ∧ Below w.heap.size w w' := by
  have h0 : (0 : Int) ≤ (r : Int) := Int.natCast_nonneg _
  have hlt : ¬ ((r : Int) < 128) := by omega
  have hq1 : ((r : Int) == 65533) = false := by simp; omega
  have HR0 := Lib.hid hr0
  have hne : (((C[1]'hlt1).toNat : Int) != ((E[1]'hlt2).toNat : Int)) = true := by simp; omega
  have IB := Lib.hid (fun (wx : World) (c : Int) => indexByte_none ByteArray.empty rfl c wx)
  have i1 : IntKind.i64.wrap 2 = 2 := by decide
  clear hr0
  go_enter Tryd.func33, Tryd.ntmps33
  go_wp2_with (first | (go_at_call 38; refine (Tryd.utf8_ValidRune _ _).mono ?_; rintro e w' ⟨rfl, hw⟩; rw [hw, hvr]))
  refine wp_scope_many (fun _ _ _ => False) (fun _ _ _ => 0) (fun _ _ _ h => h.elim) (fun _ => ?_)
  go_wp2
  refine wp_loop_rounds 1 ?_
  rw [rounds_succ]
  go_wp2_with fail
  refine wp_scope_many (fun _ _ _ => False) (fun _ _ _ => 0) (fun _ _ _ h => h.elim) (fun _ => ?_)
  go_wp2_with fail
  go_quiet (fail)
  have HB := Lib.hid (below_drewN (Below.refl w.heap.size w) nq)
  generalize w.drewN nq = w1 at *
  go_wp2_with fail
  refine wp_region_quiet_lit (by kernel_rfl) (by kernel_rfl) ?_
  repeat (quiet_step (exact Calls.quiet_of_same (IB.out _ _)))
  refine wpQuiet_nil ?_
  rintro _ ⟨nq, rfl⟩
  go_wp2
  rw [jumps_ret]
  simp only [Exit.inBlock, Exit.then]
  change jumps (fun _ _ _ => False) _ Exit.ret _ _
  rw [jumps_ret]
  go_ret
  exact ⟨rfl, below_drewN HB.out _⟩
end Go.Proofs.YtagedockmlbebaaDoor
