/- strings.IndexAny, strings.ContainsAny of the two letters of an end, whatever text. -/
import Derived.Test.YtagedockmlbebaaDoorIndexS2
namespace Go.Proofs.YtagedockmlbebaaDoor
open Go.RowKit

set_option maxHeartbeats 8000000 in
set_option maxRecDepth 1000000 in
/-- 'strings.IndexRune' of a rune beyond 127. -/
theorem rune_high (r : Nat) (h128 : 128 ≤ r) (hbig : r ≤ 1114111) (hv : r ≠ 65533 → Utf8.valid (r : Int) = true) (w : World) (C : ByteArray) (hC : C = crlf) :
    Calls Tryd.prog 33 #[.string C, .int .i32 (r : Int)] w fun e w' => e = .returned (.int .i64 (-1)) ∧ Below w.heap.size w w' := by
  have g3 : C.size = 2 := by rw [hC]; rfl
  have NX := Lib.hid (show ∀ (w : World) (i : Nat) (hi : i < 2), ∃ c : Nat, c < 128 ∧ ∀ ty, (Instr.next (.pointer (some ⟨w.heap.size, 0, none⟩)) true ty).run Tryd.prog (w.iter C i) = .ok (.tuple #[.bool true, .int .i64 i, .int .i32 (c : Int)]) (w.iter C (i + 1)) by rw [hC]; exact fun w i => next_crlf w)
  have NE := Lib.hid (show ∀ (w : World) ty, (Instr.next (.pointer (some ⟨w.heap.size, 0, none⟩)) true ty).run Tryd.prog (w.iter C 2) = .ok (.tuple #[.bool false]) (w.iter C 2) by rw [hC]; exact next_crlf_end)
  have g4 : ∀ h : 1 < C.size, (C[1]'h).toNat = 10 := by rw [hC]; intro h; rfl
  have h0 : (0 : Int) ≤ (r : Int) := Int.natCast_nonneg _
  have hlt : ¬ ((r : Int) < 128) := by omega
  by_cases hr0 : r = 65533
  · have hq1 : ((r : Int) == 65533) = true := by simp; omega
    have HR := Lib.hid hr0
    have HG3 := Lib.hid g3
    clear hr0 hC g3 g4 hv h128
    go_enter Tryd.func33, Tryd.ntmps33
    go_wp2
    go_loopg [5, 6] 2 (fun g _ _ wx => ∃ i : Nat, i + g = 2 ∧ wx = w.iter C i)
    case atStart => exact ⟨0, rfl, rfl⟩
    case round =>
      obtain ⟨i, hi, rfl⟩ := hrel
      cases gk with
      | zero =>
        obtain rfl : i = 2 := by omega
        have hnx := NE.out w
        go_wp2
        go_ret
        exact ⟨rfl, (Below.refl _ _).alloc (Nat.le_refl _) _⟩
      | succ g =>
        have hi2 : i < 2 := by omega
        obtain ⟨c, hc, hnx⟩ := NX.out w _ hi2
        have hc2 : ((c : Int) == 65533) = false := beq_eq_false_iff_ne.2 (by omega)
        have hc3 : ((c : Int) = 65533) = False := eq_false (by omega)
        go_wp2
        go_roundg g
        case measure => omega
        case rel => exact ⟨i + 1, by omega, rfl⟩
  · have hq1 : ((r : Int) == 65533) = false := by simp; omega
    have hvr : Lib.validRune (r : Int) = true := by
      have := hv hr0
      rw [validRune_eq, Go.validRune, decide_eq_true_eq] at this
      unfold Lib.validRune
      exact decide_eq_true (by omega)
    obtain ⟨hs2, hs4, hlast⟩ := encode_facts (r : Int) (hv hr0) (by omega)
    obtain ⟨E, hE⟩ : ∃ E, Utf8.encode (r : Int) = E := ⟨_, rfl⟩
    rw [hE] at hs2 hs4
    have g5 : ∀ h : 1 < E.size, E.size = 2 → 128 ≤ (E[1]'h).toNat := by
      intro h h2
      have := hlast (by rw [hE]; omega)
      simp only [hE, h2] at this
      exact this
    have HV := Lib.hid hv
    have HR0 := Lib.hid hr0
    clear hlast NX NE
    by_cases h2 : E.size = 2
    · subst hC
      have hlt1 : 1 < crlf.size := by omega
      have hlt2 : 1 < E.size := by omega
      exact rune_two r h128 hr0 hvr _ E hE g3 h2 hlt1 hlt2 (g4 hlt1) (g5 hlt2 h2) w
    · have hge : (2 : Int) ≤ (E.size : Int) - 1 := by omega
      have hsm : (E.size : Int) ≤ 4 := by omega
      have hn2 : ¬ ((E.size : Int) - 1 < 2) := by omega
      clear g4 g5 hv hC hr0
      go_enter Tryd.func33, Tryd.ntmps33
      go_wp2_with (first | (go_at_call 38; refine (Tryd.utf8_ValidRune _ _).mono ?_; rintro e w' ⟨rfl, hw⟩; rw [hw, hvr]))
      refine wp_scope_many (fun _ _ _ => False) (fun _ _ _ => 0) (fun _ _ _ h => h.elim) (fun _ => ?_)
      go_wp2
      refine wp_loop_rounds 1 ?_
      rw [rounds_succ]
      go_wp2
      rw [jumps_ret]
      go_ret
      exact ⟨rfl, Below.refl _ _⟩
end Go.Proofs.YtagedockmlbebaaDoor
