/- Rows of texts compared. -/
import Derived.Test.YtkpahkcamgmlnaaDoorStrs
namespace Go.Proofs.YtkpahkcamgmlnaaDoor
open Go.RowKit

theorem same_any (xs ys : List (List UInt8)) (v1 v2 : Value) (w : World) (h1 : Rd w v1 (xs.map sv)) (h2 : Rd w v2 (ys.map sv)) :
    Calls Tryd.prog 13 #[v1, v2] w fun e w' => e = .returned (.bool (xs == ys)) ∧ Below w.heap.size w w' := by
  have E1 : ∃ a1 c1, v1 = .slice a1 xs.length c1 := by
    rcases h1 with ⟨e, ao, cap, _, h⟩ | ⟨b, o, cap, h, _⟩
    · have : xs = [] := by simpa using e
      subst this
      exact ⟨_, _, h⟩
    · exact ⟨_, _, by simpa using h⟩
  have E2 : ∃ a2 c2, v2 = .slice a2 ys.length c2 := by
    rcases h2 with ⟨e, ao, cap, _, h⟩ | ⟨b, o, cap, h, _⟩
    · have : ys = [] := by simpa using e
      subst this
      exact ⟨_, _, h⟩
    · exact ⟨_, _, by simpa using h⟩
  by_cases hl : xs.length = ys.length
  · rcases Nat.eq_zero_or_pos xs.length with h0 | hpos
    · obtain ⟨a1, c1, rfl⟩ := E1
      obtain ⟨a2, c2, rfl⟩ := E2
      have e1 : xs = [] := List.length_eq_zero_iff.1 h0
      have e2 : ys = [] := List.length_eq_zero_iff.1 (by omega)
      subst e1 e2
      clear h1 h2 hl h0
      go_enter Tryd.func13, Tryd.ntmps13
      go_wp2
      refine wp_loop_rounds 1 ?_
      rw [rounds_succ]
      go_wp2
      go_ret
      exact ⟨rfl, Below.refl _ _⟩
    · rcases h1 with ⟨e, _⟩ | ⟨b1, o1, c1, rfl, g1, m1, h1⟩
      · simp at e; rw [e] at hpos; simp at hpos
      rcases h2 with ⟨e, _⟩ | ⟨b2, o2, c2, rfl, g2, m2, h2⟩
      · exfalso; simp at e; rw [e] at hl; simp at hl; rw [hl] at hpos; simp at hpos
      have k1 : ∀ k, k < xs.length → w.cell? ⟨b1, o1 + k, none⟩ = some (sv (xs.getD k [])) := fun k h => h1 k _ (svs_at h)
      have k2 : ∀ k, k < xs.length → w.cell? ⟨b2, o2 + k, none⟩ = some (sv (ys.getD k [])) := fun k h => h2 k _ (svs_at (by omega))
      have l1 : (xs.map sv).length = xs.length := List.length_map ..
      have l2 : (ys.map sv).length = xs.length := by rw [List.length_map, hl]
      rw [l1] at g1 ⊢
      rw [l2] at g2 ⊢
      clear h1 h2 E1 E2 l1 l2
      unfold maxLen at m1 m2
      have HL := Lib.hid hl
      have HK1 := Lib.hid k1
      have HK2 := Lib.hid k2
      clear hl k1 k2
      obtain ⟨n, hn⟩ : ∃ n, n = xs.length := ⟨_, rfl⟩
      rw [← hn] at g1 g2 HK1 HK2 hpos ⊢
      have HN := Lib.hid hn
      clear hn
      go_enter Tryd.func13, Tryd.ntmps13
      go_wp2
      go_loopw [5] (fun i wr => ∃ k q : Nat, k ≤ n ∧ i = .int .i64 k ∧ wr = w.drewN q ∧ xs.take k = ys.take k) (fun i _ => n - (intOf i).toNat)
      case atStart => exact ⟨0, 0, Nat.zero_le _, rfl, rfl, rfl⟩
      case round =>
        obtain ⟨k, q, hk, rfl, rfl, hc⟩ := hrel
        have HC := Lib.hid hc
        clear hc
        by_cases hlt : k < n
        · have q1 := HK1.out k hlt
          have q2 := HK2.out k hlt
          obtain ⟨x, hx⟩ : ∃ x, x = xs.getD k [] := ⟨_, rfl⟩
          obtain ⟨y, hy⟩ : ∃ y, y = ys.getD k [] := ⟨_, rfl⟩
          rw [← hx, sv] at q1
          rw [← hy, sv] at q2
          have HX := Lib.hid hx
          have HY := Lib.hid hy
          clear hx hy
          by_cases hxy : x = y
          · have hb : (x == y) = true := beq_iff_eq.2 hxy
            have HXY := Lib.hid hxy
            clear hxy
            go_wp2_with fail
            go_quiet (fail)
            go_wp2
            go_roundw
            case rel => exact ⟨k + 1, q + nq, by omega, by go_num, rfl, take_more HC.out (by rw [← HN.out]; exact hlt) HL.out (by rw [← HX.out, ← HY.out]; exact HXY.out)⟩
            case measure => simp [intOf]; omega
          · have hb : (x == y) = false := beq_eq_false_iff_ne.2 hxy
            have HXY := Lib.hid hxy
            clear hxy
            go_wp2_with fail
            go_quiet (fail)
            go_wp2
            go_ret
            refine ⟨?_, below_drewN (below_drewN (Below.refl _ _) _) _⟩
            have e : (xs == ys) = false := beq_eq_false_iff_ne.2 (fun e => HXY.out (by rw [HX.out, HY.out, e]))
            rw [e]
            rfl
        · go_wp2
          go_ret
          refine ⟨?_, below_drewN (Below.refl _ _) _⟩
          have e : (xs == ys) = true := beq_iff_eq.2 (take_all HC.out (by have := HN.out; omega) HL.out)
          rw [e]
          rfl
  · obtain ⟨a1, c1, rfl⟩ := E1
    obtain ⟨a2, c2, rfl⟩ := E2
    have e : (xs == ys) = false := beq_eq_false_iff_ne.2 (fun e => hl (by rw [e]))
    rw [e]
    clear h1 h2 e
    have hn : ((xs.length : Int) == (ys.length : Int)) = false := beq_eq_false_iff_ne.2 (by omega)
    go_enter Tryd.func13, Tryd.ntmps13
    go_wp2
    go_ret
    exact ⟨rfl, Below.refl _ _⟩


end Go.Proofs.YtkpahkcamgmlnaaDoor
