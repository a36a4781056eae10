/- Rows of texts: appended, compared (rejoinderref01.Same). Of no layer. -/
import Derived.Test.YtagedockmlbebaaDoorRd
import Derived.Laws.AppendOwnNone
import Derived.BigQuiet
import Derived.Deep.QuietTactic
import Derived.Deep.Draws
namespace Go.Proofs.YtagedockmlbebaaDoor
open Go.RowKit

theorem info_str : (Tryd.prog.info? 9).map (fun i => (i.zero, i.size, i.bytes)) = some (some (.string ByteArray.empty), 1, 16) := by kernel_rfl
/-- 'append(xs, x)' on a row of texts that the call owns: x lies in a new block of its own. -/
theorem append_str {ops : Array Oper} {rest : List Oper} {o : Oper} {a : Act} {Q : Exit → Act → World → Prop} {w : World} {B n : Nat} {v b : Value} {xs : List Value}
    (hgd : o.guard = none) (s x : Operand) (ho : o.op = .call { callee := .builtin .append, args := #[s, x], argTypes := #[27, 27] })
    (hs : a.eval s = v) (hown : w.ownsRow B 9 1 v n xs) (hx : a.eval x = .slice (some ⟨w.heap.size, 0, none⟩) 1 1) (_ht : o.type = 27)
    (h1 : b.oneCell' = true) (hn : n ≤ 2097152) (hB : B ≤ w.heap.size)
    (h : ∀ v' w', w'.ownsRow B 9 1 v' (n + 1) (xs ++ [b]) → w.grownBy w' v.ownBlock → wpList Tryd.prog ops Q rest (a.put o.dst v') w') : wpList Tryd.prog ops Q (o :: rest) a (w.alloc (.cells #[b] 9)) := by
  obtain ⟨i0, hi, hz0, hz1, hz2⟩ := info_parts info_str
  refine wpList_append_own _ hgd s x 27 ho B 9 i0 (.string ByteArray.empty) 1 16 Tryd.underlying27 hi hz0 hz1 hz2 rfl (by decide) v n xs hs (hown.alloc _) ⟨w.heap.size, 0, none⟩ 1 1 [b] hx rfl ?_ ?_ ?_ ?_ (by simp; omega) (fun v' w' h2 h3 _ => h v' w' h2 ?_)
  · exact cell_one_new _ _ _
  · intro u hu
    simp at hu
    subst hu
    exact h1
  · unfold maxLen; omega
  · omega
  · exact ⟨h3.os, h3.tape, h3.output, Nat.le_trans (by simp) h3.size, fun k hk hr => (h3.block k (by simp; omega) hr).trans (Below.heap_alloc w _ k hk)⟩

/-- 'append(xs, ys...)' on a row of texts that the call owns, ys whatever slice. -/
theorem append_strs {ops : Array Oper} {rest : List Oper} {o : Oper} {a : Act} {Q : Exit → Act → World → Prop} {w : World} {B n : Nat} {v : Value} {xs : List Value}
    (hgd : o.guard = none) (s x : Operand) (ho : o.op = .call { callee := .builtin .append, args := #[s, x], argTypes := #[27, 27] })
    (hs : a.eval s = v) (hown : w.ownsRow B 9 1 v n xs) (ys : List Value) (hx : Rd w (a.eval x) ys)
    (h1 : ∀ u ∈ ys, u.oneCell' = true) (hn : n + ys.length ≤ 2097152) (hB : B ≤ w.heap.size)
    (h : ∀ v' w', w'.ownsRow B 9 1 v' (n + ys.length) (xs ++ ys) → w.grownBy w' v.ownBlock → wpList Tryd.prog ops Q rest (a.put o.dst v') w') : wpList Tryd.prog ops Q (o :: rest) a w := by
  obtain ⟨i0, hi, hz0, hz1, hz2⟩ := info_parts info_str
  rcases hx with ⟨rfl, ao, cap, ha, hx⟩ | ⟨b, off, cap, hx, g1, g2, g3⟩
  · cases ao with
    | none =>
      obtain rfl := ha rfl
      have h2 := h v w (by simpa using hown) ⟨rfl, rfl, rfl, Nat.le_refl _, fun _ _ _ => rfl⟩
      exact wpList_append_own_none hgd s x 27 ho B 9 i0 1 Tryd.underlying27 hi v n xs hs hown hx h2
    | some ad =>
      refine wpList_append_own _ hgd s x 27 ho B 9 i0 (.string ByteArray.empty) 1 16 Tryd.underlying27 hi hz0 hz1 hz2 rfl (by decide) v n xs hs hown ad 0 cap [] hx rfl (fun j u hj => by simp at hj) (fun u hu => by simp at hu) ?_ ?_ hB (fun v' w' h2 h3 _ => h v' w' h2 h3)
      · simp at hn; unfold maxLen; omega
      · simp at hn; omega
  · refine wpList_append_own _ hgd s x 27 ho B 9 i0 (.string ByteArray.empty) 1 16 Tryd.underlying27 hi hz0 hz1 hz2 rfl (by decide) v n xs hs hown ⟨b, off, none⟩ ys.length cap ys hx (by simp) (fun j u hj => by rw [Addr.add_lit]; exact g3 j u hj) h1 ?_ ?_ hB (fun v' w' h2 h3 _ => h v' w' h2 h3)
    · unfold maxLen; omega
    · omega

theorem sv_cell (xs : List (List UInt8)) : ∀ u ∈ xs.map sv, u.oneCell' = true := by
  intro u hu
  obtain ⟨x, _, rfl⟩ := List.mem_map.1 hu
  rfl

theorem svs_at {xs : List (List UInt8)} {k : Nat} (h : k < xs.length) : (xs.map sv)[k]? = some (sv (xs.getD k [])) := by simp [h, List.getD_eq_getElem?_getD]

theorem take_more {xs ys : List (List UInt8)} {k : Nat} (h : xs.take k = ys.take k) (h1 : k < xs.length) (hl : xs.length = ys.length) (he : xs.getD k [] = ys.getD k []) : xs.take (k + 1) = ys.take (k + 1) := by
  rw [List.take_succ_eq_append_getElem h1, List.take_succ_eq_append_getElem (by omega), h]
  rw [List.getD_eq_getElem?_getD, List.getD_eq_getElem?_getD, List.getElem?_eq_getElem h1, List.getElem?_eq_getElem (by omega)] at he
  simp only [Option.getD_some] at he
  rw [he]

theorem take_all {xs ys : List (List UInt8)} {k : Nat} (h : xs.take k = ys.take k) (h1 : xs.length ≤ k) (hl : xs.length = ys.length) : xs = ys := by
  rwa [List.take_of_length_le h1, List.take_of_length_le (by omega)] at h

theorem same_any (xs ys : List (List UInt8)) (v1 v2 : Value) (w : World) (h1 : Rd w v1 (xs.map sv)) (h2 : Rd w v2 (ys.map sv)) :
    Calls Tryd.prog 14 #[v1, v2] w fun e w' => e = .returned (.bool (xs == ys)) ∧ Below w.heap.size w w' := by
  have E1 : ∃ a1 c1, v1 = .slice a1 xs.length c1 := by
    rcases h1 with ⟨e, ao, cap, _, h⟩ | ⟨b, o, cap, h, _⟩
    · have : xs = [] := by simpa using e
      subst this
      exact ⟨_, _, h⟩
    · exact ⟨_, _, by simpa using h⟩
  have E2 : ∃ a2 c2, v2 = .slice a2 ys.length c2 := by
    rcases h2 with ⟨e, ao, cap, _, h⟩ | ⟨b, o, cap, h, _⟩
    · have : ys = [] := by simpa using e
      subst this
      exact ⟨_, _, h⟩
    · exact ⟨_, _, by simpa using h⟩
  by_cases hl : xs.length = ys.length
  · rcases Nat.eq_zero_or_pos xs.length with h0 | hpos
    · obtain ⟨a1, c1, rfl⟩ := E1
      obtain ⟨a2, c2, rfl⟩ := E2
      have e1 : xs = [] := List.length_eq_zero_iff.1 h0
      have e2 : ys = [] := List.length_eq_zero_iff.1 (by omega)
      subst e1 e2
      clear h1 h2 hl h0
      go_enter Tryd.func14, Tryd.ntmps14
      go_wp2
      refine wp_loop_rounds 1 ?_
      rw [rounds_succ]
      go_wp2
      go_ret
      exact ⟨rfl, Below.refl _ _⟩
    · rcases h1 with ⟨e, _⟩ | ⟨b1, o1, c1, rfl, g1, m1, h1⟩
      · simp at e; rw [e] at hpos; simp at hpos
      rcases h2 with ⟨e, _⟩ | ⟨b2, o2, c2, rfl, g2, m2, h2⟩
      · exfalso; simp at e; rw [e] at hl; simp at hl; rw [hl] at hpos; simp at hpos
      have k1 : ∀ k, k < xs.length → w.cell? ⟨b1, o1 + k, none⟩ = some (sv (xs.getD k [])) := fun k h => h1 k _ (svs_at h)
      have k2 : ∀ k, k < xs.length → w.cell? ⟨b2, o2 + k, none⟩ = some (sv (ys.getD k [])) := fun k h => h2 k _ (svs_at (by omega))
      have l1 : (xs.map sv).length = xs.length := List.length_map ..
      have l2 : (ys.map sv).length = xs.length := by rw [List.length_map, hl]
      rw [l1] at g1 ⊢
      rw [l2] at g2 ⊢
      clear h1 h2 E1 E2 l1 l2
      unfold maxLen at m1 m2
      have HL := Lib.hid hl
      have HK1 := Lib.hid k1
      have HK2 := Lib.hid k2
      clear hl k1 k2
      obtain ⟨n, hn⟩ : ∃ n, n = xs.length := ⟨_, rfl⟩
      rw [← hn] at g1 g2 HK1 HK2 hpos ⊢
      have HN := Lib.hid hn
      clear hn
      go_enter Tryd.func14, Tryd.ntmps14
      go_wp2
      go_loopw [5] (fun i wr => ∃ k q : Nat, k ≤ n ∧ i = .int .i64 k ∧ wr = w.drewN q ∧ xs.take k = ys.take k) (fun i _ => n - (intOf i).toNat)
      case atStart => exact ⟨0, 0, Nat.zero_le _, rfl, rfl, rfl⟩
      case round =>
        obtain ⟨k, q, hk, rfl, rfl, hc⟩ := hrel
        have HC := Lib.hid hc
        clear hc
        by_cases hlt : k < n
        · have q1 := HK1.out k hlt
          have q2 := HK2.out k hlt
          obtain ⟨x, hx⟩ : ∃ x, x = xs.getD k [] := ⟨_, rfl⟩
          obtain ⟨y, hy⟩ : ∃ y, y = ys.getD k [] := ⟨_, rfl⟩
          rw [← hx, sv] at q1
          rw [← hy, sv] at q2
          have HX := Lib.hid hx
          have HY := Lib.hid hy
          clear hx hy
          by_cases hxy : x = y
          · have hb : (x == y) = true := beq_iff_eq.2 hxy
            have HXY := Lib.hid hxy
            clear hxy
            go_wp2_with fail
            go_quiet (fail)
            go_wp2
            go_roundw
            case rel => exact ⟨k + 1, q + nq, by omega, by go_num, rfl, take_more HC.out (by rw [← HN.out]; exact hlt) HL.out (by rw [← HX.out, ← HY.out]; exact HXY.out)⟩
            case measure => simp [intOf]; omega
          · have hb : (x == y) = false := beq_eq_false_iff_ne.2 hxy
            have HXY := Lib.hid hxy
            clear hxy
            go_wp2_with fail
            go_quiet (fail)
            go_wp2
            go_ret
            refine ⟨?_, below_drewN (below_drewN (Below.refl _ _) _) _⟩
            have e : (xs == ys) = false := beq_eq_false_iff_ne.2 (fun e => HXY.out (by rw [HX.out, HY.out, e]))
            rw [e]
            rfl
        · go_wp2
          go_ret
          refine ⟨?_, below_drewN (Below.refl _ _) _⟩
          have e : (xs == ys) = true := beq_iff_eq.2 (take_all HC.out (by have := HN.out; omega) HL.out)
          rw [e]
          rfl
  · obtain ⟨a1, c1, rfl⟩ := E1
    obtain ⟨a2, c2, rfl⟩ := E2
    have e : (xs == ys) = false := beq_eq_false_iff_ne.2 (fun e => hl (by rw [e]))
    rw [e]
    clear h1 h2 e
    have hn : ((xs.length : Int) == (ys.length : Int)) = false := beq_eq_false_iff_ne.2 (by omega)
    go_enter Tryd.func14, Tryd.ntmps14
    go_wp2
    go_ret
    exact ⟨rfl, Below.refl _ _⟩


end Go.Proofs.YtagedockmlbebaaDoor
