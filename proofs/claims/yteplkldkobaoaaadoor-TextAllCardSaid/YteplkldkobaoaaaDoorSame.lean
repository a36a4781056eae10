/- Slices of texts that are only read; rejoinderref01.Same, shown. -/
import Derived.Test.YteplkldkobaoaaaDoorNumber
import Derived.BigQuiet
import Derived.Deep.QuietTactic
import Derived.Deep.Draws
namespace Go.Proofs.YteplkldkobaoaaaDoor
open Go.RowKit

/-- A slice, of cells of one value each, that reads as 'vs'. -/
def Rd (w : World) (v : Value) (vs : List Value) : Prop :=
  (vs = [] ∧ ∃ ao cap, (ao = none → cap = 0) ∧ v = .slice ao 0 cap) ∨ ∃ b o cap, v = .slice (some ⟨b, o, none⟩) vs.length cap ∧ vs.length ≤ cap ∧ cap ≤ maxLen ∧ ∀ j u, vs[j]? = some u → w.cell? ⟨b, o + j, none⟩ = some u

theorem Rd.of_own {w : World} {B n : Nat} {e : TypeId} {v : Value} {vs : List Value} (h : w.ownsRow B e 1 v n vs) : Rd w v vs := by
  have h1 := h.1
  rw [Nat.mul_one] at h1
  rcases h.2 with ⟨rfl, rfl⟩ | ⟨g, cap, cur, rfl, _, _, h2, h3, _⟩
  · exact .inl ⟨List.length_eq_zero_iff.1 h1, _, _, fun _ => rfl, rfl⟩
  · refine .inr ⟨g, 0, cap, by rw [h1], by omega, h3, fun j u hj => ?_⟩
    have := h.cells (g := g) rfl j u hj
    rwa [Addr.add_lit] at this

theorem Rd.below {w w' : World} {v : Value} {vs : List Value} (h : Rd w v vs) (hb : Below w.heap.size w w') : Rd w' v vs := by
  rcases h with h | ⟨b, o, cap, h1, h2, h3, h4⟩
  · exact .inl h
  · refine .inr ⟨b, o, cap, h1, h2, h3, fun j u hj => ?_⟩
    have hc := h4 j u hj
    exact (hb.cell (World.block_lt_of_cell? w _ hc)).trans hc

theorem svs_at {xs : List (List UInt8)} {k : Nat} (h : k < xs.length) : (xs.map sv)[k]? = some (sv (xs.getD k [])) := by simp [h, List.getD_eq_getElem?_getD]

theorem take_more {xs ys : List (List UInt8)} {k : Nat} (h : xs.take k = ys.take k) (h1 : k < xs.length) (hl : xs.length = ys.length) (he : xs.getD k [] = ys.getD k []) : xs.take (k + 1) = ys.take (k + 1) := by
  rw [List.take_succ_eq_append_getElem h1, List.take_succ_eq_append_getElem (by omega), h]
  rw [List.getD_eq_getElem?_getD, List.getD_eq_getElem?_getD, List.getElem?_eq_getElem h1, List.getElem?_eq_getElem (by omega)] at he
  simp only [Option.getD_some] at he
  rw [he]

theorem take_all {xs ys : List (List UInt8)} {k : Nat} (h : xs.take k = ys.take k) (h1 : xs.length ≤ k) (hl : xs.length = ys.length) : xs = ys := by
  rwa [List.take_of_length_le h1, List.take_of_length_le (by omega)] at h

theorem same_any (xs ys : List (List UInt8)) (v1 v2 : Value) (w : World) (h1 : Rd w v1 (xs.map sv)) (h2 : Rd w v2 (ys.map sv)) :
    Calls Tryd.prog 9 #[v1, v2] w fun e w' => e = .returned (.bool (xs == ys)) ∧ Below w.heap.size w w' := by
  have E1 : ∃ a1 c1, v1 = .slice a1 xs.length c1 := by
    rcases h1 with ⟨e, ao, cap, _, h⟩ | ⟨b, o, cap, h, _⟩
    · have : xs = [] := by simpa using e
      subst this
      exact ⟨_, _, h⟩
    · exact ⟨_, _, by simpa using h⟩
  have E2 : ∃ a2 c2, v2 = .slice a2 ys.length c2 := by
    rcases h2 with ⟨e, ao, cap, _, h⟩ | ⟨b, o, cap, h, _⟩
    · have : ys = [] := by simpa using e
      subst this
      exact ⟨_, _, h⟩
    · exact ⟨_, _, by simpa using h⟩
  by_cases hl : xs.length = ys.length
  · rcases Nat.eq_zero_or_pos xs.length with h0 | hpos
    · obtain ⟨a1, c1, rfl⟩ := E1
      obtain ⟨a2, c2, rfl⟩ := E2
      have e1 : xs = [] := List.length_eq_zero_iff.1 h0
      have e2 : ys = [] := List.length_eq_zero_iff.1 (by omega)
      subst e1 e2
      clear h1 h2 hl h0
      go_enter Tryd.func9, Tryd.ntmps9
      go_wp2
      refine wp_loop_rounds 1 ?_
      rw [rounds_succ]
      go_wp2
      go_ret
      exact ⟨rfl, Below.refl _ _⟩
    · rcases h1 with ⟨e, _⟩ | ⟨b1, o1, c1, rfl, g1, m1, h1⟩
      · simp at e; rw [e] at hpos; simp at hpos
      rcases h2 with ⟨e, _⟩ | ⟨b2, o2, c2, rfl, g2, m2, h2⟩
      · exfalso; simp at e; rw [e] at hl; simp at hl; rw [hl] at hpos; simp at hpos
      have k1 : ∀ k, k < xs.length → w.cell? ⟨b1, o1 + k, none⟩ = some (sv (xs.getD k [])) := fun k h => h1 k _ (svs_at h)
      have k2 : ∀ k, k < xs.length → w.cell? ⟨b2, o2 + k, none⟩ = some (sv (ys.getD k [])) := fun k h => h2 k _ (svs_at (by omega))
      have l1 : (xs.map sv).length = xs.length := List.length_map ..
      have l2 : (ys.map sv).length = xs.length := by rw [List.length_map, hl]
      rw [l1] at g1 ⊢
      rw [l2] at g2 ⊢
      clear h1 h2 E1 E2 l1 l2
      unfold maxLen at m1 m2
      have HL := Lib.hid hl
      have HK1 := Lib.hid k1
      have HK2 := Lib.hid k2
      clear hl k1 k2
      obtain ⟨n, hn⟩ : ∃ n, n = xs.length := ⟨_, rfl⟩
      rw [← hn] at g1 g2 HK1 HK2 hpos ⊢
      have HN := Lib.hid hn
      clear hn
      go_enter Tryd.func9, Tryd.ntmps9
      go_wp2
      go_loopw [5] (fun i wr => ∃ k q : Nat, k ≤ n ∧ i = .int .i64 k ∧ wr = w.drewN q ∧ xs.take k = ys.take k) (fun i _ => n - (intOf i).toNat)
      case atStart => exact ⟨0, 0, Nat.zero_le _, rfl, rfl, rfl⟩
      case round =>
        obtain ⟨k, q, hk, rfl, rfl, hc⟩ := hrel
        have HC := Lib.hid hc
        clear hc
        by_cases hlt : k < n
        · have q1 := HK1.out k hlt
          have q2 := HK2.out k hlt
          obtain ⟨x, hx⟩ : ∃ x, x = xs.getD k [] := ⟨_, rfl⟩
          obtain ⟨y, hy⟩ : ∃ y, y = ys.getD k [] := ⟨_, rfl⟩
          rw [← hx, sv] at q1
          rw [← hy, sv] at q2
          have HX := Lib.hid hx
          have HY := Lib.hid hy
          clear hx hy
          by_cases hxy : x = y
          · have hb : (x == y) = true := beq_iff_eq.2 hxy
            have HXY := Lib.hid hxy
            clear hxy
            go_wp2_with fail
            go_quiet (fail)
            go_wp2
            go_roundw
            case rel => exact ⟨k + 1, q + nq, by omega, by go_num, rfl, take_more HC.out (by rw [← HN.out]; exact hlt) HL.out (by rw [← HX.out, ← HY.out]; exact HXY.out)⟩
            case measure => simp [intOf]; omega
          · have hb : (x == y) = false := beq_eq_false_iff_ne.2 hxy
            have HXY := Lib.hid hxy
            clear hxy
            go_wp2_with fail
            go_quiet (fail)
            go_wp2
            go_ret
            refine ⟨?_, below_drewN (below_drewN (Below.refl _ _) _) _⟩
            have e : (xs == ys) = false := beq_eq_false_iff_ne.2 (fun e => HXY.out (by rw [HX.out, HY.out, e]))
            rw [e]
            rfl
        · go_wp2
          go_ret
          refine ⟨?_, below_drewN (Below.refl _ _) _⟩
          have e : (xs == ys) = true := beq_iff_eq.2 (take_all HC.out (by have := HN.out; omega) HL.out)
          rw [e]
          rfl
  · obtain ⟨a1, c1, rfl⟩ := E1
    obtain ⟨a2, c2, rfl⟩ := E2
    have e : (xs == ys) = false := beq_eq_false_iff_ne.2 (fun e => hl (by rw [e]))
    rw [e]
    clear h1 h2 e
    have hn : ((xs.length : Int) == (ys.length : Int)) = false := beq_eq_false_iff_ne.2 (by omega)
    go_enter Tryd.func9, Tryd.ntmps9
    go_wp2
    go_ret
    exact ⟨rfl, Below.refl _ _⟩

/-- A row that the call owns and that is not empty. -/
theorem own_pos {w : World} {B n : Nat} {e : TypeId} {v : Value} {vs : List Value} (h : w.ownsRow B e 1 v n vs) (hn : 0 < n) :
    ∃ g cap, v = .slice (some ⟨g, 0, none⟩) n cap ∧ B ≤ g ∧ n ≤ cap ∧ cap ≤ maxLen ∧ ∀ j u, vs[j]? = some u → w.cell? ⟨g, j, none⟩ = some u := by
  have hc := fun g hg => h.cells (g := g) hg
  rcases h.2 with ⟨rfl, rfl⟩ | ⟨g, cap, cur, rfl, h1, _, h2, h3, _⟩
  · cases hn
  · refine ⟨g, cap, rfl, h1, h2, h3, fun j u hj => ?_⟩
    have := hc g rfl j u hj
    rwa [Addr.add_lit, Nat.zero_add] at this

theorem words_shown (w : World) : Calls Tryd.prog 10 #[.string ⟨#[32, 97, 32, 32, 98, 99]⟩] w fun e w' =>
    ∃ g cap, e = .returned (.slice (some ⟨g, 0, none⟩) 2 cap) ∧ w.heap.size ≤ g ∧ 2 ≤ cap ∧ w'.cell? ⟨g, 0, none⟩ = some (.string ⟨#[97]⟩) ∧ w'.cell? ⟨g, 1, none⟩ = some (.string ⟨#[98, 99]⟩) ∧ Below w.heap.size w w' := by
  refine (words_any ⟨#[32, 97, 32, 32, 98, 99]⟩ _ (by decide)).mono ?_
  rintro e w1 ⟨v, rfl, hown, hb⟩
  obtain ⟨g, cap, rfl, h1, h2, _, h3⟩ := own_pos hown (by decide)
  exact ⟨g, cap, rfl, h1, h2, h3 0 _ rfl, h3 1 _ rfl, hb⟩

theorem number_shown (w : World) : Calls Tryd.prog 7 #[.string ⟨#[48, 48, 55]⟩, .int .i64 9] w fun e w' =>
    e = .returned (.tuple #[.int .i64 7, .bool true]) ∧ Below w.heap.size w w' := by
  refine (number_any ⟨#[48, 48, 55]⟩ 9 _ (by decide)).mono ?_
  rintro e w1 ⟨rfl, hb⟩
  have e : Tx.number [48, 48, 55] 9 = (7, true) := by decide
  exact ⟨congrArg (fun p => Ending.returned (two p)) e, hb⟩

theorem shown_any (w : World) : Calls Tryd.prog 5 #[] w fun e w' => e = .returned (.bool true) ∧ Below w.heap.size w w' := by
  go_enter Tryd.func5, Tryd.ntmps5
  go_wp2_with (first
    | (go_at_call 10; refine (words_shown _).mono ?_; rintro e w1 ⟨g, cap, rfl, hg, hcap, hc0, hc1, hb⟩)
    | (go_at_call 7; refine (number_shown _).mono ?_; rintro e w2 ⟨rfl, hb2⟩; have hd0 := (hb2.cell (p := ⟨g, 0, none⟩) (World.block_lt_of_cell? _ _ hc0)).trans hc0; have hd1 := (hb2.cell (p := ⟨g, 1, none⟩) (World.block_lt_of_cell? _ _ hc1)).trans hc1))
  go_ret
  exact ⟨rfl, hb.trans (hb2.mono hb.size)⟩

theorem shortOf_le (s : ByteArray) : (shortOf s).size ≤ 400 := by
  unfold shortOf
  split
  · simp; omega
  · omega

end Go.Proofs.YteplkldkobaoaaaDoor
