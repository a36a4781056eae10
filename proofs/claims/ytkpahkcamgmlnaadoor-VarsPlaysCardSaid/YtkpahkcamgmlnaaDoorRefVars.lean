/- The reference's names that are set: at, Get, Set walked (layer 16). -/
import Derived.Test.YtkpahkcamgmlnaaDoorVarsMap
import Derived.Test.YtkpahkcamgmlnaaDoorStrs
import Derived.Test.YtkpahkcamgmlnaaDoorAppendT
import Derived.Test.YtkpahkcamgmlnaaDoorOwnSet
namespace Go.Proofs.YtkpahkcamgmlnaaDoor
open Go.RowKit

def keys (σ : Va.Env) : List (List UInt8) := σ.map (·.1)
def vals (σ : Va.Env) : List (List UInt8) := σ.map (·.2)
/-- Names and values, side by side, behind block g. -/
structure RV (w : World) (g : Nat) (nv vv : Value) (σ : Va.Env) : Prop where
  c : w.heap[g]? = some (.cells #[nv, vv] 29 (0, 0))
  n : Rd w nv ((keys σ).map sv)
  v : Rd w vv ((vals σ).map sv)
  nm : ∀ p ∈ σ, p.1.length ≤ 16777216 ∧ p.2.length ≤ 1000
  len : σ.length ≤ 16
section
variable {w w' : World} {g : Nat} {nv vv : Value} {σ : Va.Env}
theorem RV.lt (h : RV w g nv vv σ) : g < w.heap.size := (Array.getElem?_eq_some_iff.1 h.c).1
theorem RV.below (h : RV w g nv vv σ) (hb : Below w.heap.size w w') : RV w' g nv vv σ := ⟨(hb.block g h.lt).trans h.c, h.n.below hb, h.v.below hb, h.nm, h.len⟩
theorem RV.c0 (h : RV w g nv vv σ) : w.cell? ⟨g, 0, none⟩ = some nv := cell_of_row _ _ _ _ _ _ h.c
theorem RV.c1 (h : RV w g nv vv σ) : w.cell? ⟨g, 1, none⟩ = some vv := cell_of_row _ _ _ _ _ _ h.c
theorem RV.fr (h : RV w g nv vv σ) (i : Nat) : w.frozen? ⟨g, i, none⟩ = false := frozen_of_row _ _ _ _ _ h.c
end

namespace Va
/-- Where a name is. -/
def pos (σ : Env) (x : List UInt8) : Int := ((hit σ x).map fun p => (p.1 : Int)).getD (-1)
theorem hit_at {x : List UInt8} : ∀ {σ : Env} {k : Nat} {v : List UInt8}, hit σ x = some (k, v) → k < σ.length ∧ (keys σ)[k]? = some x ∧ (vals σ)[k]? = some v ∧ ∀ j, j < k → (keys σ)[j]? ≠ some x
  | [], _, _, h => by cases h
  | (y, u) :: σ, k, v, h => by
    rw [hit] at h
    by_cases e : y = x
    · subst e
      rw [if_pos rfl] at h
      cases h
      exact ⟨by simp, rfl, rfl, fun j hj => absurd hj (by omega)⟩
    · rw [if_neg e] at h
      cases hh : hit σ x with
      | none => rw [hh] at h; cases h
      | some p =>
        rw [hh] at h
        obtain ⟨k', v'⟩ := p
        cases h
        obtain ⟨h1, h2, h3, h4⟩ := hit_at hh
        refine ⟨by simp; omega, h2, h3, fun j hj => ?_⟩
        cases j with
        | zero => show some y ≠ some x; simpa using e
        | succ j => exact h4 j (by omega)
theorem hit_not {x : List UInt8} : ∀ {σ : Env}, hit σ x = none → ∀ j : Nat, (keys σ)[j]? ≠ some x
  | [], _, j => by simp [keys]
  | (y, u) :: σ, h, j => by
    rw [hit] at h
    by_cases e : y = x
    · rw [if_pos e] at h; cases h
    · rw [if_neg e] at h
      cases j with
      | zero => show some y ≠ some x; simpa using e
      | succ j =>
        refine hit_not (σ := σ) ?_ j
        cases hh : hit σ x with
        | none => rfl
        | some p => rw [hh] at h; cases h
theorem put_keys {x v : List UInt8} : ∀ {σ : Env}, hit σ x = none → keys (put σ x v) = keys σ ++ [x] ∧ vals (put σ x v) = vals σ ++ [v]
  | [], _ => ⟨rfl, rfl⟩
  | (y, u) :: σ, h => by
    rw [hit] at h
    by_cases e : y = x
    · rw [if_pos e] at h; cases h
    · rw [if_neg e] at h
      obtain ⟨h1, h2⟩ := put_keys (v := v) (σ := σ) (by
        cases hh : hit σ x with
        | none => rfl
        | some p => rw [hh] at h; cases h)
      rw [put, if_neg e]
      exact ⟨congrArg (y :: ·) h1, congrArg (u :: ·) h2⟩
theorem put_vals {x v : List UInt8} : ∀ {σ : Env} {k : Nat} {u : List UInt8}, hit σ x = some (k, u) → keys (put σ x v) = keys σ ∧ vals (put σ x v) = (vals σ).set k v
  | [], _, _, h => by cases h
  | (y, w) :: σ, k, u, h => by
    rw [hit] at h
    by_cases e : y = x
    · subst e
      rw [if_pos rfl] at h
      cases h
      rw [put, if_pos rfl]
      exact ⟨rfl, rfl⟩
    · rw [if_neg e] at h
      cases hh : hit σ x with
      | none => rw [hh] at h; cases h
      | some p =>
        rw [hh] at h
        obtain ⟨k', v'⟩ := p
        cases h
        obtain ⟨h1, h2⟩ := put_vals (v := v) hh
        rw [put, if_neg e]
        exact ⟨congrArg (y :: ·) h1, congrArg (w :: ·) h2⟩
end Va
theorem keys_len (σ : Va.Env) : (keys σ).length = σ.length := by simp [keys]
theorem vals_len (σ : Va.Env) : (vals σ).length = σ.length := by simp [vals]

set_option maxHeartbeats 2000000 in
theorem rat_any {w : World} {g : Nat} {nv vv : Value} {σ : Va.Env} (h : RV w g nv vv σ) (x : List UInt8) :
    Calls Tryd.prog 26 #[.pointer (some ⟨g, 0, none⟩), .string ⟨x.toArray⟩] w fun e w' => e = .returned (.int .i64 (Va.pos σ x)) ∧ w = w' := by
  have c0 := h.c0
  obtain ⟨ao, cap, rfl, hc1, hc3⟩ := h.n.formV
  rw [List.length_map, keys_len] at hc1 hc3 c0
  obtain ⟨N, hN⟩ : ∃ N, N = σ.length := ⟨_, rfl⟩
  have hN16 := h.len
  rw [← hN] at hc1 hc3 c0 hN16
  have HN := Lib.hid hN
  have HC := Lib.hid hc3
  clear hN hc3 h
  go_enter Tryd.func26, Tryd.ntmps26
  go_wp2
  go_loopw [5] (fun i wr => ∃ k : Nat, k ≤ N ∧ i = .int .i64 k ∧ Hid (∀ j, j < k → (keys σ)[j]? ≠ some x) ∧ wr = w) (fun i _ => N - (intOf i).toNat)
  case atStart => exact ⟨0, Nat.zero_le _, rfl, Lib.hid (fun j hj => absurd hj (by omega)), rfl⟩
  case round =>
    obtain ⟨k, hk, rfl, HE, rfl⟩ := hrel
    by_cases hlt : k < N
    · obtain ⟨b, o, rfl, hm, hc⟩ := HC.out (by omega)
      have hkl : k < (keys σ).length := by rw [keys_len, ← HN.out]; exact hlt
      have hcx := hc k _ (svs_at hkl)
      unfold maxLen at hm
      clear hc
      obtain ⟨y, hy⟩ : ∃ y, y = (keys σ).getD k [] := ⟨_, rfl⟩
      have hky : (keys σ)[k]? = some y := by rw [hy, List.getD_eq_getElem?_getD, List.getElem?_eq_getElem hkl]; rfl
      rw [← hy] at hcx
      unfold sv at hcx
      have HY := Lib.hid hky
      have hi : ((k : Int) < (N : Int)) := by omega
      clear hy hky hkl
      by_cases he : y = x
      · subst he
        have hq : ((⟨y.toArray⟩ : ByteArray).toList == (⟨y.toArray⟩ : ByteArray).toList) = true := beq_self_eq_true _
        have HP := Lib.hid (show Va.pos σ y = (k : Int) from by
          unfold Va.pos
          cases hh : Va.hit σ y with
          | none => exact absurd HY.out (Va.hit_not hh k)
          | some p =>
            obtain ⟨k', v'⟩ := p
            obtain ⟨h1, h2, h3, h4⟩ := Va.hit_at hh
            have : k' = k := by
              rcases Nat.lt_trichotomy k' k with h | h | h
              · exact absurd h2 (HE.out k' h)
              · exact h
              · exact absurd HY.out (h4 k h)
            rw [this]; rfl)
        clear HE
        go_wp2
        go_ret
        exact ⟨by rw [HP.out]; rfl, rfl⟩
      · have hq : ((⟨y.toArray⟩ : ByteArray).toList == (⟨x.toArray⟩ : ByteArray).toList) = false := by
          rw [Lib.toList_data, Lib.toList_data]
          exact beq_eq_false_iff_ne.2 he
        have HE2 := Lib.hid (show ∀ j, j < k + 1 → (keys σ)[j]? ≠ some x from fun j hj => by
          rcases Nat.lt_or_ge j k with h | h
          · exact HE.out j h
          · obtain rfl : j = k := by omega
            rw [HY.out]
            exact fun e => he (by simpa using e))
        have hq2 : (y == x) = false := beq_eq_false_iff_ne.2 he
        have hq3 : (y = x) = False := eq_false he
        clear HE he HY
        go_wp2
        go_roundw
        case rel => exact ⟨k + 1, by omega, by go_num, HE2, trivial⟩
        case measure => simp [intOf]; omega
    · have HP := Lib.hid (show Va.pos σ x = -1 from by
        unfold Va.pos
        cases hh : Va.hit σ x with
        | none => rfl
        | some p =>
          obtain ⟨k', v'⟩ := p
          obtain ⟨h1, h2, h3, h4⟩ := Va.hit_at hh
          exact absurd h2 (HE.out k' (by have := HN.out; omega)))
      clear HE
      go_wp2
      go_ret
      exact ⟨by rw [HP.out]; rfl, rfl⟩

theorem look_pos (σ : Va.Env) (x : List UInt8) : (Va.look σ x = none ∧ Va.pos σ x = -1 ∧ Va.hit σ x = none) ∨ ∃ (k : Nat) (v : List UInt8), Va.look σ x = some v ∧ Va.pos σ x = (k : Int) ∧ Va.hit σ x = some (k, v) := by
  rw [Va.look_hit]
  unfold Va.pos
  cases Va.hit σ x with
  | none => exact .inl ⟨rfl, rfl, rfl⟩
  | some p => exact .inr ⟨p.1, p.2, rfl, rfl, rfl⟩

set_option maxHeartbeats 2000000 in
theorem rget_any {w : World} {g : Nat} {nv vv : Value} {σ : Va.Env} (h : RV w g nv vv σ) (x : List UInt8) :
    Calls Tryd.prog 17 #[.pointer (some ⟨g, 0, none⟩), .string ⟨x.toArray⟩] w fun e w' => e = .returned (.tuple #[sv ((Va.look σ x).getD []), .bool (Va.look σ x).isSome]) ∧ w = w' := by
  have ha := rat_any h x
  have c1 := h.c1
  rcases look_pos σ x with ⟨h1, h2, h3⟩ | ⟨k, v, h1, h2, h3⟩
  · rw [h1]
    rw [h2] at ha
    show Calls _ _ _ _ fun e w' => e = .returned (.tuple #[.string ⟨#[]⟩, .bool false]) ∧ _
    clear h h1 h2 h3
    go_enter Tryd.func17, Tryd.ntmps17
    go_wp2_with (go_at_call 26; refine ha.mono ?_; rintro e w' ⟨rfl, rfl⟩)
    go_ret2
    exact ⟨rfl, rfl⟩
  · rw [h1]
    rw [h2] at ha
    show Calls _ _ _ _ fun e w' => e = .returned (.tuple #[.string ⟨v.toArray⟩, .bool true]) ∧ _
    obtain ⟨e1, e2, e3, e4⟩ := Va.hit_at h3
    obtain ⟨ao, cap, rfl, hc1, hc3⟩ := h.v.formV
    rw [List.length_map, vals_len] at hc1 hc3 c1
    obtain ⟨b, o, rfl, hm, hc⟩ := hc3 (by omega)
    have hcx := hc k (sv v) (by rw [List.getElem?_map, e3]; rfl)
    unfold maxLen at hm
    unfold sv at hcx
    have hN16 := h.len
    generalize σ.length = N at *
    have hi : ((k : Int) < (N : Int)) := by omega
    clear h h1 h2 h3 e2 e3 e4 hc hc3
    go_enter Tryd.func17, Tryd.ntmps17
    go_wp2_with (go_at_call 26; refine ha.mono ?_; rintro e w' ⟨rfl, rfl⟩)
    go_ret2
    exact ⟨rfl, rfl⟩
end Go.Proofs.YtkpahkcamgmlnaaDoor
