/- append onto nothing, and onto a row of the call's own, at an operation of a region. -/
import Derived.Test.YtneifmnlailipaaWRef
namespace Go.Proofs.Ytneifmnlailipaa
open Go.RowKit

/-- A slice of bytes that the call was handed, behind base. -/
def Fb (w : World) (base : Nat) (v : Value) (xs : List UInt8) : Prop := Fr w base v xs ∧ ∀ k, v.ownBlock = some k → base ≤ k ∧ k < w.heap.size
theorem Fb.next {w w' : World} {base : Nat} {v : Value} {xs : List UInt8} (h : Fb w base v xs) (hb : Below w.heap.size w w') : Fb w' base v xs := ⟨h.1.below hb, fun k hk => ⟨(h.2 k hk).1, Nat.lt_of_lt_of_le (h.2 k hk).2 hb.size⟩⟩
theorem made_below {w1 wz : World} (_h : Below w1.heap.size w1 wz) : Below wz.heap.size wz (wz.alloc (.cells #[] 5)) := (Below.refl _ _).alloc (Nat.le_refl _) _
theorem made_fb {w1 wz : World} (h : Below w1.heap.size w1 wz) : Fb (wz.alloc (.cells #[] 5)) w1.heap.size (.slice (some ⟨wz.heap.size, 0, none⟩) 0 0) [] :=
  ⟨.inl ⟨rfl, _, rfl⟩, fun k hk => by cases hk; exact ⟨h.size, by simp⟩⟩

theorem wp_append_fresh {o : Oper} {a : Act} {K : Act → World → Prop} {Q : Exit → Act → World → Prop} {w : World} {base : Nat} {v : Value}
    (s x : Operand) (ho : o.op = .call { callee := .builtin .append, args := #[s, x], argTypes := #[28, 28] })
    (hs : a.eval s = v) (hf : Fb w base v []) (vx : Value) (hvx : a.eval x = vx) (ys : List UInt8) (hx : Rd w vx (ys.map bv)) (N : Nat) (hN : ys.length = N) (hn : N ≤ 16777216) (hB : base ≤ w.heap.size)
    (h : ∀ bo c w', Below w.heap.size w w' → Fb w' base (.slice bo N c) ys → K (a.put o.dst (.slice bo N c)) w') : o.wp Try.prog a w K Q := by
  subst hN
  obtain ⟨i0, hi, hz0, hz1, hz2⟩ := info_parts info_u8
  obtain ⟨ao, rfl⟩ : ∃ ao, v = .slice ao 0 0 := by
    rcases hf.1 with ⟨_, h⟩ | ⟨h, _⟩
    · exact h
    · cases h
  by_cases hy : ys = []
  · subst hy
    obtain ⟨ac, cc, hcn, rfl⟩ : ∃ ac cc, (ac = none → cc = 0) ∧ vx = .slice ac 0 cc := by
      rcases hx with ⟨_, ac, cc, h1, h2⟩ | ⟨b, off, cap, h2, _⟩
      · exact ⟨ac, cc, h1, h2⟩
      · exact ⟨_, _, (fun e => by cases e), h2⟩
    have hr := run_append_none (P := Try.prog) w 28 o.type 5 i0 Try.underlying28 hi ao 0 0 (Nat.le_refl _) ac cc hcn
    unfold Oper.wp
    simp [execOp, ho, resolve, invoke, builtin, hs, hvx, hr, Result.andThen]
    exact h _ _ w (Below.refl _ _) ⟨.inl ⟨rfl, _, rfl⟩, hf.2⟩
  · have hp : 0 < ys.length := List.length_pos_iff.2 hy
    cases ao with
    | none =>
      refine wp_append_any s x ho hs (World.ownsRow_nil w w.heap.size _ _) vx hvx ys hx ys.length (Nat.zero_add _) hn (Nat.le_refl _) (fun bo c w' h1 h2 => ?_)
      rw [List.nil_append] at h1
      exact h bo c w' ((Below.refl _ _).grown h2 (Nat.le_refl _) (fun k hk => by cases hk)) ⟨.inr ⟨hp, ownsRow_lower h1 hB⟩, fun k hk => ⟨Nat.le_trans hB (h1.lt k hk).1, (h1.lt k hk).2⟩⟩
    | some b =>
      rcases hx with ⟨e, _⟩ | ⟨b', off, cap, hx, g1, g2, g3⟩
      · exact absurd (by simpa using e) hy
      · rw [List.length_map] at hx g1
        obtain ⟨v', w', hrun, r1, r2⟩ := run_append_arg_grows (P := Try.prog) w 28 o.type 5 i0 (.int .u8 0) 1 1 Try.underlying28 hi hz0 hz1 hz2 rfl (by decide) b 0 0 [] rfl (fun j u h => by simp at h) ⟨b', off, none⟩ ys.length cap (ys.map bv) (by simp) (fun j u hj => by rw [Addr.add_lit]; exact g3 j u hj) (by omega) (by unfold maxLen; omega) (by omega)
        rw [Nat.zero_add, List.nil_append] at r1
        obtain ⟨bo, c, rfl⟩ := own_form r1
        unfold Oper.wp
        simp [execOp, ho, resolve, invoke, builtin, hs, hvx, hx, hrun, Result.andThen]
        exact h bo c w' ((Below.refl _ _).grown r2 (Nat.le_refl _) (fun k hk => by cases hk)) ⟨.inr ⟨hp, ownsRow_lower r1 hB⟩, fun k hk => ⟨Nat.le_trans hB (r1.lt k hk).1, (r1.lt k hk).2⟩⟩

theorem wp_append_fb {o : Oper} {a : Act} {K : Act → World → Prop} {Q : Exit → Act → World → Prop} {w : World} {base : Nat} {v : Value} {xs : List UInt8}
    (s x : Operand) (ho : o.op = .call { callee := .builtin .append, args := #[s, x], argTypes := #[28, 28] })
    (hs : a.eval s = v) (hf : Fb w base v xs) (vx : Value) (hvx : a.eval x = vx) (ys : List UInt8) (hx : Rd w vx (ys.map bv)) (N : Nat) (hN : (xs ++ ys).length = N) (hn : N ≤ 16777216) (hB : base ≤ w.heap.size)
    (h : ∀ bo c w', Below base w w' → Rd w' (.slice bo N c) ((xs ++ ys).map bv) → (∀ k, (Value.slice bo N c).ownBlock = some k → base ≤ k ∧ k < w'.heap.size) → K (a.put o.dst (.slice bo N c)) w') : o.wp Try.prog a w K Q := by
  by_cases he : xs = []
  · subst he
    refine wp_append_fresh s x ho hs hf vx hvx ys hx N (by simpa using hN) hn hB (fun bo c w' h1 h2 => ?_)
    exact h bo c w' (h1.mono hB) (by rw [List.nil_append]; exact h2.1.rd) h2.2
  · have ho' : w.ownsRow base 5 1 v xs.length (xs.map bv) := by
      rcases hf.1 with ⟨e, _⟩ | ⟨_, ho⟩
      · exact absurd e he
      · exact ho
    refine wp_append_any s x ho hs ho' vx hvx ys hx N (by rw [← hN, List.length_append]) hn hB (fun bo c w' h1 h2 => ?_)
    rw [← List.map_append] at h1
    exact h bo c w' ((Below.refl _ _).grown h2 hB (fun k hk => (ho'.lt k hk).1)) (.of_own h1) (fun k hk => h1.lt k hk)
end Go.Proofs.Ytneifmnlailipaa
