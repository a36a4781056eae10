/- 'giveUp' and 'reset' of a connection, walked. -/
import Derived.Test.YtneifmnlailipaaConnDo
import Derived.Test.YtneifmnlailipaaHeld
namespace Go.Proofs.Ytneifmnlailipaa
open Go.RowKit

/-- append, at the operation: where the new slice lies. -/
theorem wp_append_where {o : Oper} {a : Act} {K : Act → World → Prop} {Q : Exit → Act → World → Prop} {w : World} {B n : Nat} {v : Value} {xs : List Value}
    (s x : Operand) (ho : o.op = .call { callee := .builtin .append, args := #[s, x], argTypes := #[28, 28] })
    (hs : a.eval s = v) (hown : w.ownsRow B 5 1 v n xs) (vx : Value) (hvx : a.eval x = vx) (ys : List UInt8) (hx : Rd w vx (ys.map bv)) (N : Nat) (hN : n + ys.length = N) (hn : N ≤ 16777216) (hB : B ≤ w.heap.size)
    (h : ∀ bo c w', w'.ownsRow B 5 1 (.slice bo N c) N (xs ++ ys.map bv) → w.grownBy w' v.ownBlock → (ys = [] → Value.slice bo N c = v) → ((Value.slice bo N c).ownBlock = v.ownBlock ∨ (Value.slice bo N c).ownBlock = some w.heap.size) → K (a.put o.dst (.slice bo N c)) w') : o.wp Try.prog a w K Q := by
  subst hN
  obtain ⟨i0, hi, hz0, hz1, hz2⟩ := info_parts info_u8
  have nothing : ∀ ao cap, ys = [] → (ao = none → cap = 0) → vx = .slice ao 0 cap → o.wp Try.prog a w K Q := by
    rintro ao cap rfl ha rfl
    obtain ⟨bo, cp, rfl, hle⟩ : ∃ bo cp, v = .slice bo n cp ∧ n ≤ cp := by
      rcases hown.2 with ⟨rfl, rfl⟩ | ⟨g, cp, cur, rfl, _, _, h2, _⟩
      · exact ⟨_, _, rfl, Nat.le_refl _⟩
      · exact ⟨_, _, rfl, h2⟩
    have hr := run_append_none (P := Try.prog) w 28 o.type 5 i0 Try.underlying28 hi bo n cp hle ao cap ha
    unfold Oper.wp
    simp [execOp, ho, resolve, invoke, builtin, hs, hvx, hr, Result.andThen]
    exact h _ _ w (by simpa using hown) ⟨rfl, rfl, rfl, Nat.le_refl _, fun _ _ _ => rfl⟩ (fun _ => rfl) (.inl rfl)
  rcases hx with ⟨e, ao, cap, ha, hx⟩ | ⟨b, off, cap, hx, g1, g2, g3⟩
  · exact nothing ao cap (by simpa using e) ha hx
  · rw [List.length_map] at hx g1
    rcases Nat.eq_zero_or_pos ys.length with h0 | h0
    · exact nothing (some ⟨b, off, none⟩) cap (List.eq_nil_of_length_eq_zero h0) (fun h => by cases h) (by rw [hx, h0])
    · refine wp_append_lies w s x 28 ho B 5 i0 (.int .u8 0) 1 1 Try.underlying28 hi hz0 hz1 hz2 rfl (by decide) v n xs hs hown ⟨b, off, none⟩ ys.length cap (ys.map bv) (hvx.trans hx) (by simp) (fun j u hj => by rw [Addr.add_lit]; exact g3 j u hj) (bv_cell _) h0 (by unfold maxLen; omega) (by omega) hB _ rfl (fun g cap w' h2 h3 h4 _ => h _ _ w' h2 h3 (fun e => by subst e; cases h0) ?_)
      rcases h4 with h4 | rfl
      · exact .inl h4.symm
      · exact .inr rfl

section
variable {w w1 w' : World} {B g o : Nat} {F : Nat → Prop} {C : Array Value} {T : TypeId} {s so sw : Value} {most : Int} {c : Wi.Cn}

/-- What went out is one row more, and stored. -/
theorem CX.sentPut {so' : Value} (h : CX w B g o F C T s so sw most c) {N : Nat} (hN : N = c.sent.length) (ho : w1.ownsRow B 5 1 so' N (c.sent.map bv)) (hT : w.grownBy w1 so.ownBlock) (hy : c.xs.take c.t = [] → so' = so) (hw : so'.ownBlock = so.ownBlock ∨ so'.ownBlock = some w.heap.size) :
    CX (w1.setCell ⟨g, o + 6, none⟩ so') B g o (fun k => F k ∨ so'.ownBlock = some k) (C.setIfInBounds (o + 6) so') T s so' sw most { c with old := c.sent } ∧ Cg g o F w (fun k => F k ∨ so'.ownBlock = some k) (w1.setCell ⟨g, o + 6, none⟩ so') := by
  have hlt := h.lt
  have hslt := h.q.slt
  have hwlt := h.rw.r.lt
  have hne : so'.ownBlock ≠ some g := by
    rcases hw with e | e
    · rw [e]; exact h.no
    · rw [e]; intro e; cases e; omega
  have hgg := (hT.block g h.lt (fun e => h.no e.symm)).trans h.q.c
  have hT2 := Tn.grown (F := F) hT h.fo
  have ds : ∀ {v : Value}, (∀ k, v.ownBlock = some k → k < w.heap.size) → Dj v so → Dj v so' := fun {v} h1 h2 => by
    rcases hw with e | e
    · unfold Dj; rw [e]; exact h2
    · exact Dj.late h1 (fun k hk => by rw [e] at hk; cases hk; exact Nat.le_refl _)
  have kp : ∀ {v : Value} {n : Nat} {vs : List Value}, w.ownsRow B 5 1 v n vs → v.ownBlock ≠ some g → Dj v so → (w1.setCell ⟨g, o + 6, none⟩ so').ownsRow B 5 1 v n vs := fun {v n vs} h1 h2 h3 => own_set (h1.kept hT h3) h2
  have far : ∀ j, j ≠ 6 → (C.setIfInBounds (o + 6) so')[o + j]? = C[o + j]? := fun j hj => set_ne (by omega)
  have hsz := hT.size
  refine ⟨⟨⟨setCell_row hgg, (far 3 (by omega)).trans h.q.e0, (far 4 (by omega)).trans h.q.e1, (far 5 (by omega)).trans h.q.e2, kp h.q.r h.q.ne h.d1, h.q.hg, h.q.ne, h.q.e, h.q.ht, h.q.hs, h.q.hl, h.q.hm⟩, (far 0 (by omega)).trans h.e0, (far 1 (by omega)).trans h.e1, (far 2 (by omega)).trans h.e2, set_eq h.e6, (far 7 (by omega)).trans h.e7, ?_, ⟨kp h.rw.r h.nw h.d3.swap, h.rw.e⟩, hne, h.nw, ?_, h.d2, ?_, fun k hk => .inl (h.fs k hk), fun k hk => .inr hk, fun k hk => .inl (h.fw k hk), fun k hk => ?_, h.m4⟩, ⟨⟨hT.os, hT.tape, hT.output, by simp [World.setCell]; exact hT.size, fun k hk h1 => ?_⟩, fun C' T' hC => ?_, fun k hk => ?_⟩⟩
  · refine ⟨own_set (by rw [hN] at ho; exact ho) hne, fun e => ?_⟩
    obtain ⟨h1, h2⟩ := List.append_eq_nil_iff.1 (show c.old ++ c.xs.take c.t = [] from e)
    rw [hy h2]
    exact h.ro.e h1
  · exact ds (fun k hk => (hslt k hk).2) h.d1
  · exact (ds (fun k hk => (hwlt k hk).2) h.d3.swap).swap
  · have hlt' := ho.lt
    rcases hk with hk | hk
    · have := h.fF k hk
      exact ⟨this.1, by simp [World.setCell]; omega, this.2.2⟩
    · refine ⟨(hlt' k hk).1, by simp [World.setCell]; exact (hlt' k hk).2, fun e => hne (by rw [hk, e])⟩
  · rw [Below.heap_setCell _ _ _ _ (fun e => h1 (.inl e))]
    exact hT2.block k hk (fun e => h1 (.inr e))
  · have hC' := hC
    rw [h.q.c] at hC
    simp only [Option.some.injEq, Obj.cells.injEq, and_true] at hC
    obtain ⟨rfl, rfl⟩ := hC
    exact ⟨_, setCell_row hgg, by simp, fun j hj => set_ne (by omega)⟩
  · rcases hk with hk | hk
    · exact .inl hk
    · rcases hw with e | e
      · exact .inl (h.fo k (by rw [← e]; exact hk))
      · rw [e] at hk; cases hk; exact .inr (Nat.le_refl _)

/-- What was written is one row more, and stored. -/
theorem CX.wrotePut {sw' : Value} (h : CX w B g o F C T s so sw most c) {N : Nat} (hN : N = c.written.length) (ho : w1.ownsRow B 5 1 sw' N (c.written.map bv)) (hT : w.grownBy w1 sw.ownBlock) (hy : c.xs = [] → sw' = sw) (hw : sw'.ownBlock = sw.ownBlock ∨ sw'.ownBlock = some w.heap.size) :
    CX (w1.setCell ⟨g, o + 7, none⟩ sw') B g o (fun k => F k ∨ sw'.ownBlock = some k) (C.setIfInBounds (o + 7) sw') T s so sw' most { c with wrote := c.written } ∧ Cg g o F w (fun k => F k ∨ sw'.ownBlock = some k) (w1.setCell ⟨g, o + 7, none⟩ sw') := by
  have hlt := h.lt
  have hslt := h.q.slt
  have holt := h.ro.r.lt
  have hne : sw'.ownBlock ≠ some g := by
    rcases hw with e | e
    · rw [e]; exact h.nw
    · rw [e]; intro e; cases e; omega
  have hgg := (hT.block g h.lt (fun e => h.nw e.symm)).trans h.q.c
  have hT2 := Tn.grown (F := F) hT h.fw
  have ds : ∀ {v : Value}, (∀ k, v.ownBlock = some k → k < w.heap.size) → Dj v sw → Dj v sw' := fun {v} h1 h2 => by
    rcases hw with e | e
    · unfold Dj; rw [e]; exact h2
    · exact Dj.late h1 (fun k hk => by rw [e] at hk; cases hk; exact Nat.le_refl _)
  have kp : ∀ {v : Value} {n : Nat} {vs : List Value}, w.ownsRow B 5 1 v n vs → v.ownBlock ≠ some g → Dj v sw → (w1.setCell ⟨g, o + 7, none⟩ sw').ownsRow B 5 1 v n vs := fun {v n vs} h1 h2 h3 => own_set (h1.kept hT h3) h2
  have far : ∀ j, j ≠ 7 → (C.setIfInBounds (o + 7) sw')[o + j]? = C[o + j]? := fun j hj => set_ne (by omega)
  have hsz := hT.size
  refine ⟨⟨⟨setCell_row hgg, (far 3 (by omega)).trans h.q.e0, (far 4 (by omega)).trans h.q.e1, (far 5 (by omega)).trans h.q.e2, kp h.q.r h.q.ne h.d2, h.q.hg, h.q.ne, h.q.e, h.q.ht, h.q.hs, h.q.hl, h.q.hm⟩, (far 0 (by omega)).trans h.e0, (far 1 (by omega)).trans h.e1, (far 2 (by omega)).trans h.e2, (far 6 (by omega)).trans h.e6, set_eq h.e7, ⟨kp h.ro.r h.no h.d3, h.ro.e⟩, ?_, h.no, hne, h.d1, ?_, ?_, fun k hk => .inl (h.fs k hk), fun k hk => .inl (h.fo k hk), fun k hk => .inr hk, fun k hk => ?_, h.m4⟩, ⟨⟨hT.os, hT.tape, hT.output, by simp [World.setCell]; exact hT.size, fun k hk h1 => ?_⟩, fun C' T' hC => ?_, fun k hk => ?_⟩⟩
  · refine ⟨own_set (by rw [hN] at ho; exact ho) hne, fun e => ?_⟩
    obtain ⟨h1, h2⟩ := List.append_eq_nil_iff.1 (show c.wrote ++ c.xs = [] from e)
    rw [hy h2]
    exact h.rw.e h1
  · exact ds (fun k hk => (hslt k hk).2) h.d2
  · exact ds (fun k hk => (holt k hk).2) h.d3
  · have hlt' := ho.lt
    rcases hk with hk | hk
    · have := h.fF k hk
      exact ⟨this.1, by simp [World.setCell]; omega, this.2.2⟩
    · refine ⟨(hlt' k hk).1, by simp [World.setCell]; exact (hlt' k hk).2, fun e => hne (by rw [hk, e])⟩
  · rw [Below.heap_setCell _ _ _ _ (fun e => h1 (.inl e))]
    exact hT2.block k hk (fun e => h1 (.inr e))
  · have hC' := hC
    rw [h.q.c] at hC
    simp only [Option.some.injEq, Obj.cells.injEq, and_true] at hC
    obtain ⟨rfl, rfl⟩ := hC
    exact ⟨_, setCell_row hgg, by simp, fun j hj => set_ne (by omega)⟩
  · rcases hk with hk | hk
    · exact .inl hk
    · rcases hw with e | e
      · exact .inl (h.fw k (by rw [← e]; exact hk))
      · rw [e] at hk; cases hk; exact .inr (Nat.le_refl _)

/-- What 'giveUp' asks the queue for. -/
theorem give_one (h : CX w B g o F C T s so sw most c) (wr : World) (hb : Below w.heap.size w wr) :
    Calls Try.prog 51 #[.pointer (some ⟨g, o + 3, none⟩)] wr fun e w' => ∃ v, e = .returned v ∧ CX w' B g o F C T s so sw most c ∧ Below w.heap.size w w' ∧ Rd w' v ((c.xs.take c.t).map bv) := by
  refine (taken_any (h.next hb).q).mono ?_
  rintro e w' ⟨v, rfl, h1, h2⟩
  exact ⟨v, rfl, (h.next hb).next h1, hb.trans (h1.mono hb.size), h2.rd⟩
theorem give_two (h : CX w B g o F C T s so sw most c) (wr : World) (hb : Below w.heap.size w wr) :
    Calls Try.prog 53 #[.pointer (some ⟨g, o + 3, none⟩)] wr fun e w' => ∃ v, e = .returned v ∧ CX w' B g o F C T s so sw most c ∧ Below w.heap.size w w' ∧ Rd w' v (c.xs.map bv) := by
  refine (all_any (h.next hb).q).mono ?_
  rintro e w' ⟨v, rfl, h1, h2⟩
  exact ⟨v, rfl, (h.next hb).next h1, hb.trans (h1.mono hb.size), h2.rd⟩

end
end Go.Proofs.Ytneifmnlailipaa
