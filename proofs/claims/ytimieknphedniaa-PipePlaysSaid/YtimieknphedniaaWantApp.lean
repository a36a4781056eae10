/- Rows of those who wait, appended whole, empty ones too; the reference's pipe as it lies. -/
import Derived.Test.YtimieknphedniaaWantRow
import Derived.Test.YtimieknphedniaaQueue
namespace Go.Proofs.Ytimieknphedniaa
open Go.RowKit

/-- A slice that reads so. -/
def RW (w : World) (v : Value) (m : List Wt) : Prop :=
  ∃ ao cap, v = .slice ao m.length cap ∧ (ao = none → cap = 0) ∧ m.length ≤ cap ∧ (0 < m.length → ∃ b o, ao = some ⟨b, o, none⟩ ∧ ∀ j u, (wrow m)[j]? = some u → w.cell? ⟨b, o + j, none⟩ = some u)
section
variable {w w' : World} {B : Nat} {v : Value} {l : List Wt}
theorem OW.rw (h : OW w B v l) : RW w v l := by
  have hc := fun g hg => h.own.cells (g := g) hg
  rcases h.own.2 with ⟨rfl, hn⟩ | ⟨g, cap, cur, rfl, _, _, h2, h3, _⟩
  · exact ⟨none, 0, by rw [hn], fun _ => rfl, by omega, fun h0 => by omega⟩
  · refine ⟨_, cap, rfl, (fun e => by cases e), h2, fun _ => ⟨g, 0, rfl, fun j u hj => ?_⟩⟩
    have := hc g rfl j u hj
    rwa [Addr.add_lit] at this
theorem RW.next (h : RW w v l) (hb : Below w.heap.size w w') : RW w' v l := by
  obtain ⟨ao, cap, h1, h2, h4, h3⟩ := h
  refine ⟨ao, cap, h1, h2, h4, fun h0 => ?_⟩
  obtain ⟨b, o, e, hc⟩ := h3 h0
  exact ⟨b, o, e, fun j u hj => (hb.cell (World.block_lt_of_cell? w _ (hc j u hj))).trans (hc j u hj)⟩
/-- What is read, but the first. -/
theorem RW.tail {x : Wt} {ao : Option Addr} {n cap : Nat} (h : RW w (.slice ao n cap) (x :: l)) (ho : ∀ b o, ao = some ⟨b, o, none⟩ → o = 0) (hn : l.length + 1 = n) :
    ∃ b, ao = some ⟨b, 0, none⟩ ∧ (cap = 1 → RW w (.slice (some ⟨b, 0, none⟩) l.length 0) l) ∧ (cap ≠ 1 → RW w (.slice (some ⟨b, 4, none⟩) l.length (cap - 1)) l) := by
  obtain ⟨ao', cap', h1, _, hle, h3⟩ := h
  obtain ⟨b, o, e, hc⟩ := h3 (by simp)
  simp only [Value.slice.injEq] at h1
  obtain ⟨rfl, h4, rfl⟩ := h1
  obtain rfl := ho b o e
  rw [List.length_cons] at hle
  refine ⟨b, e, fun hcap => ?_, fun hcap => ?_⟩
  · have h0 : l.length = 0 := by omega
    exact ⟨_, _, rfl, (fun e => by cases e), by omega, fun h5 => by omega⟩
  · refine ⟨_, _, rfl, (fun e => by cases e), by omega, fun _ => ⟨b, 4, rfl, fun j u hj => ?_⟩⟩
    have := hc (4 + j) u (by
      rw [wrow_cons, List.getElem?_append_right (by show 4 ≤ _; omega), show 4 + j - x.cells.length = j from by show _ - 4 = _; omega]
      exact hj)
    rwa [Nat.zero_add] at this

/-- 'append(l, m...)', of whatever is read. -/
theorem wp_append_row {o : Oper} {a : Act} {K : Act → World → Prop} {Q : Exit → Act → World → Prop} (m : List Wt)
    (s x : Operand) (ho : o.op = .call { callee := .builtin .append, args := #[s, x], argTypes := #[27, 27] })
    (hs : a.eval s = v) (h : OW w B v l) (vx : Value) (hx : a.eval x = vx) (hm : RW w vx m) (n : Nat) (hl : l.length + m.length = n) (hn : n ≤ 100000) (hB : B ≤ w.heap.size)
    (h' : ∀ ao cap w', OW w' B (.slice ao n cap) (l ++ m) → w.grownBy w' v.ownBlock → ((Value.slice ao n cap).ownBlock = v.ownBlock ∨ (Value.slice ao n cap).ownBlock = some w.heap.size) → K (a.put o.dst (.slice ao n cap)) w') : o.wp Try.prog a w K Q := by
  subst hl
  obtain ⟨ao, cap, rfl, hz, _, hc⟩ := hm
  rcases Nat.eq_zero_or_pos m.length with h0 | h0
  · obtain rfl : m = [] := List.eq_nil_of_length_eq_zero h0
    obtain ⟨i0, hi, hz0, hz1, hz2⟩ := info_parts info_wants
    obtain ⟨bo, cp, hv, hle, _⟩ := h.form
    have hr := run_append_none (P := Try.prog) w 27 o.type 31 i0 Try.underlying27 hi bo l.length cp hle ao cap hz
    have h2 := h' bo cp w (by rw [List.append_nil]; show OW w B (.slice bo l.length cp) l; rw [← hv]; exact h) ⟨rfl, rfl, rfl, Nat.le_refl _, fun _ _ _ => rfl⟩ (.inl (by rw [hv]; rfl))
    rw [hv] at hs
    unfold Oper.wp
    simp [execOp, ho, resolve, invoke, builtin, hs, hx, hr, Result.andThen]
    exact h2
  · obtain ⟨b, off, rfl, hc2⟩ := hc h0
    exact wp_append_wants m s x ho hs h b off cap hx hc2 h0 hn hB (fun g cap w' h1 h2 h3 => h' _ _ w' h1 h2 (h3.elim (fun e => .inl e.symm) (fun e => .inr (by rw [e]; rfl))))
/-- The same, in a list of operations. -/
theorem append_row {ops : Array Oper} {rest : List Oper} {o : Oper} {a : Act} {Q : Exit → Act → World → Prop} (hgd : o.guard = none) (m : List Wt)
    (s x : Operand) (ho : o.op = .call { callee := .builtin .append, args := #[s, x], argTypes := #[27, 27] })
    (hs : a.eval s = v) (h : OW w B v l) (vx : Value) (hx : a.eval x = vx) (hm : RW w vx m) (n : Nat) (hl : l.length + m.length = n) (hn : n ≤ 100000) (hB : B ≤ w.heap.size)
    (h' : ∀ ao cap w', OW w' B (.slice ao n cap) (l ++ m) → w.grownBy w' v.ownBlock → ((Value.slice ao n cap).ownBlock = v.ownBlock ∨ (Value.slice ao n cap).ownBlock = some w.heap.size) → wpList Try.prog ops Q rest (a.put o.dst (.slice ao n cap)) w') : wpList Try.prog ops Q (o :: rest) a w :=
  wpList_plain hgd fun _ hK => wp_append_row m s x ho hs h vx hx hm n hl hn hB (fun ao cap w' h1 h2 h3 => hK _ _ (h' ao cap w' h1 h2 h3))
end

/-- Block g holds the reference's pipe. -/
structure YO (w : World) (B g : Nat) (s : Value) (l : List Wt) : Prop where
  c : w.heap[g]? = some (.cells #[s] 29 (0, 0))
  o : OW w B s l
  hg : B ≤ g
  ne : s.ownBlock ≠ some g
section
variable {w w' : World} {B g : Nat} {s : Value} {l : List Wt}
theorem YO.lt (h : YO w B g s l) : g < w.heap.size := (Array.getElem?_eq_some_iff.1 h.c).1
theorem YO.next (h : YO w B g s l) (hb : Below w.heap.size w w') : YO w' B g s l := ⟨(hb.block _ h.lt).trans h.c, h.o.below hb, h.hg, h.ne⟩
theorem YO.apart {g' : Nat} (h : YO w B g s l) (hT : Trn (· = g') w w') (h1 : g ≠ g') (h2 : s.ownBlock ≠ some g') : YO w' B g s l := ⟨(hT.block _ h.lt h1).trans h.c, h.o.apart hT h2, h.hg, h.ne⟩
theorem YO.c0 (h : YO w B g s l) : w.cell? ⟨g, 0, none⟩ = some s := cell_of_row _ _ _ _ _ _ h.c
theorem YO.f0 (h : YO w B g s l) (i : Nat) : w.frozen? ⟨g, i, none⟩ = false := frozen_of_row _ _ _ _ _ h.c
theorem YO.form (h : YO w B g s l) : ∃ ao cap, s = .slice ao l.length cap ∧ l.length ≤ cap ∧ (0 < l.length → ∃ b, ao = some ⟨b, 0, none⟩ ∧ cap ≤ maxLen ∧ ∀ j x, l[j]? = some x → ∀ i u, x.cells[i]? = some u → w.cell? ⟨b, j * 4 + i, none⟩ = some u) := h.o.form
/-- A new row stands in the place of the old one. -/
theorem YO.put {w1 : World} {s' : Value} {l' : List Wt} (h : YO w B g s l) (hb : Below w.heap.size w w1) (ho : OW w1 w.heap.size s' l') (hB : B ≤ w.heap.size) : YO (w1.setCell ⟨g, 0, none⟩ s') B g s' l' := by
  have hn : s'.ownBlock ≠ some g := fun e => by have := (ho.lt _ e).1; have := h.lt; omega
  refine ⟨(setCell_row ((hb.block _ h.lt).trans h.c)).trans rfl, ?_, h.hg, hn⟩
  have hT : Trn (· = g) w1 (w1.setCell ⟨g, 0, none⟩ s') := (Trn.refl (· = g) w1).setCell rfl s'
  exact (ho.lower hB).apart hT hn
end
end Go.Proofs.Ytimieknphedniaa
