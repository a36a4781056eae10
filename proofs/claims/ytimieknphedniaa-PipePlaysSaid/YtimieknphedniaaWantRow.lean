/- Those who wait, in a row of the call's own that grows. -/
import Derived.Test.YtimieknphedniaaWantB
import Derived.Deep.AppendLies
namespace Go.Proofs.Ytimieknphedniaa
open Go.RowKit

structure OW (w : World) (B : Nat) (v : Value) (l : List Wt) : Prop where
  own : w.ownsRow B 31 4 v l.length (wrow l)
section
variable {w w' : World} {B : Nat} {v : Value} {l : List Wt}
theorem OW.nil (w : World) (B : Nat) : OW w B (.slice none 0 0) [] := ⟨World.ownsRow_nil _ _ _ _⟩
theorem OW.made (w : World) (B : Nat) (hB : B ≤ w.heap.size) : OW (w.alloc (.cells #[] 31)) B (.slice (some ⟨w.heap.size, 0, none⟩) 0 0) [] := ⟨World.ownsRow_made w #[] 0 hB (Nat.zero_le _) rfl⟩
theorem OW.lt (h : OW w B v l) : ∀ k, v.ownBlock = some k → B ≤ k ∧ k < w.heap.size := h.own.lt
theorem OW.lower {B' : Nat} (h : OW w B v l) (hB : B' ≤ B) : OW w B' v l := ⟨ownsRow_lower h.own hB⟩
theorem OW.below (h : OW w B v l) (hb : Below w.heap.size w w') : OW w' B v l :=
  ⟨h.own.kept (row := Option.none) ⟨hb.os, hb.tape, hb.output, hb.size, fun k hk _ => hb.block k hk⟩ (by
    cases hv : v.ownBlock
    · exact .inl rfl
    · exact .inr (by simp))⟩
theorem OW.apart {g : Nat} (h : OW w B v l) (hT : Trn (· = g) w w') (hg : v.ownBlock ≠ some g) : OW w' B v l :=
  ⟨h.own.kept (row := some g) ⟨hT.os, hT.tape, hT.output, hT.size, fun k hk h1 => hT.block k hk (fun e => h1 (by rw [e]))⟩ (by
    cases hv : v.ownBlock
    · exact .inl rfl
    · exact .inr (by rw [hv] at hg; exact hg))⟩
/-- Its form: what stands at each place. -/
theorem OW.form (h : OW w B v l) : ∃ ao cap, v = .slice ao l.length cap ∧ l.length ≤ cap ∧ (0 < l.length → ∃ b, ao = some ⟨b, 0, none⟩ ∧ cap ≤ maxLen ∧ ∀ j x, l[j]? = some x → ∀ i u, x.cells[i]? = some u → w.cell? ⟨b, j * 4 + i, none⟩ = some u) := by
  have hc := fun g hg => h.own.cells (g := g) hg
  rcases h.own.2 with ⟨rfl, hn⟩ | ⟨g, cap, cur, rfl, _, _, h2, h3, _⟩
  · exact ⟨_, _, by rw [hn], by omega, fun h0 => by omega⟩
  · refine ⟨_, cap, rfl, h2, fun _ => ⟨g, rfl, h3, fun j x hj i u hi => ?_⟩⟩
    have := hc g rfl _ _ (wrow_at l j x hj i u hi)
    rwa [Addr.add_lit, Nat.zero_add] at this

theorem info_wants : (Try.prog.info? 31).map (fun i => (i.zero, i.size, i.bytes)) = some (some (.agg #[.string ByteArray.empty, .string ByteArray.empty, .bool false, .int .i64 0]), 4, 48) := by kernel_rfl

/-- 'append(l, m...)', of some that are read. -/
theorem wp_append_wants {o : Oper} {a : Act} {K : Act → World → Prop} {Q : Exit → Act → World → Prop} (m : List Wt)
    (s x : Operand) (ho : o.op = .call { callee := .builtin .append, args := #[s, x], argTypes := #[27, 27] })
    (hs : a.eval s = v) (h : OW w B v l) (b off cap : Nat) (hx : a.eval x = .slice (some ⟨b, off, none⟩) m.length cap) (hc : ∀ j u, (wrow m)[j]? = some u → w.cell? ⟨b, off + j, none⟩ = some u)
    (hm : 0 < m.length) (hn : l.length + m.length ≤ 100000) (hB : B ≤ w.heap.size)
    (h' : ∀ g cap w', OW w' B (.slice (some ⟨g, 0, none⟩) (l.length + m.length) cap) (l ++ m) → w.grownBy w' v.ownBlock → (v.ownBlock = some g ∨ g = w.heap.size) → K (a.put o.dst (.slice (some ⟨g, 0, none⟩) (l.length + m.length) cap)) w') : o.wp Try.prog a w K Q := by
  obtain ⟨i0, hi, hz0, hz1, hz2⟩ := info_parts info_wants
  refine wp_append_lies w s x 27 ho B 31 i0 (.agg #[.string ByteArray.empty, .string ByteArray.empty, .bool false, .int .i64 0]) 4 48 Try.underlying27 hi hz0 hz1 hz2 rfl (by decide) v l.length (wrow l) hs h.own ⟨b, off, none⟩ m.length cap (wrow m) hx (wrow_len m) (fun j u hj => by rw [Addr.add_lit]; exact hc j u hj) (wrow_cell m) hm (by unfold maxLen; omega) (by omega) hB _ rfl (fun g cap w' h2 h3 h4 _ => h' g cap w' ⟨?_⟩ h3 h4)
  rw [List.length_append, wrow_append]
  exact h2
/-- The same, of one that lies in a block of its own, in a list of operations. -/
theorem append_want {ops : Array Oper} {rest : List Oper} {o : Oper} {a : Act} {Q : Exit → Act → World → Prop} (hgd : o.guard = none) (y : Wt) (n : Nat) (hlen : l.length = n)
    (s x : Operand) (ho : o.op = .call { callee := .builtin .append, args := #[s, x], argTypes := #[27, 27] })
    (hs : a.eval s = v) (h : OW w B v l) (b : Nat) (hx : a.eval x = .slice (some ⟨b, 0, none⟩) 1 1) (hb : WB w b y) (hn : n + 1 ≤ 100000) (hB : B ≤ w.heap.size)
    (h' : ∀ g cap w', OW w' B (.slice (some ⟨g, 0, none⟩) (n + 1) cap) (l ++ [y]) → w.grownBy w' v.ownBlock → (v.ownBlock = some g ∨ g = w.heap.size) → wpList Try.prog ops Q rest (a.put o.dst (.slice (some ⟨g, 0, none⟩) (n + 1) cap)) w') : wpList Try.prog ops Q (o :: rest) a w := by
  subst hlen
  refine wpList_plain hgd fun K hK => ?_
  refine wp_append_wants [y] s x ho hs h b 0 1 hx (fun j u hj => ?_) Nat.one_pos hn hB (fun g cap w' h1 h2 h3 => hK _ _ (h' g cap w' h1 h2 h3))
  have hc := cell_of_row w b j _ _ _ hb.blk
  rw [Nat.zero_add, hc]
  rw [← hj]
  show (y.cells.toArray)[j]? = _
  rw [List.getElem?_toArray]
  rfl
end
end Go.Proofs.Ytimieknphedniaa
