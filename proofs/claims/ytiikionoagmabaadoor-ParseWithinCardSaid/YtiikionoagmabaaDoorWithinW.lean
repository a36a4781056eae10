/- Rows of rows of places, and of places, that grow by two; rows of noughts (for ParseWithin). -/
import Derived.Test.YtiikionoagmabaaDoorParseLaw
import Derived.Test.YtiikionoagmabaaDoorPA
import Derived.Test.YtiikionoagmabaaDoorParsePut
import Derived.Test.YtiikionoagmabaaDoorPG
import Derived.Test.YtiikionoagmabaaDoorFoot
namespace Go.Proofs.YtiikionoagmabaaDoor
open Go.RowKit

theorem ints_info : (Tryd.prog.info? 25).map (fun i => (i.zero, i.size, i.bytes)) = some (some (.slice none 0 0), 1, 24) := by kernel_rfl
/-- 'append(rows, a, b)' of rows. -/
theorem append_rows2 {ops : Array Oper} {rest : List Oper} {o : Oper} {a : Act} {Q : Exit → Act → World → Prop} {w : World} {B b n : Nat} {v : Value} {vs : List Value} (p q : Value)
    (hgd : o.guard = none) (s x : Operand) (ho : o.op = .call { callee := .builtin .append, args := #[s, x], argTypes := #[35, 35] })
    (hs : a.eval s = v) (h : w.ownsRow B 25 1 v n vs) (hx : a.eval x = .slice (some ⟨b, 0, none⟩) 2 2) (hb : w.heap[b]? = some (.cells #[p, q] 25 (0, 0)))
    (hp : p.oneCell' = true) (hq : q.oneCell' = true) (hn : n ≤ 1048576) (hB : B ≤ w.heap.size)
    (h' : ∀ g cap w', w'.ownsRow B 25 1 (.slice (some ⟨g, 0, none⟩) (n + 2) cap) (n + 2) (vs ++ [p, q]) → w.grownBy w' v.ownBlock → (v.ownBlock = some g ∨ g = w.heap.size) → wpList Tryd.prog ops Q rest (a.put o.dst (.slice (some ⟨g, 0, none⟩) (n + 2) cap)) w') : wpList Tryd.prog ops Q (o :: rest) a w := by
  obtain ⟨i0, hi, hz0, hz1, hz2⟩ := info_parts ints_info
  refine wpList_append_lies w hgd s x _ ho B _ i0 _ 1 24 Tryd.underlying35 hi hz0 hz1 hz2 rfl (by decide) v n vs hs h ⟨b, 0, none⟩ 2 2 [p, q] hx rfl (World.news_of_block hb) ?_ (by decide) (by unfold maxLen; omega) (by omega) hB _ rfl (fun g cap w' h2 h3 h4 _ => h' g cap w' h2 h3 h4)
  intro u hu
  simp at hu
  rcases hu with rfl | rfl
  · exact hp
  · exact hq
/-- 'append(row, i, i)'. -/
theorem append_ints2 {ops : Array Oper} {rest : List Oper} {o : Oper} {a : Act} {Q : Exit → Act → World → Prop} {w : World} {B b n : Nat} {v : Value} {vs : List Value} (p q : Nat)
    (hgd : o.guard = none) (s x : Operand) (ho : o.op = .call { callee := .builtin .append, args := #[s, x], argTypes := #[25, 25] })
    (hs : a.eval s = v) (h : w.ownsRow B 3 1 v n vs) (hx : a.eval x = .slice (some ⟨b, 0, none⟩) 2 2) (hb : w.heap[b]? = some (.cells #[.int .i64 (p : Int), .int .i64 (q : Int)] 3 (0, 0)))
    (hn : n ≤ 1048576) (hB : B ≤ w.heap.size)
    (h' : ∀ g cap w', w'.ownsRow B 3 1 (.slice (some ⟨g, 0, none⟩) (n + 2) cap) (n + 2) (vs ++ [nv p, nv q]) → w.grownBy w' v.ownBlock → (v.ownBlock = some g ∨ g = w.heap.size) → wpList Tryd.prog ops Q rest (a.put o.dst (.slice (some ⟨g, 0, none⟩) (n + 2) cap)) w') : wpList Tryd.prog ops Q (o :: rest) a w := by
  obtain ⟨i0, hi, hz0, hz1, hz2⟩ := info_parts int_info
  refine wpList_append_lies w hgd s x _ ho B _ i0 _ 1 8 Tryd.underlying25 hi hz0 hz1 hz2 rfl (by decide) v n vs hs h ⟨b, 0, none⟩ 2 2 [nv p, nv q] hx rfl (World.news_of_block hb) ?_ (by decide) (by unfold maxLen; omega) (by omega) hB _ rfl (fun g cap w' h2 h3 h4 _ => h' g cap w' h2 h3 h4)
  intro u hu
  simp at hu
  rcases hu with rfl | rfl <;> rfl
theorem made_noughts (n : Nat) : madeCells (Value.int .i64 0).cells n = (List.replicate n (Value.int .i64 0)).toArray := by
  apply Array.ext
  · simp [size_madeCells]
  · intro i h1 h2
    simp [madeCells, Value.cells]
    rw [Nat.mod_one]
    rfl
/-- 'make([]int, n)'. -/
theorem make_ints (w : World) (n : Nat) (hn : n ≤ 16777216) : ∃ w', (Instr.makeSlice 25 (.int .i64 (n : Int)) (.int .i64 (n : Int))).run Tryd.prog w = .ok (.slice (some ⟨w.heap.size, 0, Option.none⟩) n n) w' ∧
    w'.heap[w.heap.size]? = some (.cells (List.replicate n (Value.int .i64 0)).toArray 3) ∧ Below w.heap.size w w' := by
  obtain ⟨i0, hi, hz0, hz1, hz2⟩ := info_parts int_info
  obtain ⟨w', h1, h2, h3⟩ := run_makeSlice_full (P := Tryd.prog) w w.heap.size 25 3 i0 (.int .i64 0) 1 Tryd.underlying25 hi hz0 hz1 .i64 .i64 n (by omega) (by rw [hz2]; omega) (by unfold maxLen; omega) (Nat.le_refl _)
  refine ⟨w', h1, ?_, (Below.refl _ _).grown h3 (Nat.le_refl _) (fun k hk => by cases hk)⟩
  rw [Nat.mul_one, made_noughts] at h2
  rcases h2.2 with ⟨e, _⟩ | ⟨g, cap, cur, hv, hg, hc, h4, h5, h6, h7⟩
  · cases e
  · simp only [Value.slice.injEq, Option.some.injEq, Addr.mk.injEq, and_true, true_and] at hv
    obtain ⟨rfl, rfl⟩ := hv
    rw [hc]
    have : cur.toList = List.replicate n (Value.int .i64 0) := by
      have e : cur.toList.take (n * 1) = cur.toList := List.take_of_length_le (by simp; omega)
      rw [e] at h7
      rw [h7]
    rw [← this]

theorem own_at {w : World} {B n g cap : Nat} {e : TypeId} {vs : List Value} (h : w.ownsRow B e 1 (.slice (some ⟨g, 0, none⟩) n cap) n vs) {j : Nat} {u : Value} (hj : vs[j]? = some u) : w.cell? ⟨g, j, none⟩ = some u := by
  have hl := h.1
  rw [Nat.mul_one] at hl
  have hn : j < vs.length := (List.getElem?_eq_some_iff.1 hj).1
  obtain ⟨g', cap', e1, _, _, _, hc⟩ := own_pos h (by omega)
  simp only [Value.slice.injEq, Option.some.injEq, Addr.mk.injEq, true_and, and_true] at e1
  obtain ⟨rfl, rfl⟩ := e1
  exact hc j u hj
theorem own_laid (w : World) (v : Value) (e : TypeId) (B g : Nat) (hB : B ≤ g) (hg : w.heap[g]? = some (.cells #[v] e (0, 0))) : w.ownsRow B e 1 (.slice (some ⟨g, 0, none⟩) 1 1) 1 [v] :=
  own_shut (rest := []) hB (Nat.le_refl _) (by unfold maxLen; omega) hg rfl rfl
/-- How often each of n numbers stands in a row, as cells. -/
def cntL (n : Nat) (l : List Nat) : List Value := (List.range n).map fun j => nv (l.count j)
theorem cntL_len (n : Nat) (l : List Nat) : (cntL n l).length = n := by simp [cntL]
theorem cntL_nil (n : Nat) : cntL n [] = List.replicate n (.int .i64 0) := by
  unfold cntL
  apply List.ext_getElem
  · simp
  · intro i h1 h2
    simp [nv]
theorem cntL_at {n j : Nat} (l : List Nat) (h : j < n) : (cntL n l)[j]? = some (nv (l.count j)) := by simp [cntL, h]
theorem cntL_set {n j : Nat} (l : List Nat) (h : j < n) : (cntL n l).set j (nv (l.count j + 1)) = cntL n (l ++ [j]) := by
  apply List.ext_getElem?
  intro i
  rw [List.getElem?_set]
  by_cases hi : i < n
  · rw [cntL_at (l ++ [j]) hi, cntL_at l hi, cntL_len]
    by_cases hj : j = i
    · subst hj
      rw [if_pos rfl, if_pos h, List.count_append]
      simp
    · rw [if_neg hj, List.count_append]
      simp [hj]
  · rw [List.getElem?_eq_none (by rw [cntL_len]; omega), List.getElem?_eq_none (by rw [cntL_len]; omega)]
    by_cases hj : j = i
    · omega
    · rw [if_neg hj]

/-- What stands while ParseWithin reads: the rows, whose they are, what was counted. -/
structure WS (wp wr : World) (g B n8 n9 : Nat) (s8 s9 : Value) (v8 v9 sn : List Value) : Prop where
  below : Below wp.heap.size wp wr
  gs : wp.heap.size = g
  rows : wr.ownsRow B 25 1 s8 n8 v8
  own : wr.ownsRow B 3 1 s9 n9 v9
  apart : ∀ k, s8.ownBlock = some k → s9.ownBlock ≠ some k
  seen : wr.heap[g]? = some (.cells sn.toArray 3 (0, 0))
  gB : g < B
  sz : B ≤ wr.heap.size
section
variable {wp wr w2 : World} {g B n8 n9 : Nat} {s8 s9 : Value} {v8 v9 sn : List Value} {o : Obj}
theorem WS.later (h : WS wp wr g B n8 n9 s8 s9 v8 v9 sn) (hb : Below wr.heap.size wr w2) : WS wp w2 g B n8 n9 s8 s9 v8 v9 sn where
  below := h.below.trans (hb.mono h.below.size)
  gs := h.gs
  rows := own_below h.rows hb
  own := own_below h.own hb
  apart := h.apart
  seen := (hb.block g (Nat.lt_of_lt_of_le h.gB h.sz)).trans h.seen
  gB := h.gB
  sz := Nat.le_trans h.sz hb.size
theorem WS.pushRows {m g2 c2 : Nat} {v : List Value} (h : WS wp wr g B n8 n9 s8 s9 v8 v9 sn) (ho : w2.ownsRow B 25 1 (.slice (some ⟨g2, 0, none⟩) m c2) m v) (hg : wr.grownBy w2 s8.ownBlock) (hgg : s8.ownBlock = some g2 ∨ g2 = wr.heap.size) : WS wp w2 g B m n9 (.slice (some ⟨g2, 0, none⟩) m c2) s9 v v9 sn where
  below := h.below.grown hg h.below.size (fun k hk => by have := (h.rows.lt k hk).1; have := h.gB; have := h.gs; omega)
  gs := h.gs
  rows := ho
  own := h.own.kept hg (by
    cases h9 : s9.ownBlock with
    | none => exact .inl rfl
    | some k => exact .inr (fun e => h.apart k e.symm h9))
  apart := fun k hk e => by
    obtain rfl : g2 = k := by simpa [Value.ownBlock] using hk
    rcases hgg with hgg | hgg
    · exact h.apart _ hgg e
    · have := (h.own.lt _ e).2; omega
  seen := (hg.block g (Nat.lt_of_lt_of_le h.gB h.sz) (fun e => by have := (h.rows.lt g e.symm).1; have := h.gB; omega)).trans h.seen
  gB := h.gB
  sz := Nat.le_trans h.sz hg.size
theorem WS.pushOwn {m g2 c2 : Nat} {v : List Value} (h : WS wp wr g B n8 n9 s8 s9 v8 v9 sn) (ho : w2.ownsRow B 3 1 (.slice (some ⟨g2, 0, none⟩) m c2) m v) (hg : wr.grownBy w2 s9.ownBlock) (hgg : s9.ownBlock = some g2 ∨ g2 = wr.heap.size) : WS wp w2 g B n8 m s8 (.slice (some ⟨g2, 0, none⟩) m c2) v8 v sn where
  below := h.below.grown hg h.below.size (fun k hk => by have := (h.own.lt k hk).1; have := h.gB; have := h.gs; omega)
  gs := h.gs
  rows := h.rows.kept hg (by
    cases h9 : s8.ownBlock with
    | none => exact .inl rfl
    | some k => exact .inr (fun e => h.apart k h9 e.symm))
  own := ho
  apart := fun k hk e => by
    obtain rfl : g2 = k := by simpa [Value.ownBlock] using e
    rcases hgg with hgg | hgg
    · exact h.apart _ hk hgg
    · have := (h.rows.lt _ hk).2; omega
  seen := (hg.block g (Nat.lt_of_lt_of_le h.gB h.sz) (fun e => by have := (h.own.lt g e.symm).1; have := h.gB; omega)).trans h.seen
  gB := h.gB
  sz := Nat.le_trans h.sz hg.size
theorem WS.store (h : WS wp wr g B n8 n9 s8 s9 v8 v9 sn) (j : Nat) (u : Value) : WS wp (wr.setCell ⟨g, j, none⟩ u) g B n8 n9 s8 s9 v8 v9 (sn.set j u) where
  below := h.below.setCell (p := ⟨g, j, none⟩) (by rw [h.gs]; exact Nat.le_refl _) u
  gs := h.gs
  rows := (Trn.setCell (F := fun k => k = g) (Trn.refl _ wr) (g := g) rfl u).own h.rows (fun k hk e => by have := (h.rows.lt k hk).1; have := h.gB; omega)
  own := (Trn.setCell (F := fun k => k = g) (Trn.refl _ wr) (g := g) rfl u).own h.own (fun k hk e => by have := (h.own.lt k hk).1; have := h.gB; omega)
  apart := h.apart
  seen := by rw [setCell_row h.seen, List.setIfInBounds_toArray]
  gB := h.gB
  sz := by have := h.sz; simp [World.setCell]; exact this
theorem WS.at (h : WS wp wr g B n8 n9 s8 s9 v8 v9 sn) {j : Nat} {u : Value} (hj : sn[j]? = some u) : wr.cell? ⟨g, j, none⟩ = some u ∧ wr.frozen? ⟨g, j, none⟩ = false := by
  refine ⟨?_, ?_⟩
  · rw [cell_of_row _ _ _ _ _ _ h.seen]; simpa using hj
  · exact frozen_of_row _ _ _ _ _ h.seen
end
/-- A script's rows, beside the slices they lie in. -/
def fLM (c : SA) : Value × Value := (c.l, c.m)
def csP (cs : List SA) : List (Ps.St × SA) := cs.map fun c => (c.st, c)
def triT (N : Nat) (tv : Value) (top : List Nat) (cs : List SA) (i : Nat) : List (Value × List Nat × Nat) := Ps.triOf fLM N tv top (csP (cs.take i))
def tri8 (l : List (Value × List Nat × Nat)) : List Value := l.map (·.1)
def tri9 (l : List (Value × List Nat × Nat)) : List Value := l.map fun x => nv x.2.2
theorem triT_len {N i : Nat} (tv : Value) (top : List Nat) {cs : List SA} (hi : i ≤ cs.length) : (triT N tv top cs i).length = 2 * i + 1 := by
  rw [triT, Ps.tri_len, csP, List.length_map, List.length_take, Nat.min_eq_left hi]
theorem triT_zero (N : Nat) (tv : Value) (top : List Nat) (cs : List SA) : triT N tv top cs 0 = [(tv, top, N)] := by rw [triT, List.take_zero]; rfl
theorem triT_snoc {N i : Nat} (tv : Value) (top : List Nat) {cs : List SA} {c : SA} (h : cs[i]? = some c) : triT N tv top cs (i + 1) = triT N tv top cs i ++ [(c.l, c.st.l, i), (c.m, c.st.m, i)] := by
  have hlt : i < cs.length := (List.getElem?_eq_some_iff.1 h).1
  rw [triT, List.take_add_one, h, csP, List.map_append]
  have := Ps.tri_snoc fLM N tv top (csP (cs.take i)) c.st c
  rw [csP, List.length_map, List.length_take, Nat.min_eq_left (by omega)] at this
  exact this
theorem csP_row (cs : List SA) : (csP cs).map (·.1) = rowOf cs := by simp [csP, rowOf]
theorem csP_len (cs : List SA) : (csP cs).length = cs.length := by simp [csP]
end Go.Proofs.YtiikionoagmabaaDoor
