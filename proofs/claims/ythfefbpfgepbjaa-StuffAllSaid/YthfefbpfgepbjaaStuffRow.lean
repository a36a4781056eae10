/- A row of bytes behind a variable that is captured: block g holds the slice; what was there stays, but for that block. Where the first end of whole lines is. -/
import Derived.Test.YthfefbpfgepbjaaStuffIx
import Derived.Test.YthfefbpfgepbjaaOwnSet
import Derived.Test.YthfefbpfgepbjaaRdCut
import Derived.Test.YthfefbpfgepbjaaAppendT
namespace Go.Proofs.Ythfefbpfgepbjaa
open Go.RowKit

/-- Block g holds a row s of the call's own, of bytes xs; since w0 nothing turned but it. -/
structure RowAt (w0 w : World) (g : Nat) (s : Value) (xs : List UInt8) : Prop where
  c : w.heap[g]? = some (.cells #[s] 22 (0, 0))
  o : w.ownsRow w0.heap.size 5 1 s xs.length (xs.map bv)
  os : w.os = w0.os
  tape : w.tape = w0.tape
  output : w.output = w0.output
  size : w0.heap.size ≤ w.heap.size
  block : ∀ k, k < w0.heap.size → k ≠ g → w.heap[k]? = w0.heap[k]?
  lt : g < w0.heap.size
theorem RowAt.start {w0 : World} {g : Nat} (h : w0.heap[g]? = some (.cells #[.slice none 0 0] 22 (0, 0))) : RowAt w0 w0 g (.slice none 0 0) [] :=
  ⟨h, World.ownsRow_nil _ _ _ _, rfl, rfl, rfl, Nat.le_refl _, fun _ _ _ => rfl, (Array.getElem?_eq_some_iff.1 h).1⟩
section
variable {w0 w w' : World} {g : Nat} {s s' : Value} {xs ys : List UInt8}
theorem RowAt.next (h : RowAt w0 w g s xs) (hb : Below w.heap.size w w') : RowAt w0 w' g s xs :=
  ⟨(hb.block _ (Nat.lt_of_lt_of_le h.lt h.size)).trans h.c, own_below h.o hb, hb.os.trans h.os, hb.tape.trans h.tape, hb.output.trans h.output, Nat.le_trans h.size hb.size,
    fun k hk hne => (hb.block k (Nat.lt_of_lt_of_le hk h.size)).trans (h.block k hk hne), h.lt⟩
theorem RowAt.c0 (h : RowAt w0 w g s xs) : w.cell? ⟨g, 0, none⟩ = some s := cell_of_row _ _ _ _ _ _ h.c
theorem RowAt.f0 (h : RowAt w0 w g s xs) : w.frozen? ⟨g, 0, none⟩ = false := frozen_of_row _ _ _ _ _ h.c
theorem RowAt.own (h : RowAt w0 w g s xs) : ∀ k, s.ownBlock = some k → w0.heap.size ≤ k ∧ k < w.heap.size := h.o.lt
/-- Behind append, ahead of the store. -/
theorem RowAt.cgrown (h : RowAt w0 w g s xs) (hT : w.grownBy w' s.ownBlock) : w'.heap[g]? = some (.cells #[s] 22 (0, 0)) :=
  (hT.block g (Nat.lt_of_lt_of_le h.lt h.size) (fun e => by have := (h.own g e.symm).1; have := h.lt; omega)).trans h.c
/-- The row has grown, and is put there. -/
theorem RowAt.put (h : RowAt w0 w g s xs) (ho : w'.ownsRow w0.heap.size 5 1 s' (xs.length + ys.length) (xs.map bv ++ ys.map bv)) (hT : w.grownBy w' s.ownBlock) :
    RowAt w0 (w'.setCell ⟨g, 0, none⟩ s') g s' (xs ++ ys) := by
  have hc := h.cgrown hT
  refine ⟨(setCell_row hc).trans rfl, ?_, hT.os.trans h.os, hT.tape.trans h.tape, hT.output.trans h.output, ?_, fun k hk hne => ?_, h.lt⟩
  · rw [List.length_append, List.map_append]
    exact own_setCell ho (fun e => by have := (ho.lt g e).1; have := h.lt; omega)
  · simp [World.setCell]
    exact Nat.le_trans h.size hT.size
  · rw [Below.heap_setCell _ _ _ _ hne]
    exact (hT.block k (Nat.lt_of_lt_of_le hk h.size) (fun e => by have := (h.own k e.symm).1; omega)).trans (h.block k hk hne)
/-- Bytes that were read still are. -/
theorem RowAt.rd (h : RowAt w0 w g s xs) (hg : w0.heap[g]? = some (.cells #[.slice none 0 0] 22 (0, 0))) {v : Value} (hr : Rd w0 v (ys.map bv)) : Rd w v (ys.map bv) := by
  rcases hr with hr | ⟨b, o, cap, h1, h2, h3, h4⟩
  · exact .inl hr
  · refine .inr ⟨b, o, cap, h1, h2, h3, fun j u hj => ?_⟩
    have hc := h4 j u hj
    have hne : b ≠ g := by
      rintro rfl
      have hb : ∃ x : UInt8, u = bv x := by
        obtain ⟨x, _, rfl⟩ := List.mem_map.1 (List.mem_of_getElem? hj)
        exact ⟨x, rfl⟩
      obtain ⟨x, rfl⟩ := hb
      unfold World.cell? at hc
      rw [hg] at hc
      dsimp only at hc
      generalize o + j = n at hc
      cases n with
      | zero => simp [bv] at hc
      | succ n => simp [bv] at hc
    exact (World.cell?_of_block (h.block b (World.block_lt_of_cell? w0 _ hc) hne)).trans hc
theorem RowAt.mx (h : RowAt w0 w g s xs) (hg : w0.heap[g]? = some (.cells #[.slice none 0 0] 22 (0, 0))) (hm : MX w0) : MX w := by
  refine hm.keep fun p v hp hb => ?_
  have hne : p.block ≠ g := by
    obtain ⟨m, hm⟩ := hm
    intro e
    rw [hb] at e
    rw [← e] at hg
    unfold World.cell? at hm
    dsimp only at hm
    rw [hg] at hm
    simp at hm
  exact (World.cell?_of_block (h.block p.block (World.block_lt_of_cell? w0 _ hp) hne)).trans hp
end

namespace St
/-- Bytes of which no part ends by an end, but the last one. -/
theorem dots_quiet : ∀ (bs c : List UInt8), c ≠ [] → (∀ i, i < bs.length → ends (c ++ bs.take i) = false) → dots c bs = bs
  | [], _, _, _ => rfl
  | b :: bs, c, hc, h => by
    have he : ends c = false := by simpa using h 0 (Nat.zero_lt_succ _)
    have hb : (c.isEmpty || ends c) = false := by
      rw [he]
      cases c with
      | nil => exact absurd rfl hc
      | cons => rfl
    rw [dots, if_neg (by rw [hb]; simp), dots_quiet bs (c ++ [b]) (by simp) (fun i hi => ?_)]
    · rfl
    · have := h (i + 1) (by rw [List.length_cons]; omega)
      rw [List.take_succ_cons] at this
      simpa using this
theorem occ_ends {ys : List UInt8} {i : Nat} (h : ends (ys.take (i + 2)) = true) (hi : i + 2 ≤ ys.length) : Lib.occAt ys [13, 10] i = true := by
  obtain ⟨p, hp⟩ := ends_iff.1 h
  have hl : p.length = i := by
    have := congrArg List.length hp
    simp at this
    omega
  have e : ys.drop i = [13, 10] ++ ys.drop (i + 2) := by
    have h1 : ys = p ++ ([13, 10] ++ ys.drop (i + 2)) := by
      conv => lhs; rw [← List.take_append_drop (i + 2) ys, hp]
      rw [List.append_assoc]
    conv => lhs; rw [h1, ← hl, List.drop_left]
    rw [hl]
  unfold Lib.occAt
  rw [e]
  simp
/-- The first line of whole ones: what the search tells, how its dots are. -/
theorem first_line {ys : List UInt8} (h : ends ys = true) : ∃ k : Nat, Lib.index ys [13, 10] = (k : Int) ∧ k + 2 ≤ ys.length ∧ ends (ys.take (k + 2)) = true ∧ (ys.drop (k + 2) = [] ∨ ends (ys.drop (k + 2)) = true) ∧
    dots [] (ys.take (k + 2)) = (if ys.head? = some 46 then [46] else []) ++ ys.take (k + 2) := by
  obtain ⟨zs, rfl⟩ := ends_iff.1 h
  rcases Lib.index_spec (zs ++ [13, 10]) [13, 10] with ⟨_, h2⟩ | ⟨k, h1, h2, h3, h4⟩
  · have := h2 zs.length (by simp)
    unfold Lib.occAt at this
    rw [List.drop_left] at this
    cases this
  · unfold Lib.occAt at h3
    obtain ⟨t, ht⟩ := List.isPrefixOf_iff_prefix.1 h3
    have hlen : k + 2 ≤ (zs ++ [13, 10]).length := by
      have := congrArg List.length ht
      simp at this ⊢
      omega
    have hz : (zs ++ [13, 10]).take (k + 2) = (zs ++ [13, 10]).take k ++ [13, 10] := by
      rw [List.take_add, ← ht]
      rfl
    have hd : (zs ++ [13, 10]).drop (k + 2) = t := by
      rw [← List.drop_drop, ← ht]
      rfl
    refine ⟨k, h1, hlen, by rw [hz]; exact ends_crlf _, ?_, ?_⟩
    · rw [hd]
      by_cases h0 : t = []
      · exact .inl h0
      · right
        have e : (zs ++ [13, 10]).take k ++ ([13, 10] ++ t) = zs ++ [13, 10] := by rw [ht, List.take_append_drop]
        have he : ends ((zs ++ [13, 10]).take k ++ ([13, 10] ++ t)) = true := by rw [e]; exact ends_crlf _
        rcases t with _ | ⟨x, _ | ⟨y, ts⟩⟩
        · exact absurd rfl h0
        · exfalso
          rw [ends_append _ (by simp)] at he
          have := ends_two [13] 10 x
          rw [show ([13] ++ [10, x] : List UInt8) = [13, 10] ++ [x] by rfl] at this
          rw [this] at he
          cases he
        · rw [ends_append _ (by simp), ends_append _ (by simp)] at he
          exact he
    · generalize hY : zs ++ [13, 10] = ys at *
      have hno : ∀ i, i < k + 2 → ends (ys.take i) = false := by
        intro i hi
        cases he : ends (ys.take i) with
        | false => rfl
        | true =>
          exfalso
          have hi2 : 2 ≤ i := by
            obtain ⟨p, hp⟩ := ends_iff.1 he
            have := congrArg List.length hp
            simp at this
            omega
          obtain ⟨j, rfl⟩ : ∃ j, i = j + 2 := ⟨i - 2, by omega⟩
          have := occ_ends he (by omega)
          rw [h4 j (by omega)] at this
          cases this
      cases ys with
      | nil => simp at hlen
      | cons x xs =>
        have ht2 : (x :: xs).take (k + 2) = x :: xs.take (k + 1) := rfl
        rw [ht2, dots, dots_quiet _ _ (by simp) (fun i hi => ?_)]
        · by_cases hx : x = 46
          · subst hx; simp
          · simp [hx]
        · have := hno (i + 1) (by rw [List.length_take] at hi; omega)
          rw [List.take_succ_cons] at this
          rw [List.take_take, Nat.min_eq_left (by rw [List.length_take] at hi; omega)]
          exact this
end St
end Go.Proofs.Ythfefbpfgepbjaa
