/- The texts RdB, RdCut, one behind the other. -/
import Derived.Test.YtiikionoagmabaaDoorRd
import Derived.Laws.AppendOwnNone
import Derived.Laws.IdiomStrings
/- Bytes: made, appended, turned into texts (the program must have []uint8). -/
namespace Go.Proofs.YtiikionoagmabaaDoor
open Go.RowKit

theorem info_u8 : (Tryd.prog.info? 5).map (fun i => (i.zero, i.size, i.bytes)) = some (some (.int .u8 0), 1, 1) := by kernel_rfl

/-- 'make([]byte, 0, c)'. -/
theorem make_u8s (w : World) (c : Nat) (hc : c ≤ 16777216) : ∃ w', (Instr.makeSlice 98 (.int .i64 0) (.int .i64 (c : Int))).run Tryd.prog w = .ok (.slice (some ⟨w.heap.size, 0, Option.none⟩) 0 c) w' ∧
    w'.ownsRow w.heap.size 5 1 (.slice (some ⟨w.heap.size, 0, Option.none⟩) 0 c) 0 [] ∧ Below w.heap.size w w' := by
  obtain ⟨i0, hi, hz0, hz1, hz2⟩ := info_parts info_u8
  obtain ⟨w', h1, h2, h3⟩ := run_make_own (P := Tryd.prog) w w.heap.size 98 5 i0 (.int .u8 0) 1 Tryd.underlying98 hi hz0 hz1 .i64 .i64 c (by rw [hz2]; omega) (by unfold maxLen; omega) (Nat.le_refl _)
  exact ⟨w', h1, h2, (Below.refl _ _).grown h3 (Nat.le_refl _) (fun k hk => by cases hk)⟩

/-- 'append(xs, ys...)' on a row of bytes that the call owns, ys whatever slice. -/
theorem append_u8s {ops : Array Oper} {rest : List Oper} {o : Oper} {a : Act} {Q : Exit → Act → World → Prop} {w : World} {B n : Nat} {v : Value} {xs : List Value}
    (hgd : o.guard = none) (s x : Operand) (ho : o.op = .call { callee := .builtin .append, args := #[s, x], argTypes := #[98, 98] })
    (hs : a.eval s = v) (hown : w.ownsRow B 5 1 v n xs) (ys : List Value) (hx : Rd w (a.eval x) ys)
    (h1 : ∀ u ∈ ys, u.oneCell' = true) (hn : n + ys.length ≤ 16777216) (hB : B ≤ w.heap.size)
    (h : ∀ v' w', w'.ownsRow B 5 1 v' (n + ys.length) (xs ++ ys) → w.grownBy w' v.ownBlock → wpList Tryd.prog ops Q rest (a.put o.dst v') w') : wpList Tryd.prog ops Q (o :: rest) a w := by
  obtain ⟨i0, hi, hz0, hz1, hz2⟩ := info_parts info_u8
  rcases hx with ⟨rfl, ao, cap, ha, hx⟩ | ⟨b, off, cap, hx, g1, g2, g3⟩
  · cases ao with
    | none =>
      obtain rfl := ha rfl
      have h2 := h v w (by simpa using hown) ⟨rfl, rfl, rfl, Nat.le_refl _, fun _ _ _ => rfl⟩
      exact wpList_append_own_none hgd s x 98 ho B 5 i0 1 Tryd.underlying98 hi v n xs hs hown hx h2
    | some ad =>
      refine wpList_append_own _ hgd s x 98 ho B 5 i0 (.int .u8 0) 1 1 Tryd.underlying98 hi hz0 hz1 hz2 rfl (by decide) v n xs hs hown ad 0 cap [] hx rfl (fun j u hj => by simp at hj) (fun u hu => by simp at hu) ?_ ?_ hB (fun v' w' h2 h3 _ => h v' w' h2 h3)
      · simp at hn; unfold maxLen; omega
      · simp at hn; omega
  · refine wpList_append_own _ hgd s x 98 ho B 5 i0 (.int .u8 0) 1 1 Tryd.underlying98 hi hz0 hz1 hz2 rfl (by decide) v n xs hs hown ⟨b, off, none⟩ ys.length cap ys hx (by simp) (fun j u hj => by rw [Addr.add_lit]; exact g3 j u hj) h1 ?_ ?_ hB (fun v' w' h2 h3 _ => h v' w' h2 h3)
    · unfold maxLen; omega
    · omega

/-- 'string(b)' of bytes that are read. -/
theorem bytes_string {w : World} {v : Value} {l : List UInt8} (h : Rd w v (l.map bv)) : (convert 98 9 v).run Tryd.prog w = .ok (sv l) w := by
  rcases h with ⟨e, ao, cap, ha, rfl⟩ | ⟨b, o, cap, rfl, g1, g2, g3⟩
  · have : l = [] := by simpa using e
    subst this
    cases ao with
    | none =>
      obtain rfl := ha rfl
      rw [run_convert_bytes_string w 98 9 5 none 0 0 Tryd.underlying98 Tryd.underlying5 Tryd.underlying9]
      rfl
    | some a => exact run_convert_bytes_back (P := Tryd.prog) w 98 9 5 a cap [] Tryd.underlying98 Tryd.underlying5 Tryd.underlying9 (fun j hj => by cases hj)
  · have := run_convert_bytes_back (P := Tryd.prog) w 98 9 5 ⟨b, o, none⟩ cap l Tryd.underlying98 Tryd.underlying5 Tryd.underlying9 (fun j hj => by
      rw [Addr.add_lit]
      exact g3 j _ (by rw [List.getElem?_map, List.getElem?_eq_getElem hj]; rfl))
    rw [List.length_map]
    exact this

end Go.Proofs.YtiikionoagmabaaDoor

/- Slices of bytes, cut: of no type of the program. -/
namespace Go.Proofs.YtiikionoagmabaaDoor
open Go.RowKit

/-- A slice cut to its first m. -/
theorem Rd.head {w : World} {b o L cap m : Nat} {xs : List UInt8} (h : Rd w (.slice (some ⟨b, o, none⟩) L cap) (xs.map bv)) (hL : L = xs.length) (hm : m ≤ L) (hp : 0 < L) : Rd w (.slice (some ⟨b, o, none⟩) m cap) ((xs.take m).map bv) := by
  rcases h with ⟨e, _⟩ | ⟨b', o', cap', e, h1, h2, h3⟩
  · have : xs = [] := by simpa using e
    subst this
    subst hL
    cases hp
  · simp only [Value.slice.injEq, Option.some.injEq, Addr.mk.injEq, and_true] at e
    obtain ⟨⟨rfl, rfl⟩, _, rfl⟩ := e
    rw [List.length_map] at h1
    refine .inr ⟨b, o, cap, by rw [List.length_map, List.length_take, Nat.min_eq_left (by omega)], by rw [List.length_map, List.length_take]; omega, h2, fun j u hj => h3 j u ?_⟩
    rw [List.map_take, List.getElem?_take] at hj
    split at hj
    · exact hj
    · cases hj

/-- A slice without its first m. -/
theorem Rd.rest {w : World} {b o L cap m : Nat} {xs : List UInt8} (h : Rd w (.slice (some ⟨b, o, none⟩) L cap) (xs.map bv)) (hL : L = xs.length) (hm : m < L) : Rd w (.slice (some ⟨b, o + m, none⟩) (L - m) (cap - m)) ((xs.drop m).map bv) := by
  rcases h with ⟨e, _⟩ | ⟨b', o', cap', e, h1, h2, h3⟩
  · have : xs = [] := by simpa using e
    subst this
    subst hL
    cases hm
  · simp only [Value.slice.injEq, Option.some.injEq, Addr.mk.injEq, and_true] at e
    obtain ⟨⟨rfl, rfl⟩, _, rfl⟩ := e
    rw [List.length_map] at h1
    refine .inr ⟨b, o + m, cap - m, by rw [List.length_map, List.length_drop, hL], by rw [List.length_map, List.length_drop]; omega, by omega, fun j u hj => ?_⟩
    rw [Nat.add_assoc]
    refine h3 (m + j) u ?_
    rw [List.map_drop, List.getElem?_drop] at hj
    exact hj

/-- A slice without its first m, as the model writes it. -/
theorem Rd.tail {w : World} {b o L cap m : Nat} {xs : List UInt8} (h : Rd w (.slice (some ⟨b, o, none⟩) L cap) (xs.map bv)) (hL : L = xs.length) (hm : m ≤ L) (hc : L ≤ cap) :
    Rd w (.slice (if cap = m then some ⟨b, o, none⟩ else some ⟨b, o + m, none⟩) (L - m) (cap - m)) ((xs.drop m).map bv) := by
  by_cases hlt : m < L
  · rw [if_neg (by omega)]
    exact h.rest hL hlt
  · have e : xs.drop m = [] := List.drop_of_length_le (by omega)
    rw [e, show L - m = 0 by omega]
    refine .inl ⟨rfl, _, _, fun h => ?_, rfl⟩
    split at h <;> cases h

/-- A slice cut to its first m, whatever its address. -/
theorem Rd.cut {w : World} {ao : Option Addr} {L cap m : Nat} {xs : List UInt8} (h : Rd w (.slice ao L cap) (xs.map bv)) (hL : L = xs.length) (hm : m ≤ L) : Rd w (.slice ao m cap) ((xs.take m).map bv) := by
  rcases Nat.eq_zero_or_pos L with h0 | hp
  · obtain rfl : m = 0 := by omega
    rw [List.take_zero]
    rcases h with ⟨_, ao', cap', h1, e⟩ | ⟨b, o, cap', e, _⟩
    · simp only [Value.slice.injEq] at e
      obtain ⟨rfl, _, rfl⟩ := e
      exact .inl ⟨rfl, _, _, h1, rfl⟩
    · simp only [Value.slice.injEq] at e
      obtain ⟨rfl, _, rfl⟩ := e
      exact .inl ⟨rfl, _, _, (fun h => by cases h), rfl⟩
  · obtain ⟨ao', cap', e, _, hc⟩ := h.form
    simp only [Value.slice.injEq] at e
    obtain ⟨rfl, _, rfl⟩ := e
    obtain ⟨b, o, rfl, _⟩ := hc (by omega)
    exact h.head hL hm hp

/-- A slice without its first m, whatever its address, as the model writes it. -/
theorem Rd.tailAny {w : World} {ao : Option Addr} {L cap m : Nat} {xs : List UInt8} (h : Rd w (.slice ao L cap) (xs.map bv)) (hL : L = xs.length) (hm : m ≤ L) :
    Rd w (.slice (if cap = m then ao else Option.map (fun x => x.add m) ao) (L - m) (cap - m)) ((xs.drop m).map bv) := by
  rcases Nat.eq_zero_or_pos L with h0 | hp
  · obtain rfl : m = 0 := by omega
    have hx : xs = [] := List.eq_nil_of_length_eq_zero (by omega)
    subst hx
    rw [show L - 0 = 0 by omega]
    refine .inl ⟨rfl, _, _, fun he => ?_, rfl⟩
    by_cases hc : cap = 0
    · omega
    · rw [if_neg hc] at he
      have hao : ao = none := by cases ao with | none => rfl | some a => cases he
      subst hao
      rcases h with ⟨_, ao', cap', h1, e⟩ | ⟨b, o, cap', e, _⟩
      · simp only [Value.slice.injEq] at e
        obtain ⟨rfl, _, rfl⟩ := e
        exact absurd (h1 rfl) hc
      · simp at e
  · obtain ⟨ao', cap', e, hcap, hc⟩ := h.form
    simp only [Value.slice.injEq] at e
    obtain ⟨rfl, _, rfl⟩ := e
    obtain ⟨b, o, rfl, _⟩ := hc (by omega)
    have := h.tail hL hm (by omega)
    simpa only [Option.map_some, Addr.add_lit] using this

/-- Bytes in a new block. -/
theorem Rd.made (w : World) (l : List UInt8) (t : TypeId) (fr : Nat × Nat) (n : Nat) (hn : n = l.length) (hl : n ≤ 1000) : Rd (w.alloc (.cells (l.map bv).toArray t fr)) (.slice (some ⟨w.heap.size, 0, none⟩) n n) (l.map bv) := by
  refine .inr ⟨_, 0, n, by rw [List.length_map, hn], by rw [List.length_map]; omega, by unfold maxLen; omega, fun j u hj => ?_⟩
  rw [cell_of_row _ _ _ _ _ _ (heap_alloc_new w _), Nat.zero_add]
  simpa using hj

end Go.Proofs.YtiikionoagmabaaDoor
