/- Queues in memory: what the call owns, and what stays; append where it is told where the new slice lies. -/
import Derived.Test.YtimieknphedniaaRdB
import Derived.Test.YtimieknphedniaaRdCut
import Derived.Deep.AppendLies
import Derived.ArgAppend
import Derived.Deep.RegionHeld3
namespace Go.Proofs.Ytimieknphedniaa
open Go.RowKit

/-- Of what was there, block g and the row of s alone may have turned. -/
structure Turn (g : Nat) (s : Value) (w w' : World) : Prop where
  os : w'.os = w.os
  tape : w'.tape = w.tape
  output : w'.output = w.output
  size : w.heap.size ≤ w'.heap.size
  block : ∀ k, k < w.heap.size → k ≠ g → s.ownBlock ≠ some k → w'.heap[k]? = w.heap[k]?

theorem Turn.of_below {g : Nat} {s : Value} {w w' : World} (h : Below w.heap.size w w') : Turn g s w w' := ⟨h.os, h.tape, h.output, h.size, fun k hk _ _ => h.block k hk⟩
theorem Turn.refl (g : Nat) (s : Value) (w : World) : Turn g s w w := .of_below (Below.refl _ _)
theorem Turn.before {g : Nat} {s : Value} {a b c : World} (h : Below a.heap.size a b) (k : Turn g s b c) : Turn g s a c :=
  ⟨k.os.trans h.os, k.tape.trans h.tape, k.output.trans h.output, Nat.le_trans h.size k.size, fun i hi h1 h2 => (k.block i (Nat.lt_of_lt_of_le hi h.size) h1 h2).trans (h.block i hi)⟩
theorem Turn.trans {g : Nat} {s s' : Value} {a b c : World} (h : Turn g s a b) (hs : s'.ownBlock = s.ownBlock ∨ ∃ k, s'.ownBlock = some k ∧ a.heap.size ≤ k) (k : Turn g s' b c) : Turn g s a c := by
  refine ⟨k.os.trans h.os, k.tape.trans h.tape, k.output.trans h.output, Nat.le_trans h.size k.size, fun i hi h1 h2 => (k.block i (Nat.lt_of_lt_of_le hi h.size) h1 ?_).trans (h.block i hi h1 h2)⟩
  rcases hs with hs | ⟨k, hs, hk⟩
  · rw [hs]; exact h2
  · rw [hs]
    intro e
    cases e
    omega
theorem Turn.below {g B : Nat} {s : Value} {w w' : World} (h : Turn g s w w') (hg : B ≤ g) (hs : ∀ k, s.ownBlock = some k → B ≤ k) (hB : B ≤ w.heap.size) : Below B w w' :=
  ⟨h.os, h.tape, h.output, h.size, fun k hk => h.block k (by omega) (by omega) (fun e => by have := hs k e; omega)⟩
theorem Turn.cell {g : Nat} {s : Value} {w w' : World} (h : Turn g s w w') {p : Addr} {v : Value} (hc : w.cell? p = some v) (h1 : p.block ≠ g) (h2 : s.ownBlock ≠ some p.block) : w'.cell? p = some v :=
  (World.cell?_of_block (h.block p.block (World.block_lt_of_cell? w p hc) h1 h2)).trans hc
theorem Turn.own {g B n : Nat} {s : Value} {w w' : World} (h : Turn g s w w') {v : Value} {e : TypeId} {vs : List Value} (ho : w.ownsRow B e 1 v n vs) (h1 : v.ownBlock ≠ some g) (h2 : v.ownBlock = none ∨ v.ownBlock ≠ s.ownBlock) : w'.ownsRow B e 1 v n vs := by
  refine ⟨ho.1, ?_⟩
  rcases ho.2 with hn | ⟨b, cap, cur, rfl, hb, hh, r⟩
  · exact .inl hn
  · refine .inr ⟨b, cap, cur, rfl, hb, ?_, r⟩
    rw [h.block b (Array.getElem?_eq_some_iff.1 hh).1 (by simpa [Value.ownBlock] using h1) (by rcases h2 with h2 | h2 <;> simp [Value.ownBlock] at h2 ⊢; exact fun e => h2 e.symm)]
    exact hh

/-- A slice of bytes that the call was handed: empty, or a row of its own. -/
def Fr (w : World) (B : Nat) (v : Value) (ys : List UInt8) : Prop :=
  (ys = [] ∧ ∃ ao, v = .slice ao 0 0) ∨ (0 < ys.length ∧ w.ownsRow B 5 1 v ys.length (ys.map bv))
theorem Fr.rd {w : World} {B : Nat} {v : Value} {ys : List UInt8} (h : Fr w B v ys) : Rd w v (ys.map bv) := by
  rcases h with ⟨rfl, ao, rfl⟩ | ⟨_, h⟩
  · exact .inl ⟨rfl, ao, 0, fun _ => rfl, rfl⟩
  · exact .of_own h

theorem Fr.form {w : World} {B : Nat} {v : Value} {ys : List UInt8} (h : Fr w B v ys) : ∃ ao cap, v = .slice ao ys.length cap := by
  rcases h with ⟨rfl, ao, rfl⟩ | ⟨_, ho⟩
  · exact ⟨_, _, rfl⟩
  · rcases ho.2 with ⟨rfl, e⟩ | ⟨_, _, _, rfl, _⟩
    · rw [e]; exact ⟨_, _, rfl⟩
    · exact ⟨_, _, rfl⟩
theorem Fr.lower {w : World} {B B' : Nat} {v : Value} {ys : List UInt8} (h : Fr w B v ys) (hB : B' ≤ B) : Fr w B' v ys := h.imp id fun h => ⟨h.1, ownsRow_lower h.2 hB⟩
theorem Fr.below {w w' : World} {B : Nat} {v : Value} {ys : List UInt8} (h : Fr w B v ys) (hb : Below w.heap.size w w') : Fr w' B v ys := h.imp id fun h => ⟨h.1, own_below h.2 hb⟩

/-- Nothing is appended. -/
theorem run_append_none {P : Program} (w : World) (t ty e : TypeId) (i : TypeInfo) (ht : P.underlying t = some (.slice e)) (hi : P.info? e = some i) (base : Option Addr) (n cap : Nat) (hle : n ≤ cap) (ao : Option Addr) (c : Nat) (hc : ao = none → c = 0) :
    (Builtin.append_ #[t, t] ty #[.slice base n cap, .slice ao 0 c]).run P w = .ok (.slice base n cap) w := by
  cases ao with
  | none =>
    obtain rfl := hc rfl
    cases base <;> simp [Builtin.append_, run_underlying ht, sizeOf, typeInfo, hi, Builtin.lenOf, hle, Builtin.firstCells, storeCells]
  | some a =>
    have hfc := run_firstCells_some (P := P) w i.size 0 a 0 c [] (by simp) (fun j u h => by simp at h)
    cases base <;> simp [Builtin.append_, run_underlying ht, sizeOf, typeInfo, hi, Builtin.lenOf, hle, hfc, storeCells]

/-- 'append(xs, ys...)' on a row of bytes that the call owns, ys whatever slice: where the new one lies. -/
theorem append_where {ops : Array Oper} {rest : List Oper} {o : Oper} {a : Act} {Q : Exit → Act → World → Prop} {w : World} {B n : Nat} {v : Value} {xs : List Value}
    (hgd : o.guard = none) (s x : Operand) (ho : o.op = .call { callee := .builtin .append, args := #[s, x], argTypes := #[38, 38] })
    (hs : a.eval s = v) (hown : w.ownsRow B 5 1 v n xs) (ys : List UInt8) (hx : Rd w (a.eval x) (ys.map bv)) (hn : n + ys.length ≤ 16777216) (hB : B ≤ w.heap.size)
    (h : ∀ v' w', w'.ownsRow B 5 1 v' (n + ys.length) (xs ++ ys.map bv) → w.grownBy w' v.ownBlock → (ys = [] → v' = v) → (v' = v ∨ ∃ g cap, v' = .slice (some ⟨g, 0, none⟩) (n + ys.length) cap ∧ (v.ownBlock = some g ∨ g = w.heap.size)) → wpList Try.prog ops Q rest (a.put o.dst v') w') :
    wpList Try.prog ops Q (o :: rest) a w := by
  obtain ⟨i0, hi, hz0, hz1, hz2⟩ := info_parts info_u8
  rcases hx with ⟨e, ao, cap, ha, hx⟩ | ⟨b, off, cap, hx, g1, g2, g3⟩
  · obtain rfl : ys = [] := by simpa using e
    obtain ⟨bo, cp, rfl, hle⟩ : ∃ bo cp, v = .slice bo n cp ∧ n ≤ cp := by
      rcases hown.2 with ⟨rfl, rfl⟩ | ⟨g, cp, cur, rfl, _, _, h2, _⟩
      · exact ⟨_, _, rfl, Nat.le_refl _⟩
      · exact ⟨_, _, rfl, h2⟩
    have hr := run_append_none (P := Try.prog) w 38 o.type 5 i0 Try.underlying38 hi bo n cp hle ao cap ha
    refine wpList_plain hgd fun K hK => ?_
    unfold Oper.wp
    simp [execOp, ho, resolve, invoke, builtin, hs, hx, hr, Result.andThen]
    exact hK _ _ (h _ w (by simpa using hown) ⟨rfl, rfl, rfl, Nat.le_refl _, fun _ _ _ => rfl⟩ (fun _ => rfl) (.inl rfl))
  · rw [List.length_map] at hx g1
    rcases Nat.eq_zero_or_pos ys.length with h0 | h0
    · obtain rfl : ys = [] := List.eq_nil_of_length_eq_zero h0
      obtain ⟨bo, cp, rfl, hle⟩ : ∃ bo cp, v = .slice bo n cp ∧ n ≤ cp := by
        rcases hown.2 with ⟨rfl, rfl⟩ | ⟨g, cp, cur, rfl, _, _, h2, _⟩
        · exact ⟨_, _, rfl, Nat.le_refl _⟩
        · exact ⟨_, _, rfl, h2⟩
      have hr := run_append_none (P := Try.prog) w 38 o.type 5 i0 Try.underlying38 hi bo n cp hle (some ⟨b, off, none⟩) cap (fun h => by cases h)
      refine wpList_plain hgd fun K hK => ?_
      unfold Oper.wp
      simp only [List.length_nil] at hx
      simp [execOp, ho, resolve, invoke, builtin, hs, hx, hr, Result.andThen]
      exact hK _ _ (h _ w (by simpa using hown) ⟨rfl, rfl, rfl, Nat.le_refl _, fun _ _ _ => rfl⟩ (fun _ => rfl) (.inl rfl))
    · refine wpList_append_lies w hgd s x 38 ho B 5 i0 (.int .u8 0) 1 1 Try.underlying38 hi hz0 hz1 hz2 rfl (by decide) v n xs hs hown ⟨b, off, none⟩ ys.length cap (ys.map bv) hx (by simp) (fun j u hj => by rw [Addr.add_lit]; exact g3 j u hj) (bv_cell _) h0 (by unfold maxLen; omega) (by omega) hB _ rfl (fun g cap w' h2 h3 h4 _ => ?_)
      exact h _ w' h2 h3 (fun e => by subst e; cases h0) (.inr ⟨g, cap, rfl, h4⟩)

/-- 'append(xs[:0:0], xs...)'. -/
theorem append_own {ops : Array Oper} {rest : List Oper} {o : Oper} {a : Act} {Q : Exit → Act → World → Prop} {w : World}
    (hgd : o.guard = none) (s x : Operand) (ho : o.op = .call { callee := .builtin .append, args := #[s, x], argTypes := #[38, 38] })
    (ao : Option Addr) (hs : a.eval s = .slice ao 0 0) (ys : List UInt8) (hx : Rd w (a.eval x) (ys.map bv)) (hn : ys.length ≤ 16777216)
    (h : ∀ v' w', Below w.heap.size w w' → (ys = [] → v' = .slice ao 0 0) → Fr w' w.heap.size v' ys → wpList Try.prog ops Q rest (a.put o.dst v') w') :
    wpList Try.prog ops Q (o :: rest) a w := by
  obtain ⟨i0, hi, hz0, hz1, hz2⟩ := info_parts info_u8
  have nothing : ∀ bo cap, ys = [] → (bo = none → cap = 0) → a.eval x = .slice bo 0 cap → wpList Try.prog ops Q (o :: rest) a w := by
    rintro bo cap rfl hb hx
    have hr := run_append_none (P := Try.prog) w 38 o.type 5 i0 Try.underlying38 hi ao 0 0 (Nat.le_refl _) bo cap hb
    refine wpList_plain hgd fun K hK => ?_
    unfold Oper.wp
    simp [execOp, ho, resolve, invoke, builtin, hs, hx, hr, Result.andThen]
    exact hK _ _ (h _ w (Below.refl _ _) (fun _ => rfl) (.inl ⟨rfl, _, rfl⟩))
  rcases hx with ⟨e, bo, cap, ha, hx⟩ | ⟨b, off, cap, hx, g1, g2, g3⟩
  · exact nothing bo cap (by simpa using e) ha hx
  · rw [List.length_map] at hx g1
    rcases Nat.eq_zero_or_pos ys.length with h0 | h0
    · exact nothing (some ⟨b, off, none⟩) cap (List.eq_nil_of_length_eq_zero h0) (fun h => by cases h) (by rw [hx, h0])
    · refine wpList_append_grows w hgd s x 38 ho 5 i0 (.int .u8 0) 1 1 Try.underlying38 hi hz0 hz1 hz2 rfl (by decide) ao 0 0 [] hs (fun _ => ⟨rfl, rfl⟩) rfl (fun b _ j u h => by simp at h) ⟨b, off, none⟩ ys.length cap (ys.map bv) hx (by simp) (fun j u hj => by rw [Addr.add_lit]; exact g3 j u hj) (bv_cell _) (by omega) (by unfold maxLen; omega) (by omega) (fun v' w' h2 h3 => ?_)
      rw [Nat.zero_add, List.nil_append] at h2
      exact h v' w' ((Below.refl _ _).grown h3 (Nat.le_refl _) (fun k hk => by cases hk)) (fun e => by subst e; cases h0) (.inr ⟨h0, h2⟩)
end Go.Proofs.Ytimieknphedniaa
