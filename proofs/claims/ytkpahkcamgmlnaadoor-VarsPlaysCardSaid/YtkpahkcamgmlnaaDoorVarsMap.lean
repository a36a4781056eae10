/- A map of names to texts, as it lies in memory; a look-up, an update of it (layer 16). -/
import Derived.Test.YtkpahkcamgmlnaaDoorVarsP
import Derived.Test.YtkpahkcamgmlnaaDoorFoot
import Derived.Test.YtkpahkcamgmlnaaDoorBox
import Derived.Test.YtkpahkcamgmlnaaDoorBa
import Derived.Test.YtkpahkcamgmlnaaDoorBits
import Derived.Carry
import Derived.Maps.Range
import Derived.Laws.Externs
namespace Go.Proofs.YtkpahkcamgmlnaaDoor
open Go.RowKit

namespace Va
/-- Where a name stands first, and what it stands for. -/
def hit : Env → List UInt8 → Option (Nat × List UInt8)
  | [], _ => none
  | (y, v) :: σ, x => if y = x then some (0, v) else (hit σ x).map fun p => (p.1 + 1, p.2)
theorem look_hit (x : List UInt8) : ∀ σ : Env, look σ x = (hit σ x).map (·.2)
  | [] => rfl
  | (y, v) :: σ => by
    rw [look, hit]
    by_cases h : y = x
    · rw [if_pos h, if_pos h]; rfl
    · rw [if_neg h, if_neg h, look_hit x σ]
      cases hit σ x <;> rfl
theorem put_all {p : List UInt8 × List UInt8 → Prop} {x v : List UInt8} (hv : p (x, v)) : ∀ {σ : Env}, (∀ q ∈ σ, p q) → ∀ q ∈ put σ x v, p q
  | [], _ => by
    intro q hq
    rw [put, List.mem_singleton] at hq
    exact hq ▸ hv
  | (y, u) :: σ, h => by
    intro q hq
    rw [put] at hq
    by_cases e : y = x
    · rw [if_pos e] at hq
      rcases List.mem_cons.1 hq with hq | hq
      · rw [hq, e]; exact hv
      · exact h q (List.mem_cons_of_mem _ hq)
    · rw [if_neg e] at hq
      rcases List.mem_cons.1 hq with hq | hq
      · exact h q (by rw [hq]; exact List.mem_cons_self ..)
      · exact put_all hv (fun q hq => h q (List.mem_cons_of_mem _ hq)) q hq
theorem put_ne (σ : Env) (x v : List UInt8) : put σ x v ≠ [] := by
  cases σ with
  | nil => simp [put]
  | cons p σ =>
    obtain ⟨y, u⟩ := p
    rw [put]
    split <;> simp
end Va

/-- The map's entries: one for each name, in the order in which they were set first. -/
def entl : Va.Env → Nat → List MapEntry
  | [], _ => []
  | (x, v) :: σ, i => { key := .string ⟨x.toArray⟩, val := .agg #[.string ⟨v.toArray⟩], born := i } :: entl σ (i + 1)
def ents (σ : Va.Env) : Array MapEntry := (entl σ 0).toArray
theorem entl_len : ∀ (σ : Va.Env) (i : Nat), (entl σ i).length = σ.length
  | [], _ => rfl
  | (x, v) :: σ, i => by rw [entl, List.length_cons, entl_len σ, List.length_cons]
theorem ents_size (σ : Va.Env) : (ents σ).size = σ.length := by simp [ents, entl_len]

theorem ba_eq (l m : List UInt8) : ((⟨l.toArray⟩ : ByteArray) == ⟨m.toArray⟩) = decide (l = m) := by
  rw [beq_toListBytes, Lib.toList_data, Lib.toList_data]
  show (l == m) = _
  rw [Bool.eq_iff_iff]; simp
theorem find_ents (x : List UInt8) : ∀ (σ : Va.Env) (i j : Nat), Instr.findNow .string (.string ⟨x.toArray⟩) (entl σ i) j = some ((Va.hit σ x).map fun p => (j + p.1, .agg #[.string ⟨p.2.toArray⟩]))
  | [], _, _ => rfl
  | (y, v) :: σ, i, j => by
    rw [entl, Va.hit]
    simp only [Instr.findNow, Instr.sameNow]
    rw [ba_eq]
    by_cases h : y = x
    · subst h
      rw [decide_eq_true rfl, if_pos rfl]
      rfl
    · rw [decide_eq_false (fun e => h e.symm), if_neg h]
      show Instr.findNow _ _ _ (j + 1) = _
      rw [find_ents x σ (i + 1) (j + 1)]
      cases Va.hit σ x with
      | none => rfl
      | some p => show some (some (j + 1 + p.1, _)) = some (some (j + (p.1 + 1), _)); rw [show j + 1 + p.1 = j + (p.1 + 1) by omega]
theorem put_push (x v : List UInt8) : ∀ (σ : Va.Env) (i : Nat), Va.hit σ x = none → entl σ i ++ [{ key := .string ⟨x.toArray⟩, val := .agg #[.string ⟨v.toArray⟩], born := i + σ.length }] = entl (Va.put σ x v) i ∧ (Va.put σ x v).length = σ.length + 1
  | [], _, _ => ⟨rfl, rfl⟩
  | (y, u) :: σ, i, h => by
    rw [Va.hit] at h
    by_cases e : y = x
    · rw [if_pos e] at h; cases h
    · rw [if_neg e] at h
      obtain ⟨h1, h2⟩ := put_push x v σ (i + 1) (by cases hh : Va.hit σ x with
        | none => rfl
        | some p => rw [hh] at h; cases h)
      rw [Va.put, if_neg e, entl, entl, List.cons_append, List.length_cons, List.length_cons, ← h1, h2]
      refine ⟨?_, rfl⟩
      rw [show i + (σ.length + 1) = i + 1 + σ.length by omega]
theorem put_at (x v : List UInt8) : ∀ (σ : Va.Env) (i k : Nat) (u : List UInt8), Va.hit σ x = some (k, u) →
    (entl σ i).modify k (fun e => { e with key := .string ⟨x.toArray⟩, val := .agg #[.string ⟨v.toArray⟩] }) = entl (Va.put σ x v) i ∧ (Va.put σ x v).length = σ.length ∧ ((entl σ i)[k]?).map (·.key) = some (.string ⟨x.toArray⟩)
  | [], _, _, _, h => by cases h
  | (y, w) :: σ, i, k, u, h => by
    rw [Va.hit] at h
    by_cases e : y = x
    · subst e
      rw [if_pos rfl] at h
      cases h
      rw [Va.put, if_pos rfl]
      exact ⟨rfl, rfl, rfl⟩
    · rw [if_neg e] at h
      cases hh : Va.hit σ x with
      | none => rw [hh] at h; cases h
      | some p =>
        rw [hh] at h
        obtain ⟨k', u'⟩ := p
        cases h
        obtain ⟨h1, h2, h3⟩ := put_at x v σ (i + 1) k' u' hh
        rw [Va.put, if_neg e, entl, entl, List.length_cons, List.length_cons, h2, ← h1]
        exact ⟨rfl, rfl, h3⟩

/-- A block of a map, set anew. -/
def setM (w : World) (m : Nat) (σ : Va.Env) : World := { w with heap := w.heap.setIfInBounds m (.map (ents σ) σ.length) }
section
variable {w : World} {m : Nat} {σ : Va.Env}
theorem setM_at (w : World) (m : Nat) (σ : Va.Env) (h : m < w.heap.size) : (setM w m σ).heap[m]? = some (.map (ents σ) σ.length) := by
  simp [setM, h]
theorem setM_other (w : World) (m : Nat) (σ : Va.Env) {k : Nat} (h : k ≠ m) : (setM w m σ).heap[k]? = w.heap[k]? := by
  simp only [setM]
  rw [Array.getElem?_setIfInBounds_ne (Ne.symm h)]
theorem setM_size (w : World) (m : Nat) (σ : Va.Env) : (setM w m σ).heap.size = w.heap.size := by simp [setM]

/-- A look-up. -/
theorem look_ents (hb : w.heap[m]? = some (.map (ents σ) σ.length)) (x : List UInt8) (hx : x.length ≤ 16777216) :
    (Instr.lookup 46 (.map (some m)) (.string ⟨x.toArray⟩) true).run Tryd.prog w = .ok (.tuple #[.agg #[.string ⟨((Va.look σ x).getD []).toArray⟩], .bool (Va.look σ x).isSome]) w := by
  have hc := fun e => (Maps.string_keyed Tryd.underlying9).check w e (v := .string ⟨x.toArray⟩) (WideMaps.keyOf_string_mk Tryd.underlying9 (show x.toArray.size ≤ maxLen by unfold maxLen; simp; omega))
  have hz := Tryd.zeroValue56 w
  have hf := find_ents x σ 0 0
  rw [Va.look_hit]
  have he : (ents σ).toList = entl σ 0 := rfl
  cases hh : Va.hit σ x with
  | none =>
    rw [hh] at hf
    simp [Instr.lookup, run_underlying Tryd.underlying46, MapKept.run_getObj_map hb, hc, Instr.findKey, run_underlying Tryd.underlying9, he, hf, hz, Result.andThen]
  | some p =>
    rw [hh] at hf
    simp [Instr.lookup, run_underlying Tryd.underlying46, MapKept.run_getObj_map hb, hc, Instr.findKey, run_underlying Tryd.underlying9, he, hf, Result.andThen]
theorem look_none (w : World) (x : List UInt8) (hx : x.length ≤ 16777216) :
    (Instr.lookup 46 (.map none) (.string ⟨x.toArray⟩) true).run Tryd.prog w = .ok (.tuple #[.agg #[.string ⟨#[]⟩], .bool false]) w := by
  have hc := fun e => (Maps.string_keyed Tryd.underlying9).check w e (v := .string ⟨x.toArray⟩) (WideMaps.keyOf_string_mk Tryd.underlying9 (show x.toArray.size ≤ maxLen by unfold maxLen; simp; omega))
  have hz := Tryd.zeroValue56 w
  have hf : Instr.findNow .string (.string ⟨x.toArray⟩) [] 0 = some none := rfl
  simp [Instr.lookup, run_underlying Tryd.underlying46, hc, Instr.findKey, run_underlying Tryd.underlying9, hf, hz, Result.andThen]

/-- An update. -/
theorem upd_ents (hb : w.heap[m]? = some (.map (ents σ) σ.length)) (x v : List UInt8) (hx : x.length ≤ 16777216) :
    (Instr.mapUpdate 46 (.map (some m)) (.string ⟨x.toArray⟩) (.agg #[.string ⟨v.toArray⟩])).run Tryd.prog w = .ok () (setM w m (Va.put σ x v)) := by
  have hc := fun e => (Maps.string_keyed Tryd.underlying9).check w e (v := .string ⟨x.toArray⟩) (WideMaps.keyOf_string_mk Tryd.underlying9 (show x.toArray.size ≤ maxLen by unfold maxLen; simp; omega))
  have hf := find_ents x σ 0 0
  have he : (ents σ).toList = entl σ 0 := rfl
  cases hh : Va.hit σ x with
  | none =>
    rw [hh] at hf
    obtain ⟨h1, h2⟩ := put_push x v σ 0 hh
    have hp : (ents σ).push { key := .string ⟨x.toArray⟩, val := .agg #[.string ⟨v.toArray⟩], born := σ.length } = ents (Va.put σ x v) := by
      apply Array.toList_inj.1
      rw [Array.toList_push]
      show entl σ 0 ++ _ = entl _ 0
      rw [← h1, Nat.zero_add]
    simp [Instr.mapUpdate, run_underlying Tryd.underlying46, MapKept.run_getObj_map hb, hc, Instr.findKey, run_underlying Tryd.underlying9, he, hf, MapKept.run_setObj_map _ hb, Result.andThen, hp, setM, h2]
  | some p =>
    obtain ⟨k, u⟩ := p
    rw [hh] at hf
    obtain ⟨h1, h2, h3⟩ := put_at x v σ 0 k u hh
    have hp : (ents σ).modify k (fun e => { e with key := .string ⟨x.toArray⟩, val := .agg #[.string ⟨v.toArray⟩] }) = ents (Va.put σ x v) := by
      apply Array.toList_inj.1
      rw [Array.toList_modify]
      exact h1
    have hk : (((ents σ)[k]?).map (·.key)).getD (.string ⟨x.toArray⟩) = .string ⟨x.toArray⟩ := by
      rw [show (ents σ)[k]? = (entl σ 0)[k]? by simp [ents], h3]
      rfl
    have hs := MapKept.run_keyThatStays (P := Tryd.prog) (w := w) (d := .string) (k := .string ⟨x.toArray⟩) trivial
    simp only [Option.map_some, Nat.zero_add] at hf
    simp [Instr.mapUpdate, run_underlying Tryd.underlying46, MapKept.run_getObj_map hb, hc, Instr.findKey, run_underlying Tryd.underlying9, he, hf, hk, hs, MapKept.run_setObj_map _ hb, Result.andThen, hp, setM, h2]
end
end Go.Proofs.YtkpahkcamgmlnaaDoor
