/- line.heads walked: the map of Pop3's heads, entry by entry; a look-up in it. -/
import Derived.Test.YtnodngcfjdghcaaDoorIndex1
import Derived.Test.YtnodngcfjdghcaaDoorLineP
import Derived.Carry
import Derived.Maps.Range
namespace Go.Proofs.YtnodngcfjdghcaaDoor
open Go.RowKit

/-- What a head says, as a value. -/
def hv (c : List UInt8) : Value := .agg #[.string ⟨c.toArray⟩, .bool false, .string ⟨#[]⟩]
def HD1 : Array MapEntry := #[{ key := .string ⟨#[43, 79, 75]⟩, val := hv [43], born := 0 }]
def HD2 : Array MapEntry := #[{ key := .string ⟨#[43, 79, 75]⟩, val := hv [43], born := 0 }, { key := .string ⟨#[45, 69, 82, 82]⟩, val := hv [45], born := 1 }]
def HD : Array MapEntry := #[{ key := .string ⟨#[43, 79, 75]⟩, val := hv [43], born := 0 }, { key := .string ⟨#[45, 69, 82, 82]⟩, val := hv [45], born := 1 }, { key := .string ⟨#[43]⟩, val := hv [62], born := 2 }]

theorem run_ins (w : World) (es : Array MapEntry) (clock : Nat) (k : ByteArray) (v : Value) (hk : k.size ≤ maxLen) (hf : Instr.findNow .string (.string k) es.toList 0 = some none) :
    (Instr.mapUpdate 69 (.map (some w.heap.size)) (.string k) v).run Tryd.prog (w.alloc (.map es clock)) = .ok () (w.alloc (.map (es.push { key := .string k, val := v, born := clock }) (clock + 1))) := by
  have hg : (w.alloc (.map es clock)).heap[w.heap.size]? = some (.map es clock) := heap_alloc_new w _
  have hc := (Maps.string_keyed Tryd.underlying9).check (w.alloc (.map es clock)) false (v := .string k) (WideMaps.keyOf_string_mk Tryd.underlying9 hk)
  have hset : ∀ o' : Obj, (setObj w.heap.size o').run Tryd.prog (w.alloc (.map es clock)) = .ok () (w.alloc o') := fun o' => by
    have hp : ∀ (h : Array Obj) (x y : Obj), (h.push x).setIfInBounds h.size y = h.push y := fun h x y => by apply Array.toList_inj.1; simp
    simp only [setObj, Sem.run, hg]
    show Result.ok () ({ w.alloc (.map es clock) with heap := (w.heap.push (.map es clock)).setIfInBounds w.heap.size o' } : World) = _
    rw [hp]
    rfl
  simp [Instr.mapUpdate, run_underlying Tryd.underlying69, MapKept.run_getObj_map hg, hc, Instr.findKey, run_underlying Tryd.underlying9, hf, hset, Result.andThen]

set_option maxHeartbeats 1000000 in
theorem heads_any (w : World) : Calls Tryd.prog 30 #[] w fun e w' => e = .returned (.map (some w.heap.size)) ∧ w' = w.alloc (.map HD 3) := by
  have hmm := @run_makeMap Tryd.prog
  have h1 : (Instr.mapUpdate 69 (.map (some w.heap.size)) (.string ⟨#[43, 79, 75]⟩) (.agg #[.string ⟨#[43]⟩, .bool false, .string ⟨#[]⟩])).run Tryd.prog (w.alloc (.map #[] 0)) = .ok () (w.alloc (.map HD1 1)) := run_ins w #[] 0 _ _ (by decide) (by rfl)
  have h2 : (Instr.mapUpdate 69 (.map (some w.heap.size)) (.string ⟨#[45, 69, 82, 82]⟩) (.agg #[.string ⟨#[45]⟩, .bool false, .string ⟨#[]⟩])).run Tryd.prog (w.alloc (.map HD1 1)) = .ok () (w.alloc (.map HD2 2)) := run_ins w HD1 1 _ _ (by decide) (by rfl)
  have h3 : (Instr.mapUpdate 69 (.map (some w.heap.size)) (.string ⟨#[43]⟩) (.agg #[.string ⟨#[62]⟩, .bool false, .string ⟨#[]⟩])).run Tryd.prog (w.alloc (.map HD2 2)) = .ok () (w.alloc (.map HD 3)) := run_ins w HD2 2 _ _ (by decide) (by rfl)
  go_enter Tryd.func30, Tryd.ntmps30
  go_wp2
  go_ret
  exact ⟨rfl, rfl⟩

/-- The code that a head stands for. -/
def headOf (l : List UInt8) : Option (List UInt8) := if l = [43, 79, 75] then some [43] else if l = [45, 69, 82, 82] then some [45] else if l = [43] then some [62] else none

theorem ba_beq (l m : List UInt8) : ((⟨l.toArray⟩ : ByteArray) == ⟨m.toArray⟩) = decide (l = m) := by
  rw [beq_toListBytes, Lib.toList_data, Lib.toList_data]
  show (l == m) = _
  rw [Bool.eq_iff_iff]; simp

theorem look_head (w : World) (b : Nat) (hb : w.heap[b]? = some (.map HD 3)) (l : List UInt8) (hl : l.length ≤ 16777216) :
    (Instr.lookup 69 (.map (some b)) (.string ⟨l.toArray⟩) true).run Tryd.prog w = .ok (.tuple #[hv ((headOf l).getD []), .bool (headOf l).isSome]) w := by
  have hc := (Maps.string_keyed Tryd.underlying9).check w false (v := .string ⟨l.toArray⟩) (WideMaps.keyOf_string_mk Tryd.underlying9 (show l.toArray.size ≤ maxLen by unfold maxLen; simp; omega))
  have hz := Tryd.zeroValue54 w
  have hf : Instr.findNow .string (.string ⟨l.toArray⟩) HD.toList 0 = some (if l = [43, 79, 75] then some (0, hv [43]) else if l = [45, 69, 82, 82] then some (1, hv [45]) else if l = [43] then some (2, hv [62]) else none) := by
    have e1 := ba_beq l [43, 79, 75]
    have e2 := ba_beq l [45, 69, 82, 82]
    have e3 := ba_beq l [43]
    simp only [HD, Instr.findNow, Instr.sameNow]
    rw [show (#[43, 79, 75] : Array UInt8) = [43, 79, 75].toArray from rfl, show (#[45, 69, 82, 82] : Array UInt8) = [45, 69, 82, 82].toArray from rfl, show (#[43] : Array UInt8) = [43].toArray from rfl, e1, e2, e3]
    by_cases h1 : l = [43, 79, 75]
    · simp [h1]
    · by_cases h2 : l = [45, 69, 82, 82]
      · simp [h2]
      · by_cases h3 : l = [43] <;> simp [h1, h2, h3]
  have hE : HD.isEmpty = false := rfl
  have key : ∀ r : Option (Nat × Value), Instr.findNow .string (.string ⟨l.toArray⟩) HD.toList 0 = some r → (Instr.lookup 69 (.map (some b)) (.string ⟨l.toArray⟩) true).run Tryd.prog w = .ok (.tuple #[(r.map (·.2)).getD (hv []), .bool r.isSome]) w := fun r hr => by
    cases r with
    | none => simp [Instr.lookup, run_underlying Tryd.underlying69, MapKept.run_getObj_map hb, hE, hc, Instr.findKey, run_underlying Tryd.underlying9, hr, hz, Result.andThen, hv]
    | some r => obtain ⟨i, v⟩ := r; simp [Instr.lookup, run_underlying Tryd.underlying69, MapKept.run_getObj_map hb, hE, hc, Instr.findKey, run_underlying Tryd.underlying9, hr, Result.andThen]
  rw [key _ hf]
  unfold headOf
  by_cases h1 : l = [43, 79, 75]
  · rw [if_pos h1, if_pos h1]; rfl
  · by_cases h2 : l = [45, 69, 82, 82]
    · rw [if_neg h1, if_pos h2, if_neg h1, if_pos h2]; rfl
    · by_cases h3 : l = [43]
      · rw [if_neg h1, if_neg h2, if_pos h3, if_neg h1, if_neg h2, if_pos h3]; rfl
      · rw [if_neg h1, if_neg h2, if_neg h3, if_neg h1, if_neg h2, if_neg h3]; rfl

theorem rest_cons (y x : UInt8) (b s : List UInt8) : Ln.rest (y :: b) (x :: s) = if y = x then Ln.rest b s else none := by
  unfold Ln.rest
  by_cases h : y = x
  · subst h; simp [List.isPrefixOf]
  · rw [if_neg h, if_neg]; simp [List.isPrefixOf, h]
theorem rest_no : ∀ (b l : List UInt8), (∀ x ∈ l, x ≠ 32) → Ln.rest b l = if l = b then some [] else none
  | [], [], _ => rfl
  | [], x :: l, h => by
    have hx : x ≠ 32 := h x (List.mem_cons_self ..)
    simp [Ln.rest, hx]
  | y :: b, [], _ => rfl
  | y :: b, x :: l, h => by
    rw [rest_cons, rest_no b l (fun z hz => h z (List.mem_cons_of_mem _ hz))]
    by_cases e : y = x
    · subst e; simp
    · rw [if_neg e, if_neg (fun e' => e (List.cons.inj e').1.symm)]
theorem rest_at (t : List UInt8) : ∀ (b h : List UInt8), (∀ x ∈ h, x ≠ 32) → (∀ x ∈ b, x ≠ 32) → Ln.rest b (h ++ 32 :: t) = if h = b then some t else none
  | [], [], _, _ => rfl
  | [], x :: h, hh, _ => by
    have hx : x ≠ 32 := hh x (List.mem_cons_self ..)
    simp [Ln.rest, hx]
  | y :: b, [], _, hb => by
    have hy : y ≠ 32 := hb y (List.mem_cons_self ..)
    rw [List.nil_append, rest_cons, if_neg hy]; rfl
  | y :: b, x :: h, hh, hb => by
    rw [List.cons_append, rest_cons, rest_at t b h (fun z hz => hh z (List.mem_cons_of_mem _ hz)) (fun z hz => hb z (List.mem_cons_of_mem _ hz))]
    by_cases e : y = x
    · subst e; simp
    · rw [if_neg e, if_neg (fun e' => e (List.cons.inj e').1.symm)]
theorem rest_cut (b l : List UInt8) (hb : ∀ x ∈ b, x ≠ 32) : Ln.rest b l = if (cut1 32 l).1 = b then some (cut1 32 l).2.1 else none := by
  rcases cut1_at 32 l with ⟨h1, h2⟩ | ⟨k, _, h2, h3, h4⟩
  · rw [h2, rest_no _ _ h1]
  · rw [h4]
    conv => lhs; rw [h3]
    rw [rest_at _ _ _ h2 hb]

/-- What Pop3's line says, as the code finds it: by what stands ahead of its first blank. -/
theorem pop_cut (l : List UInt8) : Ln.pop l = (headOf (cut1 32 l).1).map fun c => ⟨c, false, (cut1 32 l).2.1⟩ := by
  unfold Ln.pop headOf
  rw [rest_cut _ l (by decide), rest_cut _ l (by decide), rest_cut _ l (by decide)]
  by_cases h1 : (cut1 32 l).1 = [43, 79, 75]
  · rw [if_pos h1, if_pos h1]; rfl
  · by_cases h2 : (cut1 32 l).1 = [45, 69, 82, 82]
    · rw [if_neg h1, if_pos h2, if_neg h1, if_pos h2]; rfl
    · by_cases h3 : (cut1 32 l).1 = [43]
      · rw [if_neg h1, if_neg h2, if_pos h3, if_neg h1, if_neg h2, if_pos h3]; rfl
      · rw [if_neg h1, if_neg h2, if_neg h3, if_neg h1, if_neg h2, if_neg h3]; rfl
theorem cut1_len (c : UInt8) (l : List UInt8) : (cut1 c l).1.length ≤ l.length ∧ (cut1 c l).2.1.length ≤ l.length := by
  rcases cut1_at c l with ⟨_, h⟩ | ⟨k, _, _, _, h⟩ <;> rw [h] <;> simp <;> omega
end Go.Proofs.YtnodngcfjdghcaaDoor
