/- takers walked: the map of method values, by the protocol; a look-up in it. -/
import Derived.Test.YtnodngcfjdghcaaDoorMk
import Derived.Carry
import Derived.Maps.Range
namespace Go.Proofs.YtnodngcfjdghcaaDoor
open Go.RowKit

/-- What takes the lines behind the first one: a method value. -/
def tkv (f : Nat) (g : Nat) : Value := .func (.func f) #[.pointer (some ⟨g, 0, none⟩)] #[]
def TK1 (g : Nat) : Array MapEntry := #[{ key := .int .i64 1, val := tkv 31 g, born := 0 }]
def TK2 (g : Nat) : Array MapEntry := #[{ key := .int .i64 1, val := tkv 31 g, born := 0 }, { key := .int .i64 3, val := tkv 32 g, born := 1 }]
def TKS (g : Nat) : Array MapEntry := #[{ key := .int .i64 1, val := tkv 31 g, born := 0 }, { key := .int .i64 3, val := tkv 32 g, born := 1 }, { key := .int .i64 2, val := tkv 33 g, born := 2 }]
/-- The one of a protocol. -/
def tkn (p : Int) : Nat := if p = 1 then 31 else if p = 3 then 32 else 33

theorem run_insi (w : World) (es : Array MapEntry) (clock : Nat) (k : Int) (v : Value) (hk : (Lit.int .i64 k).wf = true) (hf : Instr.findNow (.int .i64) (.int .i64 k) es.toList 0 = some none) :
    (Instr.mapUpdate 60 (.map (some w.heap.size)) (.int .i64 k) v).run Tryd.prog (w.alloc (.map es clock)) = .ok () (w.alloc (.map (es.push { key := .int .i64 k, val := v, born := clock }) (clock + 1))) := by
  have hg : (w.alloc (.map es clock)).heap[w.heap.size]? = some (.map es clock) := heap_alloc_new w _
  have hc := (Maps.int_keyed Tryd.underlying3).check (w.alloc (.map es clock)) false (v := .int .i64 k) (Maps.keyOf_int_mk Tryd.underlying3 hk)
  have hset : ∀ o' : Obj, (setObj w.heap.size o').run Tryd.prog (w.alloc (.map es clock)) = .ok () (w.alloc o') := fun o' => by
    have hp : ∀ (h : Array Obj) (x y : Obj), (h.push x).setIfInBounds h.size y = h.push y := fun h x y => by apply Array.toList_inj.1; simp
    simp only [setObj, Sem.run, hg]
    show Result.ok () ({ w.alloc (.map es clock) with heap := (w.heap.push (.map es clock)).setIfInBounds w.heap.size o' } : World) = _
    rw [hp]
    rfl
  simp [Instr.mapUpdate, run_underlying Tryd.underlying60, MapKept.run_getObj_map hg, hc, Instr.findKey, run_underlying Tryd.underlying3, hf, hset, Result.andThen]

set_option maxHeartbeats 1000000 in
theorem takers_any (g : Nat) (w : World) : Calls Tryd.prog 24 #[.pointer (some ⟨g, 0, none⟩)] w fun e w' => e = .returned (.map (some w.heap.size)) ∧ w' = w.alloc (.map (TKS g) 3) := by
  have hmm := @run_makeMap Tryd.prog
  have hmf : ∀ (fn : Fn) (first cap : Array Value) (w : World), (Instr.makeFunc fn first cap).run Tryd.prog w = .ok (.func fn first cap) w := fun _ _ _ _ => rfl
  have h1 : (Instr.mapUpdate 60 (.map (some w.heap.size)) (.int .i64 1) (.func (.func 31) #[.pointer (some ⟨g, 0, none⟩)] #[])).run Tryd.prog (w.alloc (.map #[] 0)) = .ok () (w.alloc (.map (TK1 g) 1)) := run_insi w #[] 0 _ _ (by decide) (by rfl)
  have h2 : (Instr.mapUpdate 60 (.map (some w.heap.size)) (.int .i64 3) (.func (.func 32) #[.pointer (some ⟨g, 0, none⟩)] #[])).run Tryd.prog (w.alloc (.map (TK1 g) 1)) = .ok () (w.alloc (.map (TK2 g) 2)) := run_insi w (TK1 g) 1 _ _ (by decide) (by rfl)
  have h3 : (Instr.mapUpdate 60 (.map (some w.heap.size)) (.int .i64 2) (.func (.func 33) #[.pointer (some ⟨g, 0, none⟩)] #[])).run Tryd.prog (w.alloc (.map (TK2 g) 2)) = .ok () (w.alloc (.map (TKS g) 3)) := run_insi w (TK2 g) 2 _ _ (by decide) (by rfl)
  go_enter Tryd.func24, Tryd.ntmps24
  go_wp2
  go_ret
  exact ⟨rfl, rfl⟩

theorem look_taker (w : World) (b g : Nat) (hb : w.heap[b]? = some (.map (TKS g) 3)) (p : Int) (hp : p = 1 ∨ p = 2 ∨ p = 3) :
    (Instr.lookup 60 (.map (some b)) (.int .i64 p) false).run Tryd.prog w = .ok (tkv (tkn p) g) w := by
  have hc := (Maps.int_keyed Tryd.underlying3).check w false (v := .int .i64 p) (Maps.keyOf_int_mk Tryd.underlying3 (by rcases hp with rfl | rfl | rfl <;> decide))
  have hE : (TKS g).isEmpty = false := rfl
  have hf : ∃ i, Instr.findNow (.int .i64) (.int .i64 p) (TKS g).toList 0 = some (some (i, tkv (tkn p) g)) := by
    rcases hp with rfl | rfl | rfl <;> exact ⟨_, rfl⟩
  obtain ⟨i, hf⟩ := hf
  simp [Instr.lookup, run_underlying Tryd.underlying60, MapKept.run_getObj_map hb, hE, hc, Instr.findKey, run_underlying Tryd.underlying3, hf, Result.andThen]
end Go.Proofs.YtnodngcfjdghcaaDoor
