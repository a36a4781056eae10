/- How far the reference's Push is: what was made, and where. -/
import Derived.Test.YtimieknphedniaaWantApp
namespace Go.Proofs.Ytimieknphedniaa
open Go.RowKit

structure YQ (w1 wc : World) (m bx : Option Nat) (x : Wt) : Prop where
  b : Below w1.heap.size w1 wc
  hm : ∀ k, m = some k → OW wc w1.heap.size (.slice (some ⟨k, 0, none⟩) 0 0) []
  hx : ∀ b, bx = some b → WB wc b x ∧ w1.heap.size ≤ b
  ne : ∀ k b, m = some k → bx = some b → k ≠ b
structure YR (w1 wc : World) (v : Value) (l : List Wt) (bx : Option Nat) (x : Wt) : Prop where
  b : Below w1.heap.size w1 wc
  o : OW wc w1.heap.size v l
  hx : ∀ b, bx = some b → WB wc b x ∧ w1.heap.size ≤ b
  ne : ∀ b, bx = some b → v.ownBlock ≠ some b
section
variable {w1 wc w' : World} {m bx : Option Nat} {x : Wt} {v : Value} {l : List Wt} {k : Nat}
theorem YQ.start (w1 : World) (x : Wt) : YQ w1 w1 none none x := ⟨Below.refl _ _, (fun k h => by cases h), (fun b h => by cases h), fun k b h => by cases h⟩
theorem YQ.made (h : YQ w1 wc none bx x) : YQ w1 (wc.alloc (.cells #[] 31)) (some wc.heap.size) bx x := by
  have hb : Below wc.heap.size wc (wc.alloc (.cells #[] 31)) := (Below.refl _ wc).alloc (Nat.le_refl _) _
  refine ⟨h.b.alloc h.b.size _, fun k hk => ?_, fun b hb' => ⟨(h.hx b hb').1.next hb, (h.hx b hb').2⟩, fun k b hk hb' => ?_⟩
  · injection hk with hk
    rw [← hk]; exact OW.made wc _ h.b.size
  · injection hk with hk
    have := (h.hx b hb').1.lt
    omega
theorem YQ.box (h : YQ w1 wc m none x) : YQ w1 (wc.alloc (.cells #[.string x.text, .string x.codes, .bool x.body, .int .i64 x.due] 31)) m (some wc.heap.size) x := by
  have hb : Below wc.heap.size wc (wc.alloc (.cells #[.string x.text, .string x.codes, .bool x.body, .int .i64 x.due] 31)) := (Below.refl _ wc).alloc (Nat.le_refl _) _
  refine ⟨h.b.alloc h.b.size _, fun k hk => (h.hm k hk).below hb, fun b hb' => ?_, fun k b hk hb' => ?_⟩
  · injection hb' with hb'
    rw [← hb']; exact ⟨WB.new wc x, h.b.size⟩
  · injection hb' with hb'
    have := ((h.hm k hk).lt k rfl).2
    omega
theorem YQ.om (h : YQ w1 wc (some k) bx x) : OW wc w1.heap.size (.slice (some ⟨k, 0, none⟩) 0 0) [] := h.hm k rfl
theorem YQ.app (h : YQ w1 wc (some k) bx x) (ho : OW w' w1.heap.size v l) (hT : wc.grownBy w' (Value.slice (some ⟨k, 0, none⟩) 0 0).ownBlock) (hv : v.ownBlock = (Value.slice (some ⟨k, 0, none⟩) 0 0).ownBlock ∨ v.ownBlock = some wc.heap.size) : YR w1 w' v l bx x := by
  have hT : wc.grownBy w' (some k) := hT
  have hk := (h.om.lt k rfl)
  refine ⟨h.b.trans ⟨hT.os, hT.tape, hT.output, hT.size, fun j hj => hT.block j (Nat.lt_of_lt_of_le hj h.b.size) (fun e => by injection e with e; omega)⟩, ho, fun b hb => ?_, fun b hb e => ?_⟩
  · have h1 := h.hx b hb
    have h2 := h.ne k b rfl hb
    exact ⟨h1.1.same (hT.block b h1.1.lt (fun e => by injection e with e; exact h2 e.symm)), h1.2⟩
  · have h1 := h.hx b hb
    have h2 := h.ne k b rfl hb
    have h3 := h1.1.lt
    rcases hv with hv | hv
    · rw [hv] at e
      have e2 : k = b := by simpa [Value.ownBlock] using e
      exact h2 e2
    · rw [hv] at e
      injection e with e
      omega
theorem YR.box (h : YR w1 wc v l none x) : YR w1 (wc.alloc (.cells #[.string x.text, .string x.codes, .bool x.body, .int .i64 x.due] 31)) v l (some wc.heap.size) x := by
  have hb : Below wc.heap.size wc (wc.alloc (.cells #[.string x.text, .string x.codes, .bool x.body, .int .i64 x.due] 31)) := (Below.refl _ wc).alloc (Nat.le_refl _) _
  refine ⟨h.b.alloc h.b.size _, h.o.below hb, fun b hb' => ?_, fun b hb' e => ?_⟩
  · injection hb' with hb'
    rw [← hb']; exact ⟨WB.new wc x, h.b.size⟩
  · injection hb' with hb'
    have := (h.o.lt b e).2
    omega
theorem YR.wb {b : Nat} (h : YR w1 wc v l (some b) x) : ∀ j u, (wrow [x])[j]? = some u → wc.cell? ⟨b, 0 + j, none⟩ = some u := fun j u hj => by
  have hc := cell_of_row wc b j _ _ _ (h.hx b rfl).1.blk
  rw [Nat.zero_add, hc, ← hj]
  show (x.cells.toArray)[j]? = _
  rw [List.getElem?_toArray]
  rfl
theorem YR.rwx {b : Nat} (h : YR w1 wc v l (some b) x) : RW wc (.slice (some ⟨b, 0, none⟩) 1 1) [x] := ⟨_, _, rfl, (fun e => by cases e), Nat.le_refl _, fun _ => ⟨b, 0, rfl, h.wb⟩⟩
theorem YR.grown (h : YR w1 wc v l bx x) (hT : wc.grownBy w' v.ownBlock) : Below w1.heap.size w1 w' :=
  h.b.trans ⟨hT.os, hT.tape, hT.output, hT.size, fun j hj => hT.block j (Nat.lt_of_lt_of_le hj h.b.size) (fun e => by have := (h.o.lt j e.symm).1; omega)⟩
end
end Go.Proofs.Ytimieknphedniaa
