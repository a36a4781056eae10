/- Something that is done, in a block of its own; the beginning of a text. -/
import Derived.Test.YtimieknphedniaaOpenPops
import Derived.Test.YtimieknphedniaaWantB
import Derived.Test.YtimieknphedniaaPipeR
namespace Go.Proofs.Ytimieknphedniaa
open Go.RowKit

structure PB (w : World) (b : Nat) (o : POp) : Prop where
  blk : w.heap[b]? = some (.cells #[.int .u8 o.kind, .string o.x.text, .string o.x.codes, .bool o.x.body, .int .i64 o.x.due, .string o.code] 33 (0, 0))
section
variable {w w' : World} {b : Nat} {o : POp}
theorem PB.lt (h : PB w b o) : b < w.heap.size := (Array.getElem?_eq_some_iff.1 h.blk).1
theorem PB.same (h : PB w b o) (e : w'.heap[b]? = w.heap[b]?) : PB w' b o := ⟨e.trans h.blk⟩
theorem PB.next (h : PB w b o) (hb : Below w.heap.size w w') : PB w' b o := h.same (hb.block _ h.lt)
theorem PB.apart {F : Nat → Prop} (h : PB w b o) (hT : Trn F w w') (hF : ¬ F b) : PB w' b o := h.same (hT.block _ h.lt hF)
theorem PB.c0 (h : PB w b o) : w.cell? ⟨b, 0, none⟩ = some (.int .u8 o.kind) := cell_of_row _ _ _ _ _ _ h.blk
theorem PB.c1 (h : PB w b o) : w.cell? ⟨b, 1, none⟩ = some (.string o.x.text) := cell_of_row _ _ _ _ _ _ h.blk
theorem PB.c2 (h : PB w b o) : w.cell? ⟨b, 2, none⟩ = some (.string o.x.codes) := cell_of_row _ _ _ _ _ _ h.blk
theorem PB.c3 (h : PB w b o) : w.cell? ⟨b, 3, none⟩ = some (.bool o.x.body) := cell_of_row _ _ _ _ _ _ h.blk
theorem PB.c4 (h : PB w b o) : w.cell? ⟨b, 4, none⟩ = some (.int .i64 o.x.due) := cell_of_row _ _ _ _ _ _ h.blk
theorem PB.c5 (h : PB w b o) : w.cell? ⟨b, 5, none⟩ = some (.string o.code) := cell_of_row _ _ _ _ _ _ h.blk
/-- A new block, as it is made, and as it is stored. -/
structure PM (w w1 w2 : World) (o : POp) : Prop where
  z0 : w1.cell? ⟨w.heap.size, 0, none⟩ = some (.int .u8 0)
  z1 : w1.cell? ⟨w.heap.size, 1, none⟩ = some (.string ⟨#[]⟩)
  z2 : w1.cell? ⟨w.heap.size, 2, none⟩ = some (.string ⟨#[]⟩)
  z3 : w1.cell? ⟨w.heap.size, 3, none⟩ = some (.bool false)
  z4 : w1.cell? ⟨w.heap.size, 4, none⟩ = some (.int .i64 0)
  z5 : w1.cell? ⟨w.heap.size, 5, none⟩ = some (.string ⟨#[]⟩)
  zf : ∀ i, w1.frozen? ⟨w.heap.size, i, none⟩ = false
  pb : PB w2 w.heap.size o
  hb : Below w.heap.size w w2
theorem op_made (w : World) (o : POp) : ∃ w1 w2, w.alloc (.cells #[.int .u8 0, .string ⟨#[]⟩, .string ⟨#[]⟩, .bool false, .int .i64 0, .string ⟨#[]⟩] 33) = w1
    ∧ (((((w1.setCell ⟨w.heap.size, 0, none⟩ (.int .u8 o.kind)).setCell ⟨w.heap.size, 1, none⟩ (.string o.x.text)).setCell ⟨w.heap.size, 2, none⟩ (.string o.x.codes)).setCell ⟨w.heap.size, 3, none⟩ (.bool o.x.body)).setCell ⟨w.heap.size, 4, none⟩ (.int .i64 o.x.due)).setCell ⟨w.heap.size, 5, none⟩ (.string o.code) = w2 ∧ PM w w1 w2 o := by
  have h : PB (w.alloc (.cells #[.int .u8 0, .string ⟨#[]⟩, .string ⟨#[]⟩, .bool false, .int .i64 0, .string ⟨#[]⟩] 33)) w.heap.size ⟨0, Wt.zero, ⟨#[]⟩⟩ := ⟨heap_alloc_new _ _⟩
  exact ⟨_, _, rfl, rfl, ⟨h.c0, h.c1, h.c2, h.c3, h.c4, h.c5, fun i => frozen_of_row _ _ _ _ _ h.blk, ⟨setN_heap o.cells [] (POp.mk 0 Wt.zero ⟨#[]⟩).cells _ h.blk rfl⟩, setN_below (Nat.le_refl _) o.cells 0 ((Below.refl _ w).alloc (Nat.le_refl _) _)⟩⟩
end
/-- Those that came in, one by one. -/
theorem pops_at {w : World} {v : Value} {os : List POp} (h : RdN 6 w v (os.map POp.cells)) : ∃ ao cap, v = .slice ao os.length cap ∧ os.length ≤ cap ∧ ∀ i o, os[i]? = some o → ∃ b f, ao = some ⟨b, f, none⟩ ∧ w.cell? ⟨b, f + i * 6, none⟩ = some (.int .u8 o.kind) ∧ w.cell? ⟨b, f + i * 6 + 1, none⟩ = some (.string o.x.text)
    ∧ w.cell? ⟨b, f + i * 6 + 2, none⟩ = some (.string o.x.codes) ∧ w.cell? ⟨b, f + i * 6 + 3, none⟩ = some (.bool o.x.body) ∧ w.cell? ⟨b, f + i * 6 + 4, none⟩ = some (.int .i64 o.x.due) ∧ w.cell? ⟨b, f + i * 6 + 5, none⟩ = some (.string o.code) := by
  obtain ⟨ao, cap, hv, hcap, hcell⟩ := h.form
  rw [List.length_map] at hv hcap
  refine ⟨ao, cap, hv, hcap, fun i o ho => ?_⟩
  have hi := (List.getElem?_eq_some_iff.1 ho).1
  obtain ⟨b, f, e, _, hc⟩ := hcell (by rw [List.length_map]; omega)
  have hcs := fun j u hu => hc i o.cells (by rw [List.getElem?_map, ho]; rfl) j u hu
  exact ⟨b, f, e, hcs 0 _ rfl, hcs 1 _ rfl, hcs 2 _ rfl, hcs 3 _ rfl, hcs 4 _ rfl, hcs 5 _ rfl⟩

/-- Whether a text begins by '1': its ways. -/
theorem one1_nil {s : ByteArray} (h : s.size = 0) : one1 s = false := by
  obtain ⟨⟨d⟩⟩ := s
  cases d with
  | nil => rfl
  | cons c r => simp [ByteArray.size] at h
theorem one1_at {s : ByteArray} (h : 0 < s.size) : one1 s = (s[0]'h == 49) := by
  obtain ⟨⟨d⟩⟩ := s
  cases d with
  | nil => simp [ByteArray.size] at h
  | cons c r => rfl
end Go.Proofs.Ytimieknphedniaa
