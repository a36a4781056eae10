/- A body in memory: New, Line, Bytes, Lines walked. -/
import Derived.Test.YtnodngcfjdghcaaDoorBClone
import Derived.Test.YtnodngcfjdghcaaDoorApart
import Derived.Test.YtnodngcfjdghcaaDoorAppendT
import Derived.Test.YtnodngcfjdghcaaDoorBits
import Derived.BigQuiet
import Derived.Deep.QuietTactic
namespace Go.Proofs.YtnodngcfjdghcaaDoor
open Go.RowKit

/-- Block g holds a body. -/
structure BO (w : World) (B g : Nat) (s : Value) (most : Int) (b : St.Bd) : Prop where
  c : w.heap[g]? = some (.cells #[.int .i64 most, s, .int .i64 (b.n : Int)] 78 (0, 0))
  o : w.ownsRow B 5 1 s b.bs.length (b.bs.map bv)
  hg : B ≤ g
  h0 : 0 ≤ most
  hm : most < 9223372036854775808
section
variable {w w' : World} {B g : Nat} {s : Value} {most : Int} {b : St.Bd}
theorem BO.lt (h : BO w B g s most b) : g < w.heap.size := (Array.getElem?_eq_some_iff.1 h.c).1
theorem BO.slt (h : BO w B g s most b) : ∀ k, s.ownBlock = some k → B ≤ k ∧ k < w.heap.size := h.o.lt
theorem BO.ne (h : BO w B g s most b) : s.ownBlock ≠ some g := own_not h.o h.c (by decide)
theorem BO.next (h : BO w B g s most b) (hb : Below w.heap.size w w') : BO w' B g s most b := ⟨(hb.block _ h.lt).trans h.c, own_below h.o hb, h.hg, h.h0, h.hm⟩
theorem BO.c0 (h : BO w B g s most b) : w.cell? ⟨g, 0, none⟩ = some (.int .i64 most) := cell_of_row _ _ _ _ _ _ h.c
theorem BO.c1 (h : BO w B g s most b) : w.cell? ⟨g, 1, none⟩ = some s := cell_of_row _ _ _ _ _ _ h.c
theorem BO.c2 (h : BO w B g s most b) : w.cell? ⟨g, 2, none⟩ = some (.int .i64 (b.n : Int)) := cell_of_row _ _ _ _ _ _ h.c
theorem BO.rd (h : BO w B g s most b) : Rd w s (b.bs.map bv) := .of_own h.o
theorem BO.turn (h : BO w B g s most b) (hT : Turn g s w w') (hB : B ≤ w.heap.size) : Below B w w' := hT.below h.hg (fun k hk => (h.slt k hk).1) hB
/-- A body that what another object does is apart from. -/
theorem BO.past (h : BO w B g s most b) {g' : Nat} {s' : Value} (hT : Turn g' s' w w') (h1 : g ≠ g') (h2 : s'.ownBlock ≠ some g) (h3 : s.ownBlock ≠ some g') (h4 : Ap s s') : BO w' B g s most b :=
  ⟨(hT.block _ h.lt h1 h2).trans h.c, hT.past h.o h3 h4, h.hg, h.h0, h.hm⟩
/-- The row has grown, and is put there. -/
theorem BO.grow {s' : Value} {ys : List UInt8} (h : BO w B g s most b) (ho : w'.ownsRow B 5 1 s' (b.bs.length + ys.length) (b.bs.map bv ++ ys.map bv)) (hT : w.grownBy w' s.ownBlock) (hl : s'.ownBlock = s.ownBlock ∨ s'.ownBlock = some w.heap.size) :
    BO (w'.setCell ⟨g, 1, none⟩ s') B g s' most ⟨b.bs ++ ys, b.n⟩ ∧ Turn g s w (w'.setCell ⟨g, 1, none⟩ s') ∧ Nx s s' w.heap.size := by
  have hc := (hT.block g h.lt (fun e => h.ne e.symm)).trans h.c
  refine ⟨⟨(setCell_row hc).trans rfl, ?_, h.hg, h.h0, h.hm⟩, ⟨hT.os, hT.tape, hT.output, by simp [World.setCell]; exact hT.size, fun k hk h1 h2 => ?_⟩, ?_⟩
  · show World.ownsRow _ _ _ _ _ (b.bs ++ ys).length ((b.bs ++ ys).map bv)
    rw [List.length_append, List.map_append]
    exact own_setCell ho (own_not ho hc (by decide))
  · rw [Below.heap_setCell _ _ _ _ h1]
    exact hT.block k hk (fun e => h2 e.symm)
  · rcases hl with hl | hl
    · exact .inr (.inl hl)
    · exact .inr (.inr ⟨_, hl, Nat.le_refl _⟩)
/-- One line more is counted. -/
theorem BO.count (h : BO w B g s most b) : BO (w.setCell ⟨g, 2, none⟩ (.int .i64 ((b.n + 1 : Nat) : Int))) B g s most ⟨b.bs, b.n + 1⟩ :=
  ⟨(setCell_row h.c).trans rfl, own_setCell h.o h.ne, h.hg, h.h0, h.hm⟩
theorem bo_new (w : World) (m : Int) (h0 : 0 ≤ m) (hm : m < 9223372036854775808) : BO (w.alloc (.cells #[.int .i64 m, .slice none 0 0, .int .i64 0] 78)) w.heap.size w.heap.size (.slice none 0 0) m ⟨[], 0⟩ :=
  ⟨heap_alloc_new w _, World.ownsRow_nil _ _ _ _, Nat.le_refl _, h0, hm⟩
/-- 'New'. -/
theorem snew_any (m : Int) (hm : m < 9223372036854775808) (w : World) :
    Calls Tryd.prog 37 #[.int .i64 m] w fun e w' => e = .returned (.pointer (some ⟨w.heap.size, 0, none⟩)) ∧ Below w.heap.size w w' ∧ BO w' w.heap.size w.heap.size (.slice none 0 0) (max 0 m) ⟨[], 0⟩ := by
  have hq := Lib.hid (bo_new w (max 0 m) (by omega) (by omega))
  clear hm
  go_enter Tryd.func37, Tryd.ntmps37
  go_wp2
  go_ret
  exact ⟨rfl, (Below.refl _ _).alloc (Nat.le_refl _) _, hq.out⟩
/-- 'Bytes'. -/
theorem sbytes_own (h : BO w B g s most b) (hs : b.bs.length ≤ 16777216) : Calls Tryd.prog 39 #[.pointer (some ⟨g, 0, none⟩)] w fun e w' => ∃ ao c, e = .returned (.slice ao b.bs.length c) ∧ w'.ownsRow w.heap.size 5 1 (.slice ao b.bs.length c) b.bs.length (b.bs.map bv) ∧ Below w.heap.size w w' := by
  have hc := bclone_own s b.bs w h.rd hs
  have c1 := h.c1
  obtain ⟨bo, bc, rfl⟩ := own_form h.o
  generalize b.bs.length = L at *
  have HC := Lib.hid hc
  clear hc h
  go_enter Tryd.func39, Tryd.ntmps39
  go_wp2_with fail
  refine HC.out.mono ?_
  rintro e w' ⟨ao, c, rfl, hr, hb⟩
  go_wp2
  go_ret
  exact ⟨_, _, rfl, hr, hb⟩
theorem sbytes_any (h : BO w B g s most b) (hs : b.bs.length ≤ 16777216) : Calls Tryd.prog 39 #[.pointer (some ⟨g, 0, none⟩)] w fun e w' => ∃ ao c, e = .returned (.slice ao b.bs.length c) ∧ Rd w' (.slice ao b.bs.length c) (b.bs.map bv) ∧ Below w.heap.size w w' := by
  refine (sbytes_own h hs).mono ?_
  rintro e w' ⟨ao, c, rfl, ho, hb⟩
  exact ⟨ao, c, rfl, .of_own ho, hb⟩
end
end Go.Proofs.YtnodngcfjdghcaaDoor
