/- Who waits, in memory: eight structs in a row, and how many of them wait. -/
import Derived.Test.YtimieknphedniaaPipeP
import Derived.Test.YtimieknphedniaaSetN
namespace Go.Proofs.Ytimieknphedniaa
open Go.RowKit

/-- Who waits. -/
structure Wt where
  text : ByteArray
  codes : ByteArray
  body : Bool
  due : Int
def Wt.zero : Wt := ⟨⟨#[]⟩, ⟨#[]⟩, false, 0⟩
def Wt.cells (x : Wt) : List Value := [.string x.text, .string x.codes, .bool x.body, .int .i64 x.due]
def Wt.val (x : Wt) : Value := .agg #[.string x.text, .string x.codes, .bool x.body, .int .i64 x.due]
def wrow (l : List Wt) : List Value := l.flatMap Wt.cells
theorem wrow_cons (x : Wt) (l : List Wt) : wrow (x :: l) = x.cells ++ wrow l := rfl
theorem wrow_len : ∀ l : List Wt, (wrow l).length = l.length * 4
  | [] => rfl
  | x :: l => by rw [wrow_cons, List.length_append, wrow_len l, List.length_cons]; show 4 + _ = _; omega
theorem wrow_append (l m : List Wt) : wrow (l ++ m) = wrow l ++ wrow m := List.flatMap_append
theorem wrow_at : ∀ (l : List Wt) (j : Nat) (x : Wt), l[j]? = some x → ∀ i u, x.cells[i]? = some u → (wrow l)[j * 4 + i]? = some u
  | [], j, x, h, i, u, hu => by simp at h
  | y :: l, 0, x, h, i, u, hu => by
    obtain rfl : y = x := by simpa using h
    rw [wrow_cons, Nat.zero_mul, Nat.zero_add, List.getElem?_append_left (List.getElem?_eq_some_iff.1 hu).1]
    exact hu
  | y :: l, j + 1, x, h, i, u, hu => by
    rw [wrow_cons, List.getElem?_append_right (by show 4 ≤ _; omega), show (j + 1) * 4 + i - y.cells.length = j * 4 + i from by show _ - 4 = _; omega]
    exact wrow_at l j x (by simpa using h) i u hu
theorem wrow_cell (l : List Wt) : ∀ v ∈ wrow l, v.oneCell' = true := by
  intro v hv
  obtain ⟨x, _, hx⟩ := List.mem_flatMap.1 hv
  simp only [Wt.cells, List.mem_cons, List.not_mem_nil, or_false] at hx
  rcases hx with rfl | rfl | rfl | rfl <;> rfl

/-- Behind them all are empty. -/
def full (l : List Wt) : List Wt := l ++ List.replicate (8 - l.length) Wt.zero
theorem full_len {l : List Wt} (h : l.length ≤ 8) : (full l).length = 8 := by
  have h1 : l.length + (8 - l.length) = 8 := Nat.add_sub_of_le h
  simpa [full] using h1
theorem full_at {l : List Wt} {j : Nat} {x : Wt} (h : l[j]? = some x) : (full l)[j]? = some x := by
  rw [full, List.getElem?_append_left (List.getElem?_eq_some_iff.1 h).1]; exact h
theorem full_snoc (l : List Wt) (x : Wt) : full (l ++ [x]) = l ++ x :: List.replicate (8 - (l.length + 1)) Wt.zero := by simp [full]
theorem full_split {l : List Wt} (h : l.length < 8) : full l = l ++ Wt.zero :: List.replicate (8 - (l.length + 1)) Wt.zero := by
  rw [full, show 8 - l.length = (8 - (l.length + 1)) + 1 from by omega, List.replicate_succ]

/-- Block g holds them. -/
structure PO (w : World) (g : Nat) (l : List Wt) : Prop where
  c : w.heap[g]? = some (.cells (wrow (full l) ++ [Value.int .i64 (l.length : Int)]).toArray 52 (0, 0))
  le : l.length ≤ 8
section
variable {w w' : World} {g : Nat} {l : List Wt}
theorem PO.lt (h : PO w g l) : g < w.heap.size := (Array.getElem?_eq_some_iff.1 h.c).1
theorem PO.next (h : PO w g l) (hb : Below w.heap.size w w') : PO w' g l := ⟨(hb.block _ h.lt).trans h.c, h.le⟩
theorem PO.same (h : PO w g l) (hb : w'.heap[g]? = w.heap[g]?) : PO w' g l := ⟨hb.trans h.c, h.le⟩
theorem PO.apart {F : Nat → Prop} (h : PO w g l) (hT : Trn F w w') (hF : ¬ F g) : PO w' g l := h.same (hT.block _ h.lt hF)
theorem PO.cnt (h : PO w g l) : w.cell? ⟨g, 32, none⟩ = some (.int .i64 (l.length : Int)) := by
  have hc := cell_of_row w g 32 _ _ _ h.c
  rw [List.getElem?_toArray, List.getElem?_append_right (by rw [wrow_len, full_len h.le]; omega), wrow_len, full_len h.le] at hc
  exact hc
theorem PO.froz (h : PO w g l) (i : Nat) : w.frozen? ⟨g, i, none⟩ = false := frozen_of_row _ _ _ _ _ h.c
theorem PO.at (h : PO w g l) {j : Nat} {x : Wt} (hj : (full l)[j]? = some x) {i : Nat} {u : Value} (hu : x.cells[i]? = some u) : w.cell? ⟨g, j * 4 + i, none⟩ = some u := by
  have hc := cell_of_row w g (j * 4 + i) _ _ _ h.c
  rw [List.getElem?_toArray] at hc
  have hr := wrow_at _ _ _ hj _ _ hu
  rw [List.getElem?_append_left (List.getElem?_eq_some_iff.1 hr).1, hr] at hc
  exact hc
theorem PO.has (h : PO w g l) {j i : Nat} (hj : j < 8) (hi : i < 4) : ∃ u, w.cell? ⟨g, j * 4 + i, none⟩ = some u := by
  have hjl : j < (full l).length := by rw [full_len h.le]; exact hj
  have hil : i < (full l)[j].cells.length := hi
  exact ⟨_, h.at (List.getElem?_eq_getElem hjl) (List.getElem?_eq_getElem hil)⟩

/-- The row where one more was stored, and is not yet counted. -/
def NewRow (w : World) (g : Nat) (l : List Wt) (x : Wt) : Prop := w.heap[g]? = some (.cells (wrow (full (l ++ [x])) ++ [Value.int .i64 (l.length : Int)]).toArray 52 (0, 0))
theorem PO.store (h : PO w g l) (x : Wt) (hl : l.length < 8) : NewRow (setN w g (l.length * 4) x.cells) g l x := by
  have h1 := h.c
  rw [full_split hl, wrow_append, wrow_cons, List.append_assoc, List.append_assoc] at h1
  have h2 := setN_mid x.cells (wrow l) Wt.zero.cells _ w h1 rfl
  rw [wrow_len] at h2
  have e1 : wrow l ++ (x.cells ++ (wrow (List.replicate (8 - (l.length + 1)) Wt.zero) ++ [Value.int .i64 (l.length : Int)])) = wrow (full (l ++ [x])) ++ [Value.int .i64 (l.length : Int)] := by
    rw [full_snoc l x, wrow_append, wrow_cons]; simp only [List.append_assoc]
  rw [e1] at h2
  exact h2
theorem NewRow.len {x : Wt} (hl : l.length < 8) : (wrow (full (l ++ [x]))).length = 32 := by rw [wrow_len, full_len (by simp; omega)]
theorem NewRow.cnt {x : Wt} (h : NewRow w g l x) (hl : l.length < 8) : w.cell? ⟨g, 32, none⟩ = some (.int .i64 (l.length : Int)) := by
  have hc := cell_of_row w g 32 _ _ _ h
  rw [List.getElem?_toArray, List.getElem?_append_right (by rw [NewRow.len hl]; omega), NewRow.len hl] at hc
  exact hc
theorem NewRow.froz {x : Wt} (h : NewRow w g l x) (i : Nat) : w.frozen? ⟨g, i, none⟩ = false := frozen_of_row _ _ _ _ _ h
/-- Counted. -/
theorem NewRow.push {x : Wt} (h : NewRow w g l x) (hl : l.length < 8) : PO (w.setCell ⟨g, 32, none⟩ (.int .i64 ((l.length + 1 : Nat) : Int))) g (l ++ [x]) := by
  refine ⟨?_, by simp; omega⟩
  have h3 := setCell_row (i := 32) (u := .int .i64 ((l.length + 1 : Nat) : Int)) h
  rw [List.setIfInBounds_toArray, List.set_append_right _ _ (by rw [NewRow.len hl]; omega), NewRow.len hl, Nat.sub_self, List.set_cons_zero] at h3
  rw [h3, List.length_append, List.length_singleton]
end
end Go.Proofs.Ytimieknphedniaa
