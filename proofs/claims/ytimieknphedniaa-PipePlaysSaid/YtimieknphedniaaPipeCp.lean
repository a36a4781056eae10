/- 'copy' of structs within one row; who waits no more: the others come forward. -/
import Derived.Test.YtimieknphedniaaPipeO
namespace Go.Proofs.Ytimieknphedniaa
open Go.RowKit

/-- All is read before anything is written: elements of c cells each. -/
theorem run_copy_wide {P : Program} (w : World) (dT sT ty elem : TypeId) (c g o dLen dCap : Nat) (a : Addr) (sLen sCap n : Nat) (cur : Array Value) (t : TypeId) (cs : List Value)
    (hu : P.underlying dT = some (.slice elem)) (hs : (P.info? elem).map (·.size) = some c)
    (hg : w.heap[g]? = some (.cells cur t (0, 0))) (hn : Nat.min sLen dLen = n) (hl : cs.length = n * c)
    (hsrc : ∀ j v, cs[j]? = some v → w.cell? (a.add j) = some v) (hfit : o + cs.length ≤ cur.size) (h1 : ∀ v ∈ cs, v.oneCell' = true) :
    (Builtin.copy_ #[dT, sT] ty #[.slice (some ⟨g, o, none⟩) dLen dCap, .slice (some a) sLen sCap]).run P w =
      .ok (goInt n) (w.setRow g (cur.toList.take o ++ cs ++ cur.toList.drop (o + cs.length)).toArray) := by
  have hld := run_loadCells_list (P := P) w a cs hsrc
  have hst := run_storeCells_at P g o t cs 0 cur w hg (by simpa using hfit) h1
  cases hq : P.info? elem with
  | none => simp [hq] at hs
  | some i =>
    have hi : i.size = c := by simpa [hq] using hs
    simp [Builtin.copy_, run_underlying hu, Builtin.lenOf, Builtin.firstCells, sizeOf, typeInfo, hq, hi, hn, ← hl, hld, hst]

theorem info_want : (Try.prog.info? 31).map (·.size) = some 4 := by kernel_rfl

section
variable {w w' : World} {g : Nat} {l : List Wt} {x : Wt}
/-- The row behind the copy. -/
def popRow (x : Wt) (l : List Wt) : List Value := wrow l ++ (wrow (full (x :: l)) ++ [Value.int .i64 ((x :: l).length : Int)]).drop (l.length * 4)
theorem PO.copy (h : PO w g (x :: l)) (hl : l.length ≤ 7) (q : Nat) :
    (Builtin.copy_ #[27, 27] 3 #[.slice (some ⟨g, 0, none⟩) 8 8, .slice (some ⟨g, 4, none⟩) l.length 7]).run Try.prog (w.drewN q) = .ok (.int .i64 (l.length : Int)) ((w.drewN q).setRow g (popRow x l).toArray) := by
  have hh : (w.drewN q).heap[g]? = some (.cells (wrow (full (x :: l)) ++ [Value.int .i64 ((x :: l).length : Int)]).toArray 52 (0, 0)) := h.c
  have e := run_copy_wide (P := Try.prog) (w.drewN q) 27 27 3 31 4 g 0 8 8 ⟨g, 4, none⟩ l.length 7 l.length _ _ (wrow l) Try.underlying27 info_want hh
    (Nat.min_eq_left (by omega)) (wrow_len l) ?_ ?_ (wrow_cell l)
  · rw [e]
    rw [popRow, wrow_len, Nat.zero_add]
    rfl
  · intro j v hj
    rw [Addr.add_lit]
    show w.cell? ⟨g, 4 + j, none⟩ = some v
    have hc := cell_of_row w g (4 + j) _ _ _ h.c
    rw [hc, List.getElem?_toArray, full, List.cons_append, wrow_cons, List.append_assoc, List.getElem?_append_right (by show 4 ≤ _; omega), show 4 + j - x.cells.length = j from by show _ - 4 = _; omega,
      wrow_append, List.append_assoc, List.getElem?_append_left (List.getElem?_eq_some_iff.1 hj).1]
    exact hj
  · rw [List.size_toArray, List.length_append, wrow_len, wrow_len, full_len h.le]
    simp; omega
theorem pop_eq (x : Wt) (l : List Wt) : ∃ y : Wt, popRow x l = wrow l ++ (y.cells ++ (wrow (List.replicate (8 - (l.length + 1)) Wt.zero) ++ [Value.int .i64 ((x :: l).length : Int)])) := by
  obtain ⟨y, hy⟩ : ∃ y, (x :: l).drop l.length = [y] := by
    have hlen : ((x :: l).drop l.length).length = 1 := by simp
    exact List.length_eq_one_iff.1 hlen
  refine ⟨y, ?_⟩
  have hs : (x :: l) = (x :: l).take l.length ++ [y] := by rw [← hy, List.take_append_drop]
  have ht : (wrow ((x :: l).take l.length)).length = l.length * 4 := by rw [wrow_len, List.length_take, List.length_cons, Nat.min_eq_left (by omega)]
  rw [popRow, full]
  conv => lhs; rw [show wrow ((x :: l) ++ List.replicate (8 - (x :: l).length) Wt.zero) = wrow ((x :: l).take l.length) ++ (y.cells ++ wrow (List.replicate (8 - (l.length + 1)) Wt.zero)) from by
    conv => lhs; rw [hs]
    rw [wrow_append, wrow_append, List.append_assoc, ← hs]
    rfl]
  rw [List.append_assoc, ← ht, List.drop_left, List.append_assoc]
theorem pop_len (x : Wt) (hle : l.length < 8) : (popRow x l).length = 33 := by
  obtain ⟨y, e⟩ := pop_eq x l
  rw [e]; simp [wrow_len, Wt.cells]; omega
theorem pop_cnt (x : Wt) (hle : l.length < 8) : (popRow x l)[32]? = some (.int .i64 ((l.length + 1 : Nat) : Int)) := by
  obtain ⟨y, e⟩ := pop_eq x l
  have e2 : (wrow l ++ (y.cells ++ wrow (List.replicate (8 - (l.length + 1)) Wt.zero))).length = 32 := by simp [wrow_len, Wt.cells]; omega
  have e3 : popRow x l = (wrow l ++ (y.cells ++ wrow (List.replicate (8 - (l.length + 1)) Wt.zero))) ++ [Value.int .i64 ((x :: l).length : Int)] := by rw [e]; simp only [List.append_assoc]
  rw [e3, List.getElem?_append_right (by omega), e2]
  rfl
theorem PO.pop (h : PO w g (x :: l)) : PO (setN ((w.setRow g (popRow x l).toArray).setCell ⟨g, 32, none⟩ (.int .i64 (l.length : Int))) g (l.length * 4) Wt.zero.cells) g l := by
  have hle : l.length < 8 := by have := h.le; simp at this; omega
  refine ⟨?_, by omega⟩
  obtain ⟨y, e1⟩ := pop_eq x l
  have h1 := setRow_heap w g _ (popRow x l).toArray _ _ h.c
  have h2 := setCell_row (i := 32) (u := .int .i64 (l.length : Int)) h1
  rw [List.setIfInBounds_toArray, e1] at h2
  have e2 : (wrow l ++ (y.cells ++ wrow (List.replicate (8 - (l.length + 1)) Wt.zero))).length = 32 := by simp [wrow_len, Wt.cells]; omega
  have e3 : wrow l ++ (y.cells ++ (wrow (List.replicate (8 - (l.length + 1)) Wt.zero) ++ [Value.int .i64 ((x :: l).length : Int)])) = (wrow l ++ (y.cells ++ wrow (List.replicate (8 - (l.length + 1)) Wt.zero))) ++ [Value.int .i64 ((x :: l).length : Int)] := by simp only [List.append_assoc]
  have e4 : ((wrow l ++ (y.cells ++ (wrow (List.replicate (8 - (l.length + 1)) Wt.zero) ++ [Value.int .i64 ((x :: l).length : Int)]))).set 32 (.int .i64 (l.length : Int))) = wrow l ++ (y.cells ++ (wrow (List.replicate (8 - (l.length + 1)) Wt.zero) ++ [Value.int .i64 (l.length : Int)])) := by
    rw [e3, List.set_append_right _ _ (by omega), e2, Nat.sub_self, List.set_cons_zero]; simp only [List.append_assoc]
  rw [e4] at h2
  have h3 := setN_mid Wt.zero.cells (wrow l) y.cells _ _ h2 rfl
  rw [wrow_len] at h3
  rw [e1, h3, full_split hle, wrow_append, wrow_cons, List.append_assoc, List.append_assoc]
end
end Go.Proofs.Ytimieknphedniaa
