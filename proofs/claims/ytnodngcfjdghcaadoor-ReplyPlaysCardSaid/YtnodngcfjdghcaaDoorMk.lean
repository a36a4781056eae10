/- A maker of replies in memory: its cells; New, Busy, add walked. -/
import Derived.Test.YtnodngcfjdghcaaDoorFoot
import Derived.Test.YtnodngcfjdghcaaDoorStrs
import Derived.Test.YtnodngcfjdghcaaDoorSt3
import Derived.Test.YtnodngcfjdghcaaDoorStuffBody
import Derived.Test.YtnodngcfjdghcaaDoorReplyP
namespace Go.Proofs.YtnodngcfjdghcaaDoor
open Go.RowKit

/-- A maker's cells in block g. -/
def MkC (w : World) (g : Nat) (p : Int) (c : ByteArray) (lv bo bp tk : Value) : Prop := w.heap[g]? = some (.cells #[.int .i64 p, .string c, lv, bo, bp, tk] 51 (0, 0))
section
variable {w w' : World} {g : Nat} {p : Int} {c : ByteArray} {lv bo bp tk : Value}
theorem MkC.c0 (h : MkC w g p c lv bo bp tk) : w.cell? ⟨g, 0, none⟩ = some (.int .i64 p) := cell_of_row _ _ _ _ _ _ h
theorem MkC.c1 (h : MkC w g p c lv bo bp tk) : w.cell? ⟨g, 1, none⟩ = some (.string c) := cell_of_row _ _ _ _ _ _ h
theorem MkC.c2 (h : MkC w g p c lv bo bp tk) : w.cell? ⟨g, 2, none⟩ = some lv := cell_of_row _ _ _ _ _ _ h
theorem MkC.c3 (h : MkC w g p c lv bo bp tk) : w.cell? ⟨g, 3, none⟩ = some bo := cell_of_row _ _ _ _ _ _ h
theorem MkC.c4 (h : MkC w g p c lv bo bp tk) : w.cell? ⟨g, 4, none⟩ = some bp := cell_of_row _ _ _ _ _ _ h
theorem MkC.c5 (h : MkC w g p c lv bo bp tk) : w.cell? ⟨g, 5, none⟩ = some tk := cell_of_row _ _ _ _ _ _ h
theorem MkC.fr (h : MkC w g p c lv bo bp tk) (i : Nat) : w.frozen? ⟨g, i, none⟩ = false := frozen_of_row _ _ _ _ _ h
theorem MkC.lt (h : MkC w g p c lv bo bp tk) : g < w.heap.size := (Array.getElem?_eq_some_iff.1 h).1
theorem MkC.same (h : MkC w g p c lv bo bp tk) (e : w'.heap[g]? = w.heap[g]?) : MkC w' g p c lv bo bp tk := e.trans h
theorem MkC.next (h : MkC w g p c lv bo bp tk) (hb : Below w.heap.size w w') : MkC w' g p c lv bo bp tk := h.same (hb.block _ h.lt)
theorem MkC.set0 (h : MkC w g p c lv bo bp tk) (u : Int) : MkC (w.setCell ⟨g, 0, none⟩ (.int .i64 u)) g u c lv bo bp tk := setCell_row h
theorem MkC.set1 (h : MkC w g p c lv bo bp tk) (u : ByteArray) : MkC (w.setCell ⟨g, 1, none⟩ (.string u)) g p u lv bo bp tk := setCell_row h
theorem MkC.set2 (h : MkC w g p c lv bo bp tk) (u : Value) : MkC (w.setCell ⟨g, 2, none⟩ u) g p c u bo bp tk := setCell_row h
theorem MkC.set3 (h : MkC w g p c lv bo bp tk) (u : Value) : MkC (w.setCell ⟨g, 3, none⟩ u) g p c lv u bp tk := setCell_row h
theorem MkC.set4 (h : MkC w g p c lv bo bp tk) (u : Value) : MkC (w.setCell ⟨g, 4, none⟩ u) g p c lv bo u tk := setCell_row h
theorem MkC.set5 (h : MkC w g p c lv bo bp tk) (u : Value) : MkC (w.setCell ⟨g, 5, none⟩ u) g p c lv bo bp u := setCell_row h
theorem MkC.own_ne (h : MkC w g p c lv bo bp tk) {B n : Nat} {v : Value} {vs : List Value} (ho : w.ownsRow B 9 1 v n vs) : v.ownBlock ≠ some g := own_not ho h (by decide)
theorem MkC.own_ne8 (h : MkC w g p c lv bo bp tk) {B n : Nat} {v : Value} {vs : List Value} (ho : w.ownsRow B 5 1 v n vs) : v.ownBlock ≠ some g := own_not ho h (by decide)
end

/-- A slice's form. -/
def Sl (v : Value) : Prop := ∃ ao n c, v = .slice ao n c
theorem sl_own {w : World} {B n : Nat} {v : Value} {e : TypeId} {vs : List Value} (h : w.ownsRow B e 1 v n vs) : Sl v := by
  obtain ⟨ao, c, h⟩ := own_form h
  exact ⟨ao, n, c, h⟩
theorem sl_nil : Sl (.slice none 0 0) := ⟨_, _, _, rfl⟩
/-- 'New'. -/
theorem mnew_any (p : Int) (w : World) :
    Calls Tryd.prog 10 #[.int .i64 p] w fun e w' => e = .returned (.pointer (some ⟨w.heap.size, 0, none⟩)) ∧ Below w.heap.size w w' ∧ MkC w' w.heap.size p ⟨#[]⟩ (.slice none 0 0) (.slice none 0 0) (.pointer none) .nilFunc := by
  have hq := Lib.hid (show MkC (w.alloc (.cells #[.int .i64 p, .string ⟨#[]⟩, .slice none 0 0, .slice none 0 0, .pointer none, .nilFunc] 51)) w.heap.size p ⟨#[]⟩ (.slice none 0 0) (.slice none 0 0) (.pointer none) .nilFunc from World.alloc_heap_new w _)
  go_enter Tryd.func10, Tryd.ntmps10
  go_wp2
  go_ret
  exact ⟨rfl, (Below.refl _ _).alloc (Nat.le_refl _) _, hq.out⟩

theorem neq_fn (w : World) (fn : Fn) (a b : Array Value) : (binOp .neq 44 (.func fn a b) .nilFunc).run Tryd.prog w = .ok (.bool true) w := by rfl
theorem neq_nil (w : World) : (binOp .neq 44 .nilFunc .nilFunc).run Tryd.prog w = .ok (.bool false) w := by rfl
/-- 'Busy'. -/
theorem mbusy_no {w : World} {g : Nat} {p : Int} {c : ByteArray} {lv bo bp : Value} (h : MkC w g p c lv bo bp .nilFunc) :
    Calls Tryd.prog 15 #[.pointer (some ⟨g, 0, none⟩)] w fun e w' => e = .returned (.bool false) ∧ w = w' := by
  have c5 := h.c5
  have q := neq_nil
  clear h
  go_enter Tryd.func15, Tryd.ntmps15
  go_wp2
  go_ret
  exact ⟨rfl, rfl⟩
theorem mbusy_yes {w : World} {g : Nat} {p : Int} {c : ByteArray} {lv bo bp : Value} {fn : Fn} {a b : Array Value} (h : MkC w g p c lv bo bp (.func fn a b)) :
    Calls Tryd.prog 15 #[.pointer (some ⟨g, 0, none⟩)] w fun e w' => e = .returned (.bool true) ∧ w = w' := by
  have c5 := h.c5
  have q := neq_fn
  clear h
  go_enter Tryd.func15, Tryd.ntmps15
  go_wp2
  go_ret
  exact ⟨rfl, rfl⟩

/-- 'append(xs, x)' on a row of texts, x in a block just made: where the new one lies. -/
theorem append_str_at {ops : Array Oper} {rest : List Oper} {o : Oper} {a : Act} {Q : Exit → Act → World → Prop} {w : World} {B n : Nat} {v b : Value} {xs : List Value}
    (hgd : o.guard = none) (s x : Operand) (ho : o.op = .call { callee := .builtin .append, args := #[s, x], argTypes := #[22, 22] })
    (hs : a.eval s = v) (hown : w.ownsRow B 9 1 v n xs) (hx : a.eval x = .slice (some ⟨w.heap.size, 0, none⟩) 1 1)
    (h1 : b.oneCell' = true) (hn : n ≤ 2097152) (hB : B ≤ w.heap.size)
    (h : ∀ v' w', w'.ownsRow B 9 1 v' (n + 1) (xs ++ [b]) → w.grownBy w' v.ownBlock → (v'.ownBlock = v.ownBlock ∨ v'.ownBlock = some (w.heap.size + 1)) → wpList Tryd.prog ops Q rest (a.put o.dst v') w') : wpList Tryd.prog ops Q (o :: rest) a (w.alloc (.cells #[b] 9)) := by
  obtain ⟨i0, hi, hz0, hz1, hz2⟩ := info_parts info_str
  refine wpList_append_lies _ hgd s x 22 ho B 9 i0 (.string ByteArray.empty) 1 16 Tryd.underlying22 hi hz0 hz1 hz2 rfl (by decide) v n xs hs (hown.alloc _) ⟨w.heap.size, 0, none⟩ 1 1 [b] hx rfl (cell_one_new _ _ _) ?_ (Nat.succ_pos _) ?_ ?_ (by simp; omega) _ rfl (fun g cap w' h2 h3 h4 _ => ?_)
  · intro u hu
    simp at hu
    subst hu
    exact h1
  · unfold maxLen; omega
  · omega
  · refine h _ w' h2 ⟨h3.os, h3.tape, h3.output, Nat.le_trans (by simp) h3.size, fun k hk hr => (h3.block k (by simp; omega) hr).trans (Below.heap_alloc w _ k hk)⟩ ?_
    rcases h4 with h4 | h4
    · exact .inl h4.symm
    · exact .inr (by show some g = _; rw [h4, World.size_alloc])

/-- 'add', where there is no room. -/
theorem madd_full {w : World} {B g : Nat} {p : Int} {c : ByteArray} {lv bo bp tk : Value} {xs : List (List UInt8)} (t : List UInt8) (h : MkC w g p c lv bo bp tk) (ho : w.ownsRow B 9 1 lv xs.length (xs.map sv)) (h20 : 20 ≤ xs.length) :
    Calls Tryd.prog 25 #[.pointer (some ⟨g, 0, none⟩), .string (ba t)] w fun e w' => e = .returned (.int .i64 72) ∧ w = w' := by
  have c2 := h.c2
  obtain ⟨ao, cap, rfl⟩ := own_form ho
  generalize xs.length = L at *
  have x1 : (20 : Int) ≤ (L : Int) := by omega
  clear h ho h20
  go_enter Tryd.func25, Tryd.ntmps25
  go_wp2
  go_ret
  exact ⟨rfl, rfl⟩
/-- What 'add' does, where there is room. -/
def AddP (w : World) (B g : Nat) (p : Int) (c : ByteArray) (lv bo bp tk : Value) (xs : List (List UInt8)) (t : List UInt8) (w' : World) : Prop :=
  ∃ lv', MkC w' g p c lv' bo bp tk ∧ w'.ownsRow B 9 1 lv' (xs ++ [t]).length ((xs ++ [t]).map sv) ∧ Turn g lv w w' ∧ Nx lv lv' w.heap.size
theorem madd_more {w : World} {B g : Nat} {p : Int} {c : ByteArray} {lv bo bp tk : Value} {xs : List (List UInt8)} (t : List UInt8) (h : MkC w g p c lv bo bp tk) (ho : w.ownsRow B 9 1 lv xs.length (xs.map sv)) (h20 : xs.length < 20) (hB : B ≤ w.heap.size) :
    Calls Tryd.prog 25 #[.pointer (some ⟨g, 0, none⟩), .string (ba t)] w fun e w' => e = .returned (.int .i64 0) ∧ AddP w B g p c lv bo bp tk xs t w' := by
  unfold AddP
  have c2 := h.c2
  have H := Lib.hid h
  have HO := Lib.hid ho
  obtain ⟨ao, cap, rfl⟩ := own_form ho
  obtain ⟨L, hL⟩ : ∃ L, L = xs.length := ⟨_, rfl⟩
  have HL := Lib.hid hL
  rw [← hL] at h20 c2 HO H ⊢
  have x1 : ((20 : Int) ≤ (L : Int)) = False := eq_false (by omega)
  have x2 : ¬ (20 : Int) ≤ (L : Int) := by omega
  clear h ho hL
  go_enter Tryd.func25, Tryd.ntmps25
  go_wp2_with (at_builtin; refine append_str_at rfl (.tmp 17) (.tmp 19) rfl rfl HO.out rfl rfl ?ca hB ?_)
  case ca => omega
  intro v2 w2 ho2 hg2 hl2
  obtain ⟨co, cc, rfl⟩ := own_form ho2
  have hc2 : MkC w2 g p c (.slice ao L cap) bo bp tk := H.out.same (hg2.block g H.out.lt (fun e => H.out.own_ne HO.out e.symm))
  have c2' := hc2.c2
  have f2 := hc2.fr 2
  have hcs := hc2.set2 (.slice co (L + 1) cc)
  have hos := own_setCell (g := g) (i := 2) (u := .slice co (L + 1) cc) ho2 (hc2.own_ne ho2)
  have hT : Turn g (.slice ao L cap) w (w2.setCell ⟨g, 2, none⟩ (.slice co (L + 1) cc)) := ⟨hg2.os, hg2.tape, hg2.output, by simp [World.setCell]; exact hg2.size, fun k hk h1 h2 => (Below.heap_setCell _ _ _ _ h1).trans (hg2.block k hk (fun e => h2 e.symm))⟩
  have hN : Nx (.slice ao L cap) (.slice co (L + 1) cc) w.heap.size := by
    rcases hl2 with hl2 | hl2
    · exact .inr (.inl hl2)
    · exact .inr (.inr ⟨_, hl2, Nat.le_succ _⟩)
  have HF := Lib.hid (show ∃ lv', MkC (w2.setCell ⟨g, 2, none⟩ (.slice co (L + 1) cc)) g p c lv' bo bp tk ∧ (w2.setCell ⟨g, 2, none⟩ (.slice co (L + 1) cc)).ownsRow B 9 1 lv' (xs ++ [t]).length ((xs ++ [t]).map sv) ∧ Turn g (.slice ao L cap) w (w2.setCell ⟨g, 2, none⟩ (.slice co (L + 1) cc)) ∧ Nx (.slice ao L cap) lv' w.heap.size from
    ⟨.slice co (L + 1) cc, hcs, by rw [List.length_append, ← HL.out, List.map_append]; exact hos, hT, hN⟩)
  clear c2 H HO hcs hos hT hN ho2 hg2 hl2 hc2
  go_wp2
  go_ret
  exact ⟨rfl, HF.out⟩
end Go.Proofs.YtnodngcfjdghcaaDoor
