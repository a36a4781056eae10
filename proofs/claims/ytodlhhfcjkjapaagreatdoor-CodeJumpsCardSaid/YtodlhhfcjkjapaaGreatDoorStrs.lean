/- Rows of texts: appended, compared (rejoinderref01.Same). Of no layer. -/
import Derived.Test.YtodlhhfcjkjapaaGreatDoorRd
import Derived.Laws.AppendOwnNone
import Derived.BigQuiet
import Derived.Deep.QuietTactic
import Derived.Deep.Draws
namespace Go.Proofs.YtodlhhfcjkjapaaGreatDoor
open Go.RowKit
theorem info_str : (Tryz.prog.info? 9).map (fun i => (i.zero, i.size, i.bytes)) = some (some (.string ByteArray.empty), 1, 16) := by kernel_rfl
theorem append_str {ops : Array Oper} {rest : List Oper} {o : Oper} {a : Act} {Q : Exit → Act → World → Prop} {w : World} {B n : Nat} {v b : Value} {xs : List Value}
  (hgd : o.guard = none) (s x : Operand) (ho : o.op = .call { callee := .builtin .append, args := #[s, x], argTypes := #[45, 45] })
  (hs : a.eval s = v) (hown : w.ownsRow B 9 1 v n xs) (hx : a.eval x = .slice (some ⟨w.heap.size, 0, none⟩) 1 1) (_ht : o.type = 45)
  (h1 : b.oneCell' = true) (hn : n ≤ 2097152) (hB : B ≤ w.heap.size)
  (h : ∀ v' w', w'.ownsRow B 9 1 v' (n + 1) (xs ++ [b]) → w.grownBy w' v.ownBlock → wpList Tryz.prog ops Q rest (a.put o.dst v') w') : wpList Tryz.prog ops Q (o :: rest) a (w.alloc (.cells #[b] 9)) := by
 obtain ⟨i0, hi, hz0, hz1, hz2⟩ := info_parts info_str
 refine wpList_append_own _ hgd s x 45 ho B 9 i0 (.string ByteArray.empty) 1 16 Tryz.underlying45 hi hz0 hz1 hz2 rfl (by decide) v n xs hs (hown.alloc _) ⟨w.heap.size, 0, none⟩ 1 1 [b] hx rfl ?_ ?_ ?_ ?_ (by simp; omega) (fun v' w' h2 h3 _ => h v' w' h2 ?_)
 ·exact cell_one_new _ _ _
 ·intro u hu
  simp at hu
  subst hu
  exact h1
 ·unfold maxLen; omega
 ·omega
 ·exact ⟨h3.os, h3.tape, h3.output, Nat.le_trans (by simp) h3.size, fun k hk hr => (h3.block k (by simp; omega) hr).trans (Below.heap_alloc w _ k hk)⟩
theorem svs_at {xs : List (List UInt8)} {k : Nat} (h : k < xs.length) : (xs.map sv)[k]? = some (sv (xs.getD k [])) := by simp [h, List.getD_eq_getElem?_getD]
end Go.Proofs.YtodlhhfcjkjapaaGreatDoor
