/- Arrays of sixteen bytes: as values, read, loaded, compared. -/
import Derived.Test.YtjogdflhpciciaaDoorRdB
import Derived.Test.YtjogdflhpciciaaDoorRowW
import Derived.Stop.BytesEq
import Derived.Laws.StructEq
import Derived.BigFrame
namespace Go.Proofs.YtjogdflhpciciaaDoor
open Go.RowKit

/-- An array of bytes as a value. -/
abbrev av (l : List UInt8) : Value := .agg (l.map bv).toArray
/-- A block of bytes, read. -/
theorem Rd.row {w : World} {b n : Nat} {l : List UInt8} {t : TypeId} {fr : Nat × Nat} (h : w.heap[b]? = some (.cells (l.map bv).toArray t fr)) (hn : n = l.length) (hl : n ≤ 16777216) : Rd w (.slice (some ⟨b, 0, none⟩) n n) (l.map bv) := by
  refine .inr ⟨b, 0, n, by rw [List.length_map, hn], by rw [List.length_map]; omega, by unfold maxLen; omega, fun j u hj => ?_⟩
  rw [cell_of_row _ _ _ _ _ _ h, Nat.zero_add]
  simpa using hj

theorem info16 {R : List Value} (h : R.length = 16) : (Tryd.prog.info? 37).map (·.size) = some R.length := by rw [h]; kernel_rfl
theorem info16a {R : List Value} (h : R.length = 16) : (Tryd.prog.info? 37).map (·.size) = some R.toArray.size := by rw [List.size_toArray, h]; kernel_rfl
theorem rd_nil (w : World) : Rd w (.slice none 0 0) (([] : List UInt8).map bv) := .inl ⟨rfl, none, 0, fun _ => rfl, rfl⟩

/-- A whole array loaded where the operation's guard says yes. -/
theorem wpList_load_want {P : Program} {ops : Array Oper} {rest : List Oper} {o : Oper} {a : Act} {w : World} {Q : Exit → Act → World → Prop} (hw : Region.wanted o (yielded ops a.tmps) = true) (ty : TypeId) (x : Operand) (ho : o.op = .load ty x)
    (g : Nat) (hx : a.eval x = .pointer (some ⟨g, 0, none⟩)) (t : TypeId) (cs : Array Value) (fr : Nat × Nat) (d : TypeDesc) (hg : w.heap[g]? = some (.cells cs t fr))
    (hu : P.underlying ty = some d) (hd : (match d with | .struct _ | .array _ _ => true | _ => false) = true) (hi : (P.info? ty).map (·.size) = some cs.size)
    (h : wpList P ops Q rest (a.put o.dst (.agg cs)) w) : wpList P ops Q (o :: rest) a w :=
  BigFrame.wpList_want hw fun _ hK => wp_load_row ty x ho g hx t cs fr d hg hu hd hi (hK _ _ h)

theorem guard16 : Tryd.prog.eqGuardType Tryd.prog.depth 37 = false := by kernel_rfl
theorem equal16 (xs ys : List UInt8) (hx : xs.length = 16) (hy : ys.length = 16) (w : World) :
    (Op.equalIn 10000 37 (.agg (xs.map bv).toArray) (.agg (ys.map bv).toArray)).run Tryd.prog w = .ok (xs == ys) w := by
  obtain ⟨i0, hi, hz0, hz1, hz2⟩ := info_parts info_u8
  exact run_equalIn_bytes (P := Tryd.prog) w 9998 37 5 16 Tryd.underlying37 Tryd.underlying5 (fun w => by simp [sizeOf, typeInfo, hi, hz1]) xs ys hx hy
end Go.Proofs.YtjogdflhpciciaaDoor
