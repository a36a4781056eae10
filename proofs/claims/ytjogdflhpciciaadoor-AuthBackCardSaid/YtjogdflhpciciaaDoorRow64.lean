/- Arrays of sixty-four bytes: read by an index, loaded; 'copy' of bytes that are read. -/
import Derived.Test.YtjogdflhpciciaaDoorArr16
import Derived.Test.YtjogdflhpciciaaDoorRdMake
import Derived.Laws.BitsAllLaws
namespace Go.Proofs.YtjogdflhpciciaaDoor
open Go.RowKit

theorem info64 {R : List Value} (h : R.length = 64) : (Tryd.prog.info? 62).map (·.size) = some R.length := by rw [h]; kernel_rfl
theorem info64a {R : List Value} (h : R.length = 64) : (Tryd.prog.info? 62).map (·.size) = some R.toArray.size := by rw [List.size_toArray, h]; kernel_rfl

/-- 'a[i]' of such an array by value. -/
theorem index64 {R : List Value} {k : Nat} {u : Value} (h : R[k]? = some u) (hk : k < 64) (w : World) : (Instr.index 62 (.agg R.toArray) (.int .i64 (k : Int))).run Tryd.prog w = .ok u w := by
  obtain ⟨i0, hi, hz0, hz1, hz2⟩ := info_parts info_u8
  have hx : (0 : Int) ≤ k ∧ (k : Int) < 64 := by omega
  simp [Instr.index, run_underlying Tryd.underlying62, asIntOf, sizeOf, typeInfo, hi, hz1, hk, h, go_sem]

/-- 'copy(x, y)' of bytes that are read into a row of bytes, all of them fitting. -/
theorem wpList_copy_rd {w : World} {ops : Array Oper} {rest : List Oper} {o : Oper} {a : Act} {Q : Exit → Act → World → Prop} (hgd : o.guard = none) (d s : Operand)
    (ho : o.op = .call { callee := .builtin .copy, args := #[d, s], argTypes := #[29, 29] }) (dp : Option Addr) (dLen dCap : Nat) (hd : a.eval d = .slice dp dLen dCap)
    (v : Value) (xs : List UInt8) (hs : a.eval s = v) (hx : Rd w v (xs.map bv)) (hle : xs.length ≤ dLen)
    (g off : Nat) (cur : List Value) (t : TypeId) (hg : w.heap[g]? = some (.cells cur.toArray t (0, 0))) (hp : 0 < xs.length → dp = some ⟨g, off, none⟩) (hfit : off + xs.length ≤ cur.length)
    (B : Nat) (w0 : World) (hb : Below B w0 w) (hBg : B ≤ g)
    (h : ∀ w', Hid (w'.heap[g]? = some (.cells (splice cur off (xs.map bv)).toArray t (0, 0))) → Below B w0 w' → wpList Tryd.prog ops Q rest (a.put o.dst (goInt xs.length)) w') :
    wpList Tryd.prog ops Q (o :: rest) a w := by
  obtain ⟨ao, cap, rfl, hcap, hc⟩ := hx.form
  refine wpList_copy_splice hgd d s 29 29 ho 5 Tryd.underlying29 (by kernel_rfl) dp ao dLen dCap xs.length cap hd hs g off cur t hg (xs.map bv) ?_ ?_ (by simpa using hfit) (bv_cell _) B w0 hb hBg ?_
  · rw [List.length_map]
    exact (Nat.min_eq_left hle).symm
  · rw [List.length_map]
    intro h0
    obtain ⟨b, o', e, _, hc⟩ := hc h0
    refine ⟨hp h0, _, e, fun j u hj => ?_⟩
    have hjm : j < xs.length := by simpa using (List.getElem?_eq_some_iff.1 hj).1
    rw [Addr.add_lit, hc j hjm, ← hj, List.getElem?_map, List.getElem?_eq_getElem hjm, List.getD_eq_getElem?_getD, List.getElem?_eq_getElem hjm]
    rfl
  · rw [List.length_map]
    exact h

theorem xor_bv (a b : UInt8) : bits .xor .u8 (a.toNat : Int) (b.toNat : Int) = ((a ^^^ b).toNat : Int) := by
  rw [u8_xor_nat _ _ (UInt8.toNat_lt _) (UInt8.toNat_lt _), UInt8.toNat_xor]
end Go.Proofs.YtjogdflhpciciaaDoor
