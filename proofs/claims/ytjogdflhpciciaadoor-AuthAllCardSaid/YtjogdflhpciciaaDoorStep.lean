/- Steps of a region that draws its order: bytes appended to a row that the call owns; a whole row stored. -/
import Derived.Test.YtjogdflhpciciaaDoorOwnRow
import Derived.Test.YtjogdflhpciciaaDoorArr16
import Derived.Deep.AppendLies
import Derived.Deep.RegionHeld3
import Derived.Lib.LazyBuf
namespace Go.Proofs.YtjogdflhpciciaaDoor
open Go.RowKit

theorem step_append_rd {ops : Array Oper} {o : Oper} {a : Act} {w : World} {K : Act → World → Prop} {Q : Exit → Act → World → Prop} {E : Prop} (hw : Region.wanted o (yielded ops a.tmps) = true) (s x : Operand)
    (ho : o.op = .call { callee := .builtin .append, args := #[s, x], argTypes := #[29, 29] })
    (B n : Nat) (v : Value) (vs : List Value) (hs : a.eval s = v) (hown : w.ownsRow B 5 1 v n vs) (vx : Value) (ys : List UInt8) (hx : a.eval x = vx) (hrd : Rd w vx (ys.map bv)) (hpos : 0 < ys.length)
    (hn : n + ys.length ≤ 16777216) (hB : B ≤ w.heap.size)
    (h : ∀ v' w', w'.ownsRow B 5 1 v' (n + ys.length) (vs ++ ys.map bv) → Below B w w' → K (a.put o.dst v') w') :
    if Region.wanted o (yielded ops a.tmps) = true then Oper.wp Tryd.prog o a w K Q else E := by
  rw [if_pos hw]
  obtain ⟨i0, hi, hz0, hz1, hz2⟩ := info_parts info_u8
  rcases hrd with ⟨e, _⟩ | ⟨b, off, cap, rfl, g1, g2, g3⟩
  · have : ys = [] := by simpa using e
    subst this
    cases hpos
  · rw [List.length_map] at g1 hx
    refine wp_append_lies w s x 29 ho B 5 i0 (.int .u8 0) 1 1 Tryd.underlying29 hi hz0 hz1 hz2 rfl (by decide) v n vs hs hown ⟨b, off, none⟩ ys.length cap (ys.map bv) hx (by simp) (fun j u hj => by rw [Addr.add_lit]; exact g3 j u hj) (bv_cell _) hpos (by unfold maxLen; omega) (by omega) hB _ rfl fun g c w' h2 h3 _ _ => h _ w' h2 ?_
    exact (Below.refl _ _).grown h3 hB (fun k hk => (hown.lt k hk).1)

theorem there_of_row {w : World} {b n : Nat} {C : Array Value} {t : TypeId} (h : w.heap[b]? = some (.cells C t (0, 0))) (hn : n ≤ C.size) : w.there b 0 n := fun j hj => by
  rw [Nat.zero_add, cell_of_row _ _ _ _ _ _ h, frozen_of_row _ _ _ _ _ h]
  exact ⟨by simp; omega, rfl⟩

theorem setCells_all {w : World} {b : Nat} {C : Array Value} {t : TypeId} {vs : List Value} (h : w.heap[b]? = some (.cells C t (0, 0))) (hn : C.size = vs.length) : (w.setCells b 0 vs).heap[b]? = some (.cells vs.toArray t (0, 0)) := by
  have h0 : w.rowIs b t vs.length (fun j => C[j]?.getD default) := ⟨C, h, hn, fun i hi => by simp only [Array.getElem?_eq_getElem (show i < C.size by omega), Option.getD_some]⟩
  obtain ⟨c, hc, hs, hi⟩ := rowIs_setCells vs 0 w _ h0
  rw [hc]
  have : c = vs.toArray := by
    apply Array.ext
    · simp [hs]
    · intro i h1 h2
      have := hi i (by omega)
      simp only at this
      rw [if_pos (by omega), Nat.sub_zero, Array.getElem?_eq_getElem h1, List.getElem?_eq_getElem (by omega)] at this
      simpa using this
  rw [this]
end Go.Proofs.YtjogdflhpciciaaDoor
