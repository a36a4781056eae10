/- The tables, out of what the rows say of them. -/
import Derived.Test.YtjogdflhpciciaaDoorDigestMix
import Derived.Lib.LaidTab
import Derived.Stop.LaidErr
import Derived.OpenShut
namespace Go.Proofs.YtjogdflhpciciaaDoor
open Go.RowKit Go.ChangeShapes Go.WideShapes

theorem gSines : Tryd.prog.globalNamed "rejoinder/digest.sines" = some 1 := by kernel_rfl
theorem gTurns : Tryd.prog.globalNamed "rejoinder/digest.turns" = some 2 := by kernel_rfl
theorem gSinesType : (Tryd.prog.globals[1]?).map (·.type) = some 70 := by kernel_rfl
theorem gTurnsType : (Tryd.prog.globals[2]?).map (·.type) = some 72 := by kernel_rfl
theorem c64 : Tryd.prog.cellsOf 70 = 64 := by kernel_rfl
theorem c1u : Tryd.prog.cellsOf 48 = 1 := by kernel_rfl
theorem c16 : Tryd.prog.cellsOf 72 = 16 := by kernel_rfl
theorem c4 : Tryd.prog.cellsOf 71 = 4 := by kernel_rfl
theorem c1i : Tryd.prog.cellsOf 3 = 1 := by kernel_rfl

/-- Cells that read as a table of four rows of four. -/
theorem cells_of_tab4 {H : Type} {enc : TypeId × Value → H} {P : Program} {w : World} {base : Nat} {sp : Nat → Bool} {held : Bool} {fuel : Nat} {t e i : TypeId} {k : IntKind} {cs : List Value} {z0 z1 z2 z3 : List Int} {p : List MemPlace}
    (ht : P.underlying t = some (.array 4 e)) (he : P.underlying e = some (.array 4 i)) (hi : P.underlying i = some (.int k)) (hci : P.cellsOf i = 1) (hce : P.cellsOf e = 4) (hct : P.cellsOf t = 16)
    (h : DataW.trod enc P w base sp held fuel t cs = some (.agg [Lib.tabData k z0, Lib.tabData k z1, Lib.tabData k z2, Lib.tabData k z3], p)) :
    cs = (z0 ++ z1 ++ z2 ++ z3).map fun z => Value.int k z := by
  obtain ⟨xs, m, _, hx, hl, hn, hr⟩ := DataW.trod_array ht h
  match xs, hn with
  | [y0, y1, y2, y3], _ =>
    simp only [List.map_cons, List.map_nil, Prod.mk.injEq, DataW.agg.injEq, List.cons.injEq, and_true] at hx
    obtain ⟨⟨e0, e1, e2, e3⟩, _⟩ := hx
    have h0 := hr 0 (by decide)
    have h1 := hr 1 (by decide)
    have h2 := hr 2 (by decide)
    have h3 := hr 3 (by decide)
    rw [hce] at h0 h1 h2 h3
    obtain ⟨d0, p0⟩ := y0
    obtain ⟨d1, p1⟩ := y1
    obtain ⟨d2, p2⟩ := y2
    obtain ⟨d3, p3⟩ := y3
    subst e0 e1 e2 e3
    have g0 := Lib.cells_of_tab he hi hci hce h0
    have g1 := Lib.cells_of_tab he hi hci hce h1
    have g2 := Lib.cells_of_tab he hi hci hce h2
    have g3 := Lib.cells_of_tab he hi hci hce h3
    rw [hct] at hl
    have s0 : cs = (cs.drop (0 * 4)).take 4 ++ ((cs.drop (1 * 4)).take 4 ++ ((cs.drop (2 * 4)).take 4 ++ (cs.drop (3 * 4)).take 4)) := by
      match cs, hl with
      | [_, _, _, _, _, _, _, _, _, _, _, _, _, _, _, _], _ => rfl
    rw [s0, g0, g1, g2, g3]
    simp only [List.map_append, List.append_assoc]

theorem tbl_of_laid {W : World} {rest : List (String × DataW Unit)} (h : laidMet Tryd.prog (("rejoinder/digest.sines", Rows.laid_rejoinder_digest_sines) :: ("rejoinder/digest.turns", Rows.laid_rejoinder_digest_turns) :: rest) W) : TBL W := by
  have h1 : Lib.TabIs Tryd.prog W "rejoinder/digest.sines" .u32 (Md5.ks.map fun n : Nat => (n : Int)) :=
    Lib.tabIs_of_head gSines gSinesType Tryd.underlying70 Tryd.underlying48 c1u c64 h
  obtain ⟨ps, ⟨g', t', cs, fuel, p, q, hg', ht', hvar, hd, _, _⟩, _⟩ := laidMet.tail h
  obtain rfl := Option.some.inj (gTurns.symm.trans hg')
  obtain rfl := Option.some.inj (gTurnsType.symm.trans ht')
  have h2 := cells_of_tab4 (z0 := [7, 12, 17, 22]) (z1 := [5, 9, 14, 20]) (z2 := [4, 11, 16, 23]) (z3 := [6, 10, 15, 21]) Tryd.underlying72 Tryd.underlying71 Tryd.underlying3 c1i c4 c16 hd
  refine ⟨fun i hi => ?_, fun i hi => ?_⟩
  · rw [h1.cell gSines i (by rw [List.length_map]; exact hi)]
    congr 2
    rw [List.getD_eq_getElem?_getD, List.getD_eq_getElem?_getD, List.getElem?_map, List.getElem?_eq_getElem (show i < Md5.ks.length from hi)]
    rfl
  · have := World.var?_cell gTurns hvar i
    rw [this]
    have e : cs[i]? = cs.toList[i]? := by simp
    rw [e, h2]
    show ((Md5.ss.map fun n : Nat => (n : Int)).map fun z => Value.int .i64 z)[i]? = _
    rw [List.getElem?_map, List.getElem?_map, List.getD_eq_getElem?_getD, List.getElem?_eq_getElem (show i < Md5.ss.length from hi)]
    rfl
end Go.Proofs.YtjogdflhpciciaaDoor
