/- parse's put, whatever it is put into (layer 15). -/
import Derived.Test.YtiikionoagmabaaDoorParsePut
import Derived.Test.YtiikionoagmabaaDoorPA
namespace Go.Proofs.YtiikionoagmabaaDoor
open Go.RowKit

/-- The open halves, the innermost first. -/
def stk (hs : List HA) : List Ps.Hf := (hs.map HA.hf).reverse
theorem stk_snoc (hs : List HA) (x : HA) : stk (hs ++ [x]) = x.hf :: stk hs := by simp [stk]
theorem stk_len (hs : List HA) : (stk hs).length = hs.length := by simp [stk]
theorem stk_nil : stk [] = [] := rfl
/-- None of the rows is longer than there are statements. -/
structure Lens (hs ps : List HA) (cs : List SA) (top : List Nat) : Prop where
  h : ∀ x ∈ hs ++ ps, x.st.l.length ≤ cs.length ∧ x.st.m.length ≤ cs.length
  t : top.length ≤ cs.length

theorem put_any {B g b q md a f : Nat} {lv ov sv' tv : Value} {ts : List Lx.Tok} {hs : List HA} {cs : List SA} {top : List Nat} (x : HA) (w : World) (h : PX w B g b q lv ov sv' tv md a f ts hs [x] cs top) (hn : hs.length ≤ 1048576) (hc : cs.length ≤ 1048576) (hl : Lens hs [x] cs top) :
    Calls Tryd.prog 42 #[.pointer (some ⟨g, 0, none⟩), .agg (stCells x.sa).toArray] w fun e w' => e = .returned (.tuple #[]) ∧ (∃ sv2 tv2 hs' top', PX w' B g b q lv ov sv2 tv2 md a f ts hs' [] (cs ++ [x.sa]) top' ∧ stk hs' = Ps.bump cs.length (stk hs) ∧ top' = Ps.bumpT cs.length (stk hs) top ∧ hs'.length = hs.length ∧ Lens hs' [] (cs ++ [x.sa]) top') ∧ Below B w w' := by
  have ht := hl.t
  rcases List.eq_nil_or_concat hs with rfl | ⟨hs0, y, rfl⟩
  · refine (put_top x w h hc (by omega)).mono ?_
    rintro e w' ⟨rfl, ⟨sv2, tv2, hp⟩, hb⟩
    refine ⟨rfl, ⟨sv2, tv2, [], _, hp, rfl, rfl, rfl, ⟨fun z hz => by simp at hz, ?_⟩⟩, hb⟩
    rw [List.length_append, List.length_append]
    simp only [List.length_singleton]
    omega
  · rw [List.concat_eq_append] at *
    have hn0 : hs0.length ≤ 1048576 := by rw [List.length_append] at hn; omega
    obtain ⟨y1, y2⟩ := hl.h y (by simp)
    have hold : ∀ z ∈ hs0, z.st.l.length ≤ cs.length + 1 ∧ z.st.m.length ≤ cs.length + 1 := fun z hz => by
      have := hl.h z (by simp [hz])
      omega
    cases hy : y.els with
    | false =>
      refine (put_l y x w h hy hn0 hc (by omega)).mono ?_
      rintro e w' ⟨rfl, ⟨sv2, v2, hp⟩, hb⟩
      refine ⟨rfl, ⟨sv2, tv, _, top, hp, ?_, ?_, by simp, ⟨fun z hz => ?_, by rw [List.length_append]; simp; omega⟩⟩, hb⟩
      · rw [stk_snoc, stk_snoc, Ps.bump]
        congr 1
        unfold Ps.addL HA.hf
        simp [hy]
      · rw [stk_snoc, Ps.bumpT, if_neg (by simp)]
      · rw [List.length_append, List.length_singleton]
        rw [List.append_nil] at hz
        rcases List.mem_append.1 hz with hz | hz
        · exact hold z hz
        · rw [List.mem_singleton.1 hz]
          simp only [List.length_append, List.length_singleton]
          omega
    | true =>
      refine (put_m y x w h hy hn0 hc (by omega)).mono ?_
      rintro e w' ⟨rfl, ⟨sv2, v2, hp⟩, hb⟩
      refine ⟨rfl, ⟨sv2, tv, _, top, hp, ?_, ?_, by simp, ⟨fun z hz => ?_, by rw [List.length_append]; simp; omega⟩⟩, hb⟩
      · rw [stk_snoc, stk_snoc, Ps.bump]
        congr 1
        unfold Ps.addL HA.hf
        simp [hy]
      · rw [stk_snoc, Ps.bumpT, if_neg (by simp)]
      · rw [List.length_append, List.length_singleton]
        rw [List.append_nil] at hz
        rcases List.mem_append.1 hz with hz | hz
        · exact hold z hz
        · rw [List.mem_singleton.1 hz]
          simp only [List.length_append, List.length_singleton]
          omega
end Go.Proofs.YtiikionoagmabaaDoor
