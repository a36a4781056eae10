/- A reply (a struct of a text, a row of texts, a row of bytes) among a law's arguments, opened. (Laid in round 11, ahead of stage 12.) -/
import Derived.Test.YtomeoploojjacaaDoorOpenRows
import Derived.Lib.SmallJoins
import Derived.Carry
import Derived.OpenShut
namespace Go.Proofs.YtomeoploojjacaaDoor
open Go.ChangeShapes Go.WideShapes Go.ChangeAt Go.RowKit Go.Lib
open Go.Joins Go.Deep

theorem open_texts_at {P : Program} {H : Type} {enc : TypeId × Value → H} {w : World} {held : Bool} {t e : TypeId} {v : Value} {x : DataW H × List MemPlace} {fuel : Nat} (ht : P.underlying t = some (.slice e)) (he : P.underlying e = some .string) (hCe : P.cellsOf e = 1)
    (h : DataW.trod enc P w 0 (fun _ => true) held fuel t [v] = some x) :
    ∃ ys : List ByteArray, RdN 1 w v (ys.map fun y => [.string y]) ∧ ys.length ≤ maxLen ∧ ∀ y ∈ ys, y.size ≤ maxLen := by
  obtain ⟨css, h1, h2, h3⟩ := open_rows ht hCe (by decide) h
  have hall : ∃ ys : List ByteArray, css = (ys.map fun y => [.string y]) ∧ ∀ y ∈ ys, y.size ≤ maxLen := by
    clear h1 h2
    induction css with
    | nil => exact ⟨[], rfl, fun y hy => by cases hy⟩
    | cons cs css ih =>
      obtain ⟨ys, h4, h5⟩ := ih (fun c hc => h3 c (List.mem_cons_of_mem _ hc))
      obtain ⟨_, n, y, hy⟩ := h3 cs (List.mem_cons_self ..)
      obtain ⟨m, rfl, _, hw⟩ := DataW.trod_string he hy
      refine ⟨m :: ys, by rw [h4]; rfl, fun y hy => ?_⟩
      rcases List.mem_cons.1 hy with rfl | hy
      · exact hw
      · exact h5 y hy
  obtain ⟨ys, rfl, h4⟩ := hall
  rw [List.length_map] at h2
  exact ⟨ys, h1, h2, h4⟩

theorem open_reply {H : Type} {enc : TypeId × Value → H} {P : Program} {w : World} {b0 : Nat} {held : Bool} {t e1 e2 : TypeId} {f0 f1 f2 : Field} {v : Value} {d : DataW H} {ps : List MemPlace}
    (hs : P.underlying t = some (.struct #[f0, f1, f2])) (hone : oneCellFields P #[f0, f1, f2] = true) (hC : P.cellsOf t = 3) (h0 : P.underlying f0.type = some .string) (h1 : P.underlying f1.type = some (.slice e1)) (h11 : P.underlying e1 = some .string) (hC1 : P.cellsOf e1 = 1)
    (h2 : P.underlying f2.type = some (.slice e2)) (h22 : P.underlying e2 = some (.int .u8)) (hC2 : P.cellsOf e2 = 1)
    (hv : Value.okWide P w .any b0 t v) (h : DataW.Trod enc P w 0 (fun _ => true) held t v d ps) :
    ∃ (s : ByteArray) (lv bo : Value) (ys : List ByteArray) (xs : List UInt8), v = .agg #[.string s, lv, bo] ∧ s.size ≤ maxLen ∧ ys.length ≤ maxLen ∧ xs.length ≤ maxLen ∧ RdN 1 w lv (ys.map fun y => [.string y]) ∧ (∀ y ∈ ys, y.size ≤ maxLen) ∧ Rd w bo (xs.map bv) := by
  obtain ⟨v0, v1, v2, y0, y1, y2, n, rfl, _, _, k0, k1, k2⟩ := open_agg3 hs hone hC hv h
  obtain ⟨s, e0, _, hsz⟩ := DataW.trod_string h0 k0
  simp only [List.cons.injEq, and_true] at e0
  subst e0
  obtain ⟨ys, r1, l1, z1⟩ := open_texts_at h1 h11 hC1 k1
  obtain ⟨xs, r2, l2⟩ := open_u8s_at h2 h22 hC2 k2
  exact ⟨s, v1, v2, ys, xs, rfl, hsz, l1, l2, r1, z1, r2⟩
end Go.Proofs.YtomeoploojjacaaDoor
