/- Slices of whatever cells among the arguments, opened: slices of slices of bytes, of whole numbers, of texts, of structs: of no type of the program. -/
import Derived.Test.YtooijkndndoolaaFrame
namespace Go.Proofs.Ytooijkndndoolaa
open Go.RowKit Go.ChangeShapes Go.WideShapes Go.ChangeAt

/-- A slice whose elements are of c cells each, that reads as 'vss'. -/
def RdN (c : Nat) (w : World) (v : Value) (vss : List (List Value)) : Prop :=
  (vss = [] ∧ ∃ ao cap, v = .slice ao 0 cap) ∨ ∃ b o cap, v = .slice (some ⟨b, o, none⟩) vss.length cap ∧ vss.length ≤ cap ∧ cap ≤ maxLen ∧ ∀ j us, vss[j]? = some us → ∀ i u, us[i]? = some u → w.cell? ⟨b, o + (j * c + i), none⟩ = some u

theorem RdN.below {c : Nat} {w w' : World} {v : Value} {vss : List (List Value)} (h : RdN c w v vss) (hb : Below w.heap.size w w') : RdN c w' v vss := by
  rcases h with h | ⟨b, o, cap, h1, h2, h3, h4⟩
  · exact .inl h
  · refine .inr ⟨b, o, cap, h1, h2, h3, fun j us hj i u hi => ?_⟩
    have hc := h4 j us hj i u hi
    exact (hb.cell (World.block_lt_of_cell? w _ hc)).trans hc

/-- Its form. -/
theorem RdN.form {c : Nat} {w : World} {v : Value} {vss : List (List Value)} (h : RdN c w v vss) : ∃ ao cap, v = .slice ao vss.length cap ∧ vss.length ≤ cap ∧
    (0 < vss.length → ∃ b o, ao = some ⟨b, o, none⟩ ∧ cap ≤ maxLen ∧ ∀ j us, vss[j]? = some us → ∀ i u, us[i]? = some u → w.cell? ⟨b, o + (j * c + i), none⟩ = some u) := by
  rcases h with ⟨rfl, ao, cap, h⟩ | ⟨b, o, cap, h, h1, h2, h3⟩
  · exact ⟨ao, cap, h, Nat.zero_le _, fun h => by cases h⟩
  · exact ⟨some ⟨b, o, none⟩, cap, h, h1, fun _ => ⟨b, o, rfl, h2, h3⟩⟩

section
variable {P : Program} {H : Type} {enc : TypeId × Value → H} {w : World} {held : Bool} {t e f : TypeId} {k : IntKind} {v : Value} {x : DataW H × List MemPlace} {fuel b0 : Nat}

theorem open_rows {c : Nat} (ht : P.underlying t = some (.slice e)) (hc : P.cellsOf e = c) (hc0 : 0 < c) (h : DataW.trod enc P w 0 (fun _ => true) held fuel t [v] = some x) :
    ∃ css : List (List Value), RdN c w v css ∧ css.length ≤ maxLen ∧ ∀ cs ∈ css, cs.length = c ∧ ∃ n y, DataW.trod enc P w 0 (fun _ => true) held n e cs = some y := by
  rcases DataW.trod_slice ht h with ⟨h0, _⟩ | ⟨a, len, cap, elems, rest, n, _, h0, _, _, hl, hm, hlen, hel, _, _⟩
  · simp only [List.cons.injEq, and_true] at h0
    exact ⟨[], .inl ⟨rfl, none, 0, h0⟩, Nat.zero_le _, fun cs hcs => by cases hcs⟩
  · simp only [List.cons.injEq, and_true] at h0
    subst h0
    rw [hc] at hel
    have each : ∀ i, i < len → ∃ cs y, w.cells? 0 (a.add (i * c)) c = some cs ∧ DataW.trod enc P w 0 (fun _ => true) held n e cs = some y := by
      intro i hi
      have := hel i hi
      rw [List.getElem?_eq_getElem (by omega), Option.bind_eq_some_iff] at this
      obtain ⟨cs, h1, h2⟩ := this
      exact ⟨cs, _, h1, h2⟩
    have all : ∀ m, m ≤ len → ∃ css : List (List Value), css.length = m ∧ ∀ i cs, css[i]? = some cs → w.cells? 0 (a.add (i * c)) c = some cs ∧ ∃ y, DataW.trod enc P w 0 (fun _ => true) held n e cs = some y := by
      intro m
      induction m with
      | zero => exact fun _ => ⟨[], rfl, fun i cs h => by simp at h⟩
      | succ m ih =>
        intro hm'
        obtain ⟨css, h1, h2⟩ := ih (by omega)
        obtain ⟨cs, y, h3, h4⟩ := each m (by omega)
        refine ⟨css ++ [cs], by simp [h1], fun i cs' hi => ?_⟩
        rcases Nat.lt_or_ge i m with hlt | hge
        · rw [List.getElem?_append_left (by omega)] at hi
          exact h2 i cs' hi
        · rw [List.getElem?_append_right (by omega), h1] at hi
          have hi0 : i - m = 0 := by
            have := (List.getElem?_eq_some_iff.1 hi).1
            simp at this
            omega
          rw [hi0] at hi
          simp only [List.getElem?_cons_zero, Option.some.injEq] at hi
          obtain rfl : i = m := by omega
          subst hi
          exact ⟨h3, y, h4⟩
    obtain ⟨css, h1, h2⟩ := all len (Nat.le_refl _)
    refine ⟨css, ?_, by omega, fun cs hcs => ?_⟩
    · by_cases h0 : len = 0
      · have : css = [] := List.eq_nil_of_length_eq_zero (by omega)
        subst this
        exact .inl ⟨rfl, some a, cap, by rw [h0]⟩
      · obtain ⟨ab, ao, spot⟩ := a
        have hspot : spot = none := by
          obtain ⟨cs, y, h3, _⟩ := each 0 (by omega)
          have h5 := World.cells?_some h3
          have h6 := h5.2.2 0 hc0
          rw [List.getElem?_eq_getElem (by omega)] at h6
          simpa [Addr.add] using World.cell?_spot h6
        subst hspot
        refine .inr ⟨ab, ao, cap, by rw [h1], by omega, hm, fun j us hj i u hi => ?_⟩
        have h5 := World.cells?_some (h2 j us hj).1
        have hic : i < c := by
          have := (List.getElem?_eq_some_iff.1 hi).1
          omega
        have h6 := h5.2.2 i hic
        rw [Addr.add_lit, Addr.add_lit, hi, Nat.add_assoc] at h6
        exact h6
    · obtain ⟨i, hi⟩ := List.getElem?_of_mem hcs
      obtain ⟨h3, y, h4⟩ := h2 i cs hi
      exact ⟨(World.cells?_some h3).2.1, n, y, h4⟩

/-- A slice of bytes, where the cell is known. -/
theorem open_u8s_at (ht : P.underlying t = some (.slice e)) (he : P.underlying e = some (.int .u8)) (hCe : P.cellsOf e = 1) (h : DataW.trod enc P w 0 (fun _ => true) held fuel t [v] = some x) :
    ∃ xs : List UInt8, Rd w v (xs.map bv) ∧ xs.length ≤ maxLen := by
  rcases open_ints ht he hCe h with ⟨hcs, hx⟩ | ⟨a, len', cap', zs, hcs, _, hl, hm, hz, hx, hcell, hwz⟩
  · simp only [List.cons.injEq, and_true] at hcs
    exact ⟨[], .inl ⟨rfl, none, 0, fun _ => rfl, hcs⟩, Nat.zero_le _⟩
  · obtain ⟨css, h1, h2, h3⟩ := open_rows ht hCe (by decide) h
    have hb : ∀ cs ∈ css, ∃ b : UInt8, cs = [bv b] := fun cs hcs => by
      obtain ⟨_, n, y, hy⟩ := h3 cs hcs
      obtain ⟨m, rfl, _, hw⟩ := DataW.trod_int he hy
      have := bounds_u8 hw
      refine ⟨UInt8.ofNat m.toNat, ?_⟩
      rw [bv, UInt8.toNat_ofNat']
      congr 2
      omega
    have hall : ∃ xs : List UInt8, css = xs.map fun b => [bv b] := by
      clear h1 h2 h3
      induction css with
      | nil => exact ⟨[], rfl⟩
      | cons cs css ih =>
        obtain ⟨xs, hxs⟩ := ih (fun c hc => hb c (List.mem_cons_of_mem _ hc))
        obtain ⟨b, hb⟩ := hb cs (List.mem_cons_self ..)
        exact ⟨b :: xs, by rw [hb, hxs]; rfl⟩
    obtain ⟨xs, rfl⟩ := hall
    rw [List.length_map] at h2
    refine ⟨xs, ?_, h2⟩
    rcases h1 with ⟨h0, ao, cap, hv⟩ | ⟨b, o, cap, hv, g1, g2, g3⟩
    · have h0 : xs = [] := by simpa using h0
      subst h0
      simp only [List.cons.injEq, and_true] at hcs
      subst hcs
      simp only [Value.slice.injEq] at hv
      obtain ⟨rfl, rfl, rfl⟩ := hv
      exact .inl ⟨rfl, _, _, (fun h => by cases h), rfl⟩
    · rw [List.length_map] at hv g1
      refine .inr ⟨b, o, cap, by rw [List.length_map]; exact hv, by rw [List.length_map]; exact g1, g2, fun j u hj => ?_⟩
      have := g3 j [u] (by rw [List.getElem?_map] at hj ⊢; revert hj; cases xs[j]? with | none => intro hj; cases hj | some z => intro hj; simpa using hj) 0 u rfl
      simpa using this

/-- Slices of bytes, in a slice. -/
theorem open_u8ss {d : DataW H} {p : List MemPlace} (hv : Value.okWide P w .any b0 t v) (ht : P.underlying t = some (.slice e)) (he : P.underlying e = some (.slice f)) (hf : P.underlying f = some (.int .u8)) (hCe : P.cellsOf e = 1) (hCf : P.cellsOf f = 1)
    (h : DataW.Trod enc P w 0 (fun _ => true) held t v d p) :
    ∃ ys : List (Value × List UInt8), RdN 1 w v (ys.map fun y => [y.1]) ∧ ys.length ≤ maxLen ∧ ∀ y ∈ ys, Rd w y.1 (y.2.map bv) ∧ y.2.length ≤ maxLen := by
  obtain ⟨a1, len, cap, rfl⟩ := okWide_slice ht hv
  obtain ⟨fuel, hfu⟩ := h
  obtain ⟨css, h1, h2, h3⟩ := open_rows ht hCe (by decide) (by simpa [Value.cells] using hfu)
  have hall : ∃ ys : List (Value × List UInt8), css = (ys.map fun y => [y.1]) ∧ ∀ y ∈ ys, Rd w y.1 (y.2.map bv) ∧ y.2.length ≤ maxLen := by
    clear h1 h2
    induction css with
    | nil => exact ⟨[], rfl, fun y hy => by cases hy⟩
    | cons cs css ih =>
      obtain ⟨ys, h4, h5⟩ := ih (fun c hc => h3 c (List.mem_cons_of_mem _ hc))
      obtain ⟨hl, n, y, hy⟩ := h3 cs (List.mem_cons_self ..)
      match cs, hl with
      | [c0], _ =>
        obtain ⟨xs, h6, h7⟩ := open_u8s_at he hf hCf hy
        refine ⟨(c0, xs) :: ys, by rw [h4]; rfl, fun y hy => ?_⟩
        rcases List.mem_cons.1 hy with rfl | hy
        · exact ⟨h6, h7⟩
        · exact h5 y hy
  obtain ⟨ys, rfl, h4⟩ := hall
  rw [List.length_map] at h2
  exact ⟨ys, h1, h2, h4⟩

/-- Whole numbers, in a slice. -/
theorem open_nums {d : DataW H} {p : List MemPlace} (hv : Value.okWide P w .any b0 t v) (ht : P.underlying t = some (.slice e)) (he : P.underlying e = some (.int k)) (hCe : P.cellsOf e = 1)
    (h : DataW.Trod enc P w 0 (fun _ => true) held t v d p) :
    ∃ ys : List Int, RdN 1 w v (ys.map fun y => [.int k y]) ∧ ys.length ≤ maxLen ∧ ∀ y ∈ ys, (Lit.int k y).wf = true := by
  obtain ⟨a1, len, cap, rfl⟩ := okWide_slice ht hv
  obtain ⟨fuel, hfu⟩ := h
  obtain ⟨css, h1, h2, h3⟩ := open_rows ht hCe (by decide) (by simpa [Value.cells] using hfu)
  have hall : ∃ ys : List Int, css = (ys.map fun y => [.int k y]) ∧ ∀ y ∈ ys, (Lit.int k y).wf = true := by
    clear h1 h2
    induction css with
    | nil => exact ⟨[], rfl, fun y hy => by cases hy⟩
    | cons cs css ih =>
      obtain ⟨ys, h4, h5⟩ := ih (fun c hc => h3 c (List.mem_cons_of_mem _ hc))
      obtain ⟨_, n, y, hy⟩ := h3 cs (List.mem_cons_self ..)
      obtain ⟨m, rfl, _, hw⟩ := DataW.trod_int he hy
      refine ⟨m :: ys, by rw [h4]; rfl, fun y hy => ?_⟩
      rcases List.mem_cons.1 hy with rfl | hy
      · exact hw
      · exact h5 y hy
  obtain ⟨ys, rfl, h4⟩ := hall
  rw [List.length_map] at h2
  exact ⟨ys, h1, h2, h4⟩

/-- Texts, in a slice. -/
theorem open_texts {d : DataW H} {p : List MemPlace} (hv : Value.okWide P w .any b0 t v) (ht : P.underlying t = some (.slice e)) (he : P.underlying e = some .string) (hCe : P.cellsOf e = 1)
    (h : DataW.Trod enc P w 0 (fun _ => true) held t v d p) :
    ∃ ys : List ByteArray, RdN 1 w v (ys.map fun y => [.string y]) ∧ ys.length ≤ maxLen ∧ ∀ y ∈ ys, y.size ≤ maxLen := by
  obtain ⟨a1, len, cap, rfl⟩ := okWide_slice ht hv
  obtain ⟨fuel, hfu⟩ := h
  obtain ⟨css, h1, h2, h3⟩ := open_rows ht hCe (by decide) (by simpa [Value.cells] using hfu)
  have hall : ∃ ys : List ByteArray, css = (ys.map fun y => [.string y]) ∧ ∀ y ∈ ys, y.size ≤ maxLen := by
    clear h1 h2
    induction css with
    | nil => exact ⟨[], rfl, fun y hy => by cases hy⟩
    | cons cs css ih =>
      obtain ⟨ys, h4, h5⟩ := ih (fun c hc => h3 c (List.mem_cons_of_mem _ hc))
      obtain ⟨_, n, y, hy⟩ := h3 cs (List.mem_cons_self ..)
      obtain ⟨m, rfl, _, hw⟩ := DataW.trod_string he hy
      refine ⟨m :: ys, by rw [h4]; rfl, fun y hy => ?_⟩
      rcases List.mem_cons.1 hy with rfl | hy
      · exact hw
      · exact h5 y hy
  obtain ⟨ys, rfl, h4⟩ := hall
  rw [List.length_map] at h2
  exact ⟨ys, h1, h2, h4⟩

/-- A struct of a small kind, a number and bytes, as it came in. -/
structure OpV where
  kind : Int
  n : Int
  b : Value
  xs : List UInt8
def OpV.cells (o : OpV) : List Value := [.int .u8 o.kind, .int .i64 o.n, o.b]
structure OpV.Ok (w : World) (o : OpV) : Prop where
  kind : (Lit.int .u8 o.kind).wf = true
  n : (Lit.int .i64 o.n).wf = true
  rd : Rd w o.b (o.xs.map bv)
  len : o.xs.length ≤ maxLen
theorem OpV.Ok.below {w w' : World} {o : OpV} (h : o.Ok w) (hb : Below w.heap.size w w') : o.Ok w' := ⟨h.kind, h.n, h.rd.below hb, h.len⟩

/-- Such structs, in a slice. -/
theorem open_ops {d : DataW H} {p : List MemPlace} {fs : Array Field} {f0 f1 f2 : Field} (hv : Value.okWide P w .any b0 t v) (ht : P.underlying t = some (.slice e)) (he : P.underlying e = some (.struct fs)) (hCe : P.cellsOf e = 3)
    (hfs : fs = #[f0, f1, f2]) (o0 : f0.offset = 0) (o1 : f1.offset = 1) (o2 : f2.offset = 2)
    (u0 : P.underlying f0.type = some (.int .u8)) (u1 : P.underlying f1.type = some (.int .i64)) (u2 : P.underlying f2.type = some (.slice f)) (uf : P.underlying f = some (.int .u8))
    (c0 : P.cellsOf f0.type = 1) (c1 : P.cellsOf f1.type = 1) (c2 : P.cellsOf f2.type = 1) (cf : P.cellsOf f = 1)
    (h : DataW.Trod enc P w 0 (fun _ => true) held t v d p) :
    ∃ os : List OpV, RdN 3 w v (os.map OpV.cells) ∧ os.length ≤ maxLen ∧ ∀ o ∈ os, o.Ok w := by
  obtain ⟨a1, len, cap, rfl⟩ := okWide_slice ht hv
  obtain ⟨fuel, hfu⟩ := h
  obtain ⟨css, h1, h2, h3⟩ := open_rows ht hCe (by decide) (by simpa [Value.cells] using hfu)
  subst hfs
  have hall : ∃ os : List OpV, css = os.map OpV.cells ∧ ∀ o ∈ os, o.Ok w := by
    clear h1 h2
    induction css with
    | nil => exact ⟨[], rfl, fun o ho => by cases ho⟩
    | cons cs css ih =>
      obtain ⟨os, h4, h5⟩ := ih (fun c hc => h3 c (List.mem_cons_of_mem _ hc))
      obtain ⟨hl, n, y, hy⟩ := h3 cs (List.mem_cons_self ..)
      match cs, hl with
      | [x0, x1, x2], _ =>
        obtain ⟨xs, m, _, _, _, hxl, hi⟩ := DataW.trod_struct he hy
        match xs, hxl with
        | [y0, y1, y2], _ =>
          have g0 := hi 0 f0 rfl
          have g1 := hi 1 f1 rfl
          have g2 := hi 2 f2 rfl
          rw [o0, c0] at g0
          rw [o1, c1] at g1
          rw [o2, c2] at g2
          simp at g0 g1 g2
          obtain ⟨n0, e0, _, w0⟩ := DataW.trod_int u0 g0
          obtain ⟨n1, e1, _, w1⟩ := DataW.trod_int u1 g1
          obtain ⟨zs, r2, l2⟩ := open_u8s_at u2 uf cf g2
          simp at e0 e1
          subst e0 e1
          refine ⟨⟨n0, n1, x2, zs⟩ :: os, by rw [h4]; rfl, fun o ho => ?_⟩
          rcases List.mem_cons.1 ho with rfl | ho
          · exact ⟨w0, w1, r2, l2⟩
          · exact h5 o ho
  obtain ⟨os, rfl, h4⟩ := hall
  rw [List.length_map] at h2
  exact ⟨os, h1, h2, h4⟩
end
end Go.Proofs.Ytooijkndndoolaa
