/- What a server can, in memory: a slice of structs of a name and a slice of words. -/
import Derived.Test.YtomeoploojjacaaDoorCapsP
import Derived.Test.YtomeoploojjacaaDoorApart
import Derived.Test.YtomeoploojjacaaDoorOpenRows
import Derived.Test.YtomeoploojjacaaDoorStrs
import Derived.Deep.AppendLies
namespace Go.Proofs.YtomeoploojjacaaDoor
open Go.RowKit

/-- A cap beside the slice of its words. -/
abbrev CapA := Cp.Cap × Value
def capCells (c : CapA) : List Value := [sv c.1.name, c.2]
def capRow (cs : List CapA) : List Value := cs.flatMap capCells
theorem capRow_len : ∀ cs : List CapA, (capRow cs).length = cs.length * 2
  | [] => rfl
  | c :: cs => by
    show (capCells c ++ capRow cs).length = _
    rw [List.length_append, capRow_len cs, List.length_cons]
    show 2 + _ = _
    omega
theorem capRow_snoc (cs : List CapA) (c : CapA) : capRow (cs ++ [c]) = capRow cs ++ [sv c.1.name, c.2] := by simp [capRow, capCells]
theorem capRow_at : ∀ (cs : List CapA) (j : Nat) (c : CapA), cs[j]? = some c → (capRow cs)[j * 2]? = some (sv c.1.name) ∧ (capRow cs)[j * 2 + 1]? = some c.2
  | [], j, c, h => by simp at h
  | d :: cs, 0, c, h => by
    simp at h
    subst h
    exact ⟨rfl, rfl⟩
  | d :: cs, j + 1, c, h => by
    have h2 := capRow_at cs j c (by simpa using h)
    have e : capRow (d :: cs) = sv d.1.name :: d.2 :: capRow cs := rfl
    rw [e, show (j + 1) * 2 = j * 2 + 1 + 1 from by omega]
    exact h2

/-- A slice that reads so. -/
def CL (w : World) (v : Value) (cs : List Cp.Cap) : Prop :=
  ∃ cs2 : List CapA, cs2.map (·.1) = cs ∧ RdN 2 w v (cs2.map capCells) ∧ ∀ c ∈ cs2, Rd w c.2 (c.1.args.map sv)
theorem CL.below {w w' : World} {v : Value} {cs : List Cp.Cap} (h : CL w v cs) (hb : Below w.heap.size w w') : CL w' v cs := by
  obtain ⟨cs2, h1, h2, h3⟩ := h
  exact ⟨cs2, h1, h2.below hb, fun c hc => (h3 c hc).below hb⟩
theorem CL.nil (w : World) (ao : Option Addr) (cap : Nat) : CL w (.slice ao 0 cap) [] := ⟨[], rfl, .inl ⟨rfl, _, _, rfl⟩, fun c hc => by cases hc⟩
/-- Its form: what stands at each place. -/
theorem CL.form {w : World} {v : Value} {cs : List Cp.Cap} (h : CL w v cs) : ∃ ao cap, v = .slice ao cs.length cap ∧ cs.length ≤ cap ∧ (0 < cs.length → ∃ b o, ao = some ⟨b, o, none⟩ ∧ cap ≤ maxLen ∧
    ∀ j c, cs[j]? = some c → w.cell? ⟨b, o + j * 2, none⟩ = some (sv c.name) ∧ ∃ a, w.cell? ⟨b, o + (j * 2 + 1), none⟩ = some a ∧ Rd w a (c.args.map sv)) := by
  obtain ⟨cs2, rfl, h2, h3⟩ := h
  obtain ⟨ao, cap, h4, h5, h6⟩ := h2.form
  rw [List.length_map] at h4 h5 h6
  rw [List.length_map]
  refine ⟨ao, cap, h4, h5, fun h0 => ?_⟩
  obtain ⟨b, o, h7, h8, h9⟩ := h6 h0
  refine ⟨b, o, h7, h8, fun j c hj => ?_⟩
  rw [List.getElem?_map] at hj
  cases hc : cs2[j]? with
  | none => rw [hc] at hj; cases hj
  | some c2 =>
    rw [hc] at hj
    obtain rfl : c2.1 = c := by simpa using hj
    have hr : (cs2.map capCells)[j]? = some (capCells c2) := by rw [List.getElem?_map, hc]; rfl
    exact ⟨by simpa using h9 j _ hr 0 _ rfl, c2.2, h9 j _ hr 1 _ rfl, h3 c2 (List.mem_of_getElem? hc)⟩

/-- A row of the call's own that grows, cap by cap. -/
structure OC (w : World) (B : Nat) (v : Value) (cs2 : List CapA) : Prop where
  own : w.ownsRow B 35 2 v cs2.length (capRow cs2)
  rd : ∀ c ∈ cs2, Rd w c.2 (c.1.args.map sv)
  ap : ∀ c ∈ cs2, ∀ k, c.2.ownBlock = some k → v.ownBlock ≠ some k ∧ k < w.heap.size
theorem OC.below {w w' : World} {B : Nat} {v : Value} {cs2 : List CapA} (h : OC w B v cs2) (hb : Below w.heap.size w w') : OC w' B v cs2 :=
  ⟨h.own.kept (row := Option.none) ⟨hb.os, hb.tape, hb.output, hb.size, fun k hk _ => hb.block k hk⟩ (by
    cases hv : v.ownBlock
    · exact .inl rfl
    · exact .inr (by simp)), fun c hc => (h.rd c hc).below hb, fun c hc k hk => ⟨(h.ap c hc k hk).1, Nat.lt_of_lt_of_le (h.ap c hc k hk).2 hb.size⟩⟩
theorem OC.lt {w : World} {B : Nat} {v : Value} {cs2 : List CapA} (h : OC w B v cs2) : ∀ k, v.ownBlock = some k → B ≤ k ∧ k < w.heap.size := h.own.lt
theorem OC.cl {w : World} {B : Nat} {v : Value} {cs2 : List CapA} (h : OC w B v cs2) : CL w v (cs2.map (·.1)) := by
  refine ⟨cs2, rfl, ?_, h.rd⟩
  have ho := h.own
  have hc := fun g hg => h.own.cells (g := g) hg
  rcases ho.2 with ⟨rfl, hn⟩ | ⟨g, cap, cur, rfl, _, _, h2, h3, _⟩
  · obtain rfl : cs2 = [] := List.length_eq_zero_iff.1 hn
    exact .inl ⟨rfl, _, _, rfl⟩
  · refine .inr ⟨g, 0, cap, by rw [List.length_map], by rw [List.length_map]; exact h2, h3, fun j us hj i u hi => ?_⟩
    rw [List.getElem?_map] at hj
    cases hcj : cs2[j]? with
    | none => rw [hcj] at hj; cases hj
    | some c =>
      rw [hcj] at hj
      obtain rfl : capCells c = us := by simpa using hj
      obtain ⟨g1, g2⟩ := capRow_at cs2 j c hcj
      match i, hi with
      | 0, hi =>
        have hu : sv c.1.name = u := by simpa [capCells] using hi
        subst hu
        have := hc g rfl _ _ g1
        rwa [Addr.add_lit] at this
      | 1, hi =>
        have hu : c.2 = u := by simpa [capCells] using hi
        subst hu
        have := hc g rfl _ _ g2
        rwa [Addr.add_lit] at this
      | i + 2, hi => simp [capCells] at hi
theorem OC.nil (w : World) (B : Nat) : OC w B (.slice none 0 0) [] := ⟨World.ownsRow_nil _ _ _ _, fun c hc => by simp at hc, fun c hc => by simp at hc⟩

theorem info_cap : (Tryd.prog.info? 35).map (fun i => (i.zero, i.size, i.bytes)) = some (some (.agg #[.string ByteArray.empty, .slice none 0 0]), 2, 40) := by kernel_rfl

/-- 'append(l, c)': c lies in a block of its own, in the world at hand. -/
theorem wp_append_cap {o : Oper} {a : Act} {K : Act → World → Prop} {Q : Exit → Act → World → Prop} {w : World} {B b : Nat} {v : Value} {cs2 : List CapA} (c : CapA)
    (s x : Operand) (ho : o.op = .call { callee := .builtin .append, args := #[s, x], argTypes := #[29, 29] })
    (hs : a.eval s = v) (h : OC w B v cs2) (hx : a.eval x = .slice (some ⟨b, 0, none⟩) 1 1) (hb : w.heap[b]? = some (.cells #[sv c.1.name, c.2] 35 (0, 0)))
    (hr : Rd w c.2 (c.1.args.map sv)) (hc : c.2.oneCell' = true) (hk : ∀ k, c.2.ownBlock = some k → v.ownBlock ≠ some k ∧ k < w.heap.size) (hn : cs2.length ≤ 1048576) (hB : B ≤ w.heap.size)
    (h' : ∀ g cap w', OC w' B (.slice (some ⟨g, 0, none⟩) (cs2.length + 1) cap) (cs2 ++ [c]) → w.grownBy w' v.ownBlock → K (a.put o.dst (.slice (some ⟨g, 0, none⟩) (cs2.length + 1) cap)) w') : o.wp Tryd.prog a w K Q := by
  obtain ⟨i0, hi, hz0, hz1, hz2⟩ := info_parts info_cap
  refine wp_append_lies w s x 29 ho B 35 i0 (.agg #[.string ByteArray.empty, .slice none 0 0]) 2 40 Tryd.underlying29 hi hz0 hz1 hz2 rfl (by decide) v cs2.length (capRow cs2) hs h.own ⟨b, 0, none⟩ 1 1 [sv c.1.name, c.2] hx rfl ?_ ?_ (by decide) (by unfold maxLen; omega) (by omega) hB _ rfl (fun g cap w' h2 h3 h4 _ => h' g cap w' ?_ h3)
  · exact World.news_of_block hb
  · intro u hu
    simp at hu
    rcases hu with rfl | rfl
    · rfl
    · exact hc
  · have far : ∀ d : CapA, Rd w d.2 (d.1.args.map sv) → (∀ k, d.2.ownBlock = some k → v.ownBlock ≠ some k ∧ k < w.heap.size) → Rd w' d.2 (d.1.args.map sv) ∧ ∀ k, d.2.ownBlock = some k → (Value.slice (some ⟨g, 0, none⟩) (cs2.length + 1) cap).ownBlock ≠ some k ∧ k < w'.heap.size := by
      intro d hd hp
      refine ⟨?_, fun k hk => ⟨fun e => ?_, Nat.lt_of_lt_of_le (hp k hk).2 h3.size⟩⟩
      · rcases hd with hd | ⟨bb, oo, cp, e, g1, g2, g3⟩
        · exact .inl hd
        · refine .inr ⟨bb, oo, cp, e, g1, g2, fun j u hj => ?_⟩
          have h5 := g3 j u hj
          have h6 := hp bb (by rw [e]; rfl)
          exact (World.cell?_of_block (h3.block bb h6.2 (fun e => h6.1 e.symm))).trans h5
      · have e : g = k := by simpa [Value.ownBlock] using e
        subst e
        rcases h4 with h4 | h4
        · exact (hp g hk).1 h4
        · have := (hp g hk).2
          omega
    refine ⟨?_, fun d hd => ?_, fun d hd => ?_⟩
    · rw [List.length_append, capRow_snoc]
      exact h2
    · rcases List.mem_append.1 hd with hd | hd
      · exact (far d (h.rd d hd) (h.ap d hd)).1
      · rw [List.mem_singleton.1 hd]
        exact (far c hr hk).1
    · rcases List.mem_append.1 hd with hd | hd
      · exact (far d (h.rd d hd) (h.ap d hd)).2
      · rw [List.mem_singleton.1 hd]
        exact (far c hr hk).2
end Go.Proofs.YtomeoploojjacaaDoor
