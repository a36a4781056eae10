/- Names that are set, and the reference's, side by side (layer 16). -/
import Derived.Test.YtkpahkcamgmlnaaDoorVarsLaw
import Derived.Test.YtkpahkcamgmlnaaDoorRefEx
namespace Go.Proofs.YtkpahkcamgmlnaaDoor
open Go.RowKit

/-- A row of texts, where only such names' blocks turned. -/
theorem VO.rows {w w' : World} {b : Nat} {x : Option Nat} {σ : Va.Env} {u : Value} {ys : List (List UInt8)} (h : VO w b x σ) (ht : Trn (VF b x) w w') (hr : Rd w u (ys.map sv)) : Rd w' u (ys.map sv) := by
  rcases hr with hr | ⟨c, o, cp, g1, g2, g3, g4⟩
  · exact .inl hr
  · refine .inr ⟨c, o, cp, g1, g2, g3, fun j u hj => ?_⟩
    have hcc := g4 j u hj
    obtain ⟨y, _, hy⟩ := List.mem_map.1 (List.mem_of_getElem? hj)
    refine (World.cell?_of_block (ht.block c (World.block_lt_of_cell? w _ hcc) (fun e => ?_))).trans hcc
    rcases e with e | e
    · have hc := h.c
      unfold Box at hc
      rw [show c = b from e, ← hy, World.cell?] at hcc
      simp only [hc] at hcc
      generalize o + j = m at hcc
      rcases m with _ | m <;> simp [sv] at hcc
    · have hm := (h.m c e).2
      rw [World.cell?] at hcc
      simp only [hm] at hcc
      cases hcc

/-- Both, and that they lie apart. -/
structure VP (w wr : World) (b : Nat) (x : Option Nat) (g : Nat) (nv vv : Value) (σ : Va.Env) : Prop where
  v : VN w wr b x σ
  y : RV wr g nv vv σ
  gn : w.heap.size ≤ g
  ap : ¬ VF b x g
section
variable {w wr w' : World} {b g : Nat} {x x' : Option Nat} {nv vv : Value} {σ σ' : Va.Env}
theorem VP.later (h : VP w wr b x g nv vv σ) (hb : Below wr.heap.size wr w') : VP w w' b x g nv vv σ := ⟨h.v.later hb, h.y.below hb, h.gn, h.ap⟩
/-- The reference's, where the other's blocks turned. -/
theorem VP.yPast (h : VP w wr b x g nv vv σ) (ht : Trn (VF b x) wr w') : RV w' g nv vv σ :=
  ⟨(ht.block g h.y.lt h.ap).trans h.y.c, h.v.vo.rows ht h.y.n, h.v.vo.rows ht h.y.v, h.y.nm, h.y.len⟩
theorem VF.apart (hap : ¬ VF b x g) (hg : g < wr.heap.size) (hf : Fx (VF b x) (VF b x') wr.heap.size) : ¬ VF b x' g := fun h => by
  rcases hf g h with h | h
  · exact hap h
  · omega
end

set_option maxHeartbeats 1000000 in
/-- Both are set to the same. -/
theorem VP.set {w wr : World} {b g : Nat} {x : Option Nat} {nv vv : Value} {σ : Va.Env} (h : VP w wr b x g nv vv σ) (n v : List UInt8) (hn : n.length ≤ 16777216) (hv : v.length ≤ 16777216) :
    Calls Tryd.prog 14 #[.pointer (some ⟨b, 0, none⟩), .string ⟨n.toArray⟩, .string ⟨v.toArray⟩] wr fun e w' => e = .returned (.int .i64 ((Va.set σ n v).2 : Int)) ∧
      Calls Tryd.prog 15 #[.pointer (some ⟨g, 0, none⟩), .string ⟨n.toArray⟩, .string ⟨v.toArray⟩] w' fun e w'' => e = .returned (.int .i64 ((Va.set σ n v).2 : Int)) ∧ ∃ x' nv' vv', VP w w'' b x' g nv' vv' (Va.set σ n v).1 := by
  refine (vset_any h.v.vo n v hn hv).mono ?_
  rintro e w' ⟨x', rfl, h1, h2, h3⟩
  refine ⟨rfl, (rset_any (h.yPast h2) n v hn hv).mono ?_⟩
  rintro e w'' ⟨nv', vv', rfl, h4, h5⟩
  have hv1 := h.v.turn h1 h2 h3
  have hap := VF.apart h.ap h.y.lt h3
  refine ⟨rfl, x', nv', vv', ⟨h1.past h5 (fun k hk e => hap (by rw [← (show k = g from e)]; exact hk)), hv1.own, ?_⟩, h4, h.gn, hap⟩
  exact hv1.below.trans (h5.below (fun k hk => by rw [show k = g from hk]; exact h.gn) hv1.below.size)

set_option maxHeartbeats 1000000 in
/-- A clone goes on, and the elder one is set to others. -/
theorem VP.clone {w wr : World} {b g : Nat} {x : Option Nat} {nv vv : Value} {σ : Va.Env} (h : VP w wr b x g nv vv σ) (n1 v1 n2 v2 : List UInt8) (hn1 : n1.length ≤ 16777216) (hv1 : v1.length ≤ 16777216) (hn2 : n2.length ≤ 16777216) (hv2 : v2.length ≤ 16777216) :
    Calls Tryd.prog 20 #[.pointer (some ⟨b, 0, none⟩)] wr fun e w1 => ∃ b', e = .returned (.pointer (some ⟨b', 0, none⟩)) ∧
      Calls Tryd.prog 14 #[.pointer (some ⟨b, 0, none⟩), .string ⟨n1.toArray⟩, .string ⟨v1.toArray⟩] w1 fun e w2 => ∃ c : Int, e = .returned (.int .i64 c) ∧
        Calls Tryd.prog 14 #[.pointer (some ⟨b, 0, none⟩), .string ⟨n2.toArray⟩, .string ⟨v2.toArray⟩] w2 fun e w3 => ∃ (c : Int) (x' : Option Nat), e = .returned (.int .i64 c) ∧ VP w w3 b' x' g nv vv σ := by
  refine (vclone_any h.v.vo).mono ?_
  rintro e w1 ⟨b', x', rfl, h1, h2, h3⟩
  refine ⟨b', rfl, ?_⟩
  have e1 := h.v.vo.below h2
  have y1 := h.later h2
  refine (vset_any e1 n1 v1 hn1 hv1).mono ?_
  rintro e w2 ⟨x2, rfl, h4, h5, h6⟩
  refine ⟨_, rfl, ?_⟩
  have hold := h.v.vo.lt
  have ft1 : Ft (VF b' x') (VF b x) := fun k hk hk2 => by
    have := h3 k hk
    have := hold k hk2
    omega
  have n2' := h1.past h5 ft1
  have y2 := y1.yPast h5
  refine (vset_any h4 n2 v2 hn2 hv2).mono ?_
  rintro e w3 ⟨x3, rfl, h7, h8, h9⟩
  have ft2 : Ft (VF b' x') (VF b x2) := fun k hk hk2 => by
    rcases h6 k hk2 with hk2 | hk2
    · exact ft1 k hk hk2
    · have := h1.lt k hk
      omega
  have hb1 := h.v.below.trans (h2.mono h.v.below.size)
  have o1 : VN w w2 b x2 (Va.set σ n1 v1).1 := y1.v.turn h4 h5 h6
  have o2 := o1.turn h7 h8 h9
  have hap2 : ¬ VF b x2 g := VF.apart h.ap (Nat.lt_of_lt_of_le h.y.lt h2.size) h6
  have y3 : RV w3 g nv vv σ := ⟨(h8.block g y2.lt hap2).trans y2.c, h4.rows h8 y2.n, h4.rows h8 y2.v, y2.nm, y2.len⟩
  refine ⟨_, x', rfl, ⟨n2'.past h8 ft2, fun k hk => Nat.le_trans h.v.below.size (h3 k hk), o2.below⟩, y3, h.gn, fun e => ?_⟩
  have := h3 g e
  have := h.y.lt
  omega
end Go.Proofs.YtkpahkcamgmlnaaDoor
