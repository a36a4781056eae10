/- vars' Expand and Names walked (layer 16). -/
import Derived.Test.YtkpahkcamgmlnaaDoorVarsFill
import Derived.Test.YtkpahkcamgmlnaaDoorVarsObj
import Derived.Test.YtkpahkcamgmlnaaDoorStrs
namespace Go.Proofs.YtkpahkcamgmlnaaDoor
open Go.RowKit

theorem own_two {w : World} {B B' n n' : Nat} {e e' : TypeId} {v v' : Value} {xs xs' : List Value} (h : w.ownsRow B e 1 v n xs) (h' : w.ownsRow B' e' 1 v' n' xs') (ne : e ≠ e') : v.ownBlock = none ∨ v.ownBlock ≠ v'.ownBlock := by
  rcases h'.2 with ⟨rfl, _⟩ | ⟨b, cap, cur, rfl, _, hh, _⟩
  · cases hv : v.ownBlock with
    | none => exact .inl rfl
    | some k => exact .inr (by rw [show (Value.slice none 0 0).ownBlock = none from rfl]; simp)
  · exact .inr (own_not h hh ne)

set_option maxHeartbeats 1000000 in
theorem vexpand_any {w : World} {b : Nat} {x : Option Nat} {σ : Va.Env} (h : VO w b x σ) (t : List UInt8) (ht : t.length ≤ 10000) :
    Calls Tryd.prog 18 #[.pointer (some ⟨b, 0, none⟩), .string ⟨t.toArray⟩] w fun e w' => e = .returned (.tuple #[sv ((Va.expand σ t).getD []), .bool (Va.expand σ t).isSome]) ∧ Below w.heap.size w w' := by
  have hmf : ∀ (fn : Fn) (first cap : Array Value) (w : World), (Instr.makeFunc fn first cap).run Tryd.prog w = .ok (.func fn first cap) w := fun _ _ _ _ => rfl
  have hf := fillG_any b (fun _ v xs W => Below w.heap.size w W ∧ W.ownsRow w.heap.size 5 1 v xs.length (xs.map bv) ∧ w.heap.size ≤ W.heap.size) (Va.look σ) w t {
      own := fun h => ⟨h.2.1, h.2.2⟩
      grow := fun ys h ho hg => ⟨h.1.grown hg h.2.2 (fun k hk => (h.2.1.lt k hk).1), by rw [List.length_append, List.map_append]; exact ho, Nat.le_trans h.2.2 hg.size⟩
      below := fun h hb => ⟨h.1.trans (hb.mono h.2.2), own_below h.2.1 hb, Nat.le_trans h.2.2 hb.size⟩ }
    ⟨Below.refl _ _, World.ownsRow_nil _ _ _ _, Nat.le_refl _⟩ ht h.val (fun n a v xs W hj _ hn => (vget_any (h.below hj.1) n hn).mono fun e w' he => ⟨he.1, hj.1.trans (he.2.mono hj.2.2), own_below hj.2.1 he.2, Nat.le_trans hj.2.2 he.2.size⟩)
  rw [show (Va.both (Va.look σ) t).isSome = (Va.expand σ t).isSome by rw [← Va.both_expand, Option.isSome_map], Va.both_expand] at hf
  unfold sv
  generalize (Va.expand σ t).isSome = O at hf ⊢
  generalize (Va.expand σ t).getD [] = u at hf ⊢
  have HF := Lib.hid hf
  clear hf h
  go_enter Tryd.func18, Tryd.ntmps18
  go_wp2_with fail
  refine HF.out.mono ?_
  rintro e w1 ⟨a, v, xs, hj, rfl, _⟩
  have HB := Lib.hid hj.1
  clear hj
  go_wp2
  go_ret2
  exact ⟨rfl, HB.out⟩

/-- While Names goes on: block c holds the row of what was told. -/
structure NJ (w0 : World) (c : Nat) (a : List (List UInt8)) (v : Value) (xs : List UInt8) (W : World) : Prop where
  row : ∃ s, W.heap[c]? = some (.cells #[s] 27 (0, 0)) ∧ W.ownsRow w0.heap.size 9 1 s a.length (a.map sv)
  own : W.ownsRow w0.heap.size 5 1 v xs.length (xs.map bv)
  size : w0.heap.size ≤ W.heap.size
  below : Below c w0 W
theorem NJ.keeps {w0 : World} {c : Nat} (hc : c < w0.heap.size) : Keeps w0.heap.size (NJ w0 c) where
  own := fun h => ⟨h.own, h.size⟩
  grow := fun {a v v' xs W W'} ys h ho hg => by
    obtain ⟨s, h1, h2⟩ := h.row
    refine ⟨⟨s, ?_, ?_⟩, by rw [List.length_append, List.map_append]; exact ho, Nat.le_trans h.size hg.size, ?_⟩
    · exact (hg.block c (Nat.lt_of_lt_of_le hc h.size) (fun e => by have := (h.own.lt c e.symm).1; omega)).trans h1
    · exact h2.kept hg (own_two h2 h.own (by decide))
    · exact h.below.grown hg (Nat.le_trans (Nat.le_of_lt hc) h.size) (fun k hk => Nat.le_trans (Nat.le_of_lt hc) (h.own.lt k hk).1)
  below := fun {a v xs W W'} h hb => by
    obtain ⟨s, h1, h2⟩ := h.row
    have hl : c < W.heap.size := Nat.lt_of_lt_of_le hc h.size
    exact ⟨⟨s, (hb.block c hl).trans h1, own_below h2 hb⟩, own_below h.own hb, Nat.le_trans h.size hb.size, h.below.trans (hb.mono (Nat.le_of_lt hl))⟩

set_option maxHeartbeats 1000000 in
theorem told_one {w0 W : World} {c : Nat} (hc : c < w0.heap.size) {a : List (List UInt8)} {v : Value} {xs : List UInt8} (h : NJ w0 c a v xs W) (ha : a.length ≤ 10000) (n : List UInt8) :
    Calls Tryd.prog 24 #[.string ⟨n.toArray⟩, .pointer (some ⟨c, 0, none⟩)] W fun e w' => e = .returned (.tuple #[.string ⟨#[]⟩, .bool true]) ∧ NJ w0 c (a ++ [n]) v xs w' := by
  obtain ⟨s, h1, h2⟩ := h.row
  have c1 : W.cell? ⟨c, 0, none⟩ = some s := cell_of_row _ _ _ _ _ _ h1
  have c2 : ∀ o, (W.alloc o).cell? ⟨c, 0, none⟩ = some s := fun o => cell_of_row _ _ _ _ _ _ ((Below.heap_alloc _ _ _ (Array.getElem?_eq_some_iff.1 h1).1).trans h1)
  have HO := Lib.hid h2
  have HH := Lib.hid h
  have HC := Lib.hid h1
  clear h h1 h2
  go_enter Tryd.func24, Tryd.ntmps24
  go_wp2_with (at_builtin; refine append_str rfl (.tmp 5) (.tmp 7) rfl rfl HO.out rfl rfl (b := sv n) rfl ?ca HH.out.size ?_)
  case ca => omega
  intro v3 w3 ho3 hg3
  obtain ⟨ao3, cap3, rfl⟩ := own_form ho3
  have hc3 : w3.heap[c]? = some (.cells #[s] 27 (0, 0)) := (hg3.block c (Nat.lt_of_lt_of_le hc HH.out.size) (fun e => by have := (HO.out.lt c e.symm).1; omega)).trans HC.out
  have f3 : w3.frozen? ⟨c, 0, none⟩ = false := frozen_of_row _ _ _ _ _ hc3
  have k3 : w3.cell? ⟨c, 0, none⟩ = some s := cell_of_row _ _ _ _ _ _ hc3
  have hv3 : w3.ownsRow w0.heap.size 5 1 v xs.length (xs.map bv) := HH.out.own.kept hg3 (own_two HH.out.own HO.out (by decide))
  have hn : NJ w0 c (a ++ [n]) v xs (w3.setCell ⟨c, 0, none⟩ (.slice ao3 (a.length + 1) cap3)) := {
    row := ⟨_, (setCell_row hc3).trans rfl, by
      rw [List.length_append, List.map_append]
      exact own_setCell ho3 (fun e => by have := (ho3.lt c e).1; omega)⟩
    own := own_setCell hv3 (own_not hv3 hc3 (by decide))
    size := by simp [World.setCell]; exact Nat.le_trans HH.out.size hg3.size
    below := (HH.out.below.grown hg3 (Nat.le_trans (Nat.le_of_lt hc) HH.out.size) (fun k hk => Nat.le_trans (Nat.le_of_lt hc) (HO.out.lt k hk).1)).setCell (p := ⟨c, 0, none⟩) (Nat.le_refl _) _ }
  have HN := Lib.hid hn
  clear hn hv3 hc3 ho3 hg3 HO HH HC c1 c2
  go_wp2
  go_ret2
  exact ⟨rfl, HN.out⟩

set_option maxHeartbeats 1000000 in
theorem vnames_any (w : World) (t : List UInt8) (ht : t.length ≤ 10000) :
    Calls Tryd.prog 11 #[.string ⟨t.toArray⟩] w fun e w' => ∃ v, e = .returned (.tuple #[v, .bool (Va.parts t).isSome]) ∧ Rd w' v ((((Va.parts t).map Va.names).getD []).map sv) ∧ Below w.heap.size w w' := by
  have hmf : ∀ (fn : Fn) (first cap : Array Value) (w : World), (Instr.makeFunc fn first cap).run Tryd.prog w = .ok (.func fn first cap) w := fun _ _ _ _ => rfl
  obtain ⟨w0, hw0⟩ : ∃ w0, w0 = w.alloc (.cells #[.slice none 0 0] 27) := ⟨_, rfl⟩
  have hc : w0.heap[w.heap.size]? = some (.cells #[.slice none 0 0] 27 (0, 0)) := by rw [hw0]; exact heap_alloc_new w _
  have hlt : w.heap.size < w0.heap.size := (Array.getElem?_eq_some_iff.1 hc).1
  have hb0 : Below w.heap.size w w0 := by rw [hw0]; exact (Below.refl _ _).alloc (Nat.le_refl _) _
  have hf := fillN_any w.heap.size (NJ w0 w.heap.size) (fun _ => some []) w0 t (NJ.keeps hlt) ⟨⟨_, hc, World.ownsRow_nil _ _ _ _⟩, World.ownsRow_nil _ _ _ _, Nat.le_refl _, Below.refl _ _⟩ ht (fun _ => Nat.zero_le _) (fun n a v xs W hj ha _ => told_one hlt hj ha n)
  have hbn := Va.both_names t
  rw [hw0] at hf
  have HF := Lib.hid hf
  have HB0 := Lib.hid hb0
  have hW := Lib.hid hw0
  cases hp : Va.parts t with
  | none =>
    rw [hp] at hbn
    have hno : Va.both (fun _ => some []) t = none := by
      cases hb : Va.both (fun _ => some []) t with
      | none => rfl
      | some p => rw [hb] at hbn; cases hbn
    rw [hno] at HF
    clear hf hb0 hw0 hc hlt hp hbn hno
    go_enter Tryd.func11, Tryd.ntmps11
    go_wp2_with fail
    refine HF.out.mono ?_
    rintro e w1 ⟨a, v, xs, hj, rfl, _⟩
    have HB := Lib.hid (HB0.out.trans (hW.out ▸ hj.below))
    clear hj
    go_wp2
    go_ret2
    exact ⟨_, rfl, .inl ⟨rfl, none, 0, fun _ => rfl, rfl⟩, HB.out⟩
  | some ps =>
    rw [hp] at hbn
    obtain ⟨p, hb, hn⟩ : ∃ p, Va.both (fun _ => some []) t = some p ∧ p.2 = Va.names ps := by
      cases hb : Va.both (fun _ => some []) t with
      | none => rw [hb] at hbn; cases hbn
      | some p =>
        rw [hb] at hbn
        exact ⟨p, rfl, by simpa using hbn⟩
    rw [hb] at HF
    have HN := Lib.hid hn
    clear hf hb0 hw0 hc hlt hp hbn hb hn
    go_enter Tryd.func11, Tryd.ntmps11
    go_wp2_with fail
    refine HF.out.mono ?_
    rintro e w1 ⟨a, v, xs, hj, rfl, ha⟩
    have HB := Lib.hid (HB0.out.trans (hW.out ▸ hj.below))
    obtain ⟨s, h1, h2⟩ := hj.row
    have c1 : w1.cell? ⟨w.heap.size, 0, none⟩ = some s := cell_of_row _ _ _ _ _ _ h1
    obtain rfl := ha p rfl
    have HR := Lib.hid (Rd.of_own h2)
    clear hj h1 h2 ha
    go_wp2
    go_ret2
    refine ⟨_, rfl, ?_, HB.out⟩
    have := HR.out
    rw [HN.out] at this
    exact this
end Go.Proofs.YtkpahkcamgmlnaaDoor
