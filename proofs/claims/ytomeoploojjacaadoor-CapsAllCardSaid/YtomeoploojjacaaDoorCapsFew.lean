/- few walked: a reply with less lines, and shorter ones. -/
import Derived.Test.YtomeoploojjacaaDoorCapsLaw
import Derived.Test.YtomeoploojjacaaDoorOwnSet
import Derived.Test.YtomeoploojjacaaDoorRdCut
import Derived.Test.YtomeoploojjacaaDoorOpenRows
namespace Go.Proofs.YtomeoploojjacaaDoor
open Go.RowKit

/-- Lines that are read, as a law has them. -/
def Rw1 (w : World) (v : Value) (ls : List (List UInt8)) : Prop := ∃ ao cap, v = .slice ao ls.length cap ∧ ls.length ≤ cap ∧ (0 < ls.length → ∃ b o, ao = some ⟨b, o, none⟩ ∧ cap ≤ maxLen ∧ ∀ j u, (ls.map sv)[j]? = some u → w.cell? ⟨b, o + j, none⟩ = some u)
theorem Rw1.of_n {w : World} {v : Value} {ys : List ByteArray} (h : RdN 1 w v (ys.map fun y => [.string y])) : Rw1 w v (ys.map fun y => y.data.toList) := by
  obtain ⟨ao, cap, h1, h2, h3⟩ := h.form
  rw [List.length_map] at h1 h2 h3
  refine ⟨ao, cap, by rw [List.length_map]; exact h1, by rw [List.length_map]; exact h2, fun h0 => ?_⟩
  rw [List.length_map] at h0
  obtain ⟨b, o, e, hm, hc⟩ := h3 h0
  refine ⟨b, o, e, hm, fun j u hj => ?_⟩
  rw [List.map_map, List.getElem?_map] at hj
  cases hy : ys[j]? with
  | none => rw [hy] at hj; cases hj
  | some y =>
    rw [hy] at hj
    obtain rfl : Value.string y = u := (by simpa using hj : sv y.data.toList = u)
    have := hc j [.string y] (by rw [List.getElem?_map, hy]; rfl) 0 _ rfl
    rwa [Nat.mul_one, Nat.add_zero] at this
theorem Rw1.below {w w' : World} {v : Value} {ls : List (List UInt8)} (h : Rw1 w v ls) (hb : Below w.heap.size w w') : Rw1 w' v ls := by
  obtain ⟨ao, cap, h1, h2, h3⟩ := h
  refine ⟨ao, cap, h1, h2, fun h0 => ?_⟩
  obtain ⟨b, o, e, hm, hc⟩ := h3 h0
  exact ⟨b, o, e, hm, fun j u hj => (hb.cell (World.block_lt_of_cell? _ _ (hc j u hj))).trans (hc j u hj)⟩
/-- What is read, past a store into another block. -/
theorem Rd.setCell {w : World} {v : Value} {vs : List Value} (h : Rd w v vs) {g i : Nat} (hg : v.ownBlock ≠ some g) (u : Value) : Rd (w.setCell ⟨g, i, none⟩ u) v vs := by
  rcases h with h | ⟨b, o, cap, e, h1, h2, h3⟩
  · exact .inl h
  · refine .inr ⟨b, o, cap, e, h1, h2, fun j x hj => ?_⟩
    have hb : b ≠ g := fun e2 => hg (by rw [e, ← e2]; rfl)
    exact (World.cell?_of_block (Below.heap_setCell _ _ _ _ hb)).trans (h3 j x hj)

/-- What stands while the lines are cut: the reply that came in, where the result will stand, and the reply that grows. -/
structure FW (w : World) (B1 B2 : Nat) (code : ByteArray) (lv bo z : Value) (l : Value) (out : List (List UInt8)) (wr : World) : Prop where
  c0 : wr.heap[w.heap.size]? = some (.cells #[.string code, lv, bo] 25 (0, 0))
  c1 : wr.heap[B1]? = some (.cells #[.string ⟨#[]⟩, .slice none 0 0, .slice none 0 0] 25 (0, 0))
  c2 : wr.heap[B2]? = some (.cells #[.string code, z, bo] 25 (0, 0))
  own : wr.ownsRow w.heap.size 9 1 l out.length (out.map sv)
  below : Below w.heap.size w wr
  n1 : w.heap.size < B1
  n2 : B1 < B2
theorem FW.next {w wr wr' : World} {B1 B2 : Nat} {code : ByteArray} {lv bo l z : Value} {out : List (List UInt8)} (h : FW w B1 B2 code lv bo z l out wr) (hb : Below wr.heap.size wr wr') : FW w B1 B2 code lv bo z l out wr' :=
  ⟨(hb.block _ (Array.getElem?_eq_some_iff.1 h.c0).1).trans h.c0, (hb.block _ (Array.getElem?_eq_some_iff.1 h.c1).1).trans h.c1, (hb.block _ (Array.getElem?_eq_some_iff.1 h.c2).1).trans h.c2, own_below h.own hb, h.below.trans (hb.mono h.below.size), h.n1, h.n2⟩
theorem FW.start (w : World) (code : ByteArray) (lv bo : Value) : FW w (w.heap.size + 1) (w.heap.size + 1 + 1) code lv bo (.slice none 0 0) (.slice none 0 0) [] (((w.alloc (.cells #[.string code, lv, bo] 25 (0, 0))).alloc (.cells #[.string ⟨#[]⟩, .slice none 0 0, .slice none 0 0] 25 (0, 0))).alloc (.cells #[.string code, .slice none 0 0, bo] 25 (0, 0))) := by
  refine ⟨?_, ?_, ?_, World.ownsRow_nil _ _ _ _, (((Below.refl _ _).alloc (Nat.le_refl _) _).alloc (by simp) _).alloc (by simp; omega) _, by omega, by omega⟩
  · exact (Below.heap_alloc _ _ _ (by simp; omega)).trans ((Below.heap_alloc _ _ _ (by simp)).trans (heap_alloc_new w _))
  · refine (Below.heap_alloc _ _ _ (by simp)).trans ?_
    have := heap_alloc_new (w.alloc (.cells #[.string code, lv, bo] 25 (0, 0))) (.cells #[.string ⟨#[]⟩, .slice none 0 0, .slice none 0 0] 25 (0, 0))
    rw [World.size_alloc] at this
    exact this
  · have := heap_alloc_new ((w.alloc (.cells #[.string code, lv, bo] 25 (0, 0))).alloc (.cells #[.string ⟨#[]⟩, .slice none 0 0, .slice none 0 0] 25 (0, 0))) (.cells #[.string code, .slice none 0 0, bo] 25 (0, 0))
    rw [World.size_alloc, World.size_alloc] at this
    exact this
theorem FW.push {w wr : World} {B1 B2 : Nat} {code : ByteArray} {lv bo l z : Value} {out : List (List UInt8)} (h : FW w B1 B2 code lv bo z l out wr) (y : List UInt8) {o : Oper} {a : Act} {K : Act → World → Prop} {Q : Exit → Act → World → Prop}
    (s x : Operand) (ho : o.op = .call { callee := .builtin .append, args := #[s, x], argTypes := #[22, 22] })
    (hs : a.eval s = l) (hx : a.eval x = .slice (some ⟨wr.heap.size, 0, none⟩) 1 1) (hn : out.length ≤ 1000)
    (h' : ∀ g c w', FW w B1 B2 code lv bo z (.slice (some ⟨g, 0, none⟩) (out.length + 1) c) (out ++ [y]) w' → K (a.put o.dst (.slice (some ⟨g, 0, none⟩) (out.length + 1) c)) w') :
    o.wp Tryd.prog a (wr.alloc (.cells #[sv y] 9 (0, 0))) K Q := by
  have h2 := h.next ((Below.refl wr.heap.size wr).alloc (Nat.le_refl _) (.cells #[sv y] 9 (0, 0)))
  obtain ⟨i0, hi, hz0, hz1, hz2⟩ := info_parts info_str
  refine wp_append_lies _ s x 22 ho w.heap.size 9 i0 (.string ByteArray.empty) 1 16 Tryd.underlying22 hi hz0 hz1 hz2 rfl (by decide) l out.length (out.map sv) hs h2.own ⟨wr.heap.size, 0, none⟩ 1 1 [sv y] hx rfl (World.news_of_block (heap_alloc_new wr _)) (fun u hu => by rw [List.mem_singleton.1 hu]; rfl) (by decide) (by unfold maxLen; omega) (by omega) h2.below.size _ rfl (fun g cap w' h3 h4 _ _ => h' g cap w' ?_)
  have hk := fun k hk => (h2.own.lt k hk).1
  have n0 := own_not h2.own h2.c0 (by decide)
  have n1 := own_not h2.own h2.c1 (by decide)
  have n2 := own_not h2.own h2.c2 (by decide)
  refine ⟨(h4.block _ (Array.getElem?_eq_some_iff.1 h2.c0).1 n0.symm).trans h2.c0, (h4.block _ (Array.getElem?_eq_some_iff.1 h2.c1).1 n1.symm).trans h2.c1, (h4.block _ (Array.getElem?_eq_some_iff.1 h2.c2).1 n2.symm).trans h2.c2, ?_, h2.below.grown h4 h2.below.size hk, h2.n1, h2.n2⟩
  rw [List.length_append, List.map_append]
  exact h3
/-- The new row stored. -/
theorem FW.set {w wr : World} {B1 B2 : Nat} {code : ByteArray} {lv bo l z : Value} {out : List (List UInt8)} (h : FW w B1 B2 code lv bo z l out wr) : FW w B1 B2 code lv bo l l out (wr.setCell ⟨B2, 1, none⟩ l) := by
  have n2 := own_not h.own h.c2 (by decide)
  have n3 := h.n1
  have n4 := h.n2
  refine ⟨(Below.heap_setCell _ _ _ _ (by show w.heap.size ≠ B2; omega)).trans h.c0, (Below.heap_setCell _ _ _ _ (by show B1 ≠ B2; omega)).trans h.c1, (setCell_row h.c2).trans rfl, own_setCell h.own n2, h.below.setCell (p := ⟨B2, 1, none⟩) (by show w.heap.size ≤ B2; omega) _, n3, n4⟩
theorem FW.k0 {w wr : World} {B1 B2 : Nat} {code : ByteArray} {lv bo l z : Value} {out : List (List UInt8)} (h : FW w B1 B2 code lv bo z l out wr) : wr.cell? ⟨w.heap.size, 1, none⟩ = some lv := cell_of_row _ _ _ _ _ _ h.c0
theorem FW.k2 {w wr : World} {B1 B2 : Nat} {code : ByteArray} {lv bo l z : Value} {out : List (List UInt8)} (h : FW w B1 B2 code lv bo z l out wr) : wr.cell? ⟨B2, 0, none⟩ = some (.string code) ∧ wr.cell? ⟨B2, 1, none⟩ = some z ∧ wr.cell? ⟨B2, 2, none⟩ = some bo ∧ ∀ i, wr.frozen? ⟨B2, i, none⟩ = false :=
  ⟨cell_of_row _ _ _ _ _ _ h.c2, cell_of_row _ _ _ _ _ _ h.c2, cell_of_row _ _ _ _ _ _ h.c2, fun _ => frozen_of_row _ _ _ _ _ h.c2⟩
theorem FW.k1 {w wr : World} {B1 B2 : Nat} {code : ByteArray} {lv bo l z : Value} {out : List (List UInt8)} (h : FW w B1 B2 code lv bo z l out wr) : wr.cell? ⟨B1, 0, none⟩ = some (.string ⟨#[]⟩) ∧ wr.cell? ⟨B1, 1, none⟩ = some (.slice none 0 0) ∧ wr.cell? ⟨B1, 2, none⟩ = some (.slice none 0 0) ∧ ∀ i, wr.frozen? ⟨B1, i, none⟩ = false :=
  ⟨cell_of_row _ _ _ _ _ _ h.c1, cell_of_row _ _ _ _ _ _ h.c1, cell_of_row _ _ _ _ _ _ h.c1, fun _ => frozen_of_row _ _ _ _ _ h.c1⟩

/-- The result stored, cell by cell. -/
theorem ret_cells {w wr : World} {B1 n : Nat} {code : ByteArray} {l u : Value} {vs : List Value} (own : wr.ownsRow w.heap.size 9 1 l n vs) (c1 : wr.heap[B1]? = some (.cells #[.string ⟨#[]⟩, .slice none 0 0, .slice none 0 0] 25 (0, 0))) (hb : Below w.heap.size w wr) (n1 : w.heap.size < B1) :
    ∃ wz, wz = (((wr.setCell ⟨B1, 0, none⟩ (.string code)).setCell ⟨B1, 1, none⟩ l).setCell ⟨B1, 2, none⟩ u) ∧ wz.ownsRow w.heap.size 9 1 l n vs ∧ Below w.heap.size w wz ∧ wz.cell? ⟨B1, 0, none⟩ = some (.string code) ∧ wz.cell? ⟨B1, 1, none⟩ = some l ∧ wz.cell? ⟨B1, 2, none⟩ = some u := by
  have n2 := own_not own c1 (by decide)
  have hh : (((wr.setCell ⟨B1, 0, none⟩ (.string code)).setCell ⟨B1, 1, none⟩ l).setCell ⟨B1, 2, none⟩ u).heap[B1]? = some (.cells #[.string code, l, u] 25 (0, 0)) := (setCell_row (setCell_row (setCell_row c1))).trans rfl
  exact ⟨_, rfl, own_setCell (own_setCell (own_setCell own n2) n2) n2, ((hb.setCell (p := ⟨B1, 0, none⟩) (by show w.heap.size ≤ B1; omega) _).setCell (p := ⟨B1, 1, none⟩) (by show w.heap.size ≤ B1; omega) _).setCell (p := ⟨B1, 2, none⟩) (by show w.heap.size ≤ B1; omega) _, cell_of_row _ _ _ _ _ _ hh, cell_of_row _ _ _ _ _ _ hh, cell_of_row _ _ _ _ _ _ hh⟩

set_option maxHeartbeats 1000000 in
theorem few_any (code : ByteArray) (lv bo : Value) (ls : List (List UInt8)) (xs : List UInt8) (w : World) (hl : Rw1 w lv ls) (hb : Rd w bo (xs.map bv)) (h1 : ls.length ≤ maxLen) (h2 : xs.length ≤ maxLen) :
    Calls Tryd.prog 9 #[.agg #[.string code, lv, bo]] w fun e w' => ∃ (lv' bo' : Value) (ls' : List (List UInt8)) (xs' : List UInt8), e = .returned (.agg #[.string code, lv', bo']) ∧ Rd w' lv' (ls'.map sv) ∧ (∀ wx, Rd wx bo (xs.map bv) → Rd wx bo' (xs'.map bv)) ∧ ls'.length ≤ 24 ∧ (∀ x ∈ ls', x.length ≤ 200) ∧ xs'.length ≤ 1000 ∧ (∀ k, lv'.ownBlock = some k → w.heap.size ≤ k) ∧ Below w.heap.size w w' := by
  obtain ⟨lo, lc, rfl, hlc, hlx⟩ := hl
  obtain ⟨N, hN⟩ : ∃ N, N = ls.length := ⟨_, rfl⟩
  rw [← hN] at hlc hlx h1 ⊢
  obtain ⟨ao, cap, rfl, hcap, hcx⟩ := hb.form
  obtain ⟨M, hM⟩ : ∃ M, M = xs.length := ⟨_, rfl⟩
  rw [← hM] at hcap hb h2 ⊢
  have HN := Lib.hid hN
  have HM := Lib.hid hM
  have HLX := Lib.hid hlx
  have HRD := Lib.hid hb
  have hst := Lib.hid (FW.start w code (.slice lo N lc) (.slice ao M cap))
  unfold maxLen at h1 h2
  clear hN hM hlx hb hcx
  go_enter Tryd.func9, Tryd.ntmps9
  go_wp2
  generalize w.heap.size + 1 + 1 = B2 at hst ⊢
  generalize w.heap.size + 1 = B1 at hst ⊢
  go_loopw [4] (fun i wr => ∃ (k : Nat) (l : Value) (out : List (List UInt8)), k ≤ N ∧ k ≤ 24 ∧ i = .int .i64 k ∧ Hid (out.length = k) ∧ Hid (FW w B1 B2 code (.slice lo N lc) (.slice ao M cap) l l out wr) ∧ Hid (∀ x ∈ out, x.length ≤ 200)) (fun i _ => 24 - (intOf i).toNat)
  case atStart => exact ⟨0, _, [], Nat.zero_le _, Nat.zero_le _, rfl, rfl, hst.out, (fun x hx => by cases hx)⟩
  case round =>
    clear hst
    obtain ⟨k, l, out, hk1, hk2, rfl, HL, HF, HX⟩ := hrel
    have e0 := HF.out.k0
    by_cases hgo : k < N ∧ k < 24
    · obtain ⟨g1, g2⟩ := hgo
      have t1 : (k : Int) < (N : Int) := by omega
      have t2 : (k : Int) < 24 := by omega
      obtain ⟨b, o, rfl, hm, hc⟩ := HLX.out (by omega)
      unfold maxLen at hm
      obtain ⟨y0, hy0⟩ : ∃ y0, y0 = ls.getD k [] := ⟨_, rfl⟩
      have hcx := hc k _ (svs_at (by rw [← HN.out]; exact g1))
      rw [← hy0, sv] at hcx
      have hcw := hcx
      have hcx := (HF.out.below.cell (World.block_lt_of_cell? _ _ hcx)).trans hcx
      clear hc hy0
      have hdr : Below wr.heap.size wr wr.drew := (Below.refl _ _).drew
      have HFD := Lib.hid (HF.out.next hdr)
      have hcd : wr.drew.cell? ⟨b, o + k, none⟩ = some (.string ⟨y0.toArray⟩) := (hdr.cell (World.block_lt_of_cell? _ _ hcx)).trans hcx
      have hcx0 := hcx
      have HS := Lib.hid (fun z2 l2 out2 w2 (h : FW w B1 B2 code (.slice (some ⟨b, o, none⟩) N lc) (.slice ao M cap) z2 l2 out2 w2) => (show w2.cell? ⟨w.heap.size, 1, none⟩ = some (.slice (some ⟨b, o, none⟩) N lc) ∧ w2.cell? ⟨b, o + k, none⟩ = some (.string ⟨y0.toArray⟩) from ⟨h.k0, (h.below.cell (World.block_lt_of_cell? _ _ hcw)).trans hcw⟩))
      have s0 := Lib.hid (HS.out _ _ _ _ HFD.out)
      have s1 := Lib.hid (fun ob => HS.out _ _ _ _ (HFD.out.next ((Below.refl wr.drew.heap.size wr.drew).alloc (Nat.le_refl _) ob)))
      have kz := HFD.out.k2.2.1
      have kz2 := fun ob => (HFD.out.next ((Below.refl wr.drew.heap.size wr.drew).alloc (Nat.le_refl _) ob)).k2.2.1
      have HSH := Lib.hid (fun wx => cshort_any ⟨y0.toArray⟩ wx)
      unfold sv at HSH
      obtain ⟨la, lb, rfl⟩ := own_form HF.out.own
      rw [HL.out] at kz kz2 HFD
      clear hcx hcx0 hcd hcw hdr
      go_wp2_with fail
      refine wp_region_held_drew (S := fun w' => w'.cell? ⟨w.heap.size, 1, none⟩ = some (.slice (some ⟨b, o, none⟩) N lc) ∧ w'.cell? ⟨b, o + k, none⟩ = some (.string ⟨y0.toArray⟩)) (by kernel_rfl) s0.out (fun hH => ?_)
      generalize wr.drew = wd at *
      -- ROUND
      refine heldTake (i := 0) (v := ?_) rfl (by kernel_rfl) (by kernel_rfl) (fun _ _ _ h => h) (by rfl) (by assumption) (fun w hSw => ?_) ?_; rotate_left; focus ((try dsimp only at hSw); go_simp; try with_reducible rfl)
      try simp only [Act.put, List.setIfInBounds_toArray, List.set_cons_zero, List.set_cons_succ]
      refine heldTake (i := 2) (v := ?_) rfl (by kernel_rfl) (by kernel_rfl) (fun _ _ _ h => h) (by rfl) (by assumption) (fun w hSw => ?_) ?_; rotate_left; focus ((try dsimp only at hSw); go_simp; try with_reducible rfl)
      try simp only [Act.put, List.setIfInBounds_toArray, List.set_cons_zero, List.set_cons_succ]
      refine heldTake (i := 3) (v := ?_) rfl (by kernel_rfl) (by kernel_rfl) (fun _ _ _ h => h) (by rfl) (by assumption) (fun w hSw => ?_) ?_; rotate_left; focus ((try dsimp only at hSw); go_simp; try with_reducible rfl)
      try simp only [Act.put, List.setIfInBounds_toArray, List.set_cons_zero, List.set_cons_succ]
      refine heldTake (i := 4) (v := ?_) rfl (by kernel_rfl) (by kernel_rfl) (fun _ _ _ h => h) (by rfl) (by assumption) (fun w hSw => ?_) ?_; rotate_left; focus ((try dsimp only at hSw); go_simp; try with_reducible rfl)
      try simp only [Act.put, List.setIfInBounds_toArray, List.set_cons_zero, List.set_cons_succ]
      refine heldTake (i := 5) (v := ?_) rfl (by kernel_rfl) (by kernel_rfl) (fun _ _ _ h => h) (by rfl) (by assumption) (fun w hSw => ?_) ?_; rotate_left; focus ((try dsimp only at hSw); go_simp; try with_reducible rfl)
      try simp only [Act.put, List.setIfInBounds_toArray, List.set_cons_zero, List.set_cons_succ]
      refine heldTake (i := 6) (v := ?_) rfl (by kernel_rfl) (by kernel_rfl) (fun _ _ _ h => h) (by rfl) (by assumption) (fun w hSw => ?_) ?_; rotate_left; focus ((try dsimp only at hSw); go_simp; try with_reducible rfl)
      try simp only [Act.put, List.setIfInBounds_toArray, List.set_cons_zero, List.set_cons_succ]
      -- TWO 1 Op.load 22 (Operand.tmp 21) | 7 Op.call { callee := Callee.value (Operand.func 10), args := #[Operand.tmp 27], a
      refine heldTwo (i := 1) (j := 7) rfl rfl (by kernel_rfl) (by rfl) (by rfl) (fun K hK => ?_) (fun K hK => ?_)
      · go_simp; refine hK.out _ _ (by first | exact s0.out | exact s1.out _) ?_; clear hK K
        try simp only [Act.put, List.setIfInBounds_toArray, List.set_cons_zero, List.set_cons_succ]
        -- NEXT 7 Op.call { callee := Callee.value (Operand.func 10), args := #[Operand.tmp 27], argTypes := #[9] }
        refine heldNext (i := 7) rfl (by kernel_rfl) (by rfl) (fun K hK => ?_)
        go_simp; go_at_call 10; refine (HSH.out _).mono ?_; rintro e w9 ⟨y, rfl, hy, rfl⟩; first | (refine hK.out _ _ s0.out ?_) | (go_wp2_with fail; refine hK.out _ _ s0.out ?_); clear hK K
        try simp only [Act.put, List.setIfInBounds_toArray, List.set_cons_zero, List.set_cons_succ]
        -- NEXT 8 Op.buildSlice 22 1 #[(0, Operand.tmp 28)]
        refine heldNext (i := 8) rfl (by kernel_rfl) (by rfl) (fun K hK => ?_)
        go_simp; refine hK.out _ _ (s1.out _) ?_; clear hK K
        try simp only [Act.put, List.setIfInBounds_toArray, List.set_cons_zero, List.set_cons_succ]
        -- NEXT 9 Op.call { callee := Callee.builtin Builtin.append, args := #[Operand.tmp 22, Operand.tmp 29], argTypes := #[22
        refine heldNext (i := 9) rfl (by kernel_rfl) (by rfl) (fun K hK => ?_)
        refine FW.push HFD.out y (.tmp 22) (.tmp 29) (by rfl) (by rfl) (by rfl) (by have := HL.out; omega) (fun g2 cp w4 hf4 => ?_); have s4 := HS.out _ _ _ _ hf4; obtain ⟨_, k41, _, k43⟩ := hf4.k2; refine hK.out _ _ s4 ?_; clear hK K
        try simp only [Act.put, List.setIfInBounds_toArray, List.set_cons_zero, List.set_cons_succ]
        refine heldTake (i := 10) (v := ?_) rfl (by kernel_rfl) (by kernel_rfl) (fun _ _ _ h => h) (by rfl) (by assumption) (fun w hSw => ?_) ?_; rotate_left; focus ((try dsimp only at hSw); go_simp; try with_reducible rfl)
        try simp only [Act.put, List.setIfInBounds_toArray, List.set_cons_zero, List.set_cons_succ]
        -- NEXT 11 Op.store 22 (Operand.tmp 31) (Operand.tmp 30)
        refine heldNext (i := 11) rfl (by kernel_rfl) (by rfl) (fun K hK => ?_)
        go_simp; refine hK.out _ _ (HS.out _ _ _ _ hf4.set) ?_; clear hK K
        try simp only [Act.put, List.setIfInBounds_toArray, List.set_cons_zero, List.set_cons_succ]
        refine wpAnyH_done (by kernel_rfl) ?_ _
        have HF4 := Lib.hid hf4.set
        have HY := Lib.hid hy
        clear hf4 s4 k41 k43 hy hH
        go_wp2
        go_roundw
        case rel => exact ⟨k + 1, _, out ++ [y], by omega, by omega, by go_num, by rw [List.length_append, HL.out]; rfl, HF4.out, (fun x hx => by
          rcases List.mem_append.1 hx with hx | hx
          · exact HX.out x hx
          · rw [List.mem_singleton.1 hx]
            exact HY.out)⟩
        case measure => simp [intOf]; omega
      · go_simp; go_at_call 10; refine (HSH.out _).mono ?_; rintro e w9 ⟨y, rfl, hy, rfl⟩; first | (refine hK.out _ _ s0.out ?_) | (go_wp2_with fail; refine hK.out _ _ s0.out ?_); clear hK K
        try simp only [Act.put, List.setIfInBounds_toArray, List.set_cons_zero, List.set_cons_succ]
        -- TWO 1 Op.load 22 (Operand.tmp 21) | 8 Op.buildSlice 22 1 #[(0, Operand.tmp 28)]
        refine heldTwo (i := 1) (j := 8) rfl rfl (by kernel_rfl) (by rfl) (by rfl) (fun K hK => ?_) (fun K hK => ?_)
        · go_simp; refine hK.out _ _ (by first | exact s0.out | exact s1.out _) ?_; clear hK K
          try simp only [Act.put, List.setIfInBounds_toArray, List.set_cons_zero, List.set_cons_succ]
          -- NEXT 8 Op.buildSlice 22 1 #[(0, Operand.tmp 28)]
          refine heldNext (i := 8) rfl (by kernel_rfl) (by rfl) (fun K hK => ?_)
          go_simp; refine hK.out _ _ (s1.out _) ?_; clear hK K
          try simp only [Act.put, List.setIfInBounds_toArray, List.set_cons_zero, List.set_cons_succ]
          -- NEXT 9 Op.call { callee := Callee.builtin Builtin.append, args := #[Operand.tmp 22, Operand.tmp 29], argTypes := #[22
          refine heldNext (i := 9) rfl (by kernel_rfl) (by rfl) (fun K hK => ?_)
          refine FW.push HFD.out y (.tmp 22) (.tmp 29) (by rfl) (by rfl) (by rfl) (by have := HL.out; omega) (fun g2 cp w4 hf4 => ?_); have s4 := HS.out _ _ _ _ hf4; obtain ⟨_, k41, _, k43⟩ := hf4.k2; refine hK.out _ _ s4 ?_; clear hK K
          try simp only [Act.put, List.setIfInBounds_toArray, List.set_cons_zero, List.set_cons_succ]
          refine heldTake (i := 10) (v := ?_) rfl (by kernel_rfl) (by kernel_rfl) (fun _ _ _ h => h) (by rfl) (by assumption) (fun w hSw => ?_) ?_; rotate_left; focus ((try dsimp only at hSw); go_simp; try with_reducible rfl)
          try simp only [Act.put, List.setIfInBounds_toArray, List.set_cons_zero, List.set_cons_succ]
          -- NEXT 11 Op.store 22 (Operand.tmp 31) (Operand.tmp 30)
          refine heldNext (i := 11) rfl (by kernel_rfl) (by rfl) (fun K hK => ?_)
          go_simp; refine hK.out _ _ (HS.out _ _ _ _ hf4.set) ?_; clear hK K
          try simp only [Act.put, List.setIfInBounds_toArray, List.set_cons_zero, List.set_cons_succ]
          refine wpAnyH_done (by kernel_rfl) ?_ _
          have HF4 := Lib.hid hf4.set
          have HY := Lib.hid hy
          clear hf4 s4 k41 k43 hy hH
          go_wp2
          go_roundw
          case rel => exact ⟨k + 1, _, out ++ [y], by omega, by omega, by go_num, by rw [List.length_append, HL.out]; rfl, HF4.out, (fun x hx => by
            rcases List.mem_append.1 hx with hx | hx
            · exact HX.out x hx
            · rw [List.mem_singleton.1 hx]
              exact HY.out)⟩
          case measure => simp [intOf]; omega
        · go_simp; refine hK.out _ _ (s1.out _) ?_; clear hK K
          try simp only [Act.put, List.setIfInBounds_toArray, List.set_cons_zero, List.set_cons_succ]
          -- NEXT 1 Op.load 22 (Operand.tmp 21)
          refine heldNext (i := 1) rfl (by kernel_rfl) (by rfl) (fun K hK => ?_)
          go_simp; refine hK.out _ _ (by first | exact s0.out | exact s1.out _) ?_; clear hK K
          try simp only [Act.put, List.setIfInBounds_toArray, List.set_cons_zero, List.set_cons_succ]
          -- NEXT 9 Op.call { callee := Callee.builtin Builtin.append, args := #[Operand.tmp 22, Operand.tmp 29], argTypes := #[22
          refine heldNext (i := 9) rfl (by kernel_rfl) (by rfl) (fun K hK => ?_)
          refine FW.push HFD.out y (.tmp 22) (.tmp 29) (by rfl) (by rfl) (by rfl) (by have := HL.out; omega) (fun g2 cp w4 hf4 => ?_); have s4 := HS.out _ _ _ _ hf4; obtain ⟨_, k41, _, k43⟩ := hf4.k2; refine hK.out _ _ s4 ?_; clear hK K
          try simp only [Act.put, List.setIfInBounds_toArray, List.set_cons_zero, List.set_cons_succ]
          refine heldTake (i := 10) (v := ?_) rfl (by kernel_rfl) (by kernel_rfl) (fun _ _ _ h => h) (by rfl) (by assumption) (fun w hSw => ?_) ?_; rotate_left; focus ((try dsimp only at hSw); go_simp; try with_reducible rfl)
          try simp only [Act.put, List.setIfInBounds_toArray, List.set_cons_zero, List.set_cons_succ]
          -- NEXT 11 Op.store 22 (Operand.tmp 31) (Operand.tmp 30)
          refine heldNext (i := 11) rfl (by kernel_rfl) (by rfl) (fun K hK => ?_)
          go_simp; refine hK.out _ _ (HS.out _ _ _ _ hf4.set) ?_; clear hK K
          try simp only [Act.put, List.setIfInBounds_toArray, List.set_cons_zero, List.set_cons_succ]
          refine wpAnyH_done (by kernel_rfl) ?_ _
          have HF4 := Lib.hid hf4.set
          have HY := Lib.hid hy
          clear hf4 s4 k41 k43 hy hH
          go_wp2
          go_roundw
          case rel => exact ⟨k + 1, _, out ++ [y], by omega, by omega, by go_num, by rw [List.length_append, HL.out]; rfl, HF4.out, (fun x hx => by
            rcases List.mem_append.1 hx with hx | hx
            · exact HX.out x hx
            · rw [List.mem_singleton.1 hx]
              exact HY.out)⟩
          case measure => simp [intOf]; omega
      -- ROUND
    · obtain ⟨k20, k21, k22, k23⟩ := HF.out.k2
      obtain ⟨k10, k11, k12, k13⟩ := HF.out.k1
      have n1 := HF.out.n1
      have n2 := HF.out.n2
      have nB2 := own_not HF.out.own HF.out.c2 (by decide)
      obtain ⟨la, lb, rfl⟩ := own_form HF.out.own
      rw [HL.out] at HF k21 nB2
      have nB1 : B1 ≠ B2 := by omega
      by_cases hM : (1000 : Int) < (M : Int)
      · have t5 : (1000 : Int) ≤ (M : Int) := by omega
        have t6 : (1000 : Int) ≤ (cap : Int) := by omega
        by_cases hk : k < N
        · have t1 : (k : Int) < (N : Int) := by omega
          have t2 : ((k : Int) < 24) = False := eq_false (by omega)
          clear hgo
          obtain ⟨wz, hwz, r1, r2, r3, r4, r5⟩ := ret_cells (B1 := B1) (code := code) (u := .slice ao 1000 cap) (own_setCell (i := 2) (u := .slice ao 1000 cap) HF.out.own nB2) ((Below.heap_setCell _ _ _ _ (by show B1 ≠ B2; omega)).trans HF.out.c1) (HF.out.below.setCell (p := ⟨B2, 2, none⟩) (by show w.heap.size ≤ B2; omega) _) n1
          have HRB := Lib.hid (fun wx (hx : Rd wx (.slice ao M cap) (xs.map bv)) => hx.cut (m := 1000) HM.out (by omega))
          have HRL := Lib.hid (Rd.of_own r1)
          have HRK := Lib.hid (fun k hk => (r1.lt k hk).1)
          have HRW := Lib.hid r2
          have HR3 := Lib.hid r3
          have HR4 := Lib.hid r4
          have HR5 := Lib.hid r5
          have HWZ := Lib.hid hwz
          clear r1 r2 r3 r4 r5 hwz
          go_wp2
          show bodyPost _ _ _ _ _ _
          rw [← HWZ.out]
          refine bodyPost_ret (v := .agg #[.string code, .slice la k lb, .slice ao 1000 cap]) (by have d0 := HR3.out; have d1 := HR4.out; have d2 := HR5.out; simp [results, Tryd.results9, go_sem, d0, d1, d2]) rfl ?_
          exact ⟨_, _, out, xs.take 1000, rfl, HRL.out, HRB.out, by rw [HL.out]; omega, HX.out, by rw [List.length_take]; omega, HRK.out, HRW.out⟩
        · have t1 : ((k : Int) < (N : Int)) = False := eq_false (by omega)
          clear hgo
          obtain ⟨wz, hwz, r1, r2, r3, r4, r5⟩ := ret_cells (B1 := B1) (code := code) (u := .slice ao 1000 cap) (own_setCell (i := 2) (u := .slice ao 1000 cap) HF.out.own nB2) ((Below.heap_setCell _ _ _ _ (by show B1 ≠ B2; omega)).trans HF.out.c1) (HF.out.below.setCell (p := ⟨B2, 2, none⟩) (by show w.heap.size ≤ B2; omega) _) n1
          have HRB := Lib.hid (fun wx (hx : Rd wx (.slice ao M cap) (xs.map bv)) => hx.cut (m := 1000) HM.out (by omega))
          have HRL := Lib.hid (Rd.of_own r1)
          have HRK := Lib.hid (fun k hk => (r1.lt k hk).1)
          have HRW := Lib.hid r2
          have HR3 := Lib.hid r3
          have HR4 := Lib.hid r4
          have HR5 := Lib.hid r5
          have HWZ := Lib.hid hwz
          clear r1 r2 r3 r4 r5 hwz
          go_wp2
          show bodyPost _ _ _ _ _ _
          rw [← HWZ.out]
          refine bodyPost_ret (v := .agg #[.string code, .slice la k lb, .slice ao 1000 cap]) (by have d0 := HR3.out; have d1 := HR4.out; have d2 := HR5.out; simp [results, Tryd.results9, go_sem, d0, d1, d2]) rfl ?_
          exact ⟨_, _, out, xs.take 1000, rfl, HRL.out, HRB.out, by rw [HL.out]; omega, HX.out, by rw [List.length_take]; omega, HRK.out, HRW.out⟩
      · have t5 : ((1000 : Int) < (M : Int)) = False := eq_false hM
        by_cases hk : k < N
        · have t1 : (k : Int) < (N : Int) := by omega
          have t2 : ((k : Int) < 24) = False := eq_false (by omega)
          clear hgo
          obtain ⟨wz, hwz, r1, r2, r3, r4, r5⟩ := ret_cells (B1 := B1) (code := code) (u := .slice ao M cap) HF.out.own HF.out.c1 HF.out.below n1
          have HRB := Lib.hid (fun wx (hx : Rd wx (.slice ao M cap) (xs.map bv)) => hx)
          have HRL := Lib.hid (Rd.of_own r1)
          have HRK := Lib.hid (fun k hk => (r1.lt k hk).1)
          have HRW := Lib.hid r2
          have HR3 := Lib.hid r3
          have HR4 := Lib.hid r4
          have HR5 := Lib.hid r5
          have HWZ := Lib.hid hwz
          clear r1 r2 r3 r4 r5 hwz
          go_wp2
          show bodyPost _ _ _ _ _ _
          rw [← HWZ.out]
          refine bodyPost_ret (v := .agg #[.string code, .slice la k lb, .slice ao M cap]) (by have d0 := HR3.out; have d1 := HR4.out; have d2 := HR5.out; simp [results, Tryd.results9, go_sem, d0, d1, d2]) rfl ?_
          exact ⟨_, _, rfl, out, HRL.out, xs, HRB.out, by rw [HL.out]; omega, HX.out, by rw [← HM.out]; omega, HRK.out, HRW.out⟩
        · have t1 : ((k : Int) < (N : Int)) = False := eq_false (by omega)
          clear hgo
          obtain ⟨wz, hwz, r1, r2, r3, r4, r5⟩ := ret_cells (B1 := B1) (code := code) (u := .slice ao M cap) HF.out.own HF.out.c1 HF.out.below n1
          have HRB := Lib.hid (fun wx (hx : Rd wx (.slice ao M cap) (xs.map bv)) => hx)
          have HRL := Lib.hid (Rd.of_own r1)
          have HRK := Lib.hid (fun k hk => (r1.lt k hk).1)
          have HRW := Lib.hid r2
          have HR3 := Lib.hid r3
          have HR4 := Lib.hid r4
          have HR5 := Lib.hid r5
          have HWZ := Lib.hid hwz
          clear r1 r2 r3 r4 r5 hwz
          go_wp2
          show bodyPost _ _ _ _ _ _
          rw [← HWZ.out]
          refine bodyPost_ret (v := .agg #[.string code, .slice la k lb, .slice ao M cap]) (by have d0 := HR3.out; have d1 := HR4.out; have d2 := HR5.out; simp [results, Tryd.results9, go_sem, d0, d1, d2]) rfl ?_
          exact ⟨_, _, rfl, out, HRL.out, xs, HRB.out, by rw [HL.out]; omega, HX.out, by rw [← HM.out]; omega, HRK.out, HRW.out⟩
end Go.Proofs.YtomeoploojjacaaDoor
