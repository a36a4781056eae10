/- The texts ParseHead, ParseHm, Scope, ParseStm, ParseAp, Bits, one behind the other. -/
import Derived.Test.YtiikionoagmabaaDoorG2
import Derived.Test.YtiikionoagmabaaDoorG1
import Derived.Deep.CutRange
import Derived.Laws.Cover3
import Derived.Scope
import Derived.WalkMore
import Derived.WalkKit
import Derived.Laws.BitsLemmas
import Derived.Laws.BitsAllLaws
/- parse's head walked (layer 15). -/
namespace Go.Proofs.YtiikionoagmabaaDoor
open Go.RowKit

/-- A statement in a block of its own. -/
def H8 (w : World) (q : Nat) (vs : List Value) : Prop := w.heap[q]? = some (.cells vs.toArray 37 (0, 0))
theorem H8.set {w : World} {q : Nat} {vs us : List Value} (h : H8 w q us) (hl : us.length = vs.length) : H8 (setN w q 0 vs) q vs := setN_heap vs [] us w h hl
theorem H8.one {w : World} {q i : Nat} {us : List Value} (h : H8 w q us) (u : Value) : H8 (w.setCell ⟨q, i, none⟩ u) q (us.set i u) := by
  unfold H8 at *
  rw [setCell_row h, List.setIfInBounds_toArray]
theorem H8.cell {w : World} {q : Nat} {vs : List Value} (h : H8 w q vs) {i : Nat} {u : Value} (hu : vs[i]? = some u) : w.cell? ⟨q, i, none⟩ = some u := by
  unfold H8 at h
  rw [cell_of_row _ _ _ _ _ _ h]
  simpa using hu
theorem H8.fr {w : World} {q : Nat} {vs : List Value} (h : H8 w q vs) (i : Nat) : w.frozen? ⟨q, i, none⟩ = false := by unfold H8 at h; simp [World.frozen?, h]
theorem H8.lt {w : World} {q : Nat} {vs : List Value} (h : H8 w q vs) : q < w.heap.size := (Array.getElem?_eq_some_iff.1 h).1
theorem H8.same {w w' : World} {q : Nat} {vs : List Value} (h : H8 w q vs) (e : w'.heap[q]? = w.heap[q]?) : H8 w' q vs := e.trans h
theorem H8.below {w w' : World} {q : Nat} {vs : List Value} (h : H8 w q vs) (hb : Below w.heap.size w w') : H8 w' q vs := h.same (hb.block _ h.lt)
theorem H8.trn {F : Nat → Prop} {w w' : World} {q : Nat} {vs : List Value} (h : H8 w q vs) (ht : Trn F w w') (hF : ¬ F q) : H8 w' q vs := h.same (ht.block _ h.lt hF)
def stC (st : Ps.St) : List Value := stCells ⟨st, .slice none 0 0, .slice none 0 0⟩
/-- The cells of a statement, its texts one by one. -/
def fl (R : Nat) (pre : List (List UInt8)) (n p : Nat) : List Value := [.int .i64 (R : Int), .string ⟨(pre.getD 0 []).toArray⟩, .string ⟨(pre.getD 1 []).toArray⟩, .string ⟨(pre.getD 2 []).toArray⟩, .int .i64 (n : Int), .int .i64 (p : Int), .slice none 0 0, .slice none 0 0]
theorem fl_set {R n p : Nat} {pre : List (List UInt8)} (h : pre.length < 3) (x : List UInt8) : (fl R pre n p).set (pre.length + 1) (.string ⟨x.toArray⟩) = fl R (pre ++ [x]) n p := by
  match pre, h with
  | [], _ => rfl
  | [a], _ => rfl
  | [a, b], _ => rfl
  | a :: b :: c :: d, h => exact absurd h (by simp)
theorem fl_num (R n n' p : Nat) (pre : List (List UInt8)) : (fl R pre n p).set 4 (.int .i64 (n' : Int)) = fl R pre n' p := rfl
/-- What stands while a statement's texts are stored. -/
structure HSt (w4 wr : World) (q R p i : Nat) (c : List Lx.Tok) (pre : List (List UInt8)) (n : Nat) : Prop where
  trn : Trn (only q) w4 wr
  q8 : H8 wr q (fl R pre n p)
  pre : pre = List.replicate (Ps.skipK R) [] ++ Ps.texts (c.take i)
  n : n = Ps.lastN (c.take i) 0
  hi : i ≤ c.length
def HeadQ (r : Ps.Res (Ps.St × List Lx.Tok)) (b g md a f : Nat) (ov sv tv : Value) (lv : Value) (w : World) (e : Ending) (w' : World) : Prop := Trn (only g) w w' ∧ match r with
  | .error (p, c) => (∃ st, e = .returned (.agg (stC st).toArray)) ∧ RB w' g lv ov md sv tv p c
  | .ok (st, r) => e = .returned (.agg (stC st).toArray) ∧ ∃ lv', RB w' g lv' ov md sv tv a f ∧ TR w' b lv' r
theorem below_drewH {B : Nat} {a w : World} (h : Below B a w) : Below B a w.drew := ⟨h.os, h.tape, h.output, h.size, h.block⟩

/-- A slice of tokens held against nil. -/
theorem eql_nil (a : Option Addr) (l c : Nat) (w : World) : (binOp .eql 40 (.slice a l c) (.slice none 0 0)).run Tryd.prog w = .ok (.bool a.isNone) w := by
  simp only [binOp]
  simp [run_equal_slice_nil w _ _ a l c Tryd.underlying40]
theorem neq_nil (a : Option Addr) (l c : Nat) (w : World) : (binOp .neq 40 (.slice a l c) (.slice none 0 0)).run Tryd.prog w = .ok (.bool (!a.isNone)) w := run_neq_slice_nil w _ _ a l c Tryd.underlying40

set_option maxRecDepth 20000 in
set_option maxHeartbeats 30000000 in
theorem head_any (t : Lx.Tok) (ts : List Lx.Tok) (b g md a f d : Nat) (lv ov sv' tv : Value) (w : World) (h : RB w g lv ov md sv' tv a f) (ht : TR w b lv (t :: ts)) (hbg : b ≠ g) (he : Ps.Ends (t :: ts))
    (hov : ∃ ao cap, ov = .slice ao d cap) (hd : d ≤ 8) (htl : (t :: ts).length ≤ 1048576) (hS : SHP w) (hg0 : 0 ≠ g) :
    Calls Tryd.prog 40 #[.pointer (some ⟨g, 0, none⟩)] w fun e w' => HeadQ (Ps.headM d (t :: ts)) b g md a f ov sv' tv lv w e w' := by
  have ht0 := ht
  have hfine := he.1 t (by simp)
  obtain ⟨o, cap, rfl, hcap, hcap2, hcell⟩ := ht
  obtain ⟨c0, c1, c2⟩ := hcell 0 t rfl
  rw [Nat.zero_mul, Nat.add_zero] at c0 c1 c2
  obtain ⟨L, hL⟩ : ∃ L, (t :: ts).length = L := ⟨_, rfl⟩
  have hL0 : 0 < L := by rw [← hL]; simp
  have hL1 : (0 : Int) < (L : Int) := by omega
  rw [hL] at h hcap htl
  have HL := Lib.hid hL
  have HT := Lib.hid ht0
  have HH := Lib.hid h
  have HE := Lib.hid he
  have HOV := Lib.hid hov
  have HSH := Lib.hid hS
  have HF := Lib.hid hfine
  have hgl := h.lt
  obtain ⟨R, hR⟩ : ∃ R, (if t.kind = 1 then Ps.kindOf t.text else 0 : Nat) = R := ⟨_, rfl⟩
  obtain ⟨T, hT⟩ : ∃ T, w.alloc (.cells #[.int .i64 0, .string ⟨#[]⟩, .string ⟨#[]⟩, .string ⟨#[]⟩, .int .i64 0, .int .i64 0, .slice none 0 0, .slice none 0 0] 37) = T := ⟨_, rfl⟩
  have hz : H8 T w.heap.size [.int .i64 0, .string ⟨#[]⟩, .string ⟨#[]⟩, .string ⟨#[]⟩, .int .i64 0, .int .i64 0, .slice none 0 0, .slice none 0 0] := by rw [← hT]; exact heap_alloc_new _ _
  have hbT : Below w.heap.size w T := by rw [← hT]; exact (Below.refl _ _).alloc (Nat.le_refl _) _
  have hTs : T.heap.size = w.heap.size + 1 := by rw [← hT]; simp
  have KO := Lib.hid (fun (wx : World) (hx : SHP wx) => by
    have := kindOf_any t.kind t.text t.place wx hx HF.out
    rw [hR] at this
    unfold tkv at this
    exact this)
  have HR := Lib.hid hR
  have HZ := Lib.hid hz
  have HBT := Lib.hid hbT
  have hcT : T.cell? ⟨g, 0, none⟩ = some (.slice (some ⟨b, o, none⟩) L cap) ∧ T.cell? ⟨b, o, none⟩ = some (.int .i64 (t.kind : Int)) ∧ T.cell? ⟨b, o + 1, none⟩ = some (.string ⟨t.text.toArray⟩) ∧ T.cell? ⟨b, o + 2, none⟩ = some (.int .i64 (t.place : Int)) := ⟨(h.below hbT).c0, (hbT.cell (World.block_lt_of_cell? w _ c0)).trans c0, (hbT.cell (World.block_lt_of_cell? w _ c1)).trans c1, (hbT.cell (World.block_lt_of_cell? w _ c2)).trans c2⟩
  have HCT := Lib.hid hcT
  clear hR hz hbT hcell c0 c1 c2 h ht0 he hov hS hfine hL hcT
  go_enter Tryd.func40, Tryd.ntmps40
  go_upto_region 1 with fail
  go_cut [3] from 8 to 23 (fun s3 wx => ∃ q, s3 = .pointer (some ⟨q, 0, none⟩) ∧ w.heap.size < q ∧ H8 wx q [.int .i64 (R : Int), .string ⟨#[]⟩, .string ⟨#[]⟩, .string ⟨#[]⟩, .int .i64 0, .int .i64 (t.place : Int), .slice none 0 0, .slice none 0 0] ∧ H8 wx w.heap.size [.int .i64 0, .string ⟨#[]⟩, .string ⟨#[]⟩, .string ⟨#[]⟩, .int .i64 0, .int .i64 0, .slice none 0 0, .slice none 0 0] ∧ Below w.heap.size w wx)
  case first =>
    have hs0 : T.drew.cell? ⟨g, 0, none⟩ = some (.slice (some ⟨b, o, none⟩) L cap) ∧ T.drew.cell? ⟨b, o, none⟩ = some (.int .i64 (t.kind : Int)) ∧ T.drew.cell? ⟨b, o + 1, none⟩ = some (.string ⟨t.text.toArray⟩) ∧ T.drew.cell? ⟨b, o + 2, none⟩ = some (.int .i64 (t.place : Int)) := HCT.out
    have hbD : Below T.heap.size T T.drew := below_drewH (Below.refl _ _)
    refine wp_region_held_drew (S := fun w' => w'.cell? ⟨g, 0, none⟩ = some (.slice (some ⟨b, o, none⟩) L cap) ∧ w'.cell? ⟨b, o, none⟩ = some (.int .i64 (t.kind : Int)) ∧ w'.cell? ⟨b, o + 1, none⟩ = some (.string ⟨t.text.toArray⟩) ∧ w'.cell? ⟨b, o + 2, none⟩ = some (.int .i64 (t.place : Int))) (by kernel_rfl) hs0 (fun hH => ?_)
    generalize T.drew = wd at *
    have hSD : SHP wd := (HSH.out.below HBT.out).below hbD
    have hzD := HZ.out.below hbD
    have HZD := Lib.hid hzD
    have HBD := Lib.hid (HBT.out.trans (hbD.mono HBT.out.size))
    have hsz := hbD.size
    obtain ⟨wa, hwa⟩ : ∃ wa, wd.alloc (.cells #[.int .i64 0, .string ⟨#[]⟩, .string ⟨#[]⟩, .string ⟨#[]⟩, .int .i64 0, .int .i64 0, .slice none 0 0, .slice none 0 0] 37) = wa := ⟨_, rfl⟩
    have hba : Below wd.heap.size wd wa := by rw [← hwa]; exact (Below.refl _ _).alloc (Nat.le_refl _) _
    have hna : H8 wa wd.heap.size [.int .i64 0, .string ⟨#[]⟩, .string ⟨#[]⟩, .string ⟨#[]⟩, .int .i64 0, .int .i64 0, .slice none 0 0, .slice none 0 0] := by rw [← hwa]; exact heap_alloc_new _ _
    have CT := Lib.hid (fun (wx wy : World) (hx : wx.cell? ⟨g, 0, none⟩ = some (.slice (some ⟨b, o, none⟩) L cap) ∧ wx.cell? ⟨b, o, none⟩ = some (.int .i64 (t.kind : Int)) ∧ wx.cell? ⟨b, o + 1, none⟩ = some (.string ⟨t.text.toArray⟩) ∧ wx.cell? ⟨b, o + 2, none⟩ = some (.int .i64 (t.place : Int))) (hb : Below wx.heap.size wx wy) => (⟨(hb.cell (World.block_lt_of_cell? wx _ hx.1)).trans hx.1, (hb.cell (World.block_lt_of_cell? wx _ hx.2.1)).trans hx.2.1, (hb.cell (World.block_lt_of_cell? wx _ hx.2.2.1)).trans hx.2.2.1, (hb.cell (World.block_lt_of_cell? wx _ hx.2.2.2)).trans hx.2.2.2⟩ : wy.cell? ⟨g, 0, none⟩ = some (.slice (some ⟨b, o, none⟩) L cap) ∧ wy.cell? ⟨b, o, none⟩ = some (.int .i64 (t.kind : Int)) ∧ wy.cell? ⟨b, o + 1, none⟩ = some (.string ⟨t.text.toArray⟩) ∧ wy.cell? ⟨b, o + 2, none⟩ = some (.int .i64 (t.place : Int))))
    have hsA : wa.cell? ⟨g, 0, none⟩ = some (.slice (some ⟨b, o, none⟩) L cap) ∧ wa.cell? ⟨b, o, none⟩ = some (.int .i64 (t.kind : Int)) ∧ wa.cell? ⟨b, o + 1, none⟩ = some (.string ⟨t.text.toArray⟩) ∧ wa.cell? ⟨b, o + 2, none⟩ = some (.int .i64 (t.place : Int)) := CT.out _ _ hs0 hba
    have hSA : SHP wa := hSD.below hba
    have HBA := Lib.hid hba
    have HNA := Lib.hid hna
    clear hbD hzD hba hna
    refine heldTake (i := 0) (v := ?_) rfl (by kernel_rfl) (by kernel_rfl) (fun _ _ _ h => h) (by rfl) (by assumption) (fun w hSw => ?_) ?_; rotate_left; focus ((try dsimp only at hSw); go_simp; try with_reducible rfl)
    try simp only [Act.put, List.setIfInBounds_toArray, List.set_cons_zero, List.set_cons_succ]
    refine heldTake (i := 1) (v := ?_) rfl (by kernel_rfl) (by kernel_rfl) (fun _ _ _ h => h) (by rfl) (by assumption) (fun w hSw => ?_) ?_; rotate_left; focus ((try dsimp only at hSw); go_simp; try with_reducible rfl)
    try simp only [Act.put, List.setIfInBounds_toArray, List.set_cons_zero, List.set_cons_succ]
    refine heldTake (i := 2) (v := ?_) rfl (by kernel_rfl) (by kernel_rfl) (fun _ _ _ h => h) (by rfl) (by assumption) (fun w hSw => ?_) ?_; rotate_left; focus ((try dsimp only at hSw); go_simp; try with_reducible rfl)
    try simp only [Act.put, List.setIfInBounds_toArray, List.set_cons_zero, List.set_cons_succ]
    refine heldTake (i := 3) (v := ?_) rfl (by kernel_rfl) (by kernel_rfl) (fun _ _ _ h => h) (by rfl) (by assumption) (fun w hSw => ?_) ?_; rotate_left; focus ((try dsimp only at hSw); go_simp; try with_reducible rfl)
    try simp only [Act.put, List.setIfInBounds_toArray, List.set_cons_zero, List.set_cons_succ]
    refine heldTake (i := 4) (v := ?_) rfl (by kernel_rfl) (by kernel_rfl) (fun _ _ _ h => h) (by rfl) (by assumption) (fun w hSw => ?_) ?_; rotate_left; focus ((try dsimp only at hSw); go_simp; try with_reducible rfl)
    try simp only [Act.put, List.setIfInBounds_toArray, List.set_cons_zero, List.set_cons_succ]
    refine heldTake (i := 5) (v := ?_) rfl (by kernel_rfl) (by kernel_rfl) (fun _ _ _ h => h) (by rfl) (by assumption) (fun w hSw => ?_) ?_; rotate_left; focus ((try dsimp only at hSw); go_simp; try with_reducible rfl)
    try simp only [Act.put, List.setIfInBounds_toArray, List.set_cons_zero, List.set_cons_succ]
    refine heldTake (i := 7) (v := ?_) rfl (by kernel_rfl) (by kernel_rfl) (fun _ _ _ h => h) (by rfl) (by assumption) (fun w hSw => ?_) ?_; rotate_left; focus ((try dsimp only at hSw); go_simp; try with_reducible rfl)
    try simp only [Act.put, List.setIfInBounds_toArray, List.set_cons_zero, List.set_cons_succ]
    refine heldTake (i := 8) (v := ?_) rfl (by kernel_rfl) (by kernel_rfl) (fun _ _ _ h => h) (by rfl) (by assumption) (fun w hSw => ?_) ?_; rotate_left; focus ((try dsimp only at hSw); go_simp; try with_reducible rfl)
    try simp only [Act.put, List.setIfInBounds_toArray, List.set_cons_zero, List.set_cons_succ]
    refine heldTake (i := 9) (v := ?_) rfl (by kernel_rfl) (by kernel_rfl) (fun _ _ _ h => h) (by rfl) (by assumption) (fun w hSw => ?_) ?_; rotate_left; focus ((try dsimp only at hSw); go_simp; try with_reducible rfl)
    try simp only [Act.put, List.setIfInBounds_toArray, List.set_cons_zero, List.set_cons_succ]
    refine heldTake (i := 10) (v := ?_) rfl (by kernel_rfl) (by kernel_rfl) (fun _ _ _ h => h) (by rfl) (by assumption) (fun w hSw => ?_) ?_; rotate_left; focus ((try dsimp only at hSw); go_simp; try with_reducible rfl)
    try simp only [Act.put, List.setIfInBounds_toArray, List.set_cons_zero, List.set_cons_succ]
    refine heldTake (i := 11) (v := ?_) rfl (by kernel_rfl) (by kernel_rfl) (fun _ _ _ h => h) (by rfl) (by assumption) (fun w hSw => ?_) ?_; rotate_left; focus ((try dsimp only at hSw); go_simp; try with_reducible rfl)
    try simp only [Act.put, List.setIfInBounds_toArray, List.set_cons_zero, List.set_cons_succ]
    refine heldTake (i := 12) (v := ?_) rfl (by kernel_rfl) (by kernel_rfl) (fun _ _ _ h => h) (by rfl) (by assumption) (fun w hSw => ?_) ?_; rotate_left; focus ((try dsimp only at hSw); go_simp; try with_reducible rfl)
    try simp only [Act.put, List.setIfInBounds_toArray, List.set_cons_zero, List.set_cons_succ]
    refine heldTake (i := 13) (v := ?_) rfl (by kernel_rfl) (by kernel_rfl) (fun _ _ _ h => h) (by rfl) (by assumption) (fun w hSw => ?_) ?_; rotate_left; focus ((try dsimp only at hSw); go_simp; try with_reducible rfl)
    try simp only [Act.put, List.setIfInBounds_toArray, List.set_cons_zero, List.set_cons_succ]
    -- TWO 6 Op.call { callee := Callee.value (Operand.func 56), args := #[Operand.tmp 13], a | 15 Op.alloc 37
    refine heldTwo (i := 6) (j := 15) rfl rfl (by kernel_rfl) (by rfl) (by rfl) (fun K hK => ?_) (fun K hK => ?_)
    · go_simp; go_at_call 56; refine (KO.out _ (by assumption)).mono ?_; rintro e w2 ⟨rfl, hb2⟩
      have s2 : w2.cell? ⟨g, 0, none⟩ = some (.slice (some ⟨b, o, none⟩) L cap) ∧ w2.cell? ⟨b, o, none⟩ = some (.int .i64 (t.kind : Int)) ∧ w2.cell? ⟨b, o + 1, none⟩ = some (.string ⟨t.text.toArray⟩) ∧ w2.cell? ⟨b, o + 2, none⟩ = some (.int .i64 (t.place : Int)) := CT.out _ _ (by assumption) hb2
      first | (refine hK.out _ _ s2 ?_) | (go_wp2_with fail; refine hK.out _ _ s2 ?_)
      clear hK K
      try simp only [Act.put, List.setIfInBounds_toArray, List.set_cons_zero, List.set_cons_succ]
      refine heldTake (i := 14) (v := ?_) rfl (by kernel_rfl) (by kernel_rfl) (fun _ _ _ h => h) (by rfl) (by assumption) (fun w hSw => ?_) ?_; rotate_left; focus ((try dsimp only at hSw); go_simp; try with_reducible rfl)
      try simp only [Act.put, List.setIfInBounds_toArray, List.set_cons_zero, List.set_cons_succ]
      -- NEXT 15 Op.alloc 37
      refine heldNext (i := 15) rfl (by kernel_rfl) (by rfl) (fun K hK => ?_)
      go_simp
      obtain ⟨w3, hw3⟩ : ∃ w3, w2.alloc (.cells #[.int .i64 0, .string ⟨#[]⟩, .string ⟨#[]⟩, .string ⟨#[]⟩, .int .i64 0, .int .i64 0, .slice none 0 0, .slice none 0 0] 37) = w3 := ⟨_, rfl⟩
      have hb3 : Below w2.heap.size w2 w3 := by rw [← hw3]; exact (Below.refl _ _).alloc (Nat.le_refl _) _
      have s3 : w3.cell? ⟨g, 0, none⟩ = some (.slice (some ⟨b, o, none⟩) L cap) ∧ w3.cell? ⟨b, o, none⟩ = some (.int .i64 (t.kind : Int)) ∧ w3.cell? ⟨b, o + 1, none⟩ = some (.string ⟨t.text.toArray⟩) ∧ w3.cell? ⟨b, o + 2, none⟩ = some (.int .i64 (t.place : Int)) := CT.out _ _ s2 hb3
      have hn3 : H8 w3 w2.heap.size [.int .i64 0, .string ⟨#[]⟩, .string ⟨#[]⟩, .string ⟨#[]⟩, .int .i64 0, .int .i64 0, .slice none 0 0, .slice none 0 0] := by rw [← hw3]; exact heap_alloc_new _ _
      first | (refine hK.out _ _ s3 ?_) | (rw [hw3]; refine hK.out _ _ s3 ?_)
      clear hK K
      try simp only [Act.put, List.setIfInBounds_toArray, List.set_cons_zero, List.set_cons_succ]
      -- NEXT 16 Op.store 37 (Operand.tmp 3) (Operand.tmp 22)
      refine heldNext (i := 16) rfl (by kernel_rfl) (by rfl) (fun K hK => ?_)
      have hn : H8 w3 w2.heap.size [.int .i64 0, .string ⟨#[]⟩, .string ⟨#[]⟩, .string ⟨#[]⟩, .int .i64 0, .int .i64 0, .slice none 0 0, .slice none 0 0] := hn3
      have hbw : Below w.heap.size w w3 := (HBD.out.trans (hb2.mono HBD.out.size)).trans (hb3.mono (by have := HBD.out.size; have := hb2.size; omega))
      have hq1 : w.heap.size < w2.heap.size := by have := hb2.size; omega
      have z0 := hn.cell (i := 0) rfl
      have z1 := hn.cell (i := 1) rfl
      have z2 := hn.cell (i := 2) rfl
      have z3 := hn.cell (i := 3) rfl
      have z4 := hn.cell (i := 4) rfl
      have z5 := hn.cell (i := 5) rfl
      have z6 := hn.cell (i := 6) rfl
      have z7 := hn.cell (i := 7) rfl
      have f0 := hn.fr 0
      have f1 := hn.fr 1
      have f2 := hn.fr 2
      have f3 := hn.fr 3
      have f4 := hn.fr 4
      have f5 := hn.fr 5
      have f6 := hn.fr 6
      have f7 := hn.fr 7
      have hst := hn.set (vs := [.int .i64 (R : Int), .string ⟨#[]⟩, .string ⟨#[]⟩, .string ⟨#[]⟩, .int .i64 0, .int .i64 (t.place : Int), .slice none 0 0, .slice none 0 0]) rfl
      have hTr : Trn (only w2.heap.size) w3 (setN w3 w2.heap.size 0 [.int .i64 (R : Int), .string ⟨#[]⟩, .string ⟨#[]⟩, .string ⟨#[]⟩, .int .i64 0, .int .i64 (t.place : Int), .slice none 0 0, .slice none 0 0]) := setN_trn (F := only w2.heap.size) (show w2.heap.size = w2.heap.size from rfl) _ _ (Trn.refl _ _)
      have hbl : b < w.heap.size := HT.out.lt (by simp)
      have hcc : ∀ (k i : Nat) u, k ≠ w2.heap.size → w3.cell? ⟨k, i, none⟩ = some u → (setN w3 w2.heap.size 0 [.int .i64 (R : Int), .string ⟨#[]⟩, .string ⟨#[]⟩, .string ⟨#[]⟩, .int .i64 0, .int .i64 (t.place : Int), .slice none 0 0, .slice none 0 0]).cell? ⟨k, i, none⟩ = some u := fun k i u hk hu => (World.cell?_of_block (a := ⟨k, i, none⟩) (setN_other hk _ _)).trans hu
      have s4 : (setN w3 w2.heap.size 0 [.int .i64 (R : Int), .string ⟨#[]⟩, .string ⟨#[]⟩, .string ⟨#[]⟩, .int .i64 0, .int .i64 (t.place : Int), .slice none 0 0, .slice none 0 0]).cell? ⟨g, 0, none⟩ = some (.slice (some ⟨b, o, none⟩) L cap) ∧ (setN w3 w2.heap.size 0 [.int .i64 (R : Int), .string ⟨#[]⟩, .string ⟨#[]⟩, .string ⟨#[]⟩, .int .i64 0, .int .i64 (t.place : Int), .slice none 0 0, .slice none 0 0]).cell? ⟨b, o, none⟩ = some (.int .i64 (t.kind : Int)) ∧ (setN w3 w2.heap.size 0 [.int .i64 (R : Int), .string ⟨#[]⟩, .string ⟨#[]⟩, .string ⟨#[]⟩, .int .i64 0, .int .i64 (t.place : Int), .slice none 0 0, .slice none 0 0]).cell? ⟨b, o + 1, none⟩ = some (.string ⟨t.text.toArray⟩) ∧ (setN w3 w2.heap.size 0 [.int .i64 (R : Int), .string ⟨#[]⟩, .string ⟨#[]⟩, .string ⟨#[]⟩, .int .i64 0, .int .i64 (t.place : Int), .slice none 0 0, .slice none 0 0]).cell? ⟨b, o + 2, none⟩ = some (.int .i64 (t.place : Int)) := ⟨hcc _ _ _ (by omega) s3.1, hcc _ _ _ (by omega) s3.2.1, hcc _ _ _ (by omega) s3.2.2.1, hcc _ _ _ (by omega) s3.2.2.2⟩
      have hzz := (HZD.out.below (hb2.trans (hb3.mono hb2.size))).trn hTr (show ¬ (w.heap.size = w2.heap.size) by omega)
      have hbe : Below w.heap.size w (setN w3 w2.heap.size 0 [.int .i64 (R : Int), .string ⟨#[]⟩, .string ⟨#[]⟩, .string ⟨#[]⟩, .int .i64 0, .int .i64 (t.place : Int), .slice none 0 0, .slice none 0 0]) := hbw.trans ⟨hTr.os, hTr.tape, hTr.output, by have := hTr.size; have := hbw.size; omega, fun k hk => hTr.block k (by have := hbw.size; omega) (show ¬ (k = w2.heap.size) by omega)⟩
      clear hcc hTr hbl
      go_simp
      refine hK.out _ _ s4 ?_; clear hK K
      clear z0 z1 z2 z3 z4 z5 z6 z7 f0 f1 f2 f3 f4 f5 f6 f7
      try simp only [Act.put, List.setIfInBounds_toArray, List.set_cons_zero, List.set_cons_succ]
      refine wpAnyH_done (by kernel_rfl) ?_ _
      simp only [Exit.then]
      go_step
      go_meet
      exact ⟨_, rfl, hq1, hst, hzz, hbe⟩
    · go_simp; refine hK.out _ _ (by assumption) ?_; clear hK K
      try simp only [Act.put, List.setIfInBounds_toArray, List.set_cons_zero, List.set_cons_succ]
      -- NEXT 6 Op.call { callee := Callee.value (Operand.func 56), args := #[Operand.tmp 13], argTypes := #[53] }
      refine heldNext (i := 6) rfl (by kernel_rfl) (by rfl) (fun K hK => ?_)
      go_simp; go_at_call 56; refine (KO.out _ (by assumption)).mono ?_; rintro e w2 ⟨rfl, hb2⟩
      have s2 : w2.cell? ⟨g, 0, none⟩ = some (.slice (some ⟨b, o, none⟩) L cap) ∧ w2.cell? ⟨b, o, none⟩ = some (.int .i64 (t.kind : Int)) ∧ w2.cell? ⟨b, o + 1, none⟩ = some (.string ⟨t.text.toArray⟩) ∧ w2.cell? ⟨b, o + 2, none⟩ = some (.int .i64 (t.place : Int)) := CT.out _ _ (by assumption) hb2
      first | (refine hK.out _ _ s2 ?_) | (go_wp2_with fail; refine hK.out _ _ s2 ?_)
      clear hK K
      try simp only [Act.put, List.setIfInBounds_toArray, List.set_cons_zero, List.set_cons_succ]
      refine heldTake (i := 14) (v := ?_) rfl (by kernel_rfl) (by kernel_rfl) (fun _ _ _ h => h) (by rfl) (by assumption) (fun w hSw => ?_) ?_; rotate_left; focus ((try dsimp only at hSw); go_simp; try with_reducible rfl)
      try simp only [Act.put, List.setIfInBounds_toArray, List.set_cons_zero, List.set_cons_succ]
      -- NEXT 16 Op.store 37 (Operand.tmp 3) (Operand.tmp 22)
      refine heldNext (i := 16) rfl (by kernel_rfl) (by rfl) (fun K hK => ?_)
      have s3 := s2
      have hn : H8 w2 wd.heap.size [.int .i64 0, .string ⟨#[]⟩, .string ⟨#[]⟩, .string ⟨#[]⟩, .int .i64 0, .int .i64 0, .slice none 0 0, .slice none 0 0] := HNA.out.below hb2
      have hbw : Below w.heap.size w w2 := (HBD.out.trans (HBA.out.mono HBD.out.size)).trans (hb2.mono (by have := HBD.out.size; have := HBA.out.size; omega))
      have hq1 : w.heap.size < wd.heap.size := by have := hb2.size; omega
      have z0 := hn.cell (i := 0) rfl
      have z1 := hn.cell (i := 1) rfl
      have z2 := hn.cell (i := 2) rfl
      have z3 := hn.cell (i := 3) rfl
      have z4 := hn.cell (i := 4) rfl
      have z5 := hn.cell (i := 5) rfl
      have z6 := hn.cell (i := 6) rfl
      have z7 := hn.cell (i := 7) rfl
      have f0 := hn.fr 0
      have f1 := hn.fr 1
      have f2 := hn.fr 2
      have f3 := hn.fr 3
      have f4 := hn.fr 4
      have f5 := hn.fr 5
      have f6 := hn.fr 6
      have f7 := hn.fr 7
      have hst := hn.set (vs := [.int .i64 (R : Int), .string ⟨#[]⟩, .string ⟨#[]⟩, .string ⟨#[]⟩, .int .i64 0, .int .i64 (t.place : Int), .slice none 0 0, .slice none 0 0]) rfl
      have hTr : Trn (only wd.heap.size) w2 (setN w2 wd.heap.size 0 [.int .i64 (R : Int), .string ⟨#[]⟩, .string ⟨#[]⟩, .string ⟨#[]⟩, .int .i64 0, .int .i64 (t.place : Int), .slice none 0 0, .slice none 0 0]) := setN_trn (F := only wd.heap.size) (show wd.heap.size = wd.heap.size from rfl) _ _ (Trn.refl _ _)
      have hbl : b < w.heap.size := HT.out.lt (by simp)
      have hcc : ∀ (k i : Nat) u, k ≠ wd.heap.size → w2.cell? ⟨k, i, none⟩ = some u → (setN w2 wd.heap.size 0 [.int .i64 (R : Int), .string ⟨#[]⟩, .string ⟨#[]⟩, .string ⟨#[]⟩, .int .i64 0, .int .i64 (t.place : Int), .slice none 0 0, .slice none 0 0]).cell? ⟨k, i, none⟩ = some u := fun k i u hk hu => (World.cell?_of_block (a := ⟨k, i, none⟩) (setN_other hk _ _)).trans hu
      have s4 : (setN w2 wd.heap.size 0 [.int .i64 (R : Int), .string ⟨#[]⟩, .string ⟨#[]⟩, .string ⟨#[]⟩, .int .i64 0, .int .i64 (t.place : Int), .slice none 0 0, .slice none 0 0]).cell? ⟨g, 0, none⟩ = some (.slice (some ⟨b, o, none⟩) L cap) ∧ (setN w2 wd.heap.size 0 [.int .i64 (R : Int), .string ⟨#[]⟩, .string ⟨#[]⟩, .string ⟨#[]⟩, .int .i64 0, .int .i64 (t.place : Int), .slice none 0 0, .slice none 0 0]).cell? ⟨b, o, none⟩ = some (.int .i64 (t.kind : Int)) ∧ (setN w2 wd.heap.size 0 [.int .i64 (R : Int), .string ⟨#[]⟩, .string ⟨#[]⟩, .string ⟨#[]⟩, .int .i64 0, .int .i64 (t.place : Int), .slice none 0 0, .slice none 0 0]).cell? ⟨b, o + 1, none⟩ = some (.string ⟨t.text.toArray⟩) ∧ (setN w2 wd.heap.size 0 [.int .i64 (R : Int), .string ⟨#[]⟩, .string ⟨#[]⟩, .string ⟨#[]⟩, .int .i64 0, .int .i64 (t.place : Int), .slice none 0 0, .slice none 0 0]).cell? ⟨b, o + 2, none⟩ = some (.int .i64 (t.place : Int)) := ⟨hcc _ _ _ (by omega) s3.1, hcc _ _ _ (by omega) s3.2.1, hcc _ _ _ (by omega) s3.2.2.1, hcc _ _ _ (by omega) s3.2.2.2⟩
      have hzz := (HZD.out.below (HBA.out.trans (hb2.mono HBA.out.size))).trn hTr (show ¬ (w.heap.size = wd.heap.size) by omega)
      have hbe : Below w.heap.size w (setN w2 wd.heap.size 0 [.int .i64 (R : Int), .string ⟨#[]⟩, .string ⟨#[]⟩, .string ⟨#[]⟩, .int .i64 0, .int .i64 (t.place : Int), .slice none 0 0, .slice none 0 0]) := hbw.trans ⟨hTr.os, hTr.tape, hTr.output, by have := hTr.size; have := hbw.size; omega, fun k hk => hTr.block k (by have := hbw.size; omega) (show ¬ (k = wd.heap.size) by omega)⟩
      clear hcc hTr hbl
      go_simp
      refine hK.out _ _ s4 ?_; clear hK K
      clear z0 z1 z2 z3 z4 z5 z6 z7 f0 f1 f2 f3 f4 f5 f6 f7
      try simp only [Act.put, List.setIfInBounds_toArray, List.set_cons_zero, List.set_cons_succ]
      refine wpAnyH_done (by kernel_rfl) ?_ _
      simp only [Exit.then]
      go_step
      go_meet
      exact ⟨_, rfl, hq1, hst, hzz, hbe⟩
  case rest =>
    obtain ⟨q, rfl, hq, hq8, hz8, hb⟩ := hcut
    clear KO HZ HBT HCT hT hTs
    have HB := Lib.hid hb
    have HQ8 := Lib.hid hq8
    have HZ8 := Lib.hid hz8
    have hqR := hq8.cell (i := 0) rfl
    have hgc := (HH.out.below hb).c0
    have htr := HT.out.below hb
    have HTC := Lib.hid htr
    obtain ⟨o2, cap2, e2, _, _, hcell⟩ := htr
    simp only [Value.slice.injEq, Option.some.injEq, Addr.mk.injEq, true_and, and_true] at e2
    obtain ⟨_, rfl, rfl⟩ := e2
    obtain ⟨c0, c1, c2⟩ := hcell 0 t rfl
    rw [Nat.zero_mul, Nat.add_zero] at c0 c1 c2
    have hbl : b < w.heap.size := HT.out.lt (by simp)
    clear hcell hb hq8 hz8
    by_cases hR0 : R = 0
    · subst hR0
      have hM : Ps.headM d (t :: ts) = .error (t.place, 20) := by
        rw [Ps.headM, if_neg]
        rintro ⟨h1, h2⟩
        have := HR.out
        rw [if_pos h1] at this
        exact h2 this
      have HM := Lib.hid hM
      have WR := fun w1 (hr : RB w1 g (.slice (some ⟨b, o, none⟩) L cap) ov md sv' tv a f) => wrong_any t.kind t.text t.place 20 g md a f _ _ _ _ w1 hr
      unfold tkv at WR
      have hr1 := HH.out.below HB.out
      clear hM
      go_wp2_with fail
      refine (WR _ hr1).mono ?_
      rintro e w2 ⟨rfl, hr2, ht2⟩
      have hy := HQ8.out.trn ht2 (show ¬ (q = g) by omega)
      have hz := HZ8.out.trn ht2 (show ¬ (w.heap.size = g) by omega)
      have y0 := hy.cell (i := 0) rfl
      have y1 := hy.cell (i := 1) rfl
      have y2 := hy.cell (i := 2) rfl
      have y3 := hy.cell (i := 3) rfl
      have y4 := hy.cell (i := 4) rfl
      have y5 := hy.cell (i := 5) rfl
      have y6 := hy.cell (i := 6) rfl
      have y7 := hy.cell (i := 7) rfl
      have z0 := hz.cell (i := 0) rfl
      have z1 := hz.cell (i := 1) rfl
      have z2 := hz.cell (i := 2) rfl
      have z3 := hz.cell (i := 3) rfl
      have z4 := hz.cell (i := 4) rfl
      have z5 := hz.cell (i := 5) rfl
      have z6 := hz.cell (i := 6) rfl
      have z7 := hz.cell (i := 7) rfl
      have zf0 := hz.fr 0
      have zf1 := hz.fr 1
      have zf2 := hz.fr 2
      have zf3 := hz.fr 3
      have zf4 := hz.fr 4
      have zf5 := hz.fr 5
      have zf6 := hz.fr 6
      have zf7 := hz.fr 7
      have hset := hz.set (vs := [.int .i64 ((0 : Nat) : Int), .string ⟨#[]⟩, .string ⟨#[]⟩, .string ⟨#[]⟩, .int .i64 0, .int .i64 (t.place : Int), .slice none 0 0, .slice none 0 0]) rfl
      have hTr : Trn (fun k => k = g ∨ w.heap.size ≤ k) w (setN w2 w.heap.size 0 [.int .i64 ((0 : Nat) : Int), .string ⟨#[]⟩, .string ⟨#[]⟩, .string ⟨#[]⟩, .int .i64 0, .int .i64 (t.place : Int), .slice none 0 0, .slice none 0 0]) := setN_trn (.inr (Nat.le_refl _)) _ _ (((Trn.of_below HB.out).then ht2).more (fun k hk => .inl hk))
      have hrr := hr2.same (w' := setN w2 w.heap.size 0 [.int .i64 ((0 : Nat) : Int), .string ⟨#[]⟩, .string ⟨#[]⟩, .string ⟨#[]⟩, .int .i64 0, .int .i64 (t.place : Int), .slice none 0 0, .slice none 0 0]) (setN_other (by omega) _ _)
      have HSET := Lib.hid hset
      have HTR := Lib.hid hTr
      have HRR := Lib.hid hrr
      clear hset hTr hrr hy hz hr1 hr2 ht2 WR hqR hgc
      go_wp2
      change bodyPost _ _ _ _ _ (setN w2 w.heap.size 0 [.int .i64 ((0 : Nat) : Int), .string ⟨#[]⟩, .string ⟨#[]⟩, .string ⟨#[]⟩, .int .i64 0, .int .i64 (t.place : Int), .slice none 0 0, .slice none 0 0])
      have hset := HSET.out
      have hTr := HTR.out
      have hrr := HRR.out
      generalize setN w2 w.heap.size 0 [.int .i64 ((0 : Nat) : Int), .string ⟨#[]⟩, .string ⟨#[]⟩, .string ⟨#[]⟩, .int .i64 0, .int .i64 (t.place : Int), .slice none 0 0, .slice none 0 0] = W at hset hTr hrr ⊢
      have r0 := hset.cell (i := 0) rfl
      have r1 := hset.cell (i := 1) rfl
      have r2 := hset.cell (i := 2) rfl
      have r3 := hset.cell (i := 3) rfl
      have r4 := hset.cell (i := 4) rfl
      have r5 := hset.cell (i := 5) rfl
      have r6 := hset.cell (i := 6) rfl
      have r7 := hset.cell (i := 7) rfl
      refine bodyPost_ret (v := .agg #[.int .i64 ((0 : Nat) : Int), .string ⟨#[]⟩, .string ⟨#[]⟩, .string ⟨#[]⟩, .int .i64 0, .int .i64 (t.place : Int), .slice none 0 0, .slice none 0 0]) (by simp [results, Tryd.results40, go_sem, r0, r1, r2, r3, r4, r5, r6, r7]) rfl ?_
      unfold HeadQ
      rw [HM.out, show ts.length + 1 = L from HL.out]
      exact ⟨⟨hTr.os, hTr.tape, hTr.output, hTr.size, fun j hj hF => hTr.block j hj (fun e => e.elim hF (fun e => by omega))⟩, ⟨⟨0, [], [], [], 0, t.place, [], []⟩, rfl⟩, hrr⟩
    · have hk1 : t.kind = 1 := by
        have := HR.out
        by_cases h1 : t.kind = 1
        · exact h1
        · rw [if_neg h1] at this; exact absurd this.symm hR0
      have hkR : Ps.kindOf t.text = R := by have := HR.out; rw [if_pos hk1] at this; exact this
      have hle := Ps.kindOf_le (x := t.text) (by rw [hkR]; exact hR0)
      rw [hkR] at hle
      have hnm : Ps.isName (Ps.fw R) t = true := by
        unfold Ps.isName
        rw [hk1, Ps.fw_of hkR hR0]
        simp
      have hfx : Ps.takeW d (Ps.fw R :: Ps.tailW R) (t :: ts) = Ps.takeW d (Ps.tailW R) ts := by
        obtain ⟨x, y, z, e, _⟩ := Ps.fits_fw ⟨R, by omega⟩ hle.1
        rw [Ps.takeW, Ps.fitsT_fw hle.1 hle.2 HF.out, if_pos hnm, if_neg (fun h => by rw [show Ps.fw R = x :: y :: z from e] at h; cases h.1)]
      have hne : ∀ x ∈ Ps.fw R :: Ps.tailW R, x ≠ [] := Ps.words_ne ⟨R, by omega⟩ hle.1
      have hwl : (Ps.tailW R).length ≤ 4 := Ps.tail_len ⟨R, by omega⟩
      have SHx := Lib.hid (fun (wx : World) (hx : SHP wx) => pshape_any R (by omega) wx hx)
      have PWx := Lib.hid (fun wx => pwords_any R hle.1 hle.2 wx)
      have hSc := HSH.out.below HB.out
      have r1 : ((R : Int) == 0) = false := beq_eq_false_iff_ne.2 (by omega)
      have r2 : ((R : Int) = 0) = False := eq_false (by omega)
      have HFX := Lib.hid hfx
      have HTK := Lib.hid (fun (w2 : World) (hb2 : Below wc.heap.size wc w2) (gw n cw : Nat) (hn : n = (Ps.tailW R).length + 1) (hgw : wc.heap.size ≤ gw) (hrd : Rd w2 (.slice (some ⟨gw, 0, none⟩) n cw) ((Ps.fw R :: Ps.tailW R).map sv)) => by
        have hbw := HB.out.trans (hb2.mono HB.out.size)
        have hsz := HB.out.size
        have := take_any (Ps.fw R :: Ps.tailW R) (t :: ts) b g md a f d (.slice (some ⟨b, o, none⟩) L cap) ov sv' tv (.slice (some ⟨gw, 0, none⟩) n cw) w2 (HH.out.below hbw) (HL.out ▸ (HT.out.below hbw)) hbg HE.out HOV.out hd hrd hne (by simp) (by simp only [List.length_cons]; omega) (fun e => by simp [Value.ownBlock] at e; omega) (by rw [HL.out]; exact htl)
        rw [HFX.out] at this
        exact this)
      have HKR := Lib.hid hkR
      clear hR0 hkR hnm hfx hne c0 c1 c2
      go_wp2_with fail
      refine (SHx.out _ hSc).mono ?_
      rintro e w1 ⟨rfl, rfl⟩
      go_wp2_with fail
      refine (PWx.out _).mono ?_
      rintro e w2 ⟨gw, nw, cw, rfl, hnw, hgw, hrw, _, hbw⟩
      have HT2 := HTK.out _ hbw gw nw cw hnw hgw hrw
      clear hnw hrw HTK
      go_wp2_with fail
      refine HT2.mono ?_
      rintro e w3 ⟨ht3, hm3⟩
      clear HT2 SHx PWx hSc
      have hb2 := HB.out.trans (hbw.mono HB.out.size)
      have hy := (HQ8.out.below hbw).trn ht3 (show ¬ (q = g) by omega)
      have hz := (HZ8.out.below hbw).trn ht3 (show ¬ (w.heap.size = g) by omega)
      have htw : Trn (only g) w w3 := (Trn.of_below hb2).then ht3
      have hsb := hb2.size
      cases htk : Ps.takeW d (Ps.tailW R) ts with
      | error x =>
        obtain ⟨ep, ec⟩ := x
        rw [htk] at hm3
        obtain ⟨rfl, hr3⟩ := hm3
        have hM := (Ps.head_take hd HE.out.1 hk1 HKR.out (by omega)).1 _ htk
        have HM := Lib.hid hM
        have y0 := hy.cell (i := 0) rfl
        have y1 := hy.cell (i := 1) rfl
        have y2 := hy.cell (i := 2) rfl
        have y3 := hy.cell (i := 3) rfl
        have y4 := hy.cell (i := 4) rfl
        have y5 := hy.cell (i := 5) rfl
        have y6 := hy.cell (i := 6) rfl
        have y7 := hy.cell (i := 7) rfl
        have z0 := hz.cell (i := 0) rfl
        have z1 := hz.cell (i := 1) rfl
        have z2 := hz.cell (i := 2) rfl
        have z3 := hz.cell (i := 3) rfl
        have z4 := hz.cell (i := 4) rfl
        have z5 := hz.cell (i := 5) rfl
        have z6 := hz.cell (i := 6) rfl
        have z7 := hz.cell (i := 7) rfl
        have zf0 := hz.fr 0
        have zf1 := hz.fr 1
        have zf2 := hz.fr 2
        have zf3 := hz.fr 3
        have zf4 := hz.fr 4
        have zf5 := hz.fr 5
        have zf6 := hz.fr 6
        have zf7 := hz.fr 7
        have hset := hz.set (vs := [.int .i64 (R : Int), .string ⟨#[]⟩, .string ⟨#[]⟩, .string ⟨#[]⟩, .int .i64 0, .int .i64 (t.place : Int), .slice none 0 0, .slice none 0 0]) rfl
        have hTr : Trn (fun k => k = g ∨ w.heap.size ≤ k) w (setN w3 w.heap.size 0 [.int .i64 (R : Int), .string ⟨#[]⟩, .string ⟨#[]⟩, .string ⟨#[]⟩, .int .i64 0, .int .i64 (t.place : Int), .slice none 0 0, .slice none 0 0]) := setN_trn (.inr (Nat.le_refl _)) _ _ (htw.more (fun k hk => .inl hk))
        have hrr := hr3.same (w' := setN w3 w.heap.size 0 [.int .i64 (R : Int), .string ⟨#[]⟩, .string ⟨#[]⟩, .string ⟨#[]⟩, .int .i64 0, .int .i64 (t.place : Int), .slice none 0 0, .slice none 0 0]) (setN_other (by omega) _ _)
        have HSET := Lib.hid hset
        have HTR := Lib.hid hTr
        have HRR := Lib.hid hrr
        have en := fun wx => eql_nil none 0 0 wx
        clear hset hTr hrr hy hz hr3 ht3 htw hM htk
        go_wp2
        change bodyPost _ _ _ _ _ (setN w3 w.heap.size 0 [.int .i64 (R : Int), .string ⟨#[]⟩, .string ⟨#[]⟩, .string ⟨#[]⟩, .int .i64 0, .int .i64 (t.place : Int), .slice none 0 0, .slice none 0 0])
        have hset := HSET.out
        have hTr := HTR.out
        have hrr := HRR.out
        generalize setN w3 w.heap.size 0 [.int .i64 (R : Int), .string ⟨#[]⟩, .string ⟨#[]⟩, .string ⟨#[]⟩, .int .i64 0, .int .i64 (t.place : Int), .slice none 0 0, .slice none 0 0] = W at hset hTr hrr ⊢
        have r0 := hset.cell (i := 0) rfl
        have r1 := hset.cell (i := 1) rfl
        have r2 := hset.cell (i := 2) rfl
        have r3 := hset.cell (i := 3) rfl
        have r4 := hset.cell (i := 4) rfl
        have r5 := hset.cell (i := 5) rfl
        have r6 := hset.cell (i := 6) rfl
        have r7 := hset.cell (i := 7) rfl
        refine bodyPost_ret (v := .agg #[.int .i64 (R : Int), .string ⟨#[]⟩, .string ⟨#[]⟩, .string ⟨#[]⟩, .int .i64 0, .int .i64 (t.place : Int), .slice none 0 0, .slice none 0 0]) (by simp [results, Tryd.results40, go_sem, r0, r1, r2, r3, r4, r5, r6, r7]) rfl ?_
        unfold HeadQ
        rw [HM.out, show ts.length + 1 = L from HL.out]
        exact ⟨⟨hTr.os, hTr.tape, hTr.output, hTr.size, fun j hj hF => hTr.block j hj (fun e => e.elim hF (fun e => by omega))⟩, ⟨⟨R, [], [], [], 0, t.place, [], []⟩, rfl⟩, hrr⟩
      | ok r =>
        rw [htk] at hm3
        obtain ⟨rv, lv', rfl, htrv, hr3, htl3⟩ := hm3
        obtain ⟨c, hcr, hclen, hM, hc3, hc1⟩ := Ps.head_took hd HE.out.1 hk1 HKR.out (by omega) htk
        obtain ⟨M, hMl⟩ : ∃ M, c.length = M := ⟨_, rfl⟩
        have hM1 : 1 ≤ M := by rw [← hMl, hclen]; exact Ps.tail_pos ⟨R, by omega⟩ hle.1
        have hM4 : M ≤ 4 := by rw [← hMl, hclen]; exact hwl
        have etk : (t :: ts).take (Ps.fw R :: Ps.tailW R).length = t :: c := by
          rw [List.length_cons, List.take_succ_cons, hcr, ← hclen, List.take_left]
        rw [etk] at htrv
        obtain ⟨o3, cap3, rfl, hcp3, hcp3b, hcl3⟩ := htrv
        rw [List.length_cons, hMl] at hcp3 ⊢
        have hcfine : ∀ u ∈ c, Ps.Fine u := fun u hu => HE.out.1 u (by rw [hcr]; simp [hu])
        have HCF := Lib.hid hcfine
        have HML := Lib.hid hMl
        have HC3 := Lib.hid hc3
        rw [Ps.mk_fields hc1] at hM
        have HM := Lib.hid hM
        have HCL := Lib.hid (fun (w4 : World) (F : Nat → Prop) (h4 : Trn F w3 w4) (hF : ¬ F b) (i : Nat) (u : Lx.Tok) (hu : c[i]? = some u) => by
          have := hcl3 (i + 1) u (by simpa using hu)
          rw [show o3 + (i + 1) * 3 = o3 + 3 + i * 3 by omega] at this
          have hc : ∀ k v, w3.cell? ⟨b, k, none⟩ = some v → w4.cell? ⟨b, k, none⟩ = some v := fun k v hv => (World.cell?_of_block (a := ⟨b, k, none⟩) (h4.block b (World.block_lt_of_cell? w3 _ hv) hF)).trans hv
          exact (⟨hc _ _ this.1, hc _ _ this.2.1, hc _ _ this.2.2⟩ : _ ∧ _ ∧ _))
        have HTL3 := Lib.hid htl3
        have HR3 := Lib.hid hr3
        have HTW := Lib.hid htw
        have HY := Lib.hid hy
        have HZ3 := Lib.hid hz
        have hs3 := ht3.size
        have hsw := hbw.size
        have en := fun wx => eql_nil (some ⟨b, o3, none⟩) (M + 1) cap3 wx
        obtain ⟨w4, hw4⟩ : ∃ w4, w3.alloc (.cells #[.pointer (some ⟨q, 1, none⟩), .pointer (some ⟨q, 2, none⟩), .pointer (some ⟨q, 3, none⟩)] 92) = w4 := ⟨_, rfl⟩
        have hb4 : Below w3.heap.size w3 w4 := by rw [← hw4]; exact (Below.refl _ _).alloc (Nat.le_refl _) _
        have hrm : w4.heap[w3.heap.size]? = some (.cells #[.pointer (some ⟨q, 1, none⟩), .pointer (some ⟨q, 2, none⟩), .pointer (some ⟨q, 3, none⟩)] 92 (0, 0)) := by rw [← hw4]; exact heap_alloc_new _ _
        obtain ⟨rb, hrb⟩ : ∃ rb, w3.heap.size = rb := ⟨_, rfl⟩
        rw [hrb] at hrm
        have hqlt := hy.lt
        have hqb : q < rb := by omega
        have HRM := Lib.hid hrm
        have hrbl : rb < w4.heap.size := (Array.getElem?_eq_some_iff.1 hrm).1
        have HB4 := Lib.hid hb4
        have y0 := hy.cell (i := 0) rfl
        have y04 := (hy.below hb4).cell (i := 0) rfl
        have m1 : (cap3 = 1) = False := eq_false (by omega)
        have m2 : (1 : Int) ≤ (M : Int) + 1 := by omega
        have m3 : (M : Int) + 1 ≤ (cap3 : Int) := by omega
        have q4 := HY.out.below hb4
        have HQ4 := Lib.hid q4
        clear hM hc3 hcl3 hcr hclen etk hcfine htl3 htw hy hz htk hb2 ht3 hb4 hrm hMl hwl q4
        by_cases h2 : R = 2
        · subst h2
          have HP0 := Lib.hid (show List.replicate (Ps.skipK 2) [] = [([] : List UInt8)] from rfl)
          have HST := Lib.hid (⟨Trn.refl _ _, HQ4.out, by rw [HP0.out]; rfl, rfl, Nat.zero_le _⟩ : HSt w4 w4 q 2 t.place 0 c [[]] 0)
          go_wp2
          go_loopw [5, 7, 56, 62, 73, 75] (fun s5 s7 s56 s62 s73 s75 wr => ∃ (i oo m n : Nat) (pre : List (List UInt8)), s56 = .int .i64 (i : Int) ∧ s5 = .slice (some ⟨rb, oo, none⟩) m m ∧ i ≤ M ∧ m + pre.length = 3 ∧ (0 < m → oo = pre.length) ∧ Hid (HSt w4 wr q 2 t.place i c pre n)) (fun s5 s7 s56 s62 s73 s75 _ => M - (intOf s56).toNat)
          case atStart => exact ⟨0, 1, 2, 0, [[]], rfl, rfl, Nat.zero_le _, rfl, fun _ => rfl, HST⟩
          case round =>
            obtain ⟨i, oo, m, n, pre, rfl, rfl, hi, hm, hoo, HR⟩ := hrel
            clear HST
            have hbr := HR.out.trn
            have hrz := hbr.size
            have h4z := HB4.out.size
            by_cases hlt : i < M
            · obtain ⟨u, hu⟩ : ∃ u, c[i]? = some u := ⟨_, List.getElem?_eq_getElem (by rw [HML.out]; exact hlt)⟩
              have hfu := HCF.out u (List.mem_of_getElem? hu)
              obtain ⟨c0, c1, c2⟩ := HCL.out wr (only q) ((Trn.of_below HB4.out).then hbr) (show ¬ (b = q) by omega) i u hu
              obtain ⟨T, hT⟩ : ∃ T, wr.alloc (.cells #[.int .i64 (u.kind : Int), .string ⟨u.text.toArray⟩, .int .i64 (u.place : Int)] 53) = T := ⟨_, rfl⟩
              have hTk := Tk3.new wr u.kind u.text u.place
              rw [hT] at hTk
              have hbT : Below wr.heap.size wr T := by rw [← hT]; exact (Below.refl _ _).alloc (Nat.le_refl _) _
              have t0 := hTk.c0
              have t1 := hTk.c1
              have htx := Ps.texts_snoc (c.take i) u
              have hln := Ps.lastN_snoc (c.take i) u
              rw [← Ps.take_snoc' hu] at htx hln
              have hle3 := Ps.texts_le c (i + 1)
              have hc3' := HC3.out
              have hpre := HR.out.pre
              have hpl : pre.length = Ps.skipK 2 + (Ps.texts (c.take i)).length := by rw [hpre, List.length_append, List.length_replicate]
              have hi1 : i + 1 ≤ c.length := by rw [HML.out]; omega
              have HTB := Lib.hid hbT
              have HTK := Lib.hid hTk
              have HU := Lib.hid hu
              have hTr : Trn (only q) w4 T := hbr.then (Trn.of_below hbT)
              have hq8 := HR.out.q8.below hbT
              have HTR := Lib.hid hTr
              have HQ8T := Lib.hid hq8
              clear hTk hbT hbr hTr hq8
              by_cases hk2 : u.kind = 2
              · have k1 : ((u.kind : Int) == 1) = false := beq_eq_false_iff_ne.2 (by omega)
                have k1' : ((u.kind : Int) = 1) = False := eq_false (by omega)
                have k3 : ((u.kind : Int) == 3) = false := beq_eq_false_iff_ne.2 (by omega)
                have k3' : ((u.kind : Int) = 3) = False := eq_false (by omega)
                have k2 : ((u.kind : Int) == 2) = true := beq_iff_eq.2 (by omega)
                have k2' : ((u.kind : Int) = 2) = True := eq_true (by omega)
                obtain ⟨hnum, h9⟩ := Ps.num_fine hfu hk2
                have NU := Lib.hid (fun wx => by
                  have := number_any ⟨u.text.toArray⟩ 9223372036854775807 wx (by show u.text.length ≤ _; omega)
                  rw [show (⟨u.text.toArray⟩ : ByteArray).data.toList = u.text from rfl, hnum] at this
                  unfold two at this
                  exact this)
                rw [if_pos hk2] at hln
                rw [if_neg (by omega), List.append_nil] at htx
                generalize Ps.num u.text = NV at NU hln
                have HX := Lib.hid (⟨htx, hln⟩ : _ ∧ _)
                clear hnum h9 hk2 hfu hpl hle3 hc3'
                go_wp2_with fail
                refine (NU.out _).mono ?_
                rintro e w5 ⟨rfl, hb5⟩
                have q5 := HQ8T.out.below hb5
                have z4 := q5.cell (i := 4) rfl
                have f4 := q5.fr 4
                have HQ5 := Lib.hid (q5.one (i := 4) (.int .i64 (NV : Int)))
                rw [fl_num] at HQ5
                have HT5 := Lib.hid (Trn.setCell (F := only q) (HTR.out.then (Trn.of_below hb5)) (show q = q from rfl) (i := 4) (.int .i64 (NV : Int)))
                clear q5 hb5
                go_wp2
                go_roundw
                case rel => exact ⟨i + 1, oo, m, NV, pre, by first | rfl | go_num, rfl, by omega, hm, hoo, Lib.hid ⟨HT5.out, HQ5.out, by rw [HX.out.1]; exact hpre, HX.out.2.symm, hi1⟩⟩
                case measure => simp [intOf]; omega
              · have k2 : ((u.kind : Int) == 2) = false := beq_eq_false_iff_ne.2 (by omega)
                have k2' : ((u.kind : Int) = 2) = False := eq_false (by omega)
                by_cases hk13 : u.kind = 1 ∨ u.kind = 3
                · rw [if_pos hk13] at htx
                  rw [if_neg hk2] at hln
                  have hle4 : pre.length < 3 := by rw [hpl]; rw [htx, List.length_append] at hle3; simp at hle3; omega
                  have hm0 : 0 < m := by omega
                  obtain rfl := hoo hm0
                  obtain ⟨jj, hjj⟩ : ∃ jj, pre.length + 1 = jj := ⟨_, rfl⟩
                  have hrc : T.cell? ⟨rb, pre.length, none⟩ = some (.pointer (some ⟨q, jj, none⟩)) := by
                    have hr2 : T.heap[rb]? = some (.cells #[.pointer (some ⟨q, 1, none⟩), .pointer (some ⟨q, 2, none⟩), .pointer (some ⟨q, 3, none⟩)] 92 (0, 0)) := (HTR.out.block rb (by omega) (show ¬ (rb = q) by omega)).trans HRM.out
                    rw [cell_of_row _ _ _ _ _ _ hr2, ← hjj]
                    generalize pre.length = pl at hle4
                    match pl, hle4 with
                    | 0, _ => rfl
                    | 1, _ => rfl
                    | 2, _ => rfl
                    | pl + 3, h => exact absurd h (by omega)
                  have hj3 : ∃ v, (fl 2 pre n t.place)[jj]? = some v := by
                    refine ⟨_, List.getElem?_eq_getElem (by show jj < 8; omega)⟩
                  obtain ⟨vj, hvj⟩ := hj3
                  have hset := fl_set (R := 2) (n := n) (p := t.place) hle4 u.text
                  rw [hjj] at hset
                  have hnx : pre ++ [u.text] = List.replicate (Ps.skipK 2) [] ++ Ps.texts (c.take (i + 1)) := by rw [htx, ← List.append_assoc, ← hpre]
                  have hml : m + (pre ++ [u.text]).length = 3 + 1 := by rw [List.length_append]; simp; omega
                  have HX := Lib.hid (⟨hnx, hln, hset, hjj, hpl⟩ : _ ∧ _ ∧ _ ∧ _ ∧ _)
                  clear htx hln hset hnx hle3 hc3' hpre hfu hk2 hpl hjj
                  rcases hk13 with hk | hk
                  · have k1 : ((u.kind : Int) == 1) = true := beq_iff_eq.2 (by omega)
                    have k1' : ((u.kind : Int) = 1) = True := eq_true (by omega)
                    clear hk
                    have hs0 : T.drew.cell? ⟨rb, pre.length, none⟩ = some (.pointer (some ⟨q, jj, none⟩)) ∧ T.drew.cell? ⟨wr.heap.size, 1, none⟩ = some (.string ⟨u.text.toArray⟩) := ⟨hrc, HTK.out.c1⟩
                    have hq0 : H8 T.drew q (fl 2 pre n t.place) := HQ8T.out
                    have zj := hq0.cell hvj
                    have fj := hq0.fr jj
                    have hm1 : (0 : Int) < (m : Int) := by omega
                    go_wp2
                    refine wp_region_held_drew (S := fun w' => w'.cell? ⟨rb, pre.length, none⟩ = some (.pointer (some ⟨q, jj, none⟩)) ∧ w'.cell? ⟨wr.heap.size, 1, none⟩ = some (.string ⟨u.text.toArray⟩)) (by kernel_rfl) hs0 (fun hH => ?_)
                    have hTd : Trn (only q) w4 T.drew := ⟨HTR.out.os, HTR.out.tape, HTR.out.output, HTR.out.size, HTR.out.block⟩
                    generalize T.drew = wd at *
                    obtain ⟨w5, hw5⟩ : ∃ w5, wd.setCell ⟨q, jj, none⟩ (.string ⟨u.text.toArray⟩) = w5 := ⟨_, rfl⟩
                    have hs5 : w5.cell? ⟨rb, pre.length, none⟩ = some (.pointer (some ⟨q, jj, none⟩)) ∧ w5.cell? ⟨wr.heap.size, 1, none⟩ = some (.string ⟨u.text.toArray⟩) := by
                      rw [← hw5]
                      exact ⟨(World.cell?_of_block (a := ⟨rb, pre.length, none⟩) (Below.heap_setCell _ _ _ _ (show rb ≠ q by omega))).trans hs0.1, (World.cell?_of_block (a := ⟨wr.heap.size, 1, none⟩) (Below.heap_setCell _ _ _ _ (show wr.heap.size ≠ q by omega))).trans hs0.2⟩
                    have hq5 : H8 w5 q (fl 2 (pre ++ [u.text]) n t.place) := by
                      rw [← hw5, ← HX.out.2.2.1]
                      exact hq0.one _
                    have hT5 : Trn (only q) w4 w5 := by rw [← hw5]; exact Trn.setCell (F := only q) hTd (show q = q from rfl) _
                    have HQ5 := Lib.hid hq5
                    have HT5 := Lib.hid hT5
                    have HN := Lib.hid HR.out.n
                    clear hq5 hT5 hTd hq0
                    refine heldTake (i := 0) (v := ?_) rfl (by kernel_rfl) (by kernel_rfl) (fun _ _ _ h => h) (by rfl) (by assumption) (fun w hSw => ?_) ?_; rotate_left; focus ((try dsimp only at hSw); go_simp; try with_reducible rfl)
                    try simp only [Act.put, List.setIfInBounds_toArray, List.set_cons_zero, List.set_cons_succ]
                    refine heldTake (i := 1) (v := ?_) rfl (by kernel_rfl) (by kernel_rfl) (fun _ _ _ h => h) (by rfl) (by assumption) (fun w hSw => ?_) ?_; rotate_left; focus ((try dsimp only at hSw); go_simp; try with_reducible rfl)
                    try simp only [Act.put, List.setIfInBounds_toArray, List.set_cons_zero, List.set_cons_succ]
                    refine heldTake (i := 2) (v := ?_) rfl (by kernel_rfl) (by kernel_rfl) (fun _ _ _ h => h) (by rfl) (by assumption) (fun w hSw => ?_) ?_; rotate_left; focus ((try dsimp only at hSw); go_simp; try with_reducible rfl)
                    try simp only [Act.put, List.setIfInBounds_toArray, List.set_cons_zero, List.set_cons_succ]
                    refine heldTake (i := 3) (v := ?_) rfl (by kernel_rfl) (by kernel_rfl) (fun _ _ _ h => h) (by rfl) (by assumption) (fun w hSw => ?_) ?_; rotate_left; focus ((try dsimp only at hSw); go_simp; try with_reducible rfl)
                    try simp only [Act.put, List.setIfInBounds_toArray, List.set_cons_zero, List.set_cons_succ]
                    refine heldTake (i := 4) (v := ?_) rfl (by kernel_rfl) (by kernel_rfl) (fun _ _ _ h => h) (by rfl) (by assumption) (fun w hSw => ?_) ?_; rotate_left; focus ((try dsimp only at hSw); go_simp; try with_reducible rfl)
                    try simp only [Act.put, List.setIfInBounds_toArray, List.set_cons_zero, List.set_cons_succ]
                    refine heldTake (i := 5) (v := ?_) rfl (by kernel_rfl) (by kernel_rfl) (fun _ _ _ h => h) (by rfl) (by assumption) (fun w hSw => ?_) ?_; rotate_left; focus ((try dsimp only at hSw); go_simp; try with_reducible rfl)
                    try simp only [Act.put, List.setIfInBounds_toArray, List.set_cons_zero, List.set_cons_succ]
                    -- NEXT 6 Op.store 9 (Operand.tmp 70) (Operand.tmp 69)
                    refine heldNext (i := 6) rfl (by kernel_rfl) (by rfl) (fun K hK => ?_)
                    go_simp; refine hK.out _ _ hs5 ?_; clear hK K
                    try simp only [Act.put, List.setIfInBounds_toArray, List.set_cons_zero, List.set_cons_succ]
                    refine wpAnyH_done (by kernel_rfl) ?_ _
                    skip

                    by_cases hmm : m = 1
                    · subst hmm
                      go_wp2
                      go_roundw
                      case rel => exact ⟨i + 1, _, 0, n, pre ++ [u.text], by first | rfl | go_num, rfl, by omega, by omega, fun h => absurd h (by decide), Lib.hid ⟨HT5.out, HQ5.out, HX.out.1, by rw [HX.out.2.1]; exact HN.out, hi1⟩⟩
                      case measure => simp [intOf]; omega
                    · have e1 : (m = 1) = False := eq_false hmm
                      have e2 : (1 : Int) ≤ (m : Int) := by omega
                      go_wp2
                      go_roundw
                      case rel => exact ⟨i + 1, _, m - 1, n, pre ++ [u.text], by first | rfl | go_num, by first | rfl | go_num, by omega, by omega, fun _ => by rw [List.length_append]; rfl, Lib.hid ⟨HT5.out, HQ5.out, HX.out.1, by rw [HX.out.2.1]; exact HN.out, hi1⟩⟩
                      case measure => simp [intOf]; omega
                  · have k1 : ((u.kind : Int) == 1) = false := beq_eq_false_iff_ne.2 (by omega)
                    have k1' : ((u.kind : Int) = 1) = False := eq_false (by omega)
                    have k3 : ((u.kind : Int) == 3) = true := beq_iff_eq.2 (by omega)
                    have k3' : ((u.kind : Int) = 3) = True := eq_true (by omega)
                    clear hk
                    have hs0 : T.drew.cell? ⟨rb, pre.length, none⟩ = some (.pointer (some ⟨q, jj, none⟩)) ∧ T.drew.cell? ⟨wr.heap.size, 1, none⟩ = some (.string ⟨u.text.toArray⟩) := ⟨hrc, HTK.out.c1⟩
                    have hq0 : H8 T.drew q (fl 2 pre n t.place) := HQ8T.out
                    have zj := hq0.cell hvj
                    have fj := hq0.fr jj
                    have hm1 : (0 : Int) < (m : Int) := by omega
                    go_wp2
                    refine wp_region_held_drew (S := fun w' => w'.cell? ⟨rb, pre.length, none⟩ = some (.pointer (some ⟨q, jj, none⟩)) ∧ w'.cell? ⟨wr.heap.size, 1, none⟩ = some (.string ⟨u.text.toArray⟩)) (by kernel_rfl) hs0 (fun hH => ?_)
                    have hTd : Trn (only q) w4 T.drew := ⟨HTR.out.os, HTR.out.tape, HTR.out.output, HTR.out.size, HTR.out.block⟩
                    generalize T.drew = wd at *
                    obtain ⟨w5, hw5⟩ : ∃ w5, wd.setCell ⟨q, jj, none⟩ (.string ⟨u.text.toArray⟩) = w5 := ⟨_, rfl⟩
                    have hs5 : w5.cell? ⟨rb, pre.length, none⟩ = some (.pointer (some ⟨q, jj, none⟩)) ∧ w5.cell? ⟨wr.heap.size, 1, none⟩ = some (.string ⟨u.text.toArray⟩) := by
                      rw [← hw5]
                      exact ⟨(World.cell?_of_block (a := ⟨rb, pre.length, none⟩) (Below.heap_setCell _ _ _ _ (show rb ≠ q by omega))).trans hs0.1, (World.cell?_of_block (a := ⟨wr.heap.size, 1, none⟩) (Below.heap_setCell _ _ _ _ (show wr.heap.size ≠ q by omega))).trans hs0.2⟩
                    have hq5 : H8 w5 q (fl 2 (pre ++ [u.text]) n t.place) := by
                      rw [← hw5, ← HX.out.2.2.1]
                      exact hq0.one _
                    have hT5 : Trn (only q) w4 w5 := by rw [← hw5]; exact Trn.setCell (F := only q) hTd (show q = q from rfl) _
                    have HQ5 := Lib.hid hq5
                    have HT5 := Lib.hid hT5
                    have HN := Lib.hid HR.out.n
                    clear hq5 hT5 hTd hq0
                    refine heldTake (i := 0) (v := ?_) rfl (by kernel_rfl) (by kernel_rfl) (fun _ _ _ h => h) (by rfl) (by assumption) (fun w hSw => ?_) ?_; rotate_left; focus ((try dsimp only at hSw); go_simp; try with_reducible rfl)
                    try simp only [Act.put, List.setIfInBounds_toArray, List.set_cons_zero, List.set_cons_succ]
                    refine heldTake (i := 1) (v := ?_) rfl (by kernel_rfl) (by kernel_rfl) (fun _ _ _ h => h) (by rfl) (by assumption) (fun w hSw => ?_) ?_; rotate_left; focus ((try dsimp only at hSw); go_simp; try with_reducible rfl)
                    try simp only [Act.put, List.setIfInBounds_toArray, List.set_cons_zero, List.set_cons_succ]
                    refine heldTake (i := 2) (v := ?_) rfl (by kernel_rfl) (by kernel_rfl) (fun _ _ _ h => h) (by rfl) (by assumption) (fun w hSw => ?_) ?_; rotate_left; focus ((try dsimp only at hSw); go_simp; try with_reducible rfl)
                    try simp only [Act.put, List.setIfInBounds_toArray, List.set_cons_zero, List.set_cons_succ]
                    refine heldTake (i := 3) (v := ?_) rfl (by kernel_rfl) (by kernel_rfl) (fun _ _ _ h => h) (by rfl) (by assumption) (fun w hSw => ?_) ?_; rotate_left; focus ((try dsimp only at hSw); go_simp; try with_reducible rfl)
                    try simp only [Act.put, List.setIfInBounds_toArray, List.set_cons_zero, List.set_cons_succ]
                    refine heldTake (i := 4) (v := ?_) rfl (by kernel_rfl) (by kernel_rfl) (fun _ _ _ h => h) (by rfl) (by assumption) (fun w hSw => ?_) ?_; rotate_left; focus ((try dsimp only at hSw); go_simp; try with_reducible rfl)
                    try simp only [Act.put, List.setIfInBounds_toArray, List.set_cons_zero, List.set_cons_succ]
                    refine heldTake (i := 5) (v := ?_) rfl (by kernel_rfl) (by kernel_rfl) (fun _ _ _ h => h) (by rfl) (by assumption) (fun w hSw => ?_) ?_; rotate_left; focus ((try dsimp only at hSw); go_simp; try with_reducible rfl)
                    try simp only [Act.put, List.setIfInBounds_toArray, List.set_cons_zero, List.set_cons_succ]
                    -- NEXT 6 Op.store 9 (Operand.tmp 70) (Operand.tmp 69)
                    refine heldNext (i := 6) rfl (by kernel_rfl) (by rfl) (fun K hK => ?_)
                    go_simp; refine hK.out _ _ hs5 ?_; clear hK K
                    try simp only [Act.put, List.setIfInBounds_toArray, List.set_cons_zero, List.set_cons_succ]
                    refine wpAnyH_done (by kernel_rfl) ?_ _
                    skip

                    by_cases hmm : m = 1
                    · subst hmm
                      go_wp2
                      go_roundw
                      case rel => exact ⟨i + 1, _, 0, n, pre ++ [u.text], by first | rfl | go_num, rfl, by omega, by omega, fun h => absurd h (by decide), Lib.hid ⟨HT5.out, HQ5.out, HX.out.1, by rw [HX.out.2.1]; exact HN.out, hi1⟩⟩
                      case measure => simp [intOf]; omega
                    · have e1 : (m = 1) = False := eq_false hmm
                      have e2 : (1 : Int) ≤ (m : Int) := by omega
                      go_wp2
                      go_roundw
                      case rel => exact ⟨i + 1, _, m - 1, n, pre ++ [u.text], by first | rfl | go_num, by first | rfl | go_num, by omega, by omega, fun _ => by rw [List.length_append]; rfl, Lib.hid ⟨HT5.out, HQ5.out, HX.out.1, by rw [HX.out.2.1]; exact HN.out, hi1⟩⟩
                      case measure => simp [intOf]; omega
                · have k1 : ((u.kind : Int) == 1) = false := beq_eq_false_iff_ne.2 (by omega)
                  have k1' : ((u.kind : Int) = 1) = False := eq_false (by omega)
                  have k3 : ((u.kind : Int) == 3) = false := beq_eq_false_iff_ne.2 (by omega)
                  have k3' : ((u.kind : Int) = 3) = False := eq_false (by omega)
                  rw [if_neg hk13, List.append_nil] at htx
                  rw [if_neg hk2] at hln
                  have HX := Lib.hid (⟨htx, hln⟩ : _ ∧ _)
                  have HN := Lib.hid HR.out.n
                  clear htx hln hle3 hc3' hfu hk2 hk13 hpl
                  go_wp2
                  go_roundw
                  case rel => exact ⟨i + 1, oo, m, n, pre, by first | rfl | go_num, rfl, by omega, hm, hoo, Lib.hid ⟨HTR.out, HQ8T.out, by rw [HX.out.1]; exact hpre, by rw [HX.out.2]; exact HN.out, hi1⟩⟩
                  case measure => simp [intOf]; omega
            · obtain rfl : i = M := by omega
              have hpre := HR.out.pre
              have hn := HR.out.n
              rw [List.take_of_length_le (by rw [HML.out]; exact Nat.le_refl _)] at hpre hn
              have q8 := HR.out.q8
              unfold fl at q8
              obtain ⟨F0, hF0⟩ : ∃ F0, pre.getD 0 [] = F0 := ⟨_, rfl⟩
              obtain ⟨F1, hF1⟩ : ∃ F1, pre.getD 1 [] = F1 := ⟨_, rfl⟩
              obtain ⟨F2, hF2⟩ : ∃ F2, pre.getD 2 [] = F2 := ⟨_, rfl⟩
              rw [hF0, hF1, hF2] at q8
              have hM := HM.out
              rw [← hpre, ← hn, hF0, hF1, hF2] at hM
              have HM2 := Lib.hid hM
              have hz := (HZ3.out.below HB4.out).trn hbr (show ¬ (w.heap.size = q) by omega)
              have hr4 := (HR3.out.below HB4.out).trn hbr (show ¬ (g = q) by omega)
              have ht4 := (HTL3.out.below HB4.out).trn hbr (show ¬ (b = q) by omega)
              have hTw : Trn (fun k => k = g ∨ w.heap.size ≤ k) w wr := ((HTW.out.then (Trn.of_below HB4.out)).more (fun k hk => .inl hk)).then (hbr.more (fun k hk => .inr (by have : k = q := hk; omega)))
              have yy0 := q8.cell (i := 0) rfl
              have yy1 := q8.cell (i := 1) rfl
              have yy2 := q8.cell (i := 2) rfl
              have yy3 := q8.cell (i := 3) rfl
              have yy4 := q8.cell (i := 4) rfl
              have yy5 := q8.cell (i := 5) rfl
              have yy6 := q8.cell (i := 6) rfl
              have yy7 := q8.cell (i := 7) rfl
              have zz0 := hz.cell (i := 0) rfl
              have zz1 := hz.cell (i := 1) rfl
              have zz2 := hz.cell (i := 2) rfl
              have zz3 := hz.cell (i := 3) rfl
              have zz4 := hz.cell (i := 4) rfl
              have zz5 := hz.cell (i := 5) rfl
              have zz6 := hz.cell (i := 6) rfl
              have zz7 := hz.cell (i := 7) rfl
              have zf0 := hz.fr 0
              have zf1 := hz.fr 1
              have zf2 := hz.fr 2
              have zf3 := hz.fr 3
              have zf4 := hz.fr 4
              have zf5 := hz.fr 5
              have zf6 := hz.fr 6
              have zf7 := hz.fr 7
              have hset := hz.set (vs := [.int .i64 ((2 : Nat) : Int), .string ⟨F0.toArray⟩, .string ⟨F1.toArray⟩, .string ⟨F2.toArray⟩, .int .i64 (n : Int), .int .i64 (t.place : Int), .slice none 0 0, .slice none 0 0]) rfl
              have hTr : Trn (fun k => k = g ∨ w.heap.size ≤ k) w (setN wr w.heap.size 0 [.int .i64 ((2 : Nat) : Int), .string ⟨F0.toArray⟩, .string ⟨F1.toArray⟩, .string ⟨F2.toArray⟩, .int .i64 (n : Int), .int .i64 (t.place : Int), .slice none 0 0, .slice none 0 0]) := setN_trn (.inr (Nat.le_refl _)) _ _ hTw
              have hrr := hr4.same (w' := setN wr w.heap.size 0 [.int .i64 ((2 : Nat) : Int), .string ⟨F0.toArray⟩, .string ⟨F1.toArray⟩, .string ⟨F2.toArray⟩, .int .i64 (n : Int), .int .i64 (t.place : Int), .slice none 0 0, .slice none 0 0]) (setN_other (by omega) _ _)
              have htt : TR (setN wr w.heap.size 0 [.int .i64 ((2 : Nat) : Int), .string ⟨F0.toArray⟩, .string ⟨F1.toArray⟩, .string ⟨F2.toArray⟩, .int .i64 (n : Int), .int .i64 (t.place : Int), .slice none 0 0, .slice none 0 0]) b lv' r := ht4.trn (F := only w.heap.size) (setN_trn (F := only w.heap.size) (show w.heap.size = w.heap.size from rfl) _ _ (Trn.refl _ _)) (show ¬ (b = w.heap.size) by omega)
              have HSET := Lib.hid hset
              have HTR := Lib.hid hTr
              have HRR := Lib.hid (⟨hrr, htt⟩ : _ ∧ _)
              clear hset hTr hrr htt hz hr4 ht4 hTw hbr hM hF0 hF1 hF2 q8 hpre hn HR
              go_wp2
              change bodyPost _ _ _ _ _ (setN wr w.heap.size 0 [.int .i64 ((2 : Nat) : Int), .string ⟨F0.toArray⟩, .string ⟨F1.toArray⟩, .string ⟨F2.toArray⟩, .int .i64 (n : Int), .int .i64 (t.place : Int), .slice none 0 0, .slice none 0 0])
              have hset := HSET.out
              have hTr := HTR.out
              have hrr := HRR.out
              generalize setN wr w.heap.size 0 [.int .i64 ((2 : Nat) : Int), .string ⟨F0.toArray⟩, .string ⟨F1.toArray⟩, .string ⟨F2.toArray⟩, .int .i64 (n : Int), .int .i64 (t.place : Int), .slice none 0 0, .slice none 0 0] = W at hset hTr hrr ⊢
              have r0 := hset.cell (i := 0) rfl
              have r1 := hset.cell (i := 1) rfl
              have r2 := hset.cell (i := 2) rfl
              have r3 := hset.cell (i := 3) rfl
              have r4 := hset.cell (i := 4) rfl
              have r5 := hset.cell (i := 5) rfl
              have r6 := hset.cell (i := 6) rfl
              have r7 := hset.cell (i := 7) rfl
              refine bodyPost_ret (v := .agg #[.int .i64 ((2 : Nat) : Int), .string ⟨F0.toArray⟩, .string ⟨F1.toArray⟩, .string ⟨F2.toArray⟩, .int .i64 (n : Int), .int .i64 (t.place : Int), .slice none 0 0, .slice none 0 0]) (by simp [results, Tryd.results40, go_sem, r0, r1, r2, r3, r4, r5, r6, r7]) rfl ?_
              unfold HeadQ
              rw [HM2.out]
              exact ⟨⟨hTr.os, hTr.tape, hTr.output, hTr.size, fun j hj hF => hTr.block j hj (fun e => e.elim hF (fun e => by omega))⟩, rfl, _, hrr.1, hrr.2⟩
        · have d1 : ((R : Int) == 2) = false := beq_eq_false_iff_ne.2 (by omega)
          have d2 : ((R : Int) = 2) = False := eq_false (by omega)
          have HP0 := Lib.hid (show List.replicate (Ps.skipK R) [] = ([] : List (List UInt8)) by unfold Ps.skipK; rw [if_neg h2]; rfl)
          have HST := Lib.hid (⟨Trn.refl _ _, HQ4.out, by rw [HP0.out]; rfl, rfl, Nat.zero_le _⟩ : HSt w4 w4 q R t.place 0 c [] 0)
          go_wp2
          go_loopw [5, 7, 56, 62, 73, 75] (fun s5 s7 s56 s62 s73 s75 wr => ∃ (i oo m n : Nat) (pre : List (List UInt8)), s56 = .int .i64 (i : Int) ∧ s5 = .slice (some ⟨rb, oo, none⟩) m m ∧ i ≤ M ∧ m + pre.length = 3 ∧ (0 < m → oo = pre.length) ∧ Hid (HSt w4 wr q R t.place i c pre n)) (fun s5 s7 s56 s62 s73 s75 _ => M - (intOf s56).toNat)
          case atStart => exact ⟨0, 0, 3, 0, [], rfl, rfl, Nat.zero_le _, rfl, fun _ => rfl, HST⟩
          case round =>
            obtain ⟨i, oo, m, n, pre, rfl, rfl, hi, hm, hoo, HR⟩ := hrel
            clear HST
            have hbr := HR.out.trn
            have hrz := hbr.size
            have h4z := HB4.out.size
            by_cases hlt : i < M
            · obtain ⟨u, hu⟩ : ∃ u, c[i]? = some u := ⟨_, List.getElem?_eq_getElem (by rw [HML.out]; exact hlt)⟩
              have hfu := HCF.out u (List.mem_of_getElem? hu)
              obtain ⟨c0, c1, c2⟩ := HCL.out wr (only q) ((Trn.of_below HB4.out).then hbr) (show ¬ (b = q) by omega) i u hu
              obtain ⟨T, hT⟩ : ∃ T, wr.alloc (.cells #[.int .i64 (u.kind : Int), .string ⟨u.text.toArray⟩, .int .i64 (u.place : Int)] 53) = T := ⟨_, rfl⟩
              have hTk := Tk3.new wr u.kind u.text u.place
              rw [hT] at hTk
              have hbT : Below wr.heap.size wr T := by rw [← hT]; exact (Below.refl _ _).alloc (Nat.le_refl _) _
              have t0 := hTk.c0
              have t1 := hTk.c1
              have htx := Ps.texts_snoc (c.take i) u
              have hln := Ps.lastN_snoc (c.take i) u
              rw [← Ps.take_snoc' hu] at htx hln
              have hle3 := Ps.texts_le c (i + 1)
              have hc3' := HC3.out
              have hpre := HR.out.pre
              have hpl : pre.length = Ps.skipK R + (Ps.texts (c.take i)).length := by rw [hpre, List.length_append, List.length_replicate]
              have hi1 : i + 1 ≤ c.length := by rw [HML.out]; omega
              have HTB := Lib.hid hbT
              have HTK := Lib.hid hTk
              have HU := Lib.hid hu
              have hTr : Trn (only q) w4 T := hbr.then (Trn.of_below hbT)
              have hq8 := HR.out.q8.below hbT
              have HTR := Lib.hid hTr
              have HQ8T := Lib.hid hq8
              clear hTk hbT hbr hTr hq8
              by_cases hk2 : u.kind = 2
              · have k1 : ((u.kind : Int) == 1) = false := beq_eq_false_iff_ne.2 (by omega)
                have k1' : ((u.kind : Int) = 1) = False := eq_false (by omega)
                have k3 : ((u.kind : Int) == 3) = false := beq_eq_false_iff_ne.2 (by omega)
                have k3' : ((u.kind : Int) = 3) = False := eq_false (by omega)
                have k2 : ((u.kind : Int) == 2) = true := beq_iff_eq.2 (by omega)
                have k2' : ((u.kind : Int) = 2) = True := eq_true (by omega)
                obtain ⟨hnum, h9⟩ := Ps.num_fine hfu hk2
                have NU := Lib.hid (fun wx => by
                  have := number_any ⟨u.text.toArray⟩ 9223372036854775807 wx (by show u.text.length ≤ _; omega)
                  rw [show (⟨u.text.toArray⟩ : ByteArray).data.toList = u.text from rfl, hnum] at this
                  unfold two at this
                  exact this)
                rw [if_pos hk2] at hln
                rw [if_neg (by omega), List.append_nil] at htx
                generalize Ps.num u.text = NV at NU hln
                have HX := Lib.hid (⟨htx, hln⟩ : _ ∧ _)
                clear hnum h9 hk2 hfu hpl hle3 hc3'
                go_wp2_with fail
                refine (NU.out _).mono ?_
                rintro e w5 ⟨rfl, hb5⟩
                have q5 := HQ8T.out.below hb5
                have z4 := q5.cell (i := 4) rfl
                have f4 := q5.fr 4
                have HQ5 := Lib.hid (q5.one (i := 4) (.int .i64 (NV : Int)))
                rw [fl_num] at HQ5
                have HT5 := Lib.hid (Trn.setCell (F := only q) (HTR.out.then (Trn.of_below hb5)) (show q = q from rfl) (i := 4) (.int .i64 (NV : Int)))
                clear q5 hb5
                go_wp2
                go_roundw
                case rel => exact ⟨i + 1, oo, m, NV, pre, by first | rfl | go_num, rfl, by omega, hm, hoo, Lib.hid ⟨HT5.out, HQ5.out, by rw [HX.out.1]; exact hpre, HX.out.2.symm, hi1⟩⟩
                case measure => simp [intOf]; omega
              · have k2 : ((u.kind : Int) == 2) = false := beq_eq_false_iff_ne.2 (by omega)
                have k2' : ((u.kind : Int) = 2) = False := eq_false (by omega)
                by_cases hk13 : u.kind = 1 ∨ u.kind = 3
                · rw [if_pos hk13] at htx
                  rw [if_neg hk2] at hln
                  have hle4 : pre.length < 3 := by rw [hpl]; rw [htx, List.length_append] at hle3; simp at hle3; omega
                  have hm0 : 0 < m := by omega
                  obtain rfl := hoo hm0
                  obtain ⟨jj, hjj⟩ : ∃ jj, pre.length + 1 = jj := ⟨_, rfl⟩
                  have hrc : T.cell? ⟨rb, pre.length, none⟩ = some (.pointer (some ⟨q, jj, none⟩)) := by
                    have hr2 : T.heap[rb]? = some (.cells #[.pointer (some ⟨q, 1, none⟩), .pointer (some ⟨q, 2, none⟩), .pointer (some ⟨q, 3, none⟩)] 92 (0, 0)) := (HTR.out.block rb (by omega) (show ¬ (rb = q) by omega)).trans HRM.out
                    rw [cell_of_row _ _ _ _ _ _ hr2, ← hjj]
                    generalize pre.length = pl at hle4
                    match pl, hle4 with
                    | 0, _ => rfl
                    | 1, _ => rfl
                    | 2, _ => rfl
                    | pl + 3, h => exact absurd h (by omega)
                  have hj3 : ∃ v, (fl R pre n t.place)[jj]? = some v := by
                    refine ⟨_, List.getElem?_eq_getElem (by show jj < 8; omega)⟩
                  obtain ⟨vj, hvj⟩ := hj3
                  have hset := fl_set (R := R) (n := n) (p := t.place) hle4 u.text
                  rw [hjj] at hset
                  have hnx : pre ++ [u.text] = List.replicate (Ps.skipK R) [] ++ Ps.texts (c.take (i + 1)) := by rw [htx, ← List.append_assoc, ← hpre]
                  have hml : m + (pre ++ [u.text]).length = 3 + 1 := by rw [List.length_append]; simp; omega
                  have HX := Lib.hid (⟨hnx, hln, hset, hjj, hpl⟩ : _ ∧ _ ∧ _ ∧ _ ∧ _)
                  clear htx hln hset hnx hle3 hc3' hpre hfu hk2 hpl hjj
                  rcases hk13 with hk | hk
                  · have k1 : ((u.kind : Int) == 1) = true := beq_iff_eq.2 (by omega)
                    have k1' : ((u.kind : Int) = 1) = True := eq_true (by omega)
                    clear hk
                    have hs0 : T.drew.cell? ⟨rb, pre.length, none⟩ = some (.pointer (some ⟨q, jj, none⟩)) ∧ T.drew.cell? ⟨wr.heap.size, 1, none⟩ = some (.string ⟨u.text.toArray⟩) := ⟨hrc, HTK.out.c1⟩
                    have hq0 : H8 T.drew q (fl R pre n t.place) := HQ8T.out
                    have zj := hq0.cell hvj
                    have fj := hq0.fr jj
                    have hm1 : (0 : Int) < (m : Int) := by omega
                    go_wp2
                    refine wp_region_held_drew (S := fun w' => w'.cell? ⟨rb, pre.length, none⟩ = some (.pointer (some ⟨q, jj, none⟩)) ∧ w'.cell? ⟨wr.heap.size, 1, none⟩ = some (.string ⟨u.text.toArray⟩)) (by kernel_rfl) hs0 (fun hH => ?_)
                    have hTd : Trn (only q) w4 T.drew := ⟨HTR.out.os, HTR.out.tape, HTR.out.output, HTR.out.size, HTR.out.block⟩
                    generalize T.drew = wd at *
                    obtain ⟨w5, hw5⟩ : ∃ w5, wd.setCell ⟨q, jj, none⟩ (.string ⟨u.text.toArray⟩) = w5 := ⟨_, rfl⟩
                    have hs5 : w5.cell? ⟨rb, pre.length, none⟩ = some (.pointer (some ⟨q, jj, none⟩)) ∧ w5.cell? ⟨wr.heap.size, 1, none⟩ = some (.string ⟨u.text.toArray⟩) := by
                      rw [← hw5]
                      exact ⟨(World.cell?_of_block (a := ⟨rb, pre.length, none⟩) (Below.heap_setCell _ _ _ _ (show rb ≠ q by omega))).trans hs0.1, (World.cell?_of_block (a := ⟨wr.heap.size, 1, none⟩) (Below.heap_setCell _ _ _ _ (show wr.heap.size ≠ q by omega))).trans hs0.2⟩
                    have hq5 : H8 w5 q (fl R (pre ++ [u.text]) n t.place) := by
                      rw [← hw5, ← HX.out.2.2.1]
                      exact hq0.one _
                    have hT5 : Trn (only q) w4 w5 := by rw [← hw5]; exact Trn.setCell (F := only q) hTd (show q = q from rfl) _
                    have HQ5 := Lib.hid hq5
                    have HT5 := Lib.hid hT5
                    have HN := Lib.hid HR.out.n
                    clear hq5 hT5 hTd hq0
                    refine heldTake (i := 0) (v := ?_) rfl (by kernel_rfl) (by kernel_rfl) (fun _ _ _ h => h) (by rfl) (by assumption) (fun w hSw => ?_) ?_; rotate_left; focus ((try dsimp only at hSw); go_simp; try with_reducible rfl)
                    try simp only [Act.put, List.setIfInBounds_toArray, List.set_cons_zero, List.set_cons_succ]
                    refine heldTake (i := 1) (v := ?_) rfl (by kernel_rfl) (by kernel_rfl) (fun _ _ _ h => h) (by rfl) (by assumption) (fun w hSw => ?_) ?_; rotate_left; focus ((try dsimp only at hSw); go_simp; try with_reducible rfl)
                    try simp only [Act.put, List.setIfInBounds_toArray, List.set_cons_zero, List.set_cons_succ]
                    refine heldTake (i := 2) (v := ?_) rfl (by kernel_rfl) (by kernel_rfl) (fun _ _ _ h => h) (by rfl) (by assumption) (fun w hSw => ?_) ?_; rotate_left; focus ((try dsimp only at hSw); go_simp; try with_reducible rfl)
                    try simp only [Act.put, List.setIfInBounds_toArray, List.set_cons_zero, List.set_cons_succ]
                    refine heldTake (i := 3) (v := ?_) rfl (by kernel_rfl) (by kernel_rfl) (fun _ _ _ h => h) (by rfl) (by assumption) (fun w hSw => ?_) ?_; rotate_left; focus ((try dsimp only at hSw); go_simp; try with_reducible rfl)
                    try simp only [Act.put, List.setIfInBounds_toArray, List.set_cons_zero, List.set_cons_succ]
                    refine heldTake (i := 4) (v := ?_) rfl (by kernel_rfl) (by kernel_rfl) (fun _ _ _ h => h) (by rfl) (by assumption) (fun w hSw => ?_) ?_; rotate_left; focus ((try dsimp only at hSw); go_simp; try with_reducible rfl)
                    try simp only [Act.put, List.setIfInBounds_toArray, List.set_cons_zero, List.set_cons_succ]
                    refine heldTake (i := 5) (v := ?_) rfl (by kernel_rfl) (by kernel_rfl) (fun _ _ _ h => h) (by rfl) (by assumption) (fun w hSw => ?_) ?_; rotate_left; focus ((try dsimp only at hSw); go_simp; try with_reducible rfl)
                    try simp only [Act.put, List.setIfInBounds_toArray, List.set_cons_zero, List.set_cons_succ]
                    -- NEXT 6 Op.store 9 (Operand.tmp 70) (Operand.tmp 69)
                    refine heldNext (i := 6) rfl (by kernel_rfl) (by rfl) (fun K hK => ?_)
                    go_simp; refine hK.out _ _ hs5 ?_; clear hK K
                    try simp only [Act.put, List.setIfInBounds_toArray, List.set_cons_zero, List.set_cons_succ]
                    refine wpAnyH_done (by kernel_rfl) ?_ _
                    skip

                    by_cases hmm : m = 1
                    · subst hmm
                      go_wp2
                      go_roundw
                      case rel => exact ⟨i + 1, _, 0, n, pre ++ [u.text], by first | rfl | go_num, rfl, by omega, by omega, fun h => absurd h (by decide), Lib.hid ⟨HT5.out, HQ5.out, HX.out.1, by rw [HX.out.2.1]; exact HN.out, hi1⟩⟩
                      case measure => simp [intOf]; omega
                    · have e1 : (m = 1) = False := eq_false hmm
                      have e2 : (1 : Int) ≤ (m : Int) := by omega
                      go_wp2
                      go_roundw
                      case rel => exact ⟨i + 1, _, m - 1, n, pre ++ [u.text], by first | rfl | go_num, by first | rfl | go_num, by omega, by omega, fun _ => by rw [List.length_append]; rfl, Lib.hid ⟨HT5.out, HQ5.out, HX.out.1, by rw [HX.out.2.1]; exact HN.out, hi1⟩⟩
                      case measure => simp [intOf]; omega
                  · have k1 : ((u.kind : Int) == 1) = false := beq_eq_false_iff_ne.2 (by omega)
                    have k1' : ((u.kind : Int) = 1) = False := eq_false (by omega)
                    have k3 : ((u.kind : Int) == 3) = true := beq_iff_eq.2 (by omega)
                    have k3' : ((u.kind : Int) = 3) = True := eq_true (by omega)
                    clear hk
                    have hs0 : T.drew.cell? ⟨rb, pre.length, none⟩ = some (.pointer (some ⟨q, jj, none⟩)) ∧ T.drew.cell? ⟨wr.heap.size, 1, none⟩ = some (.string ⟨u.text.toArray⟩) := ⟨hrc, HTK.out.c1⟩
                    have hq0 : H8 T.drew q (fl R pre n t.place) := HQ8T.out
                    have zj := hq0.cell hvj
                    have fj := hq0.fr jj
                    have hm1 : (0 : Int) < (m : Int) := by omega
                    go_wp2
                    refine wp_region_held_drew (S := fun w' => w'.cell? ⟨rb, pre.length, none⟩ = some (.pointer (some ⟨q, jj, none⟩)) ∧ w'.cell? ⟨wr.heap.size, 1, none⟩ = some (.string ⟨u.text.toArray⟩)) (by kernel_rfl) hs0 (fun hH => ?_)
                    have hTd : Trn (only q) w4 T.drew := ⟨HTR.out.os, HTR.out.tape, HTR.out.output, HTR.out.size, HTR.out.block⟩
                    generalize T.drew = wd at *
                    obtain ⟨w5, hw5⟩ : ∃ w5, wd.setCell ⟨q, jj, none⟩ (.string ⟨u.text.toArray⟩) = w5 := ⟨_, rfl⟩
                    have hs5 : w5.cell? ⟨rb, pre.length, none⟩ = some (.pointer (some ⟨q, jj, none⟩)) ∧ w5.cell? ⟨wr.heap.size, 1, none⟩ = some (.string ⟨u.text.toArray⟩) := by
                      rw [← hw5]
                      exact ⟨(World.cell?_of_block (a := ⟨rb, pre.length, none⟩) (Below.heap_setCell _ _ _ _ (show rb ≠ q by omega))).trans hs0.1, (World.cell?_of_block (a := ⟨wr.heap.size, 1, none⟩) (Below.heap_setCell _ _ _ _ (show wr.heap.size ≠ q by omega))).trans hs0.2⟩
                    have hq5 : H8 w5 q (fl R (pre ++ [u.text]) n t.place) := by
                      rw [← hw5, ← HX.out.2.2.1]
                      exact hq0.one _
                    have hT5 : Trn (only q) w4 w5 := by rw [← hw5]; exact Trn.setCell (F := only q) hTd (show q = q from rfl) _
                    have HQ5 := Lib.hid hq5
                    have HT5 := Lib.hid hT5
                    have HN := Lib.hid HR.out.n
                    clear hq5 hT5 hTd hq0
                    refine heldTake (i := 0) (v := ?_) rfl (by kernel_rfl) (by kernel_rfl) (fun _ _ _ h => h) (by rfl) (by assumption) (fun w hSw => ?_) ?_; rotate_left; focus ((try dsimp only at hSw); go_simp; try with_reducible rfl)
                    try simp only [Act.put, List.setIfInBounds_toArray, List.set_cons_zero, List.set_cons_succ]
                    refine heldTake (i := 1) (v := ?_) rfl (by kernel_rfl) (by kernel_rfl) (fun _ _ _ h => h) (by rfl) (by assumption) (fun w hSw => ?_) ?_; rotate_left; focus ((try dsimp only at hSw); go_simp; try with_reducible rfl)
                    try simp only [Act.put, List.setIfInBounds_toArray, List.set_cons_zero, List.set_cons_succ]
                    refine heldTake (i := 2) (v := ?_) rfl (by kernel_rfl) (by kernel_rfl) (fun _ _ _ h => h) (by rfl) (by assumption) (fun w hSw => ?_) ?_; rotate_left; focus ((try dsimp only at hSw); go_simp; try with_reducible rfl)
                    try simp only [Act.put, List.setIfInBounds_toArray, List.set_cons_zero, List.set_cons_succ]
                    refine heldTake (i := 3) (v := ?_) rfl (by kernel_rfl) (by kernel_rfl) (fun _ _ _ h => h) (by rfl) (by assumption) (fun w hSw => ?_) ?_; rotate_left; focus ((try dsimp only at hSw); go_simp; try with_reducible rfl)
                    try simp only [Act.put, List.setIfInBounds_toArray, List.set_cons_zero, List.set_cons_succ]
                    refine heldTake (i := 4) (v := ?_) rfl (by kernel_rfl) (by kernel_rfl) (fun _ _ _ h => h) (by rfl) (by assumption) (fun w hSw => ?_) ?_; rotate_left; focus ((try dsimp only at hSw); go_simp; try with_reducible rfl)
                    try simp only [Act.put, List.setIfInBounds_toArray, List.set_cons_zero, List.set_cons_succ]
                    refine heldTake (i := 5) (v := ?_) rfl (by kernel_rfl) (by kernel_rfl) (fun _ _ _ h => h) (by rfl) (by assumption) (fun w hSw => ?_) ?_; rotate_left; focus ((try dsimp only at hSw); go_simp; try with_reducible rfl)
                    try simp only [Act.put, List.setIfInBounds_toArray, List.set_cons_zero, List.set_cons_succ]
                    -- NEXT 6 Op.store 9 (Operand.tmp 70) (Operand.tmp 69)
                    refine heldNext (i := 6) rfl (by kernel_rfl) (by rfl) (fun K hK => ?_)
                    go_simp; refine hK.out _ _ hs5 ?_; clear hK K
                    try simp only [Act.put, List.setIfInBounds_toArray, List.set_cons_zero, List.set_cons_succ]
                    refine wpAnyH_done (by kernel_rfl) ?_ _
                    skip

                    by_cases hmm : m = 1
                    · subst hmm
                      go_wp2
                      go_roundw
                      case rel => exact ⟨i + 1, _, 0, n, pre ++ [u.text], by first | rfl | go_num, rfl, by omega, by omega, fun h => absurd h (by decide), Lib.hid ⟨HT5.out, HQ5.out, HX.out.1, by rw [HX.out.2.1]; exact HN.out, hi1⟩⟩
                      case measure => simp [intOf]; omega
                    · have e1 : (m = 1) = False := eq_false hmm
                      have e2 : (1 : Int) ≤ (m : Int) := by omega
                      go_wp2
                      go_roundw
                      case rel => exact ⟨i + 1, _, m - 1, n, pre ++ [u.text], by first | rfl | go_num, by first | rfl | go_num, by omega, by omega, fun _ => by rw [List.length_append]; rfl, Lib.hid ⟨HT5.out, HQ5.out, HX.out.1, by rw [HX.out.2.1]; exact HN.out, hi1⟩⟩
                      case measure => simp [intOf]; omega
                · have k1 : ((u.kind : Int) == 1) = false := beq_eq_false_iff_ne.2 (by omega)
                  have k1' : ((u.kind : Int) = 1) = False := eq_false (by omega)
                  have k3 : ((u.kind : Int) == 3) = false := beq_eq_false_iff_ne.2 (by omega)
                  have k3' : ((u.kind : Int) = 3) = False := eq_false (by omega)
                  rw [if_neg hk13, List.append_nil] at htx
                  rw [if_neg hk2] at hln
                  have HX := Lib.hid (⟨htx, hln⟩ : _ ∧ _)
                  have HN := Lib.hid HR.out.n
                  clear htx hln hle3 hc3' hfu hk2 hk13 hpl
                  go_wp2
                  go_roundw
                  case rel => exact ⟨i + 1, oo, m, n, pre, by first | rfl | go_num, rfl, by omega, hm, hoo, Lib.hid ⟨HTR.out, HQ8T.out, by rw [HX.out.1]; exact hpre, by rw [HX.out.2]; exact HN.out, hi1⟩⟩
                  case measure => simp [intOf]; omega
            · obtain rfl : i = M := by omega
              have hpre := HR.out.pre
              have hn := HR.out.n
              rw [List.take_of_length_le (by rw [HML.out]; exact Nat.le_refl _)] at hpre hn
              have q8 := HR.out.q8
              unfold fl at q8
              obtain ⟨F0, hF0⟩ : ∃ F0, pre.getD 0 [] = F0 := ⟨_, rfl⟩
              obtain ⟨F1, hF1⟩ : ∃ F1, pre.getD 1 [] = F1 := ⟨_, rfl⟩
              obtain ⟨F2, hF2⟩ : ∃ F2, pre.getD 2 [] = F2 := ⟨_, rfl⟩
              rw [hF0, hF1, hF2] at q8
              have hM := HM.out
              rw [← hpre, ← hn, hF0, hF1, hF2] at hM
              have HM2 := Lib.hid hM
              have hz := (HZ3.out.below HB4.out).trn hbr (show ¬ (w.heap.size = q) by omega)
              have hr4 := (HR3.out.below HB4.out).trn hbr (show ¬ (g = q) by omega)
              have ht4 := (HTL3.out.below HB4.out).trn hbr (show ¬ (b = q) by omega)
              have hTw : Trn (fun k => k = g ∨ w.heap.size ≤ k) w wr := ((HTW.out.then (Trn.of_below HB4.out)).more (fun k hk => .inl hk)).then (hbr.more (fun k hk => .inr (by have : k = q := hk; omega)))
              have yy0 := q8.cell (i := 0) rfl
              have yy1 := q8.cell (i := 1) rfl
              have yy2 := q8.cell (i := 2) rfl
              have yy3 := q8.cell (i := 3) rfl
              have yy4 := q8.cell (i := 4) rfl
              have yy5 := q8.cell (i := 5) rfl
              have yy6 := q8.cell (i := 6) rfl
              have yy7 := q8.cell (i := 7) rfl
              have zz0 := hz.cell (i := 0) rfl
              have zz1 := hz.cell (i := 1) rfl
              have zz2 := hz.cell (i := 2) rfl
              have zz3 := hz.cell (i := 3) rfl
              have zz4 := hz.cell (i := 4) rfl
              have zz5 := hz.cell (i := 5) rfl
              have zz6 := hz.cell (i := 6) rfl
              have zz7 := hz.cell (i := 7) rfl
              have zf0 := hz.fr 0
              have zf1 := hz.fr 1
              have zf2 := hz.fr 2
              have zf3 := hz.fr 3
              have zf4 := hz.fr 4
              have zf5 := hz.fr 5
              have zf6 := hz.fr 6
              have zf7 := hz.fr 7
              have hset := hz.set (vs := [.int .i64 (R : Int), .string ⟨F0.toArray⟩, .string ⟨F1.toArray⟩, .string ⟨F2.toArray⟩, .int .i64 (n : Int), .int .i64 (t.place : Int), .slice none 0 0, .slice none 0 0]) rfl
              have hTr : Trn (fun k => k = g ∨ w.heap.size ≤ k) w (setN wr w.heap.size 0 [.int .i64 (R : Int), .string ⟨F0.toArray⟩, .string ⟨F1.toArray⟩, .string ⟨F2.toArray⟩, .int .i64 (n : Int), .int .i64 (t.place : Int), .slice none 0 0, .slice none 0 0]) := setN_trn (.inr (Nat.le_refl _)) _ _ hTw
              have hrr := hr4.same (w' := setN wr w.heap.size 0 [.int .i64 (R : Int), .string ⟨F0.toArray⟩, .string ⟨F1.toArray⟩, .string ⟨F2.toArray⟩, .int .i64 (n : Int), .int .i64 (t.place : Int), .slice none 0 0, .slice none 0 0]) (setN_other (by omega) _ _)
              have htt : TR (setN wr w.heap.size 0 [.int .i64 (R : Int), .string ⟨F0.toArray⟩, .string ⟨F1.toArray⟩, .string ⟨F2.toArray⟩, .int .i64 (n : Int), .int .i64 (t.place : Int), .slice none 0 0, .slice none 0 0]) b lv' r := ht4.trn (F := only w.heap.size) (setN_trn (F := only w.heap.size) (show w.heap.size = w.heap.size from rfl) _ _ (Trn.refl _ _)) (show ¬ (b = w.heap.size) by omega)
              have HSET := Lib.hid hset
              have HTR := Lib.hid hTr
              have HRR := Lib.hid (⟨hrr, htt⟩ : _ ∧ _)
              clear hset hTr hrr htt hz hr4 ht4 hTw hbr hM hF0 hF1 hF2 q8 hpre hn HR
              go_wp2
              change bodyPost _ _ _ _ _ (setN wr w.heap.size 0 [.int .i64 (R : Int), .string ⟨F0.toArray⟩, .string ⟨F1.toArray⟩, .string ⟨F2.toArray⟩, .int .i64 (n : Int), .int .i64 (t.place : Int), .slice none 0 0, .slice none 0 0])
              have hset := HSET.out
              have hTr := HTR.out
              have hrr := HRR.out
              generalize setN wr w.heap.size 0 [.int .i64 (R : Int), .string ⟨F0.toArray⟩, .string ⟨F1.toArray⟩, .string ⟨F2.toArray⟩, .int .i64 (n : Int), .int .i64 (t.place : Int), .slice none 0 0, .slice none 0 0] = W at hset hTr hrr ⊢
              have r0 := hset.cell (i := 0) rfl
              have r1 := hset.cell (i := 1) rfl
              have r2 := hset.cell (i := 2) rfl
              have r3 := hset.cell (i := 3) rfl
              have r4 := hset.cell (i := 4) rfl
              have r5 := hset.cell (i := 5) rfl
              have r6 := hset.cell (i := 6) rfl
              have r7 := hset.cell (i := 7) rfl
              refine bodyPost_ret (v := .agg #[.int .i64 (R : Int), .string ⟨F0.toArray⟩, .string ⟨F1.toArray⟩, .string ⟨F2.toArray⟩, .int .i64 (n : Int), .int .i64 (t.place : Int), .slice none 0 0, .slice none 0 0]) (by simp [results, Tryd.results40, go_sem, r0, r1, r2, r3, r4, r5, r6, r7]) rfl ?_
              unfold HeadQ
              rw [HM2.out]
              exact ⟨⟨hTr.os, hTr.tape, hTr.output, hTr.size, fun j hj hF => hTr.block j hj (fun e => e.elim hF (fun e => by omega))⟩, rfl, _, hrr.1, hrr.2⟩
end Go.Proofs.YtiikionoagmabaaDoor

/- What a statement's head leaves (layer 15, plain). -/
namespace Go.Proofs.YtiikionoagmabaaDoor
namespace Ps
open Lx (Tok)

theorem brace_code {d : Nat} {r : List Tok} {x : Nat × Nat} (h : brace d r = .error x) : x.2 = 20 ∨ x.2 = 21 := by
  cases r with
  | nil => cases h; exact .inl rfl
  | cons t r =>
    rw [brace] at h
    split at h
    · split at h
      · cases h; exact .inr rfl
      · cases h
    · cases h; exact .inl rfl
theorem brace_deep {d : Nat} {r r' : List Tok} (h : brace d r = .ok r') : d ≤ 7 := by
  cases r with
  | nil => cases h
  | cons t r =>
    rw [brace] at h
    split at h
    · split at h
      · cases h
      · omega
    · cases h
theorem headM_code {d : Nat} {ts : List Tok} {x : Nat × Nat} (h : headM d ts = .error x) : x.2 = 20 ∨ x.2 = 21 := by
  cases ts with
  | nil => cases h; exact .inl rfl
  | cons t ts =>
    rw [headM] at h
    split at h
    · cases hw : words (shape (kindOf t.text)) ts with
      | error e => rw [hw] at h; cases h; exact .inl (words_err _ _ hw)
      | ok y =>
        obtain ⟨ws, n, r⟩ := y
        rw [hw] at h
        dsimp only at h
        split at h
        · cases hb : brace d r with
          | error e => rw [hb] at h; cases h; exact brace_code hb
          | ok r' => rw [hb] at h; cases h
        · cases h
    · cases h; exact .inl rfl
theorem headM_ok {d : Nat} {t : Tok} {ts : List Tok} {st : St} {r : List Tok} (hd : d ≤ 8) (he : Ends (t :: ts)) (h : headM d (t :: ts) = .ok (st, r)) :
    Ends r ∧ r.length < (t :: ts).length ∧ 1 ≤ st.kind ∧ st.kind ≤ 17 ∧ (st.kind = 5 ∨ st.kind = 6 → d ≤ 7) := by
  by_cases h1 : t.kind = 1 ∧ kindOf t.text ≠ 0
  · have hle := kindOf_le (x := t.text) h1.2
    have hht := head_take (d := d) hd he.1 h1.1 rfl h1.2
    cases htk : takeW d (tailW (kindOf t.text)) ts with
    | error x => rw [hht.1 x htk] at h; cases h
    | ok r' =>
      obtain ⟨c, e1, e2, e3⟩ := hht.2 r' htk
      rw [e3] at h
      cases h
      have hne : ∀ w ∈ tailW (kindOf t.text), w ≠ [] := fun w hw => words_ne ⟨kindOf t.text, by omega⟩ hle.1 w (by simp only [List.mem_cons]; exact .inr hw)
      obtain ⟨q1, q2, q3⟩ := takeW_end hne (he.tail (by omega)) htk
      refine ⟨q1, by simp only [List.length_cons]; omega, ?_, ?_, ?_⟩
      · rw [(mk_kind3 _ _ _ _ _ _).1]; exact hle.1
      · rw [(mk_kind3 _ _ _ _ _ _).1]; exact hle.2
      · rw [(mk_kind3 _ _ _ _ _ _).1]
        intro h5
        rw [headM, if_pos h1] at e3
        cases hw : words (shape (kindOf t.text)) ts with
        | error e => rw [hw] at e3; cases e3
        | ok y =>
          obtain ⟨ws, n, r2⟩ := y
          rw [hw] at e3
          dsimp only at e3
          rw [if_pos h5] at e3
          cases hb : brace d r2 with
          | error e => rw [hb] at e3; cases e3
          | ok r3 => exact brace_deep hb
  · rw [headM, if_neg h1] at h
    cases h
/-- Behind an else. -/
theorem take_else {d : Nat} (hd : d ≤ 8) {r : List Tok} (he : Ends r) (hn : elseNext r = true) : takeW d [wElse, [123]] r = brace d r.tail := by
  cases r with
  | nil => cases hn
  | cons u r =>
    have hu : isName wElse u = true := hn
    have hf : fitsT wElse u = true := by
      rw [show wElse = 101 :: 108 :: [115, 101] from rfl, fitsT_word (by decide) (he.1 u (by simp))]
      exact hu
    rw [takeW, if_pos hf, if_neg (fun e => by cases e.1)]
    exact takeW_brace hd (fun v hv => he.1 v (by simp [hv]))
theorem else_fits {u : Tok} (hf : Fine u) : fitsT wElse u = isName wElse u := by
  rw [show wElse = 101 :: 108 :: [115, 101] from rfl]
  exact fitsT_word (by decide) hf
theorem suffix_shape : ∀ k : Fin 18, List.isSuffixOf [123] (shapeS k.val) = decide (k.val = 5 ∨ k.val = 6) := by decide +kernel
end Ps
end Go.Proofs.YtiikionoagmabaaDoor

/- A scope in which the run jumps to whatever labels: what holds at each jump, and a measure that every pass lowers. -/
namespace Go.Proofs.YtiikionoagmabaaDoor

/-- As Q; by a goto to label l: J l. -/
def jumps (J : Nat → Act → World → Prop) (Q : Exit → Act → World → Prop) : Exit → Act → World → Prop
  | .goto l, a, w => J l a w
  | e, a, w => Q e a w

section
variable {P : Program} {a : Act} {w : World} {Q : Exit → Act → World → Prop}

/-- From a place within the scope: out of it, or to a label. -/
theorem scope_pass {c rest : Code} {J : Nat → Act → World → Prop} (h : rest.wp P (jumps J Q) a w) (b : Frame) (k : List Item) (cs : List Frame) :
    (∃ e a' w', Q e a' w' ∧ Arrives P (lone (b.at a (.code rest :: .inScope c :: k)) cs w) b k cs e a' w') ∨
    ∃ l a' w', J l a' w' ∧ ∀ r, findLabel c l = some r → Steps P (lone (b.at a (.code rest :: .inScope c :: k)) cs w) (lone (b.at a' (.code r :: .inScope c :: k)) cs w') := by
  obtain ⟨e, a₁, w₁, hq, harr⟩ := h b (.inScope c :: k) cs
  cases e with
  | goto l => exact .inr ⟨l, a₁, w₁, hq, fun r hr => harr _ (by simp [gotoIn, hr])⟩
  | normal => exact .inl ⟨.normal, a₁, w₁, hq, Steps.trans harr (.one step_inScope)⟩
  | exit id => exact .inl ⟨.exit id, a₁, w₁, hq, fun k' hk => harr k' (by simp [exitTo, hk])⟩
  | ret => exact .inl ⟨_, a₁, w₁, hq, harr⟩
  | panic ch => exact .inl ⟨_, a₁, w₁, hq, harr⟩
  | outgrown => exact .inl ⟨_, a₁, w₁, hq, harr⟩

theorem jumps_mono {J K : Nat → Act → World → Prop} (h : ∀ l a w, J l a w → K l a w) : ∀ (e : Exit) (a : Act) (w : World), jumps J Q e a w → jumps K Q e a w := by
  intro e a w hj
  cases e
  case goto l => exact h l a w hj
  all_goals exact hj

/-- Each label stands ahead of some code 'r'. -/
theorem wp_scope_many {c : Code} (J : Nat → Act → World → Prop) (μ : Nat → Act → World → Nat)
    (pass : ∀ l a w, J l a w → ∃ r, findLabel c l = some (.seq .skip r) ∧ r.wp P (jumps (fun l' a' w' => J l' a' w' ∧ μ l' a' w' < μ l a w) Q) a w)
    (first : (∀ l a w, J l a w → ∃ r, findLabel c l = some (.seq .skip r) ∧ r.wp P (jumps J Q) a w) → c.wp P (jumps J Q) a w) : (Code.scope c).wp P Q a w := by
  have first := first (fun l a w hJ => by
    obtain ⟨r, hr, hw⟩ := pass l a w hJ
    exact ⟨r, hr, Code.wp_mono (jumps_mono fun _ _ _ h => h.1) hw⟩)
  have pass : ∀ l a w, J l a w → ∃ r, findLabel c l = some r ∧ r.wp P (jumps (fun l' a' w' => J l' a' w' ∧ μ l' a' w' < μ l a w) Q) a w := fun l a w hJ => by
    obtain ⟨r, hr, hw⟩ := pass l a w hJ
    exact ⟨_, hr, wp_seq (wp_skip hw)⟩
  intro b k cs
  have key : ∀ n l a w, μ l a w ≤ n → J l a w → ∀ r, findLabel c l = some r → ∃ e a' w', Q e a' w' ∧ Arrives P (lone (b.at a (.code r :: .inScope c :: k)) cs w) b k cs e a' w' := by
    intro n
    induction n with
    | zero =>
      intro l a w hn hJ r hr
      obtain ⟨r', hr', hw⟩ := pass l a w hJ
      obtain rfl : r' = r := Option.some.inj (hr'.symm.trans hr)
      rcases scope_pass hw b k cs with h | ⟨l', a', w', ⟨_, hlt⟩, _⟩
      · exact h
      · omega
    | succ n ih =>
      intro l a w hn hJ r hr
      obtain ⟨r', hr', hw⟩ := pass l a w hJ
      obtain rfl : r' = r := Option.some.inj (hr'.symm.trans hr)
      rcases scope_pass hw b k cs with h | ⟨l', a', w', ⟨hJ', hlt⟩, hs⟩
      · exact h
      · obtain ⟨r2, hr2, _⟩ := pass l' a' w' hJ'
        obtain ⟨e, a2, w2, hq, ha⟩ := ih l' a' w' (by omega) hJ' r2 hr2
        exact ⟨e, a2, w2, hq, .of_steps (hs r2 hr2) ha⟩
  rcases scope_pass (c := c) first b k cs with ⟨e, a', w', hq, ha⟩ | ⟨l, a', w', hJ, hs⟩
  · exact ⟨e, a', w', hq, .of_steps (.one step_scope) ha⟩
  · obtain ⟨r, hr, _⟩ := pass l a' w' hJ
    obtain ⟨e, a2, w2, hq, ha⟩ := key _ l a' w' (Nat.le_refl _) hJ r hr
    exact ⟨e, a2, w2, hq, .of_steps (.head step_scope (hs r hr)) ha⟩
theorem jumps_ret {J : Nat → Act → World → Prop} : jumps J Q .ret a w = Q .ret a w := rfl
end
end Go.Proofs.YtiikionoagmabaaDoor

/- parse's statements walked (layer 15). -/
namespace Go.Proofs.YtiikionoagmabaaDoor
open Go.RowKit

theorem half_info : (Tryd.prog.info? 74).map (fun i => (i.zero, i.size, i.bytes)) = some (some (.agg #[.int .i64 0, .string ⟨#[]⟩, .string ⟨#[]⟩, .string ⟨#[]⟩, .int .i64 0, .int .i64 0, .slice none 0 0, .slice none 0 0, .bool false]), 9, 128) := by kernel_rfl
/-- 'append(open, s)'. -/
theorem append_h {o : Oper} {a : Act} {K : Act → World → Prop} {Q : Exit → Act → World → Prop} {w : World} {B b : Nat} {v : Value} {cs : List HA} (t : HA)
    (s x : Operand) (ho : o.op = .call { callee := .builtin .append, args := #[s, x], argTypes := #[48, 48] })
    (hs : a.eval s = v) (h : w.ownsRow B 74 9 v cs.length (hRow cs)) (hx : a.eval x = .slice (some ⟨b, 0, none⟩) 1 1) (hb : w.heap[b]? = some (.cells (hCells t).toArray 74 (0, 0)))
    (hl : t.l.oneCell' = true) (hm : t.m.oneCell' = true) (hn : cs.length ≤ 1048576) (hB : B ≤ w.heap.size)
    (h' : ∀ g cap w', w'.ownsRow B 74 9 (.slice (some ⟨g, 0, none⟩) (cs.length + 1) cap) (cs.length + 1) (hRow (cs ++ [t])) → w.grownBy w' v.ownBlock → (v.ownBlock = some g ∨ g = w.heap.size) → K (a.put o.dst (.slice (some ⟨g, 0, none⟩) (cs.length + 1) cap)) w') : o.wp Tryd.prog a w K Q := by
  obtain ⟨i0, hi, hz0, hz1, hz2⟩ := info_parts half_info
  refine wp_append_lies w s x _ ho B _ i0 _ 9 128 Tryd.underlying48 hi hz0 hz1 hz2 (by decide) (by decide) v cs.length (hRow cs) hs h ⟨b, 0, none⟩ 1 1 (hCells t) hx rfl (World.news_of_block hb) ?_ (by decide) (by unfold maxLen; omega) (by omega) hB _ rfl (fun g cap w' h2 h3 h4 _ => h' g cap w' ?_ h3 h4)
  · intro u hu
    simp [hCells] at hu
    rcases hu with rfl | rfl | rfl | rfl | rfl | rfl | rfl | rfl | rfl
    · rfl
    · rfl
    · rfl
    · rfl
    · rfl
    · rfl
    · exact hl
    · exact hm
    · rfl
  · rw [show hRow (cs ++ [t]) = hRow cs ++ hCells t by simp [hRow]]
    exact h2
/-- How many tokens are left. -/
def lenG (w : World) (g : Nat) : Nat := match w.cell? ⟨g, 0, none⟩ with
  | some (.slice _ n _) => n
  | _ => 0
theorem RB.lenG {w : World} {g b md a f : Nat} {lv ov sv tv : Value} {ts : List Lx.Tok} (h : RB w g lv ov md sv tv a f) (ht : TR w b lv ts) : lenG w g = ts.length := by
  obtain ⟨o, cap, rfl, _⟩ := ht
  unfold Proofs.YtiikionoagmabaaDoor.lenG
  rw [h.c0]
theorem PX.lenG {w : World} {B g b q md a f : Nat} {lv ov sv tv : Value} {ts : List Lx.Tok} {hs ps : List HA} {cs : List SA} {top : List Nat} (h : PX w B g b q lv ov sv tv md a f ts hs ps cs top) : lenG w g = ts.length := h.rb.lenG h.tr
/-- What stands at each label. -/
structure SJ (w0 w : World) (B g b q md : Nat) (ts : List Lx.Tok) (hs ps : List HA) (cs : List SA) (top : List Nat) : Prop where
  px : ∃ lv ov sv tv, PX w B g b q lv ov sv tv md 0 0 ts hs ps cs top
  ends : Ps.Ends ts
  d : hs.length ≤ 8
  few : cs.length + (hs.length + ps.length) + ts.length ≤ 1000000
  lens : Lens hs ps cs top
  base : Below B w0 w
abbrev FR (a : Act) (g q : Nat) : Prop := ∃ f : Nat → Value, a = { tmps := #[.pointer (some ⟨g, 0, none⟩), f 1, .pointer (some ⟨q, 0, none⟩), f 3, f 4, f 5, f 6, f 7, f 8, f 9, f 10, f 11, f 12, f 13, f 14, f 15, f 16, f 17, f 18, f 19, f 20, f 21, f 22, f 23, f 24, f 25, f 26, f 27, f 28, f 29, f 30, f 31, f 32, f 33, f 34, f 35, f 36, f 37, f 38, f 39, f 40, f 41, f 42, f 43, f 44, f 45, f 46, f 47, f 48, f 49, f 50, f 51, f 52, f 53, f 54, f 55, f 56, f 57, f 58, f 59, f 60, f 61, f 62, f 63, f 64, f 65, f 66, f 67, f 68, f 69, f 70, f 71, f 72, f 73, f 74, f 75, f 76, f 77, f 78, f 79, f 80, f 81, f 82], defers := [] }
theorem FR.of (a : Act) (g q : Nat) (h : a = { tmps := #[.pointer (some ⟨g, 0, none⟩), a.tmps.getD 1 undef, .pointer (some ⟨q, 0, none⟩), a.tmps.getD 3 undef, a.tmps.getD 4 undef, a.tmps.getD 5 undef, a.tmps.getD 6 undef, a.tmps.getD 7 undef, a.tmps.getD 8 undef, a.tmps.getD 9 undef, a.tmps.getD 10 undef, a.tmps.getD 11 undef, a.tmps.getD 12 undef, a.tmps.getD 13 undef, a.tmps.getD 14 undef, a.tmps.getD 15 undef, a.tmps.getD 16 undef, a.tmps.getD 17 undef, a.tmps.getD 18 undef, a.tmps.getD 19 undef, a.tmps.getD 20 undef, a.tmps.getD 21 undef, a.tmps.getD 22 undef, a.tmps.getD 23 undef, a.tmps.getD 24 undef, a.tmps.getD 25 undef, a.tmps.getD 26 undef, a.tmps.getD 27 undef, a.tmps.getD 28 undef, a.tmps.getD 29 undef, a.tmps.getD 30 undef, a.tmps.getD 31 undef, a.tmps.getD 32 undef, a.tmps.getD 33 undef, a.tmps.getD 34 undef, a.tmps.getD 35 undef, a.tmps.getD 36 undef, a.tmps.getD 37 undef, a.tmps.getD 38 undef, a.tmps.getD 39 undef, a.tmps.getD 40 undef, a.tmps.getD 41 undef, a.tmps.getD 42 undef, a.tmps.getD 43 undef, a.tmps.getD 44 undef, a.tmps.getD 45 undef, a.tmps.getD 46 undef, a.tmps.getD 47 undef, a.tmps.getD 48 undef, a.tmps.getD 49 undef, a.tmps.getD 50 undef, a.tmps.getD 51 undef, a.tmps.getD 52 undef, a.tmps.getD 53 undef, a.tmps.getD 54 undef, a.tmps.getD 55 undef, a.tmps.getD 56 undef, a.tmps.getD 57 undef, a.tmps.getD 58 undef, a.tmps.getD 59 undef, a.tmps.getD 60 undef, a.tmps.getD 61 undef, a.tmps.getD 62 undef, a.tmps.getD 63 undef, a.tmps.getD 64 undef, a.tmps.getD 65 undef, a.tmps.getD 66 undef, a.tmps.getD 67 undef, a.tmps.getD 68 undef, a.tmps.getD 69 undef, a.tmps.getD 70 undef, a.tmps.getD 71 undef, a.tmps.getD 72 undef, a.tmps.getD 73 undef, a.tmps.getD 74 undef, a.tmps.getD 75 undef, a.tmps.getD 76 undef, a.tmps.getD 77 undef, a.tmps.getD 78 undef, a.tmps.getD 79 undef, a.tmps.getD 80 undef, a.tmps.getD 81 undef, a.tmps.getD 82 undef], defers := [] }) : FR a g q := ⟨fun i => a.tmps.getD i undef, h⟩
def rowOf (cs : List SA) : List Ps.St := cs.map (·.st)
theorem rowOf_snoc (cs : List SA) (x : SA) : rowOf (cs ++ [x]) = rowOf cs ++ [x.st] := by simp [rowOf]
def stMu (g l : Nat) (_ : Act) (w : World) : Nat := 4 * lenG w g + (if l = 0 then 0 else if l = 1 then 1 else 2)
def StJ (w0 : World) (B g b q md : Nat) (Tg : Ps.Out) (l : Nat) (a : Act) (w : World) : Prop :=
  (l = 1 ∧ FR a g q ∧ ∃ ts hs cs top, SJ w0 w B g b q md ts hs [] cs top ∧ Tg = Ps.run (stk hs) [] (rowOf cs) top ts) ∨
  (l = 0 ∧ FR a g q ∧ ∃ t ts hs x cs top, SJ w0 w B g b q md (t :: ts) (hs ++ [x]) [] cs top ∧ Ps.isSign 125 t = true ∧ Tg = Ps.fin (Ps.run (stk hs)) (stk hs).length x.hf (rowOf cs) top ts) ∨
  (l = 3 ∧ FR a g q ∧ ∃ ts hs x cs top, SJ w0 w B g b q md ts hs [x] cs top ∧ H9 w q (hCells x) ∧ Tg = Ps.run (stk hs) [cs.length] (rowOf cs ++ [x.st]) top ts) ∨
  (l = 2 ∧ FR a g q ∧ ∃ ts hs x cs top, SJ w0 w B g b q md ts hs [x] cs top ∧ H9 w q (hCells x) ∧ hs.length ≤ 7 ∧ Tg = Ps.run (x.hf :: stk hs) [] (rowOf cs) top ts)
/-- What the reader holds behind it all. -/
def StQ (B g md : Nat) (Tg : Ps.Out) (w : World) : Prop := match Tg with
  | .error (p, c) => ∃ lv ov sv tv, RB w g lv ov md sv tv p c ∧ (c = 20 ∨ c = 21)
  | .ok (row, top) => ∃ b q lv ov sv tv ts cs, PX w B g b q lv ov sv tv md 0 0 ts [] [] cs top ∧ rowOf cs = row

set_option maxRecDepth 40000 in
set_option maxHeartbeats 30000000 in
theorem statements_any {B g b md : Nat} {lv : Value} {ts : List Lx.Tok} (w : World) (h : RB w g lv (.slice none 0 0) md (.slice none 0 0) (.slice none 0 0) 0 0) (ht : TR w b lv ts) (he : Ps.Ends ts) (hbg : b ≠ g) (hB : B ≤ g) (hB2 : B ≤ b) (hS : SHP w) (hg0 : 0 < B) (hl : ts.length ≤ 1000000) :
    Calls Tryd.prog 25 #[.pointer (some ⟨g, 0, none⟩)] w fun e w' => e = .returned (.tuple #[]) ∧ Below B w w' ∧ StQ B g md (Ps.run [] [] [] [] ts) w' := by
  obtain ⟨Tg, hTg⟩ : ∃ Tg, Ps.run [] [] [] [] ts = Tg := ⟨_, rfl⟩
  rw [hTg]
  have hgl := h.lt
  have hbl : b < w.heap.size := by
    obtain ⟨t, r, e, _⟩ := he.ne
    exact ht.lt (by rw [e]; simp)
  have hinit : ∀ T, w.alloc (.cells #[.int .i64 0, .string ⟨#[]⟩, .string ⟨#[]⟩, .string ⟨#[]⟩, .int .i64 0, .int .i64 0, .slice none 0 0, .slice none 0 0, .bool false] 74) = T → SJ w T B g b w.heap.size md ts [] [] [] [] := by
    intro T hT
    have hbT : Below w.heap.size w T := by rw [← hT]; exact (Below.refl _ _).alloc (Nat.le_refl _) _
    have hq : T.heap[w.heap.size]? = some (.cells #[.int .i64 0, .string ⟨#[]⟩, .string ⟨#[]⟩, .string ⟨#[]⟩, .int .i64 0, .int .i64 0, .slice none 0 0, .slice none 0 0, .bool false] 74 (0, 0)) := by rw [← hT]; exact heap_alloc_new _ _
    have hsz := hbT.size
    refine ⟨⟨lv, .slice none 0 0, .slice none 0 0, .slice none 0 0, h.below hbT, ht.below hbT, by omega, ⟨_, _, _, _, _, _, _, _, _, hq⟩, World.ownsRow_nil _ _ _ _, World.ownsRow_nil _ _ _ _, World.ownsRow_nil _ _ _ _, fun x hx => by simp at hx, fun x hx => by simp at hx, ?_, hB, hB2, by omega⟩, he, by simp, by simp only [List.length_nil]; omega, ⟨fun x hx => by simp at hx, by simp⟩, hbT.mono (by omega)⟩
    intro i j k hi hj
    cases i <;> cases j <;> simp [bAt, Value.ownBlock] at hi hj <;> first | rfl | omega
  have HI := Lib.hid hinit
  have HTG0 := Lib.hid hTg
  have HSH := Lib.hid hS
  clear hinit h ht he hTg hS hl
  go_enter Tryd.func25, Tryd.ntmps25
  go_wp2
  refine wp_scope_many (StJ w B g b w.heap.size md Tg) (stMu g) ?pass ?first
  case first =>
    intro hp
    go_wp2
    go_step3
    rename_i K hk
    refine hk _ _ ?_
    refine (show ∀ a wx, StJ w B g b w.heap.size md Tg 1 a wx → Code.wp _ _ _ a wx from fun a wx hJ => ?_) _ _ (Or.inl ⟨rfl, FR.of _ _ _ rfl, ts, [], [], [], HI.out _ rfl, HTG0.out.symm⟩)
    obtain ⟨r, hr, hw⟩ := hp 1 _ _ hJ
    obtain ⟨_, hr⟩ := Code.seq.inj (Option.some.inj hr)
    subst hr
    exact hw
  case pass =>
    clear HI HTG0
    generalize hqq : w.heap.size = q
    have HSHP := Lib.hid (fun (wx : World) (hb : Below B w wx) => (fun i hi => (hb.cell (p := ⟨0, i, none⟩) hg0).trans (HSH.out i hi) : SHP wx))
    have HQW := Lib.hid hqq
    clear HSH hqq hgl hbl
    intro l a wr hJ
    rcases hJ with ⟨rfl, ⟨f, rfl⟩, ts, hs, cs, top, hSJ, hT⟩ | ⟨rfl, ⟨f, rfl⟩, t, ts, hs, x, cs, top, hSJ, hsg, hT⟩ | ⟨rfl, ⟨f, rfl⟩, ts, hs, x, cs, top, hSJ, hq, hT⟩ | ⟨rfl, ⟨f, rfl⟩, ts, hs, x, cs, top, hSJ, hq, hd7, hT⟩
    · refine ⟨_, rfl, ?_⟩
      have HS := Lib.hid hSJ
      obtain ⟨lv, ov, sv', tv, hP⟩ := hSJ.px
      obtain ⟨t, ts', rfl, hfine⟩ := hSJ.ends.ne
      clear hSJ
      rcases List.eq_nil_or_concat hs with rfl | ⟨hs0, x, hx⟩
      · have hop := hP.op
        rw [show ([] : List HA).length = 0 from rfl] at hop
        obtain ⟨oo, oc, rfl⟩ := own_form9 hop
        have htr := hP.tr
        obtain ⟨o, cap, rfl, hcap, _, hcell⟩ := htr
        obtain ⟨c0, c1, c2⟩ := hcell 0 t rfl
        rw [Nat.zero_mul, Nat.add_zero] at c0 c1 c2
        have g0 := hP.rb.c0
        have g1 := hP.rb.c1
        have hp0 : (0 : Int) < ((t :: ts').length : Int) := by simp only [List.length_cons]; omega
        have hp1 : 0 < (t :: ts').length := by simp
        clear hcell hop
        by_cases hk0 : t.kind = 0
        · have k0 : ((t.kind : Int) == 0) = true := beq_iff_eq.2 (by omega)
          have k0' : ((t.kind : Int) = 0) = True := eq_true (by omega)
          have HT := Lib.hid (show Tg = .ok (rowOf cs, top) by rw [hT]; exact Ps.run_end hk0)
          have HP := Lib.hid hP
          clear hT hP hk0
          generalize (t :: ts').length = L at g0 hp0 hp1 hcap
          go_wp2
          rw [jumps_ret]
          refine bodyPost_ret (v := .tuple #[]) (by simp [results, Tryd.results25, go_sem]) rfl ?_
          refine ⟨rfl, HS.out.base, ?_⟩
          rw [HT.out]
          exact ⟨b, q, _, _, _, _, _, cs, HP.out, rfl⟩
        · have k0 : ((t.kind : Int) == 0) = false := beq_eq_false_iff_ne.2 (by omega)
          have k0' : ((t.kind : Int) = 0) = False := eq_false (by omega)
          have hlenT : (t :: ts').length ≤ 1000000 := by have := HS.out.few; omega
          have HENDT := Lib.hid HS.out.ends
          have hBW : Below B w wr := HS.out.base
          have hSW : SHP wr := HSHP.out _ hBW
          have hd8 : 0 ≤ 8 := by have := HS.out.d; simp only [List.length_append, List.length_cons, List.length_nil] at this; omega
          have HDA := head_any t ts' b g md 0 0 0 _ _ _ _ wr hP.rb hP.tr hbg HENDT.out ⟨_, _, rfl⟩ hd8 (by omega) hSW (by omega)
          have HRUN := Lib.hid (hT.trans (Ps.run_head (S := stk []) (fun _ => hk0) (fun h => absurd rfl h)))
          have HLG := Lib.hid (show lenG wr g = (t :: ts').length from hP.lenG)
          have HT3 := Lib.hid hP
          clear hT hP hk0 hfine
          go_wp2_with fail
          refine HDA.mono ?_
          rintro e w2 hQ
          obtain ⟨ht2, hQ⟩ := hQ
          clear HDA
          have hb2 : Below B w w2 := hBW.trans (ht2.below (fun k hk => by rw [show k = g from hk]; exact hB) HT3.out.bsz)
          have hgq : ¬ (g = q) := fun e => absurd (HT3.out.nd .g .q q (by rw [← e]; rfl) rfl) (by simp)
          have hrun := HRUN.out
          rw [show (stk []).length = 0 by rw [stk_len]; simp] at hrun
          cases hh : Ps.headM 0 (t :: ts') with
          | error x =>
            obtain ⟨p0, c0⟩ := x
            rw [hh] at hQ hrun
            obtain ⟨⟨st, rfl⟩, hr2⟩ := hQ
            have hc := Ps.headM_code hh
            dsimp only at hc
            obtain ⟨k, s, t2, u, n, p, pl, pm⟩ := st
            have hP2 := HT3.out.of_g ht2 hr2 (HT3.out.tr.trn ht2 hbg)
            obtain ⟨v0, v1, v2, v3, v4, v5, v6, v7, v8, hq2⟩ := hP2.qlt
            have hq2' : H9 w2 q [v0, v1, v2, v3, v4, v5, v6, v7, v8] := hq2
            have z0 := hq2'.cell (i := 0) rfl
            have z1 := hq2'.cell (i := 1) rfl
            have z2 := hq2'.cell (i := 2) rfl
            have z3 := hq2'.cell (i := 3) rfl
            have z4 := hq2'.cell (i := 4) rfl
            have z5 := hq2'.cell (i := 5) rfl
            have z6 := hq2'.cell (i := 6) rfl
            have z7 := hq2'.cell (i := 7) rfl
            have z8 := hq2'.cell (i := 8) rfl
            have zf0 := hq2'.fr 0
            have zf1 := hq2'.fr 1
            have zf2 := hq2'.fr 2
            have zf3 := hq2'.fr 3
            have zf4 := hq2'.fr 4
            have zf5 := hq2'.fr 5
            have zf6 := hq2'.fr 6
            have zf7 := hq2'.fr 7
            have zf8 := hq2'.fr 8
            obtain ⟨w3, hw3⟩ : ∃ w3, (((((((((w2.setCell ⟨q, 0, none⟩ (.int .i64 (k : Int))).setCell ⟨q, 1, none⟩ (.string ⟨s.toArray⟩)).setCell ⟨q, 2, none⟩ (.string ⟨t2.toArray⟩)).setCell ⟨q, 3, none⟩ (.string ⟨u.toArray⟩)).setCell ⟨q, 4, none⟩ (.int .i64 (n : Int))).setCell ⟨q, 5, none⟩ (.int .i64 (p : Int))).setCell ⟨q, 6, none⟩ (.slice none 0 0)).setCell ⟨q, 7, none⟩ (.slice none 0 0)).setCell ⟨q, 8, none⟩ (.bool false)) = w3 := ⟨_, rfl⟩
            have ht3 : Trn (only q) w2 w3 := by
              rw [← hw3]
              exact setN_trn (F := only q) (show q = q from rfl) [.int .i64 (k : Int), .string ⟨s.toArray⟩, .string ⟨t2.toArray⟩, .string ⟨u.toArray⟩, .int .i64 (n : Int), .int .i64 (p : Int), .slice none 0 0, .slice none 0 0, .bool false] 0 (Trn.refl _ _)
            have hq3 : H9 w3 q [.int .i64 (k : Int), .string ⟨s.toArray⟩, .string ⟨t2.toArray⟩, .string ⟨u.toArray⟩, .int .i64 (n : Int), .int .i64 (p : Int), .slice none 0 0, .slice none 0 0, .bool false] := by
              rw [← hw3]
              exact hq2'.set (vs := [.int .i64 (k : Int), .string ⟨s.toArray⟩, .string ⟨t2.toArray⟩, .string ⟨u.toArray⟩, .int .i64 (n : Int), .int .i64 (p : Int), .slice none 0 0, .slice none 0 0, .bool false]) rfl
            have HQ := Lib.hid hq3
            have hP3 := hP2.of_q ht3 ⟨_, _, _, _, _, _, _, _, _, hq3⟩
            have hqB : B ≤ q := hP2.qB
            clear hq2
            have hr3 := hP3.rb
            have c6 := hr3.c6
            have cc1 : ((c0 : Int) != 0) = true := by rw [bne_iff_ne]; omega
            have cc2 : ((c0 : Int) == 0) = false := beq_eq_false_iff_ne.2 (by omega)
            have cc3 : ((c0 : Int) = 0) = False := eq_false (by omega)
            have HR3 := Lib.hid hr3
            have HFIN := Lib.hid (⟨hrun, hc, hb2.trans (ht3.below (fun k hk => by rw [show k = q from hk]; exact hqB) (by have := hb2.size; have := hP2.bsz; omega))⟩ : _ ∧ _ ∧ _)
            clear hP2 hP3 hr3 hr2 ht2 ht3 hh hc hq3 hq2' hb2 hrun hBW hSW
            unfold stC stCells
            go_wp2
            rw [jumps_ret]
            refine bodyPost_ret (v := .tuple #[]) (by simp [results, Tryd.results25, go_sem]) rfl ?_
            refine ⟨rfl, HFIN.out.2.2, ?_⟩
            rw [HFIN.out.1]
            exact ⟨_, _, _, _, HR3.out, HFIN.out.2.1⟩
          | ok x =>
            obtain ⟨st, r⟩ := x
            rw [hh] at hQ hrun
            obtain ⟨rfl, lv', hr2, htr2⟩ := hQ
            have hpr := Ps.headM_ok hd8 HENDT.out hh
            have hnl := Ps.headM_nil hh
            obtain ⟨k, s, t2, u, n, p, pl, pm⟩ := st
            dsimp only at hnl hpr hrun
            obtain ⟨rfl, rfl⟩ := hnl
            obtain ⟨hpe, hplen, hpk1, hpk2, hp7⟩ := hpr
            have hP2 := HT3.out.of_g ht2 hr2 htr2
            obtain ⟨v0, v1, v2, v3, v4, v5, v6, v7, v8, hq2⟩ := hP2.qlt
            have hq2' : H9 w2 q [v0, v1, v2, v3, v4, v5, v6, v7, v8] := hq2
            have z0 := hq2'.cell (i := 0) rfl
            have z1 := hq2'.cell (i := 1) rfl
            have z2 := hq2'.cell (i := 2) rfl
            have z3 := hq2'.cell (i := 3) rfl
            have z4 := hq2'.cell (i := 4) rfl
            have z5 := hq2'.cell (i := 5) rfl
            have z6 := hq2'.cell (i := 6) rfl
            have z7 := hq2'.cell (i := 7) rfl
            have z8 := hq2'.cell (i := 8) rfl
            have zf0 := hq2'.fr 0
            have zf1 := hq2'.fr 1
            have zf2 := hq2'.fr 2
            have zf3 := hq2'.fr 3
            have zf4 := hq2'.fr 4
            have zf5 := hq2'.fr 5
            have zf6 := hq2'.fr 6
            have zf7 := hq2'.fr 7
            have zf8 := hq2'.fr 8
            obtain ⟨w3, hw3⟩ : ∃ w3, (((((((((w2.setCell ⟨q, 0, none⟩ (.int .i64 (k : Int))).setCell ⟨q, 1, none⟩ (.string ⟨s.toArray⟩)).setCell ⟨q, 2, none⟩ (.string ⟨t2.toArray⟩)).setCell ⟨q, 3, none⟩ (.string ⟨u.toArray⟩)).setCell ⟨q, 4, none⟩ (.int .i64 (n : Int))).setCell ⟨q, 5, none⟩ (.int .i64 (p : Int))).setCell ⟨q, 6, none⟩ (.slice none 0 0)).setCell ⟨q, 7, none⟩ (.slice none 0 0)).setCell ⟨q, 8, none⟩ (.bool false)) = w3 := ⟨_, rfl⟩
            have ht3 : Trn (only q) w2 w3 := by
              rw [← hw3]
              exact setN_trn (F := only q) (show q = q from rfl) [.int .i64 (k : Int), .string ⟨s.toArray⟩, .string ⟨t2.toArray⟩, .string ⟨u.toArray⟩, .int .i64 (n : Int), .int .i64 (p : Int), .slice none 0 0, .slice none 0 0, .bool false] 0 (Trn.refl _ _)
            have hq3 : H9 w3 q [.int .i64 (k : Int), .string ⟨s.toArray⟩, .string ⟨t2.toArray⟩, .string ⟨u.toArray⟩, .int .i64 (n : Int), .int .i64 (p : Int), .slice none 0 0, .slice none 0 0, .bool false] := by
              rw [← hw3]
              exact hq2'.set (vs := [.int .i64 (k : Int), .string ⟨s.toArray⟩, .string ⟨t2.toArray⟩, .string ⟨u.toArray⟩, .int .i64 (n : Int), .int .i64 (p : Int), .slice none 0 0, .slice none 0 0, .bool false]) rfl
            have HQ := Lib.hid hq3
            have hP3 := hP2.of_q ht3 ⟨_, _, _, _, _, _, _, _, _, hq3⟩
            have hqB : B ≤ q := hP2.qB
            clear hq2
            have hP := hP3.hand (x := ⟨⟨k, s, t2, u, n, p, [], []⟩, .slice none 0 0, .slice none 0 0, false⟩) rfl rfl rfl rfl
            have c6 : w3.cell? ⟨g, 6, none⟩ = some (.int .i64 0) := hP.rb.c6
            have hb3 : Below B w w3 := hb2.trans (ht3.below (fun k hk => by rw [show k = q from hk]; exact hqB) (by have := hb2.size; have := hP2.bsz; omega))
            have hS3 := HSHP.out _ hb3
            have SHx := Lib.hid (fun (wx : World) (hx : SHP wx) => pshape_any k (by omega) wx hx)
            have hsuf := Ps.suffix_shape ⟨k, by omega⟩
            have HSx := Lib.hid (fun wx => by
              have := Tryd.strings_HasSuffix ⟨(Ps.shapeS k).toArray⟩ ⟨#[123]⟩ wx (by
                have := Ps.shapeS_len ⟨k, by omega⟩
                show (Ps.shapeS k).length ≤ _
                simp only at this
                omega)
              rw [show Lib.hasSuffix (⟨(Ps.shapeS k).toArray⟩ : ByteArray).data.toList (⟨#[123]⟩ : ByteArray).data.toList = decide (k = 5 ∨ k = 6) from hsuf] at this
              exact this)
            have y0 := hq3.cell (i := 0) rfl
            have HENDS := Lib.hid hpe
            have HFEW := Lib.hid (show cs.length + (0 + 1) + r.length ≤ 1000000 by
              have := HS.out.few
              simp only [List.length_append, List.length_cons, List.length_nil] at this hplen
              omega)
            have HFEW := Lib.hid (show cs.length + (([] : List HA).length + [(⟨⟨k, s, t2, u, n, p, [], []⟩, .slice none 0 0, .slice none 0 0, false⟩ : HA)].length) + r.length ≤ 1000000 by
              have := HFEW.out
              simp only [List.length_append, List.length_cons, List.length_nil]
              omega)
            have HLENS := Lib.hid (⟨fun z hz => by
              rcases List.mem_append.1 hz with hz | hz
              · exact HS.out.lens.h z (by rw [List.append_nil]; exact hz)
              · rw [List.mem_singleton.1 hz]; exact ⟨Nat.zero_le _, Nat.zero_le _⟩, HS.out.lens.t⟩ : Lens [] [⟨⟨k, s, t2, u, n, p, [], []⟩, .slice none 0 0, .slice none 0 0, false⟩] cs top)
            have HD := Lib.hid HS.out.d
            have HBASE := Lib.hid hb3
            have HMU1 := Lib.hid (show 4 * r.length + 1 < 4 * lenG wr g + 1 by rw [HLG.out]; omega)
            have HMU2 := Lib.hid (show 4 * r.length + 2 < 4 * lenG wr g + 1 by rw [HLG.out]; omega)
            clear hP2 hP3 hr2 ht2 ht3 hh hq3 hq2' hb2 hBW hSW hpe hplen hsuf hb3 htr2
            by_cases h56 : k = 5 ∨ k = 6
            · rw [if_pos h56] at hrun
              rw [decide_eq_true h56] at HSx
              have HTG := Lib.hid hrun
              have HD7 := Lib.hid (hp7 h56)
              have HP := Lib.hid hP
              clear hrun hP hp7 h56 hpk1 hpk2
              unfold stC stCells
              go_wp2_with fail
              refine (SHx.out _ hS3).mono ?_
              rintro e w4 ⟨rfl, rfl⟩
              go_wp2_with fail
              refine (HSx.out _).mono ?_
              rintro e w4 ⟨rfl, he4⟩
              obtain rfl := he4.symm
              go_wp2
              go_step3
              refine ⟨Or.inr (Or.inr (Or.inr ⟨rfl, FR.of _ _ _ rfl, r, [], ⟨⟨k, s, t2, u, n, p, [], []⟩, .slice none 0 0, .slice none 0 0, false⟩, cs, top, ⟨⟨_, _, _, _, HP.out⟩, HENDS.out, HD.out, HFEW.out, HLENS.out, HBASE.out⟩, HQ.out, by simp only [List.length_append, List.length_cons, List.length_nil]; have := HD7.out; omega, HTG.out⟩)), ?_⟩
              show 4 * lenG w3 g + 2 < _
              rw [HP.out.lenG]
              exact HMU2.out
            · rw [if_neg h56] at hrun
              rw [decide_eq_false h56] at HSx
              have hrl : (rowOf cs).length = cs.length := by unfold rowOf; rw [List.length_map]
              rw [hrl] at hrun
              have HTG := Lib.hid hrun
              have HMU := HMU1
              clear hrun hp7 h56 hpk1 hpk2 hrl
              unfold stC stCells
              go_wp2_with fail
              refine (SHx.out _ hS3).mono ?_
              rintro e w4 ⟨rfl, rfl⟩
              go_wp2_with fail
              refine (HSx.out _).mono ?_
              rintro e w4 ⟨rfl, he4⟩
              obtain rfl := he4.symm
              have PA := put_any ⟨⟨k, s, t2, u, n, p, [], []⟩, .slice none 0 0, .slice none 0 0, false⟩ w3 hP (by have := HD.out; omega) (by have := HFEW.out; omega) HLENS.out
              have y0 := HQ.out.cell (i := 0) rfl
              have y1 := HQ.out.cell (i := 1) rfl
              have y2 := HQ.out.cell (i := 2) rfl
              have y3 := HQ.out.cell (i := 3) rfl
              have y4 := HQ.out.cell (i := 4) rfl
              have y5 := HQ.out.cell (i := 5) rfl
              have y6 := HQ.out.cell (i := 6) rfl
              have y7 := HQ.out.cell (i := 7) rfl
              clear HQ
              go_wp2_with fail
              refine wp_label ?_
              simp only [Exit.then]
              go_wp2_with fail
              refine PA.mono ?_
              rintro e w5 ⟨rfl, ⟨sv5, tv5, hs5, top5, hP5, hst5, htop5, hlen5, hlens5⟩, hb5⟩
              have HP5 := Lib.hid hP5
              have HX5 := Lib.hid (⟨hst5, htop5, hlen5, hlens5⟩ : _ ∧ _ ∧ _ ∧ _)
              have HB5 := Lib.hid hb5
              clear hP5 hst5 htop5 hlen5 hlens5 hb5 PA hP
              go_wp2
              go_step3
              refine ⟨Or.inl ⟨rfl, FR.of _ _ _ rfl, _, hs5, _, top5, ⟨⟨_, _, _, _, HP5.out⟩, HENDS.out, by rw [HX5.out.2.2.1]; exact HD.out, by have := HFEW.out; rw [List.length_append, List.length_singleton, HX5.out.2.2.1]; simp only [List.length_cons, List.length_nil] at this ⊢; omega, HX5.out.2.2.2, HBASE.out.trans HB5.out⟩, ?_⟩, ?_⟩
              · rw [HTG.out, Ps.run_put, HX5.out.1, HX5.out.2.1, rowOf_snoc]
                rfl
              · show 4 * lenG w5 g + 1 < _
                rw [HP5.out.lenG]
                exact HMU.out
      · rw [List.concat_eq_append] at hx
        subst hx
        obtain ⟨og, oc, rfl, _, _⟩ := hP.form
        have IS := is_any [125] b g md 0 0 _ _ _ _ t ts' wr hP.rb hP.tr
        rw [Ps.fitsT_sign rfl hfine] at IS
        have g1 := hP.rb.c1
        have n1 : (0 : Int) < (hs0.length : Int) + 1 := by omega
        have n2 : (((hs0.length : Int) + 1) == 0) = false := beq_eq_false_iff_ne.2 (by omega)
        have n3 : (((hs0.length : Int) + 1) = 0) = False := eq_false (by omega)
        by_cases hsg : Ps.isSign 125 t = true
        · rw [hsg] at IS
          have HP := Lib.hid hP
          have HT := Lib.hid hT
          clear hP hT
          go_wp2_with fail
          refine IS.mono ?_
          rintro e w1 ⟨rfl, hb1⟩
          have HP1 := Lib.hid (HP.out.below hb1)
          have HB1 := Lib.hid (hb1.mono HP.out.bsz)
          clear hb1 IS
          go_wp2
          go_step3
          refine ⟨Or.inr (Or.inl ⟨rfl, FR.of _ _ _ rfl, t, ts', hs0, x, cs, top, ⟨⟨_, _, _, _, HP1.out⟩, HS.out.ends, HS.out.d, HS.out.few, HS.out.lens, HS.out.base.trans HB1.out⟩, hsg, ?_⟩), ?_⟩
          · rw [HT.out, stk_snoc, Ps.run_close hsg]
          · show 4 * lenG w1 g + 0 < 4 * lenG wr g + 1
            rw [HP1.out.lenG, HP.out.lenG]
            omega
        · have hsf : Ps.isSign 125 t = false := by simpa using hsg
          rw [hsf] at IS
          have HP := Lib.hid hP
          have HB0 := Lib.hid hP.bsz
          go_wp2_with fail
          refine IS.mono ?_
          rintro e w1 ⟨rfl, hb1⟩
          have hP1 := HP.out.below hb1
          have g1 := hP1.rb.c1
          have HBW1 := Lib.hid (HS.out.base.trans (hb1.mono HB0.out))
          clear hb1 IS
          have hlenT : (t :: ts').length ≤ 1000000 := by have := HS.out.few; omega
          have HENDT := Lib.hid HS.out.ends
          have hBW : Below B w w1 := HBW1.out
          have hSW : SHP w1 := HSHP.out _ hBW
          have hd8 : (hs0.length + 1) ≤ 8 := by have := HS.out.d; simp only [List.length_append, List.length_cons, List.length_nil] at this; omega
          have HDA := head_any t ts' b g md 0 0 (hs0.length + 1) _ _ _ _ w1 hP1.rb hP1.tr hbg HENDT.out ⟨_, _, rfl⟩ hd8 (by omega) hSW (by omega)
          have HRUN := Lib.hid (hT.trans (Ps.run_head (S := stk (hs0 ++ [x])) (fun h => absurd h (by rw [stk_snoc]; simp)) (fun _ => hsf)))
          have HLG := Lib.hid (show lenG wr g = (t :: ts').length from hP.lenG)
          have HT3 := Lib.hid hP1
          clear hT hP hfine hP1 hsg
          go_wp2_with fail
          refine HDA.mono ?_
          rintro e w2 hQ
          obtain ⟨ht2, hQ⟩ := hQ
          clear HDA
          have hb2 : Below B w w2 := hBW.trans (ht2.below (fun k hk => by rw [show k = g from hk]; exact hB) HT3.out.bsz)
          have hgq : ¬ (g = q) := fun e => absurd (HT3.out.nd .g .q q (by rw [← e]; rfl) rfl) (by simp)
          have hrun := HRUN.out
          rw [show (stk (hs0 ++ [x])).length = (hs0.length + 1) by rw [stk_len]; simp] at hrun
          cases hh : Ps.headM (hs0.length + 1) (t :: ts') with
          | error x =>
            obtain ⟨p0, c0⟩ := x
            rw [hh] at hQ hrun
            obtain ⟨⟨st, rfl⟩, hr2⟩ := hQ
            have hc := Ps.headM_code hh
            dsimp only at hc
            obtain ⟨k, s, t2, u, n, p, pl, pm⟩ := st
            have hP2 := HT3.out.of_g ht2 hr2 (HT3.out.tr.trn ht2 hbg)
            obtain ⟨v0, v1, v2, v3, v4, v5, v6, v7, v8, hq2⟩ := hP2.qlt
            have hq2' : H9 w2 q [v0, v1, v2, v3, v4, v5, v6, v7, v8] := hq2
            have z0 := hq2'.cell (i := 0) rfl
            have z1 := hq2'.cell (i := 1) rfl
            have z2 := hq2'.cell (i := 2) rfl
            have z3 := hq2'.cell (i := 3) rfl
            have z4 := hq2'.cell (i := 4) rfl
            have z5 := hq2'.cell (i := 5) rfl
            have z6 := hq2'.cell (i := 6) rfl
            have z7 := hq2'.cell (i := 7) rfl
            have z8 := hq2'.cell (i := 8) rfl
            have zf0 := hq2'.fr 0
            have zf1 := hq2'.fr 1
            have zf2 := hq2'.fr 2
            have zf3 := hq2'.fr 3
            have zf4 := hq2'.fr 4
            have zf5 := hq2'.fr 5
            have zf6 := hq2'.fr 6
            have zf7 := hq2'.fr 7
            have zf8 := hq2'.fr 8
            obtain ⟨w3, hw3⟩ : ∃ w3, (((((((((w2.setCell ⟨q, 0, none⟩ (.int .i64 (k : Int))).setCell ⟨q, 1, none⟩ (.string ⟨s.toArray⟩)).setCell ⟨q, 2, none⟩ (.string ⟨t2.toArray⟩)).setCell ⟨q, 3, none⟩ (.string ⟨u.toArray⟩)).setCell ⟨q, 4, none⟩ (.int .i64 (n : Int))).setCell ⟨q, 5, none⟩ (.int .i64 (p : Int))).setCell ⟨q, 6, none⟩ (.slice none 0 0)).setCell ⟨q, 7, none⟩ (.slice none 0 0)).setCell ⟨q, 8, none⟩ (.bool false)) = w3 := ⟨_, rfl⟩
            have ht3 : Trn (only q) w2 w3 := by
              rw [← hw3]
              exact setN_trn (F := only q) (show q = q from rfl) [.int .i64 (k : Int), .string ⟨s.toArray⟩, .string ⟨t2.toArray⟩, .string ⟨u.toArray⟩, .int .i64 (n : Int), .int .i64 (p : Int), .slice none 0 0, .slice none 0 0, .bool false] 0 (Trn.refl _ _)
            have hq3 : H9 w3 q [.int .i64 (k : Int), .string ⟨s.toArray⟩, .string ⟨t2.toArray⟩, .string ⟨u.toArray⟩, .int .i64 (n : Int), .int .i64 (p : Int), .slice none 0 0, .slice none 0 0, .bool false] := by
              rw [← hw3]
              exact hq2'.set (vs := [.int .i64 (k : Int), .string ⟨s.toArray⟩, .string ⟨t2.toArray⟩, .string ⟨u.toArray⟩, .int .i64 (n : Int), .int .i64 (p : Int), .slice none 0 0, .slice none 0 0, .bool false]) rfl
            have HQ := Lib.hid hq3
            have hP3 := hP2.of_q ht3 ⟨_, _, _, _, _, _, _, _, _, hq3⟩
            have hqB : B ≤ q := hP2.qB
            clear hq2
            have hr3 := hP3.rb
            have c6 := hr3.c6
            have cc1 : ((c0 : Int) != 0) = true := by rw [bne_iff_ne]; omega
            have cc2 : ((c0 : Int) == 0) = false := beq_eq_false_iff_ne.2 (by omega)
            have cc3 : ((c0 : Int) = 0) = False := eq_false (by omega)
            have HR3 := Lib.hid hr3
            have HFIN := Lib.hid (⟨hrun, hc, hb2.trans (ht3.below (fun k hk => by rw [show k = q from hk]; exact hqB) (by have := hb2.size; have := hP2.bsz; omega))⟩ : _ ∧ _ ∧ _)
            clear hP2 hP3 hr3 hr2 ht2 ht3 hh hc hq3 hq2' hb2 hrun hBW hSW
            unfold stC stCells
            go_wp2
            rw [jumps_ret]
            refine bodyPost_ret (v := .tuple #[]) (by simp [results, Tryd.results25, go_sem]) rfl ?_
            refine ⟨rfl, HFIN.out.2.2, ?_⟩
            rw [HFIN.out.1]
            exact ⟨_, _, _, _, HR3.out, HFIN.out.2.1⟩
          | ok x =>
            obtain ⟨st, r⟩ := x
            rw [hh] at hQ hrun
            obtain ⟨rfl, lv', hr2, htr2⟩ := hQ
            have hpr := Ps.headM_ok hd8 HENDT.out hh
            have hnl := Ps.headM_nil hh
            obtain ⟨k, s, t2, u, n, p, pl, pm⟩ := st
            dsimp only at hnl hpr hrun
            obtain ⟨rfl, rfl⟩ := hnl
            obtain ⟨hpe, hplen, hpk1, hpk2, hp7⟩ := hpr
            have hP2 := HT3.out.of_g ht2 hr2 htr2
            obtain ⟨v0, v1, v2, v3, v4, v5, v6, v7, v8, hq2⟩ := hP2.qlt
            have hq2' : H9 w2 q [v0, v1, v2, v3, v4, v5, v6, v7, v8] := hq2
            have z0 := hq2'.cell (i := 0) rfl
            have z1 := hq2'.cell (i := 1) rfl
            have z2 := hq2'.cell (i := 2) rfl
            have z3 := hq2'.cell (i := 3) rfl
            have z4 := hq2'.cell (i := 4) rfl
            have z5 := hq2'.cell (i := 5) rfl
            have z6 := hq2'.cell (i := 6) rfl
            have z7 := hq2'.cell (i := 7) rfl
            have z8 := hq2'.cell (i := 8) rfl
            have zf0 := hq2'.fr 0
            have zf1 := hq2'.fr 1
            have zf2 := hq2'.fr 2
            have zf3 := hq2'.fr 3
            have zf4 := hq2'.fr 4
            have zf5 := hq2'.fr 5
            have zf6 := hq2'.fr 6
            have zf7 := hq2'.fr 7
            have zf8 := hq2'.fr 8
            obtain ⟨w3, hw3⟩ : ∃ w3, (((((((((w2.setCell ⟨q, 0, none⟩ (.int .i64 (k : Int))).setCell ⟨q, 1, none⟩ (.string ⟨s.toArray⟩)).setCell ⟨q, 2, none⟩ (.string ⟨t2.toArray⟩)).setCell ⟨q, 3, none⟩ (.string ⟨u.toArray⟩)).setCell ⟨q, 4, none⟩ (.int .i64 (n : Int))).setCell ⟨q, 5, none⟩ (.int .i64 (p : Int))).setCell ⟨q, 6, none⟩ (.slice none 0 0)).setCell ⟨q, 7, none⟩ (.slice none 0 0)).setCell ⟨q, 8, none⟩ (.bool false)) = w3 := ⟨_, rfl⟩
            have ht3 : Trn (only q) w2 w3 := by
              rw [← hw3]
              exact setN_trn (F := only q) (show q = q from rfl) [.int .i64 (k : Int), .string ⟨s.toArray⟩, .string ⟨t2.toArray⟩, .string ⟨u.toArray⟩, .int .i64 (n : Int), .int .i64 (p : Int), .slice none 0 0, .slice none 0 0, .bool false] 0 (Trn.refl _ _)
            have hq3 : H9 w3 q [.int .i64 (k : Int), .string ⟨s.toArray⟩, .string ⟨t2.toArray⟩, .string ⟨u.toArray⟩, .int .i64 (n : Int), .int .i64 (p : Int), .slice none 0 0, .slice none 0 0, .bool false] := by
              rw [← hw3]
              exact hq2'.set (vs := [.int .i64 (k : Int), .string ⟨s.toArray⟩, .string ⟨t2.toArray⟩, .string ⟨u.toArray⟩, .int .i64 (n : Int), .int .i64 (p : Int), .slice none 0 0, .slice none 0 0, .bool false]) rfl
            have HQ := Lib.hid hq3
            have hP3 := hP2.of_q ht3 ⟨_, _, _, _, _, _, _, _, _, hq3⟩
            have hqB : B ≤ q := hP2.qB
            clear hq2
            have hP := hP3.hand (x := ⟨⟨k, s, t2, u, n, p, [], []⟩, .slice none 0 0, .slice none 0 0, false⟩) rfl rfl rfl rfl
            have c6 : w3.cell? ⟨g, 6, none⟩ = some (.int .i64 0) := hP.rb.c6
            have hb3 : Below B w w3 := hb2.trans (ht3.below (fun k hk => by rw [show k = q from hk]; exact hqB) (by have := hb2.size; have := hP2.bsz; omega))
            have hS3 := HSHP.out _ hb3
            have SHx := Lib.hid (fun (wx : World) (hx : SHP wx) => pshape_any k (by omega) wx hx)
            have hsuf := Ps.suffix_shape ⟨k, by omega⟩
            have HSx := Lib.hid (fun wx => by
              have := Tryd.strings_HasSuffix ⟨(Ps.shapeS k).toArray⟩ ⟨#[123]⟩ wx (by
                have := Ps.shapeS_len ⟨k, by omega⟩
                show (Ps.shapeS k).length ≤ _
                simp only at this
                omega)
              rw [show Lib.hasSuffix (⟨(Ps.shapeS k).toArray⟩ : ByteArray).data.toList (⟨#[123]⟩ : ByteArray).data.toList = decide (k = 5 ∨ k = 6) from hsuf] at this
              exact this)
            have y0 := hq3.cell (i := 0) rfl
            have HENDS := Lib.hid hpe
            have HFEW := Lib.hid (show cs.length + ((hs0.length + 1) + 1) + r.length ≤ 1000000 by
              have := HS.out.few
              simp only [List.length_append, List.length_cons, List.length_nil] at this hplen
              omega)
            have HFEW := Lib.hid (show cs.length + (((hs0 ++ [x]) : List HA).length + [(⟨⟨k, s, t2, u, n, p, [], []⟩, .slice none 0 0, .slice none 0 0, false⟩ : HA)].length) + r.length ≤ 1000000 by
              have := HFEW.out
              simp only [List.length_append, List.length_cons, List.length_nil]
              omega)
            have HLENS := Lib.hid (⟨fun z hz => by
              rcases List.mem_append.1 hz with hz | hz
              · exact HS.out.lens.h z (by rw [List.append_nil]; exact hz)
              · rw [List.mem_singleton.1 hz]; exact ⟨Nat.zero_le _, Nat.zero_le _⟩, HS.out.lens.t⟩ : Lens (hs0 ++ [x]) [⟨⟨k, s, t2, u, n, p, [], []⟩, .slice none 0 0, .slice none 0 0, false⟩] cs top)
            have HD := Lib.hid HS.out.d
            have HBASE := Lib.hid hb3
            have HMU1 := Lib.hid (show 4 * r.length + 1 < 4 * lenG wr g + 1 by rw [HLG.out]; omega)
            have HMU2 := Lib.hid (show 4 * r.length + 2 < 4 * lenG wr g + 1 by rw [HLG.out]; omega)
            clear hP2 hP3 hr2 ht2 ht3 hh hq3 hq2' hb2 hBW hSW hpe hplen hsuf hb3 htr2
            by_cases h56 : k = 5 ∨ k = 6
            · rw [if_pos h56] at hrun
              rw [decide_eq_true h56] at HSx
              have HTG := Lib.hid hrun
              have HD7 := Lib.hid (hp7 h56)
              have HP := Lib.hid hP
              clear hrun hP hp7 h56 hpk1 hpk2
              unfold stC stCells
              go_wp2_with fail
              refine (SHx.out _ hS3).mono ?_
              rintro e w4 ⟨rfl, rfl⟩
              go_wp2_with fail
              refine (HSx.out _).mono ?_
              rintro e w4 ⟨rfl, he4⟩
              obtain rfl := he4.symm
              go_wp2
              go_step3
              refine ⟨Or.inr (Or.inr (Or.inr ⟨rfl, FR.of _ _ _ rfl, r, (hs0 ++ [x]), ⟨⟨k, s, t2, u, n, p, [], []⟩, .slice none 0 0, .slice none 0 0, false⟩, cs, top, ⟨⟨_, _, _, _, HP.out⟩, HENDS.out, HD.out, HFEW.out, HLENS.out, HBASE.out⟩, HQ.out, by simp only [List.length_append, List.length_cons, List.length_nil]; have := HD7.out; omega, HTG.out⟩)), ?_⟩
              show 4 * lenG w3 g + 2 < _
              rw [HP.out.lenG]
              exact HMU2.out
            · rw [if_neg h56] at hrun
              rw [decide_eq_false h56] at HSx
              have hrl : (rowOf cs).length = cs.length := by unfold rowOf; rw [List.length_map]
              rw [hrl] at hrun
              have HTG := Lib.hid hrun
              have HMU := HMU1
              clear hrun hp7 h56 hpk1 hpk2 hrl
              unfold stC stCells
              go_wp2_with fail
              refine (SHx.out _ hS3).mono ?_
              rintro e w4 ⟨rfl, rfl⟩
              go_wp2_with fail
              refine (HSx.out _).mono ?_
              rintro e w4 ⟨rfl, he4⟩
              obtain rfl := he4.symm
              have PA := put_any ⟨⟨k, s, t2, u, n, p, [], []⟩, .slice none 0 0, .slice none 0 0, false⟩ w3 hP (by have := HD.out; omega) (by have := HFEW.out; omega) HLENS.out
              have y0 := HQ.out.cell (i := 0) rfl
              have y1 := HQ.out.cell (i := 1) rfl
              have y2 := HQ.out.cell (i := 2) rfl
              have y3 := HQ.out.cell (i := 3) rfl
              have y4 := HQ.out.cell (i := 4) rfl
              have y5 := HQ.out.cell (i := 5) rfl
              have y6 := HQ.out.cell (i := 6) rfl
              have y7 := HQ.out.cell (i := 7) rfl
              clear HQ
              go_wp2_with fail
              refine wp_label ?_
              simp only [Exit.then]
              go_wp2_with fail
              refine PA.mono ?_
              rintro e w5 ⟨rfl, ⟨sv5, tv5, hs5, top5, hP5, hst5, htop5, hlen5, hlens5⟩, hb5⟩
              have HP5 := Lib.hid hP5
              have HX5 := Lib.hid (⟨hst5, htop5, hlen5, hlens5⟩ : _ ∧ _ ∧ _ ∧ _)
              have HB5 := Lib.hid hb5
              clear hP5 hst5 htop5 hlen5 hlens5 hb5 PA hP
              go_wp2
              go_step3
              refine ⟨Or.inl ⟨rfl, FR.of _ _ _ rfl, _, hs5, _, top5, ⟨⟨_, _, _, _, HP5.out⟩, HENDS.out, by rw [HX5.out.2.2.1]; exact HD.out, by have := HFEW.out; rw [List.length_append, List.length_singleton, HX5.out.2.2.1]; simp only [List.length_cons, List.length_nil] at this ⊢; omega, HX5.out.2.2.2, HBASE.out.trans HB5.out⟩, ?_⟩, ?_⟩
              · rw [HTG.out, Ps.run_put, HX5.out.1, HX5.out.2.1, rowOf_snoc]
                rfl
              · show 4 * lenG w5 g + 1 < _
                rw [HP5.out.lenG]
                exact HMU.out
    · refine ⟨_, rfl, ?_⟩
      obtain ⟨lv, ov, sv', tv, hP⟩ := hSJ.px
      have HS := Lib.hid hSJ
      have hends := hSJ.ends
      have hft := hends.1 t (by simp)
      have hfit : Ps.fitsT [125] t = true := by rw [Ps.fitsT_sign rfl hft]; exact hsg
      have hk4 : t.kind ≠ 0 := by unfold Ps.isSign at hsg; simp at hsg; omega
      have hends' := hends.tail hk4
      obtain ⟨x1, x2⟩ := hP.hl x (by simp)
      obtain ⟨st, xl, xm, els⟩ := x
      obtain ⟨la, ll, lc, hl1⟩ := x1.form3
      obtain ⟨ma, ml, mc, hm1⟩ := x2.form3
      dsimp only at hl1 hm1
      subst hl1 hm1
      obtain ⟨k, s, t2, u, n, p, pl, pm⟩ := st
      obtain ⟨og, oc, rfl, _, _⟩ := hP.form
      have hlw : lenG wr g = (t :: ts).length := hP.lenG
      obtain ⟨wa, hwa⟩ : ∃ wa, wr.alloc (.cells #[.string ⟨#[125]⟩] 9) = wa := ⟨_, rfl⟩
      have hba : Below wr.heap.size wr wa := by rw [← hwa]; exact (Below.refl _ _).alloc (Nat.le_refl _) _
      have hna : wa.heap[wr.heap.size]? = some (.cells #[.string ⟨#[125]⟩] 9 (0, 0)) := by rw [← hwa]; exact heap_alloc_new _ _
      have hrd : Rd wa (.slice (some ⟨wr.heap.size, 0, none⟩) 1 1) ([([125] : List UInt8)].map sv) := by
        refine .inr ⟨_, 0, 1, rfl, Nat.le_refl _, by unfold maxLen; omega, fun j v hj => ?_⟩
        rw [Nat.zero_add, cell_of_row _ _ _ _ _ _ hna, ← hj]
        match j with
        | 0 => rfl
        | j + 1 => simp
      have hPa := hP.below hba
      have hfew := HS.out.few
      have hd := HS.out.d
      simp only [List.length_append, List.length_cons, List.length_nil] at hfew hd hlw
      have TK := take_any [[125]] (t :: ts) b g md 0 0 (hs.length + 1) _ _ _ _ (.slice (some ⟨wr.heap.size, 0, none⟩) 1 1) wa hPa.rb hPa.tr hbg hends ⟨_, _, rfl⟩ (by omega) hrd (by simp) (by simp) (by simp) (by have := hP.rb.lt; simp [Value.ownBlock]; omega) (by simp only [List.length_cons]; omega)
      rw [show Ps.takeW (hs.length + 1) [[125]] (t :: ts) = .ok ts by rw [Ps.takeW, if_pos hfit, if_neg (fun e => absurd e.1 (by decide))]; rfl] at TK
      have HENDS := Lib.hid hends'
      have HPA := Lib.hid hPa
      have HTG := Lib.hid hT
      have HBA := Lib.hid (HS.out.base.trans (hba.mono hP.bsz))
      have HMU2 := Lib.hid (show 4 * ts.length + 2 < 4 * lenG wr g + 0 by rw [hlw]; omega)
      have HMU1 := Lib.hid (show 4 * ts.length + 1 < 4 * lenG wr g + 0 by rw [hlw]; omega)
      have HLN := Lib.hid hlw
      clear hT hP hPa hba hna hrd hSJ x1 x2 hends hends' hfit hft hsg hlw
      go_wp2_with fail
      refine TK.mono ?_
      rintro e w1 ⟨ht1, rv, lv1, rfl, _, hr1, htr1⟩
      have hP1 := HPA.out.of_g ht1 hr1 htr1
      have POP := pop_any ⟨⟨k, s, t2, u, n, p, pl, pm⟩, .slice la ll lc, .slice ma ml mc, els⟩ w1 hP1 (by omega)
      have HB1 := Lib.hid (HBA.out.trans (ht1.below (fun k hk => by rw [show k = g from hk]; exact hB) HPA.out.bsz))
      clear TK ht1 hr1 htr1 hP1
      unfold hagg hCells at POP
      go_wp2_with fail
      refine POP.mono ?_
      rintro e w2 ⟨rfl, ov2, hP2, _, hb2⟩
      have HB2 := Lib.hid (HB1.out.trans hb2)
      clear POP hb2
      obtain ⟨v0, v1, v2, v3, v4, v5, v6, v7, v8, hq2⟩ := hP2.qlt
      have hq2' : H9 w2 q [v0, v1, v2, v3, v4, v5, v6, v7, v8] := hq2
      have z0 := hq2'.cell (i := 0) rfl
      have z1 := hq2'.cell (i := 1) rfl
      have z2 := hq2'.cell (i := 2) rfl
      have z3 := hq2'.cell (i := 3) rfl
      have z4 := hq2'.cell (i := 4) rfl
      have z5 := hq2'.cell (i := 5) rfl
      have z6 := hq2'.cell (i := 6) rfl
      have z7 := hq2'.cell (i := 7) rfl
      have z8 := hq2'.cell (i := 8) rfl
      have zf0 := hq2'.fr 0
      have zf1 := hq2'.fr 1
      have zf2 := hq2'.fr 2
      have zf3 := hq2'.fr 3
      have zf4 := hq2'.fr 4
      have zf5 := hq2'.fr 5
      have zf6 := hq2'.fr 6
      have zf7 := hq2'.fr 7
      have zf8 := hq2'.fr 8
      obtain ⟨w3, hw3⟩ : ∃ w3, (((((((((w2.setCell ⟨q, 0, none⟩ (.int .i64 (k : Int))).setCell ⟨q, 1, none⟩ (.string ⟨s.toArray⟩)).setCell ⟨q, 2, none⟩ (.string ⟨t2.toArray⟩)).setCell ⟨q, 3, none⟩ (.string ⟨u.toArray⟩)).setCell ⟨q, 4, none⟩ (.int .i64 (n : Int))).setCell ⟨q, 5, none⟩ (.int .i64 (p : Int))).setCell ⟨q, 6, none⟩ (.slice la ll lc)).setCell ⟨q, 7, none⟩ (.slice ma ml mc)).setCell ⟨q, 8, none⟩ (.bool els)) = w3 := ⟨_, rfl⟩
      have ht3 : Trn (only q) w2 w3 := by
        rw [← hw3]
        exact setN_trn (F := only q) (show q = q from rfl) [.int .i64 (k : Int), .string ⟨s.toArray⟩, .string ⟨t2.toArray⟩, .string ⟨u.toArray⟩, .int .i64 (n : Int), .int .i64 (p : Int), .slice la ll lc, .slice ma ml mc, .bool els] 0 (Trn.refl _ _)
      have hq3 : H9 w3 q [.int .i64 (k : Int), .string ⟨s.toArray⟩, .string ⟨t2.toArray⟩, .string ⟨u.toArray⟩, .int .i64 (n : Int), .int .i64 (p : Int), .slice la ll lc, .slice ma ml mc, .bool els] := by
        rw [← hw3]
        exact hq2'.set (vs := [.int .i64 (k : Int), .string ⟨s.toArray⟩, .string ⟨t2.toArray⟩, .string ⟨u.toArray⟩, .int .i64 (n : Int), .int .i64 (p : Int), .slice la ll lc, .slice ma ml mc, .bool els]) rfl
      have HQ := Lib.hid hq3
      have hP3 := hP2.of_q ht3 ⟨_, _, _, _, _, _, _, _, _, hq3⟩
      have hqB : B ≤ q := hP2.qB
      clear hq2
      have HP3 := Lib.hid hP3
      have HB3 := Lib.hid (HB2.out.trans (ht3.below (fun k hk => by rw [show k = q from hk]; exact hqB) (by have := HB2.out.size; have := hP2.bsz; omega)))
      have hgq : ¬ (g = q) := fun e => absurd (hP3.nd .g .q q (by rw [← e]; rfl) rfl) (by simp)
      have y0 := hq3.cell (i := 0) rfl
      have y8 := hq3.cell (i := 8) rfl
      have HFEW := Lib.hid (show cs.length + (hs.length + [(⟨⟨k, s, t2, u, n, p, pl, pm⟩, .slice la ll lc, .slice ma ml mc, els⟩ : HA)].length) + ts.length ≤ 1000000 by simp only [List.length_cons, List.length_nil]; omega)
      have HD := Lib.hid (show hs.length ≤ 8 by omega)
      have HLENS := Lib.hid (⟨fun z hz => HS.out.lens.h z (by rw [List.append_nil]; exact hz), HS.out.lens.t⟩ : Lens hs [⟨⟨k, s, t2, u, n, p, pl, pm⟩, .slice la ll lc, .slice ma ml mc, els⟩] cs top)
      clear hP2 ht3 hq2' hfew
      by_cases hk5 : k = 5
      · have r1 : ((k : Int) != 5) = false := by rw [bne_eq_false_iff_eq]; omega
        have r2 : ((k : Int) == 5) = true := beq_iff_eq.2 (by omega)
        have r3 : ((k : Int) = 5) = True := eq_true (by omega)
        have HK5 := Lib.hid hk5
        clear hk5
        cases els with
        | true =>
          clear hP3 hq3
          go_wp2
          go_step3
          refine ⟨Or.inr (Or.inr (Or.inl ⟨rfl, FR.of _ _ _ rfl, ts, hs, ⟨⟨k, s, t2, u, n, p, pl, pm⟩, .slice la ll lc, .slice ma ml mc, true⟩, cs, top, ⟨⟨_, _, _, _, HP3.out⟩, HENDS.out, HD.out, HFEW.out, HLENS.out, HB3.out⟩, HQ.out, ?_⟩)), ?_⟩
          · rw [HTG.out, Ps.fin_put (by rintro ⟨_, h, _⟩; cases h)]
            rw [show (rowOf cs).length = cs.length by unfold rowOf; rw [List.length_map]]
            rfl
          · show 4 * lenG w3 g + 2 < _
            rw [HP3.out.lenG]
            exact HMU2.out
        | false =>
          obtain ⟨u1, ts1, rfl, hfu⟩ := HENDS.out.ne
          have IS := is_any Ps.wElse b g md 0 0 _ _ _ _ u1 ts1 w3 hP3.rb hP3.tr
          rw [Ps.else_fits hfu] at IS
          by_cases hel : Ps.isName Ps.wElse u1 = true
          · rw [hel] at IS
            clear hP3 hq3
            go_wp2_with fail
            refine IS.mono ?_
            rintro e w4 ⟨rfl, hb4⟩
            have hP4 := HP3.out.below hb4
            have hq4 := HQ.out.same (hb4.block _ HQ.out.lt)
            have HB4 := Lib.hid (HB3.out.trans (hb4.mono HP3.out.bsz))
            clear IS hb4
            obtain ⟨wb, hwb⟩ : ∃ wb, w4.alloc (.cells #[.string ⟨#[101, 108, 115, 101]⟩, .string ⟨#[123]⟩] 9) = wb := ⟨_, rfl⟩
            have hbb : Below w4.heap.size w4 wb := by rw [← hwb]; exact (Below.refl _ _).alloc (Nat.le_refl _) _
            have hnb : wb.heap[w4.heap.size]? = some (.cells #[.string ⟨#[101, 108, 115, 101]⟩, .string ⟨#[123]⟩] 9 (0, 0)) := by rw [← hwb]; exact heap_alloc_new _ _
            have hrd : Rd wb (.slice (some ⟨w4.heap.size, 0, none⟩) 2 2) ([Ps.wElse, [123]].map sv) := by
              refine .inr ⟨_, 0, 2, rfl, Nat.le_refl _, by unfold maxLen; omega, fun j v hj => ?_⟩
              rw [Nat.zero_add, cell_of_row _ _ _ _ _ _ hnb, ← hj]
              match j with
              | 0 => rfl
              | 1 => rfl
              | j + 2 => simp
            have hPb := hP4.below hbb
            have hqb := hq4.same (hbb.block _ hq4.lt)
            obtain ⟨oo2, oc2, hov2⟩ := own_form9 hP4.op
            have hfew2 := HFEW.out
            simp only [List.length_cons, List.length_nil] at hfew2
            have TK := take_any [Ps.wElse, [123]] (u1 :: ts1) b g md 0 0 hs.length _ _ _ _ (.slice (some ⟨w4.heap.size, 0, none⟩) 2 2) wb hPb.rb hPb.tr hbg HENDS.out ⟨oo2, oc2, hov2⟩ HD.out hrd (by simp [Ps.wElse]) (by simp) (by simp) (by have := hP4.rb.lt; simp [Value.ownBlock]; omega) (by simp only [List.length_cons]; omega)
            rw [Ps.take_else HD.out HENDS.out hel] at TK
            have hfe := Ps.fin_else (h := ⟨⟨k, s, t2, u, n, p, pl, pm⟩, false⟩) (S := stk hs) (row := rowOf cs) (top := top) (r := u1 :: ts1) HK5.out rfl hel
            rw [stk_len] at hfe
            have hTG2 := HTG.out
            rw [stk_len] at hTG2
            have hTG3 := hTG2.trans hfe
            have HPB := Lib.hid hPb
            have HQB := Lib.hid hqb
            have HBB := Lib.hid (HB4.out.trans (hbb.mono hP4.bsz))
            clear hPb hqb hP4 hq4 hbb hnb hrd hov2 hTG2 hfe
            go_wp2_with fail
            refine TK.mono ?_
            rintro e w5 ⟨ht5, hQ5⟩
            clear TK
            rw [List.tail_cons] at hQ5 hTG3
            have hb5 := HBB.out.trans (ht5.below (fun k hk => by rw [show k = g from hk]; exact hB) HPB.out.bsz)
            cases hbr : Ps.brace hs.length ts1 with
            | error x =>
              obtain ⟨p0, c0⟩ := x
              rw [hbr] at hQ5 hTG3
              obtain ⟨rfl, hr5⟩ := hQ5
              have hc := Ps.brace_code hbr
              dsimp only at hc
              have en := fun wx => eql_nil none 0 0 wx
              have HF := Lib.hid (⟨hTG3, hc, hb5, hr5⟩ : _ ∧ _ ∧ _ ∧ _)
              clear hTG3 hc hb5 hr5 ht5 hbr
              go_wp2
              rw [jumps_ret]
              refine bodyPost_ret (v := .tuple #[]) (by simp [results, Tryd.results25, go_sem]) rfl ?_
              refine ⟨rfl, HF.out.2.2.1, ?_⟩
              rw [HF.out.1]
              exact ⟨_, _, _, _, HF.out.2.2.2, HF.out.2.1⟩
            | ok r =>
              rw [hbr] at hQ5 hTG3
              obtain ⟨rv5, lv5, rfl, htr5, hr5, htl5⟩ := hQ5
              obtain ⟨o5, cap5, rfl, _⟩ := htr5
              have en := fun n' wx => eql_nil (some ⟨b, o5, none⟩) n' cap5 wx
              have hP5 := HPB.out.of_g ht5 hr5 htl5
              have hq5 : H9 w5 q [.int .i64 (k : Int), .string ⟨s.toArray⟩, .string ⟨t2.toArray⟩, .string ⟨u.toArray⟩, .int .i64 (n : Int), .int .i64 (p : Int), .slice la ll lc, .slice ma ml mc, .bool false] := HQB.out.trn ht5 (fun e => hgq e.symm)
              have f8 := hq5.fr 8
              have z8 := hq5.cell (i := 8) rfl
              obtain ⟨w6, hw6⟩ : ∃ w6, w5.setCell ⟨q, 8, none⟩ (.bool true) = w6 := ⟨_, rfl⟩
              have ht6 : Trn (only q) w5 w6 := by rw [← hw6]; exact Trn.setCell (F := only q) (Trn.refl _ _) (show q = q from rfl) _
              have hq6 : H9 w6 q [.int .i64 (k : Int), .string ⟨s.toArray⟩, .string ⟨t2.toArray⟩, .string ⟨u.toArray⟩, .int .i64 (n : Int), .int .i64 (p : Int), .slice la ll lc, .slice ma ml mc, .bool true] := by
                rw [← hw6]
                have := setCell_row (i := 8) (u := .bool true) hq5
                exact this
              have hP := (hP5.of_q ht6 ⟨_, _, _, _, _, _, _, _, _, hq6⟩).els true
              have HQ := Lib.hid hq6
              have HBASE := Lib.hid (hb5.trans (ht6.below (fun k hk => by rw [show k = q from hk]; exact hqB) (by have := hb5.size; have := hP5.bsz; omega)))
              have HD7 := Lib.hid (Ps.brace_deep hbr)
              have hrl := Ps.brace_len hbr
              have HTG := Lib.hid hTG3
              have HENDS := Lib.hid (show Ps.Ends r from (Ps.takeW_end (d := hs.length) (ws := [Ps.wElse, [123]]) (by simp [Ps.wElse]) HENDS.out (by rw [Ps.take_else HD.out HENDS.out hel]; exact hbr)).1)
              have HFEW := Lib.hid (show cs.length + (hs.length + [(⟨⟨k, s, t2, u, n, p, pl, pm⟩, .slice la ll lc, .slice ma ml mc, true⟩ : HA)].length) + r.length ≤ 1000000 by simp only [List.length_cons, List.length_nil]; omega)
              have HMU := Lib.hid (show 4 * r.length + 1 < 4 * lenG wr g + 0 by have := HMU1.out; simp only [List.length_cons] at this; omega)
              have HLENS := Lib.hid (⟨fun z hz => by
                rcases List.mem_append.1 hz with hz | hz
                · exact HLENS.out.h z (by simp [hz])
                · rw [List.mem_singleton.1 hz]; exact HLENS.out.h ⟨⟨k, s, t2, u, n, p, pl, pm⟩, .slice la ll lc, .slice ma ml mc, false⟩ (by simp), HLENS.out.t⟩ : Lens hs [⟨⟨k, s, t2, u, n, p, pl, pm⟩, .slice la ll lc, .slice ma ml mc, true⟩] cs top)
              clear hTG3 ht5 hbr hr5 htl5 hP5 hq5 ht6 hb5 hq6 hrl hfew2
              go_wp2_with fail
              refine wp_label ?_
              simp only [Exit.then]
              go_step
              refine wp_seq ?_
              have hD := hP.below (below_drew (Below.refl w6.heap.size w6))
              have hqD : H9 w6.drew q [.int .i64 (k : Int), .string ⟨s.toArray⟩, .string ⟨t2.toArray⟩, .string ⟨u.toArray⟩, .int .i64 (n : Int), .int .i64 (p : Int), .slice la ll lc, .slice ma ml mc, .bool true] := HQ.out
              have hgq : ¬ (g = q) := fun e => absurd (hP.nd .g .q q (by rw [← e]; rfl) rfl) (by simp)
              have hs0 : w6.drew.cell? ⟨q, 0, none⟩ = some (.int .i64 (k : Int)) ∧ w6.drew.cell? ⟨q, 1, none⟩ = some (.string ⟨s.toArray⟩) ∧ w6.drew.cell? ⟨q, 2, none⟩ = some (.string ⟨t2.toArray⟩) ∧ w6.drew.cell? ⟨q, 3, none⟩ = some (.string ⟨u.toArray⟩) ∧ w6.drew.cell? ⟨q, 4, none⟩ = some (.int .i64 (n : Int)) ∧ w6.drew.cell? ⟨q, 5, none⟩ = some (.int .i64 (p : Int)) ∧ w6.drew.cell? ⟨q, 6, none⟩ = some (.slice la ll lc) ∧ w6.drew.cell? ⟨q, 7, none⟩ = some (.slice ma ml mc) ∧ w6.drew.cell? ⟨q, 8, none⟩ = some (.bool true) := ⟨hqD.cell (i := 0) rfl, hqD.cell (i := 1) rfl, hqD.cell (i := 2) rfl, hqD.cell (i := 3) rfl, hqD.cell (i := 4) rfl, hqD.cell (i := 5) rfl, hqD.cell (i := 6) rfl, hqD.cell (i := 7) rfl, hqD.cell (i := 8) rfl⟩
              refine wp_region_held_drew (S := fun w' => w'.cell? ⟨q, 0, none⟩ = some (.int .i64 (k : Int)) ∧ w'.cell? ⟨q, 1, none⟩ = some (.string ⟨s.toArray⟩) ∧ w'.cell? ⟨q, 2, none⟩ = some (.string ⟨t2.toArray⟩) ∧ w'.cell? ⟨q, 3, none⟩ = some (.string ⟨u.toArray⟩) ∧ w'.cell? ⟨q, 4, none⟩ = some (.int .i64 (n : Int)) ∧ w'.cell? ⟨q, 5, none⟩ = some (.int .i64 (p : Int)) ∧ w'.cell? ⟨q, 6, none⟩ = some (.slice la ll lc) ∧ w'.cell? ⟨q, 7, none⟩ = some (.slice ma ml mc) ∧ w'.cell? ⟨q, 8, none⟩ = some (.bool true)) (by kernel_rfl) hs0 (fun hH => ?_)
              have hbD : Below B w6 w6.drew := below_drew (Below.refl _ _)
              clear hP
              generalize w6.drew = wd at *
              obtain ⟨wa, hwa⟩ : ∃ wa, wd.alloc (.cells #[.int .i64 (k : Int), .string ⟨s.toArray⟩, .string ⟨t2.toArray⟩, .string ⟨u.toArray⟩, .int .i64 (n : Int), .int .i64 (p : Int), .slice la ll lc, .slice ma ml mc, .bool true] 74) = wa := ⟨_, rfl⟩
              have hba : Below wd.heap.size wd wa := by rw [← hwa]; exact (Below.refl _ _).alloc (Nat.le_refl _) _
              have hna : wa.heap[wd.heap.size]? = some (.cells #[.int .i64 (k : Int), .string ⟨s.toArray⟩, .string ⟨t2.toArray⟩, .string ⟨u.toArray⟩, .int .i64 (n : Int), .int .i64 (p : Int), .slice la ll lc, .slice ma ml mc, .bool true] 74 (0, 0)) := by rw [← hwa]; exact heap_alloc_new _ _
              have hA := hD.below hba
              have hqA : H9 wa q [.int .i64 (k : Int), .string ⟨s.toArray⟩, .string ⟨t2.toArray⟩, .string ⟨u.toArray⟩, .int .i64 (n : Int), .int .i64 (p : Int), .slice la ll lc, .slice ma ml mc, .bool true] := hqD.same (hba.block _ hqD.lt)
              have hsA : wa.cell? ⟨q, 0, none⟩ = some (.int .i64 (k : Int)) ∧ wa.cell? ⟨q, 1, none⟩ = some (.string ⟨s.toArray⟩) ∧ wa.cell? ⟨q, 2, none⟩ = some (.string ⟨t2.toArray⟩) ∧ wa.cell? ⟨q, 3, none⟩ = some (.string ⟨u.toArray⟩) ∧ wa.cell? ⟨q, 4, none⟩ = some (.int .i64 (n : Int)) ∧ wa.cell? ⟨q, 5, none⟩ = some (.int .i64 (p : Int)) ∧ wa.cell? ⟨q, 6, none⟩ = some (.slice la ll lc) ∧ wa.cell? ⟨q, 7, none⟩ = some (.slice ma ml mc) ∧ wa.cell? ⟨q, 8, none⟩ = some (.bool true) := ⟨hqA.cell (i := 0) rfl, hqA.cell (i := 1) rfl, hqA.cell (i := 2) rfl, hqA.cell (i := 3) rfl, hqA.cell (i := 4) rfl, hqA.cell (i := 5) rfl, hqA.cell (i := 6) rfl, hqA.cell (i := 7) rfl, hqA.cell (i := 8) rfl⟩
              have e1 := hD.rb.c1
              have e1a := hA.rb.c1
              have HA := Lib.hid hA
              have HSA := Lib.hid hsA
              have HQA := Lib.hid hqA
              have HNA := Lib.hid hna
              have HBA := Lib.hid (hbD.trans (hba.mono hD.bsz))
              clear hA hsA hqA hna hba hD hqD hbD hs0
              refine heldTake (i := 0) (v := ?_) rfl (by kernel_rfl) (by kernel_rfl) (fun _ _ _ h => h) (by rfl) (by assumption) (fun w hSw => ?_) ?_; rotate_left; focus ((try dsimp only at hSw); go_simp; try with_reducible rfl)
              try simp only [Act.put, List.setIfInBounds_toArray, List.set_cons_zero, List.set_cons_succ]
              refine heldTake (i := 1) (v := ?_) rfl (by kernel_rfl) (by kernel_rfl) (fun _ _ _ h => h) (by rfl) (by assumption) (fun w hSw => ?_) ?_; rotate_left; focus ((try dsimp only at hSw); go_simp; try with_reducible rfl)
              try simp only [Act.put, List.setIfInBounds_toArray, List.set_cons_zero, List.set_cons_succ]
              refine heldTake (i := 2) (v := ?_) rfl (by kernel_rfl) (by kernel_rfl) (fun _ _ _ h => h) (by rfl) (by assumption) (fun w hSw => ?_) ?_; rotate_left; focus ((try dsimp only at hSw); go_simp; try with_reducible rfl)
              try simp only [Act.put, List.setIfInBounds_toArray, List.set_cons_zero, List.set_cons_succ]
              refine heldTake (i := 3) (v := ?_) rfl (by kernel_rfl) (by kernel_rfl) (fun _ _ _ h => h) (by rfl) (by assumption) (fun w hSw => ?_) ?_; rotate_left; focus ((try dsimp only at hSw); go_simp; try with_reducible rfl)
              try simp only [Act.put, List.setIfInBounds_toArray, List.set_cons_zero, List.set_cons_succ]
              refine heldTake (i := 5) (v := ?_) rfl (by kernel_rfl) (by kernel_rfl) (fun _ _ _ h => h) (by rfl) (by assumption) (fun w hSw => ?_) ?_; rotate_left; focus ((try dsimp only at hSw); go_simp; try with_reducible rfl)
              try simp only [Act.put, List.setIfInBounds_toArray, List.set_cons_zero, List.set_cons_succ]
              -- TWO 4 Op.load 48 (Operand.tmp 76) | 6 Op.buildSlice 48 1 #[(0, Operand.tmp 78)]
              refine heldTwo (i := 4) (j := 6) rfl rfl (by kernel_rfl) (by rfl) (by rfl) (fun K hK => ?_) (fun K hK => ?_)
              · go_simp; refine hK.out _ _ (by assumption) ?_; clear hK K
                try simp only [Act.put, List.setIfInBounds_toArray, List.set_cons_zero, List.set_cons_succ]
                -- NEXT 6 Op.buildSlice 48 1 #[(0, Operand.tmp 78)]
                refine heldNext (i := 6) rfl (by kernel_rfl) (by rfl) (fun K hK => ?_)
                go_simp; refine hK.out _ _ HSA.out ?_; clear hK K
                try simp only [Act.put, List.setIfInBounds_toArray, List.set_cons_zero, List.set_cons_succ]
                -- NEXT 7 Op.call { callee := Callee.builtin Builtin.append, args := #[Operand.tmp 77, Operand.tmp 79], argTypes := #[48
                refine heldNext (i := 7) rfl (by kernel_rfl) (by rfl) (fun K hK => ?_)
                refine append_h ⟨⟨k, s, t2, u, n, p, pl, pm⟩, .slice la ll lc, .slice ma ml mc, true⟩ (.tmp 77) (.tmp 79) (by rfl) (by rfl) (HA.out.op) (by rfl) HNA.out rfl rfl (by have := HD7.out; omega) HA.out.bsz (fun g2 c2 w6 ho hg hgg => ?_)
                obtain ⟨p1, p2⟩ := HA.out.growOp hg ho rfl hgg
                have hr6 := HA.out.rb_grown (i := .o) hg rfl (by simp)
                have f1 := hr6.c1
                have ff := hr6.fr 1
                have hq6 : H9 w6 q [.int .i64 (k : Int), .string ⟨s.toArray⟩, .string ⟨t2.toArray⟩, .string ⟨u.toArray⟩, .int .i64 (n : Int), .int .i64 (p : Int), .slice la ll lc, .slice ma ml mc, .bool true] := HQA.out.same (hg.block _ HQA.out.lt (fun e => absurd (HA.out.nd .o .q q e.symm rfl) (by simp)))
                have hs6 : w6.cell? ⟨q, 0, none⟩ = some (.int .i64 (k : Int)) ∧ w6.cell? ⟨q, 1, none⟩ = some (.string ⟨s.toArray⟩) ∧ w6.cell? ⟨q, 2, none⟩ = some (.string ⟨t2.toArray⟩) ∧ w6.cell? ⟨q, 3, none⟩ = some (.string ⟨u.toArray⟩) ∧ w6.cell? ⟨q, 4, none⟩ = some (.int .i64 (n : Int)) ∧ w6.cell? ⟨q, 5, none⟩ = some (.int .i64 (p : Int)) ∧ w6.cell? ⟨q, 6, none⟩ = some (.slice la ll lc) ∧ w6.cell? ⟨q, 7, none⟩ = some (.slice ma ml mc) ∧ w6.cell? ⟨q, 8, none⟩ = some (.bool true) := ⟨hq6.cell (i := 0) rfl, hq6.cell (i := 1) rfl, hq6.cell (i := 2) rfl, hq6.cell (i := 3) rfl, hq6.cell (i := 4) rfl, hq6.cell (i := 5) rfl, hq6.cell (i := 6) rfl, hq6.cell (i := 7) rfl, hq6.cell (i := 8) rfl⟩
                obtain ⟨w7, hw7⟩ : ∃ w7, w6.setCell ⟨g, 1, none⟩ (.slice (some ⟨g2, 0, none⟩) (hs.length + 1) c2) = w7 := ⟨_, rfl⟩
                rw [hw7] at p1 p2
                have hq7 : H9 w7 q [.int .i64 (k : Int), .string ⟨s.toArray⟩, .string ⟨t2.toArray⟩, .string ⟨u.toArray⟩, .int .i64 (n : Int), .int .i64 (p : Int), .slice la ll lc, .slice ma ml mc, .bool true] := hw7 ▸ hq6.same (Below.heap_setCell _ _ _ _ (fun e => hgq e.symm))
                have hs7 : w7.cell? ⟨q, 0, none⟩ = some (.int .i64 (k : Int)) ∧ w7.cell? ⟨q, 1, none⟩ = some (.string ⟨s.toArray⟩) ∧ w7.cell? ⟨q, 2, none⟩ = some (.string ⟨t2.toArray⟩) ∧ w7.cell? ⟨q, 3, none⟩ = some (.string ⟨u.toArray⟩) ∧ w7.cell? ⟨q, 4, none⟩ = some (.int .i64 (n : Int)) ∧ w7.cell? ⟨q, 5, none⟩ = some (.int .i64 (p : Int)) ∧ w7.cell? ⟨q, 6, none⟩ = some (.slice la ll lc) ∧ w7.cell? ⟨q, 7, none⟩ = some (.slice ma ml mc) ∧ w7.cell? ⟨q, 8, none⟩ = some (.bool true) := ⟨hq7.cell (i := 0) rfl, hq7.cell (i := 1) rfl, hq7.cell (i := 2) rfl, hq7.cell (i := 3) rfl, hq7.cell (i := 4) rfl, hq7.cell (i := 5) rfl, hq7.cell (i := 6) rfl, hq7.cell (i := 7) rfl, hq7.cell (i := 8) rfl⟩
                refine hK.out _ _ hs6 ?_; clear hK K
                try simp only [Act.put, List.setIfInBounds_toArray, List.set_cons_zero, List.set_cons_succ]
                refine heldTake (i := 8) (v := ?_) rfl (by kernel_rfl) (by kernel_rfl) (fun _ _ _ h => h) (by rfl) (by assumption) (fun w hSw => ?_) ?_; rotate_left; focus ((try dsimp only at hSw); go_simp; try with_reducible rfl)
                try simp only [Act.put, List.setIfInBounds_toArray, List.set_cons_zero, List.set_cons_succ]
                refine heldTake (i := 9) (v := ?_) rfl (by kernel_rfl) (by kernel_rfl) (fun _ _ _ h => h) (by rfl) (by assumption) (fun w hSw => ?_) ?_; rotate_left; focus ((try dsimp only at hSw); go_simp; try with_reducible rfl)
                try simp only [Act.put, List.setIfInBounds_toArray, List.set_cons_zero, List.set_cons_succ]
                -- NEXT 10 Op.store 48 (Operand.tmp 82) (Operand.tmp 80)
                refine heldNext (i := 10) rfl (by kernel_rfl) (by rfl) (fun K hK => ?_)
                go_simp; refine hK.out _ _ hs7 ?_; clear hK K
                try simp only [Act.put, List.setIfInBounds_toArray, List.set_cons_zero, List.set_cons_succ]
                refine wpAnyH_done (by kernel_rfl) ?_ _
                have HP7 := Lib.hid p1
                have HB7 := Lib.hid p2
                clear p1 p2 hr6 hq6 hq7 hs6 hs7 f1 ff ho hg hgg hw7
                simp only [Exit.then]
                go_wp2
                go_step3
                refine ⟨Or.inl ⟨rfl, FR.of _ _ _ rfl, _, hs ++ [⟨⟨k, s, t2, u, n, p, pl, pm⟩, .slice la ll lc, .slice ma ml mc, true⟩], _, _, ⟨⟨_, _, _, _, HP7.out⟩, HENDS.out, by rw [List.length_append, List.length_singleton]; have := HD7.out; omega, by have := HFEW.out; rw [List.length_append, List.length_singleton]; simp only [List.length_cons, List.length_nil] at this ⊢; omega, ⟨fun z hz => HLENS.out.h z (by simpa using hz), HLENS.out.t⟩, (HBASE.out.trans HBA.out).trans HB7.out⟩, ?_⟩, ?_⟩
                · exact HTG.out.trans (congrArg (fun s => Ps.run s [] (rowOf cs) top _) (stk_snoc hs ⟨⟨k, s, t2, u, n, p, pl, pm⟩, .slice la ll lc, .slice ma ml mc, true⟩).symm)
                · show 4 * lenG w7 g + 1 < _
                  rw [HP7.out.lenG]
                  exact HMU.out
              · go_simp; refine hK.out _ _ HSA.out ?_; clear hK K
                try simp only [Act.put, List.setIfInBounds_toArray, List.set_cons_zero, List.set_cons_succ]
                -- NEXT 4 Op.load 48 (Operand.tmp 76)
                refine heldNext (i := 4) rfl (by kernel_rfl) (by rfl) (fun K hK => ?_)
                go_simp; refine hK.out _ _ (by assumption) ?_; clear hK K
                try simp only [Act.put, List.setIfInBounds_toArray, List.set_cons_zero, List.set_cons_succ]
                -- NEXT 7 Op.call { callee := Callee.builtin Builtin.append, args := #[Operand.tmp 77, Operand.tmp 79], argTypes := #[48
                refine heldNext (i := 7) rfl (by kernel_rfl) (by rfl) (fun K hK => ?_)
                refine append_h ⟨⟨k, s, t2, u, n, p, pl, pm⟩, .slice la ll lc, .slice ma ml mc, true⟩ (.tmp 77) (.tmp 79) (by rfl) (by rfl) (HA.out.op) (by rfl) HNA.out rfl rfl (by have := HD7.out; omega) HA.out.bsz (fun g2 c2 w6 ho hg hgg => ?_)
                obtain ⟨p1, p2⟩ := HA.out.growOp hg ho rfl hgg
                have hr6 := HA.out.rb_grown (i := .o) hg rfl (by simp)
                have f1 := hr6.c1
                have ff := hr6.fr 1
                have hq6 : H9 w6 q [.int .i64 (k : Int), .string ⟨s.toArray⟩, .string ⟨t2.toArray⟩, .string ⟨u.toArray⟩, .int .i64 (n : Int), .int .i64 (p : Int), .slice la ll lc, .slice ma ml mc, .bool true] := HQA.out.same (hg.block _ HQA.out.lt (fun e => absurd (HA.out.nd .o .q q e.symm rfl) (by simp)))
                have hs6 : w6.cell? ⟨q, 0, none⟩ = some (.int .i64 (k : Int)) ∧ w6.cell? ⟨q, 1, none⟩ = some (.string ⟨s.toArray⟩) ∧ w6.cell? ⟨q, 2, none⟩ = some (.string ⟨t2.toArray⟩) ∧ w6.cell? ⟨q, 3, none⟩ = some (.string ⟨u.toArray⟩) ∧ w6.cell? ⟨q, 4, none⟩ = some (.int .i64 (n : Int)) ∧ w6.cell? ⟨q, 5, none⟩ = some (.int .i64 (p : Int)) ∧ w6.cell? ⟨q, 6, none⟩ = some (.slice la ll lc) ∧ w6.cell? ⟨q, 7, none⟩ = some (.slice ma ml mc) ∧ w6.cell? ⟨q, 8, none⟩ = some (.bool true) := ⟨hq6.cell (i := 0) rfl, hq6.cell (i := 1) rfl, hq6.cell (i := 2) rfl, hq6.cell (i := 3) rfl, hq6.cell (i := 4) rfl, hq6.cell (i := 5) rfl, hq6.cell (i := 6) rfl, hq6.cell (i := 7) rfl, hq6.cell (i := 8) rfl⟩
                obtain ⟨w7, hw7⟩ : ∃ w7, w6.setCell ⟨g, 1, none⟩ (.slice (some ⟨g2, 0, none⟩) (hs.length + 1) c2) = w7 := ⟨_, rfl⟩
                rw [hw7] at p1 p2
                have hq7 : H9 w7 q [.int .i64 (k : Int), .string ⟨s.toArray⟩, .string ⟨t2.toArray⟩, .string ⟨u.toArray⟩, .int .i64 (n : Int), .int .i64 (p : Int), .slice la ll lc, .slice ma ml mc, .bool true] := hw7 ▸ hq6.same (Below.heap_setCell _ _ _ _ (fun e => hgq e.symm))
                have hs7 : w7.cell? ⟨q, 0, none⟩ = some (.int .i64 (k : Int)) ∧ w7.cell? ⟨q, 1, none⟩ = some (.string ⟨s.toArray⟩) ∧ w7.cell? ⟨q, 2, none⟩ = some (.string ⟨t2.toArray⟩) ∧ w7.cell? ⟨q, 3, none⟩ = some (.string ⟨u.toArray⟩) ∧ w7.cell? ⟨q, 4, none⟩ = some (.int .i64 (n : Int)) ∧ w7.cell? ⟨q, 5, none⟩ = some (.int .i64 (p : Int)) ∧ w7.cell? ⟨q, 6, none⟩ = some (.slice la ll lc) ∧ w7.cell? ⟨q, 7, none⟩ = some (.slice ma ml mc) ∧ w7.cell? ⟨q, 8, none⟩ = some (.bool true) := ⟨hq7.cell (i := 0) rfl, hq7.cell (i := 1) rfl, hq7.cell (i := 2) rfl, hq7.cell (i := 3) rfl, hq7.cell (i := 4) rfl, hq7.cell (i := 5) rfl, hq7.cell (i := 6) rfl, hq7.cell (i := 7) rfl, hq7.cell (i := 8) rfl⟩
                refine hK.out _ _ hs6 ?_; clear hK K
                try simp only [Act.put, List.setIfInBounds_toArray, List.set_cons_zero, List.set_cons_succ]
                refine heldTake (i := 8) (v := ?_) rfl (by kernel_rfl) (by kernel_rfl) (fun _ _ _ h => h) (by rfl) (by assumption) (fun w hSw => ?_) ?_; rotate_left; focus ((try dsimp only at hSw); go_simp; try with_reducible rfl)
                try simp only [Act.put, List.setIfInBounds_toArray, List.set_cons_zero, List.set_cons_succ]
                refine heldTake (i := 9) (v := ?_) rfl (by kernel_rfl) (by kernel_rfl) (fun _ _ _ h => h) (by rfl) (by assumption) (fun w hSw => ?_) ?_; rotate_left; focus ((try dsimp only at hSw); go_simp; try with_reducible rfl)
                try simp only [Act.put, List.setIfInBounds_toArray, List.set_cons_zero, List.set_cons_succ]
                -- NEXT 10 Op.store 48 (Operand.tmp 82) (Operand.tmp 80)
                refine heldNext (i := 10) rfl (by kernel_rfl) (by rfl) (fun K hK => ?_)
                go_simp; refine hK.out _ _ hs7 ?_; clear hK K
                try simp only [Act.put, List.setIfInBounds_toArray, List.set_cons_zero, List.set_cons_succ]
                refine wpAnyH_done (by kernel_rfl) ?_ _
                have HP7 := Lib.hid p1
                have HB7 := Lib.hid p2
                clear p1 p2 hr6 hq6 hq7 hs6 hs7 f1 ff ho hg hgg hw7
                simp only [Exit.then]
                go_wp2
                go_step3
                refine ⟨Or.inl ⟨rfl, FR.of _ _ _ rfl, _, hs ++ [⟨⟨k, s, t2, u, n, p, pl, pm⟩, .slice la ll lc, .slice ma ml mc, true⟩], _, _, ⟨⟨_, _, _, _, HP7.out⟩, HENDS.out, by rw [List.length_append, List.length_singleton]; have := HD7.out; omega, by have := HFEW.out; rw [List.length_append, List.length_singleton]; simp only [List.length_cons, List.length_nil] at this ⊢; omega, ⟨fun z hz => HLENS.out.h z (by simpa using hz), HLENS.out.t⟩, (HBASE.out.trans HBA.out).trans HB7.out⟩, ?_⟩, ?_⟩
                · exact HTG.out.trans (congrArg (fun s => Ps.run s [] (rowOf cs) top _) (stk_snoc hs ⟨⟨k, s, t2, u, n, p, pl, pm⟩, .slice la ll lc, .slice ma ml mc, true⟩).symm)
                · show 4 * lenG w7 g + 1 < _
                  rw [HP7.out.lenG]
                  exact HMU.out
          · have hef : Ps.isName Ps.wElse u1 = false := by simpa using hel
            rw [hef] at IS
            clear hP3 hq3
            go_wp2_with fail
            refine IS.mono ?_
            rintro e w4 ⟨rfl, hb4⟩
            have HP4 := Lib.hid (HP3.out.below hb4)
            have HQ4 := Lib.hid (HQ.out.same (hb4.block _ HQ.out.lt))
            have HB4 := Lib.hid (HB3.out.trans (hb4.mono HP3.out.bsz))
            clear IS hb4
            go_wp2
            go_step3
            refine ⟨Or.inr (Or.inr (Or.inl ⟨rfl, FR.of _ _ _ rfl, u1 :: ts1, hs, ⟨⟨k, s, t2, u, n, p, pl, pm⟩, .slice la ll lc, .slice ma ml mc, false⟩, cs, top, ⟨⟨_, _, _, _, HP4.out⟩, HENDS.out, HD.out, HFEW.out, HLENS.out, HB4.out⟩, HQ4.out, ?_⟩)), ?_⟩
            · rw [HTG.out, Ps.fin_put (by rintro ⟨_, _, h⟩; exact hel h)]
              rw [show (rowOf cs).length = cs.length by unfold rowOf; rw [List.length_map]]
              rfl
            · show 4 * lenG w4 g + 2 < _
              rw [HP4.out.lenG]
              exact HMU2.out
      · have r1 : ((k : Int) != 5) = true := by rw [bne_iff_ne]; omega
        have r2 : ((k : Int) == 5) = false := beq_eq_false_iff_ne.2 (by omega)
        have r3 : ((k : Int) = 5) = False := eq_false (by omega)
        clear hP3 hq3
        go_wp2
        go_step3
        refine ⟨Or.inr (Or.inr (Or.inl ⟨rfl, FR.of _ _ _ rfl, ts, hs, ⟨⟨k, s, t2, u, n, p, pl, pm⟩, .slice la ll lc, .slice ma ml mc, els⟩, cs, top, ⟨⟨_, _, _, _, HP3.out⟩, HENDS.out, HD.out, HFEW.out, HLENS.out, HB3.out⟩, HQ.out, ?_⟩)), ?_⟩
        · rw [HTG.out, Ps.fin_put (by rintro ⟨h, _⟩; exact hk5 h)]
          rw [show (rowOf cs).length = cs.length by unfold rowOf; rw [List.length_map]]
          rfl
        · show 4 * lenG w3 g + 2 < _
          rw [HP3.out.lenG]
          exact HMU2.out
    · refine ⟨_, rfl, ?_⟩
      obtain ⟨lv, ov, sv', tv, hP⟩ := hSJ.px
      obtain ⟨x1, x2⟩ := hP.hl x (by simp)
      obtain ⟨st, xl, xm, els⟩ := x
      obtain ⟨la, ll, lc, hl1⟩ := x1.form3
      obtain ⟨ma, ml, mc, hm1⟩ := x2.form3
      dsimp only at hl1 hm1
      subst hl1 hm1
      obtain ⟨k, s, t2, u, n, p, pl, pm⟩ := st
      have HQ : Hid (H9 wr q [.int .i64 (k : Int), .string ⟨s.toArray⟩, .string ⟨t2.toArray⟩, .string ⟨u.toArray⟩, .int .i64 (n : Int), .int .i64 (p : Int), .slice la ll lc, .slice ma ml mc, .bool els]) := Lib.hid hq
      have HENDS := Lib.hid hSJ.ends
      have HFEW := Lib.hid hSJ.few
      have HLENS := Lib.hid hSJ.lens
      have HD := Lib.hid hSJ.d
      have HBASE := Lib.hid hSJ.base
      have HTG := Lib.hid hT
      clear x1 x2 hq hT hSJ
      have HMU := Lib.hid (show 4 * ts.length + 1 < 4 * lenG wr g + 2 by rw [hP.lenG]; omega)
      have PA := put_any ⟨⟨k, s, t2, u, n, p, pl, pm⟩, .slice la ll lc, .slice ma ml mc, els⟩ wr hP (by have := HD.out; omega) (by have := HFEW.out; omega) HLENS.out
      have y0 := HQ.out.cell (i := 0) rfl
      have y1 := HQ.out.cell (i := 1) rfl
      have y2 := HQ.out.cell (i := 2) rfl
      have y3 := HQ.out.cell (i := 3) rfl
      have y4 := HQ.out.cell (i := 4) rfl
      have y5 := HQ.out.cell (i := 5) rfl
      have y6 := HQ.out.cell (i := 6) rfl
      have y7 := HQ.out.cell (i := 7) rfl
      clear HQ
      go_wp2_with fail
      refine PA.mono ?_
      rintro e w5 ⟨rfl, ⟨sv5, tv5, hs5, top5, hP5, hst5, htop5, hlen5, hlens5⟩, hb5⟩
      have HP5 := Lib.hid hP5
      have HX5 := Lib.hid (⟨hst5, htop5, hlen5, hlens5⟩ : _ ∧ _ ∧ _ ∧ _)
      have HB5 := Lib.hid hb5
      clear hP5 hst5 htop5 hlen5 hlens5 hb5 PA hP
      go_wp2
      go_step3
      refine ⟨Or.inl ⟨rfl, FR.of _ _ _ rfl, _, hs5, _, top5, ⟨⟨_, _, _, _, HP5.out⟩, HENDS.out, by rw [HX5.out.2.2.1]; exact HD.out, by have := HFEW.out; rw [List.length_append, List.length_singleton, HX5.out.2.2.1]; simp only [List.length_cons, List.length_nil] at this ⊢; omega, HX5.out.2.2.2, HBASE.out.trans HB5.out⟩, ?_⟩, ?_⟩
      · rw [HTG.out, Ps.run_put, HX5.out.1, HX5.out.2.1, rowOf_snoc]
        rfl
      · show 4 * lenG w5 g + 1 < _
        rw [HP5.out.lenG]
        exact HMU.out
    · refine ⟨_, rfl, ?_⟩
      obtain ⟨lv, ov, sv', tv, hP⟩ := hSJ.px
      obtain ⟨x1, x2⟩ := hP.hl x (by simp)
      obtain ⟨st, xl, xm, els⟩ := x
      obtain ⟨la, ll, lc, hl1⟩ := x1.form3
      obtain ⟨ma, ml, mc, hm1⟩ := x2.form3
      dsimp only at hl1 hm1
      subst hl1 hm1
      obtain ⟨k, s, t2, u, n, p, pl, pm⟩ := st
      have HQ : Hid (H9 wr q [.int .i64 (k : Int), .string ⟨s.toArray⟩, .string ⟨t2.toArray⟩, .string ⟨u.toArray⟩, .int .i64 (n : Int), .int .i64 (p : Int), .slice la ll lc, .slice ma ml mc, .bool els]) := Lib.hid hq
      have HENDS := Lib.hid hSJ.ends
      have HFEW := Lib.hid hSJ.few
      have HLENS := Lib.hid hSJ.lens
      have HD := Lib.hid hSJ.d
      have HBASE := Lib.hid hSJ.base
      have HTG := Lib.hid hT
      clear x1 x2 hq hT hSJ
      have HMU := Lib.hid (show 4 * ts.length + 1 < 4 * lenG wr g + 2 by rw [hP.lenG]; omega)
      have HD7 := Lib.hid hd7
      clear hd7
      refine wp_seq ?_
      have hD := hP.below (below_drew (Below.refl wr.heap.size wr))
      have hqD : H9 wr.drew q [.int .i64 (k : Int), .string ⟨s.toArray⟩, .string ⟨t2.toArray⟩, .string ⟨u.toArray⟩, .int .i64 (n : Int), .int .i64 (p : Int), .slice la ll lc, .slice ma ml mc, .bool els] := HQ.out
      have hgq : ¬ (g = q) := fun e => absurd (hP.nd .g .q q (by rw [← e]; rfl) rfl) (by simp)
      have hs0 : wr.drew.cell? ⟨q, 0, none⟩ = some (.int .i64 (k : Int)) ∧ wr.drew.cell? ⟨q, 1, none⟩ = some (.string ⟨s.toArray⟩) ∧ wr.drew.cell? ⟨q, 2, none⟩ = some (.string ⟨t2.toArray⟩) ∧ wr.drew.cell? ⟨q, 3, none⟩ = some (.string ⟨u.toArray⟩) ∧ wr.drew.cell? ⟨q, 4, none⟩ = some (.int .i64 (n : Int)) ∧ wr.drew.cell? ⟨q, 5, none⟩ = some (.int .i64 (p : Int)) ∧ wr.drew.cell? ⟨q, 6, none⟩ = some (.slice la ll lc) ∧ wr.drew.cell? ⟨q, 7, none⟩ = some (.slice ma ml mc) ∧ wr.drew.cell? ⟨q, 8, none⟩ = some (.bool els) := ⟨hqD.cell (i := 0) rfl, hqD.cell (i := 1) rfl, hqD.cell (i := 2) rfl, hqD.cell (i := 3) rfl, hqD.cell (i := 4) rfl, hqD.cell (i := 5) rfl, hqD.cell (i := 6) rfl, hqD.cell (i := 7) rfl, hqD.cell (i := 8) rfl⟩
      refine wp_region_held_drew (S := fun w' => w'.cell? ⟨q, 0, none⟩ = some (.int .i64 (k : Int)) ∧ w'.cell? ⟨q, 1, none⟩ = some (.string ⟨s.toArray⟩) ∧ w'.cell? ⟨q, 2, none⟩ = some (.string ⟨t2.toArray⟩) ∧ w'.cell? ⟨q, 3, none⟩ = some (.string ⟨u.toArray⟩) ∧ w'.cell? ⟨q, 4, none⟩ = some (.int .i64 (n : Int)) ∧ w'.cell? ⟨q, 5, none⟩ = some (.int .i64 (p : Int)) ∧ w'.cell? ⟨q, 6, none⟩ = some (.slice la ll lc) ∧ w'.cell? ⟨q, 7, none⟩ = some (.slice ma ml mc) ∧ w'.cell? ⟨q, 8, none⟩ = some (.bool els)) (by kernel_rfl) hs0 (fun hH => ?_)
      have hbD : Below B wr wr.drew := below_drew (Below.refl _ _)
      clear hP
      generalize wr.drew = wd at *
      obtain ⟨wa, hwa⟩ : ∃ wa, wd.alloc (.cells #[.int .i64 (k : Int), .string ⟨s.toArray⟩, .string ⟨t2.toArray⟩, .string ⟨u.toArray⟩, .int .i64 (n : Int), .int .i64 (p : Int), .slice la ll lc, .slice ma ml mc, .bool els] 74) = wa := ⟨_, rfl⟩
      have hba : Below wd.heap.size wd wa := by rw [← hwa]; exact (Below.refl _ _).alloc (Nat.le_refl _) _
      have hna : wa.heap[wd.heap.size]? = some (.cells #[.int .i64 (k : Int), .string ⟨s.toArray⟩, .string ⟨t2.toArray⟩, .string ⟨u.toArray⟩, .int .i64 (n : Int), .int .i64 (p : Int), .slice la ll lc, .slice ma ml mc, .bool els] 74 (0, 0)) := by rw [← hwa]; exact heap_alloc_new _ _
      have hA := hD.below hba
      have hqA : H9 wa q [.int .i64 (k : Int), .string ⟨s.toArray⟩, .string ⟨t2.toArray⟩, .string ⟨u.toArray⟩, .int .i64 (n : Int), .int .i64 (p : Int), .slice la ll lc, .slice ma ml mc, .bool els] := hqD.same (hba.block _ hqD.lt)
      have hsA : wa.cell? ⟨q, 0, none⟩ = some (.int .i64 (k : Int)) ∧ wa.cell? ⟨q, 1, none⟩ = some (.string ⟨s.toArray⟩) ∧ wa.cell? ⟨q, 2, none⟩ = some (.string ⟨t2.toArray⟩) ∧ wa.cell? ⟨q, 3, none⟩ = some (.string ⟨u.toArray⟩) ∧ wa.cell? ⟨q, 4, none⟩ = some (.int .i64 (n : Int)) ∧ wa.cell? ⟨q, 5, none⟩ = some (.int .i64 (p : Int)) ∧ wa.cell? ⟨q, 6, none⟩ = some (.slice la ll lc) ∧ wa.cell? ⟨q, 7, none⟩ = some (.slice ma ml mc) ∧ wa.cell? ⟨q, 8, none⟩ = some (.bool els) := ⟨hqA.cell (i := 0) rfl, hqA.cell (i := 1) rfl, hqA.cell (i := 2) rfl, hqA.cell (i := 3) rfl, hqA.cell (i := 4) rfl, hqA.cell (i := 5) rfl, hqA.cell (i := 6) rfl, hqA.cell (i := 7) rfl, hqA.cell (i := 8) rfl⟩
      have e1 := hD.rb.c1
      have e1a := hA.rb.c1
      have HA := Lib.hid hA
      have HSA := Lib.hid hsA
      have HQA := Lib.hid hqA
      have HNA := Lib.hid hna
      have HBA := Lib.hid (hbD.trans (hba.mono hD.bsz))
      clear hA hsA hqA hna hba hD hqD hbD hs0
      refine heldTake (i := 0) (v := ?_) rfl (by kernel_rfl) (by kernel_rfl) (fun _ _ _ h => h) (by rfl) (by assumption) (fun w hSw => ?_) ?_; rotate_left; focus ((try dsimp only at hSw); go_simp; try with_reducible rfl)
      try simp only [Act.put, List.setIfInBounds_toArray, List.set_cons_zero, List.set_cons_succ]
      refine heldTake (i := 1) (v := ?_) rfl (by kernel_rfl) (by kernel_rfl) (fun _ _ _ h => h) (by rfl) (by assumption) (fun w hSw => ?_) ?_; rotate_left; focus ((try dsimp only at hSw); go_simp; try with_reducible rfl)
      try simp only [Act.put, List.setIfInBounds_toArray, List.set_cons_zero, List.set_cons_succ]
      refine heldTake (i := 2) (v := ?_) rfl (by kernel_rfl) (by kernel_rfl) (fun _ _ _ h => h) (by rfl) (by assumption) (fun w hSw => ?_) ?_; rotate_left; focus ((try dsimp only at hSw); go_simp; try with_reducible rfl)
      try simp only [Act.put, List.setIfInBounds_toArray, List.set_cons_zero, List.set_cons_succ]
      refine heldTake (i := 3) (v := ?_) rfl (by kernel_rfl) (by kernel_rfl) (fun _ _ _ h => h) (by rfl) (by assumption) (fun w hSw => ?_) ?_; rotate_left; focus ((try dsimp only at hSw); go_simp; try with_reducible rfl)
      try simp only [Act.put, List.setIfInBounds_toArray, List.set_cons_zero, List.set_cons_succ]
      refine heldTake (i := 5) (v := ?_) rfl (by kernel_rfl) (by kernel_rfl) (fun _ _ _ h => h) (by rfl) (by assumption) (fun w hSw => ?_) ?_; rotate_left; focus ((try dsimp only at hSw); go_simp; try with_reducible rfl)
      try simp only [Act.put, List.setIfInBounds_toArray, List.set_cons_zero, List.set_cons_succ]
      -- TWO 4 Op.load 48 (Operand.tmp 76) | 6 Op.buildSlice 48 1 #[(0, Operand.tmp 78)]
      refine heldTwo (i := 4) (j := 6) rfl rfl (by kernel_rfl) (by rfl) (by rfl) (fun K hK => ?_) (fun K hK => ?_)
      · go_simp; refine hK.out _ _ (by assumption) ?_; clear hK K
        try simp only [Act.put, List.setIfInBounds_toArray, List.set_cons_zero, List.set_cons_succ]
        -- NEXT 6 Op.buildSlice 48 1 #[(0, Operand.tmp 78)]
        refine heldNext (i := 6) rfl (by kernel_rfl) (by rfl) (fun K hK => ?_)
        go_simp; refine hK.out _ _ HSA.out ?_; clear hK K
        try simp only [Act.put, List.setIfInBounds_toArray, List.set_cons_zero, List.set_cons_succ]
        -- NEXT 7 Op.call { callee := Callee.builtin Builtin.append, args := #[Operand.tmp 77, Operand.tmp 79], argTypes := #[48
        refine heldNext (i := 7) rfl (by kernel_rfl) (by rfl) (fun K hK => ?_)
        refine append_h ⟨⟨k, s, t2, u, n, p, pl, pm⟩, .slice la ll lc, .slice ma ml mc, els⟩ (.tmp 77) (.tmp 79) (by rfl) (by rfl) (HA.out.op) (by rfl) HNA.out rfl rfl (by have := HD7.out; omega) HA.out.bsz (fun g2 c2 w6 ho hg hgg => ?_)
        obtain ⟨p1, p2⟩ := HA.out.growOp hg ho rfl hgg
        have hr6 := HA.out.rb_grown (i := .o) hg rfl (by simp)
        have f1 := hr6.c1
        have ff := hr6.fr 1
        have hq6 : H9 w6 q [.int .i64 (k : Int), .string ⟨s.toArray⟩, .string ⟨t2.toArray⟩, .string ⟨u.toArray⟩, .int .i64 (n : Int), .int .i64 (p : Int), .slice la ll lc, .slice ma ml mc, .bool els] := HQA.out.same (hg.block _ HQA.out.lt (fun e => absurd (HA.out.nd .o .q q e.symm rfl) (by simp)))
        have hs6 : w6.cell? ⟨q, 0, none⟩ = some (.int .i64 (k : Int)) ∧ w6.cell? ⟨q, 1, none⟩ = some (.string ⟨s.toArray⟩) ∧ w6.cell? ⟨q, 2, none⟩ = some (.string ⟨t2.toArray⟩) ∧ w6.cell? ⟨q, 3, none⟩ = some (.string ⟨u.toArray⟩) ∧ w6.cell? ⟨q, 4, none⟩ = some (.int .i64 (n : Int)) ∧ w6.cell? ⟨q, 5, none⟩ = some (.int .i64 (p : Int)) ∧ w6.cell? ⟨q, 6, none⟩ = some (.slice la ll lc) ∧ w6.cell? ⟨q, 7, none⟩ = some (.slice ma ml mc) ∧ w6.cell? ⟨q, 8, none⟩ = some (.bool els) := ⟨hq6.cell (i := 0) rfl, hq6.cell (i := 1) rfl, hq6.cell (i := 2) rfl, hq6.cell (i := 3) rfl, hq6.cell (i := 4) rfl, hq6.cell (i := 5) rfl, hq6.cell (i := 6) rfl, hq6.cell (i := 7) rfl, hq6.cell (i := 8) rfl⟩
        obtain ⟨w7, hw7⟩ : ∃ w7, w6.setCell ⟨g, 1, none⟩ (.slice (some ⟨g2, 0, none⟩) (hs.length + 1) c2) = w7 := ⟨_, rfl⟩
        rw [hw7] at p1 p2
        have hq7 : H9 w7 q [.int .i64 (k : Int), .string ⟨s.toArray⟩, .string ⟨t2.toArray⟩, .string ⟨u.toArray⟩, .int .i64 (n : Int), .int .i64 (p : Int), .slice la ll lc, .slice ma ml mc, .bool els] := hw7 ▸ hq6.same (Below.heap_setCell _ _ _ _ (fun e => hgq e.symm))
        have hs7 : w7.cell? ⟨q, 0, none⟩ = some (.int .i64 (k : Int)) ∧ w7.cell? ⟨q, 1, none⟩ = some (.string ⟨s.toArray⟩) ∧ w7.cell? ⟨q, 2, none⟩ = some (.string ⟨t2.toArray⟩) ∧ w7.cell? ⟨q, 3, none⟩ = some (.string ⟨u.toArray⟩) ∧ w7.cell? ⟨q, 4, none⟩ = some (.int .i64 (n : Int)) ∧ w7.cell? ⟨q, 5, none⟩ = some (.int .i64 (p : Int)) ∧ w7.cell? ⟨q, 6, none⟩ = some (.slice la ll lc) ∧ w7.cell? ⟨q, 7, none⟩ = some (.slice ma ml mc) ∧ w7.cell? ⟨q, 8, none⟩ = some (.bool els) := ⟨hq7.cell (i := 0) rfl, hq7.cell (i := 1) rfl, hq7.cell (i := 2) rfl, hq7.cell (i := 3) rfl, hq7.cell (i := 4) rfl, hq7.cell (i := 5) rfl, hq7.cell (i := 6) rfl, hq7.cell (i := 7) rfl, hq7.cell (i := 8) rfl⟩
        refine hK.out _ _ hs6 ?_; clear hK K
        try simp only [Act.put, List.setIfInBounds_toArray, List.set_cons_zero, List.set_cons_succ]
        refine heldTake (i := 8) (v := ?_) rfl (by kernel_rfl) (by kernel_rfl) (fun _ _ _ h => h) (by rfl) (by assumption) (fun w hSw => ?_) ?_; rotate_left; focus ((try dsimp only at hSw); go_simp; try with_reducible rfl)
        try simp only [Act.put, List.setIfInBounds_toArray, List.set_cons_zero, List.set_cons_succ]
        refine heldTake (i := 9) (v := ?_) rfl (by kernel_rfl) (by kernel_rfl) (fun _ _ _ h => h) (by rfl) (by assumption) (fun w hSw => ?_) ?_; rotate_left; focus ((try dsimp only at hSw); go_simp; try with_reducible rfl)
        try simp only [Act.put, List.setIfInBounds_toArray, List.set_cons_zero, List.set_cons_succ]
        -- NEXT 10 Op.store 48 (Operand.tmp 82) (Operand.tmp 80)
        refine heldNext (i := 10) rfl (by kernel_rfl) (by rfl) (fun K hK => ?_)
        go_simp; refine hK.out _ _ hs7 ?_; clear hK K
        try simp only [Act.put, List.setIfInBounds_toArray, List.set_cons_zero, List.set_cons_succ]
        refine wpAnyH_done (by kernel_rfl) ?_ _
        have HP7 := Lib.hid p1
        have HB7 := Lib.hid p2
        clear p1 p2 hr6 hq6 hq7 hs6 hs7 f1 ff ho hg hgg hw7
        simp only [Exit.then]
        go_wp2
        go_step3
        refine ⟨Or.inl ⟨rfl, FR.of _ _ _ rfl, _, hs ++ [⟨⟨k, s, t2, u, n, p, pl, pm⟩, .slice la ll lc, .slice ma ml mc, els⟩], _, _, ⟨⟨_, _, _, _, HP7.out⟩, HENDS.out, by rw [List.length_append, List.length_singleton]; have := HD7.out; omega, by have := HFEW.out; rw [List.length_append, List.length_singleton]; simp only [List.length_cons, List.length_nil] at this ⊢; omega, ⟨fun z hz => HLENS.out.h z (by simpa using hz), HLENS.out.t⟩, (HBASE.out.trans HBA.out).trans HB7.out⟩, ?_⟩, ?_⟩
        · exact HTG.out.trans (congrArg (fun s => Ps.run s [] (rowOf cs) top _) (stk_snoc hs ⟨⟨k, s, t2, u, n, p, pl, pm⟩, .slice la ll lc, .slice ma ml mc, els⟩).symm)
        · show 4 * lenG w7 g + 1 < _
          rw [HP7.out.lenG]
          exact HMU.out
      · go_simp; refine hK.out _ _ HSA.out ?_; clear hK K
        try simp only [Act.put, List.setIfInBounds_toArray, List.set_cons_zero, List.set_cons_succ]
        -- NEXT 4 Op.load 48 (Operand.tmp 76)
        refine heldNext (i := 4) rfl (by kernel_rfl) (by rfl) (fun K hK => ?_)
        go_simp; refine hK.out _ _ (by assumption) ?_; clear hK K
        try simp only [Act.put, List.setIfInBounds_toArray, List.set_cons_zero, List.set_cons_succ]
        -- NEXT 7 Op.call { callee := Callee.builtin Builtin.append, args := #[Operand.tmp 77, Operand.tmp 79], argTypes := #[48
        refine heldNext (i := 7) rfl (by kernel_rfl) (by rfl) (fun K hK => ?_)
        refine append_h ⟨⟨k, s, t2, u, n, p, pl, pm⟩, .slice la ll lc, .slice ma ml mc, els⟩ (.tmp 77) (.tmp 79) (by rfl) (by rfl) (HA.out.op) (by rfl) HNA.out rfl rfl (by have := HD7.out; omega) HA.out.bsz (fun g2 c2 w6 ho hg hgg => ?_)
        obtain ⟨p1, p2⟩ := HA.out.growOp hg ho rfl hgg
        have hr6 := HA.out.rb_grown (i := .o) hg rfl (by simp)
        have f1 := hr6.c1
        have ff := hr6.fr 1
        have hq6 : H9 w6 q [.int .i64 (k : Int), .string ⟨s.toArray⟩, .string ⟨t2.toArray⟩, .string ⟨u.toArray⟩, .int .i64 (n : Int), .int .i64 (p : Int), .slice la ll lc, .slice ma ml mc, .bool els] := HQA.out.same (hg.block _ HQA.out.lt (fun e => absurd (HA.out.nd .o .q q e.symm rfl) (by simp)))
        have hs6 : w6.cell? ⟨q, 0, none⟩ = some (.int .i64 (k : Int)) ∧ w6.cell? ⟨q, 1, none⟩ = some (.string ⟨s.toArray⟩) ∧ w6.cell? ⟨q, 2, none⟩ = some (.string ⟨t2.toArray⟩) ∧ w6.cell? ⟨q, 3, none⟩ = some (.string ⟨u.toArray⟩) ∧ w6.cell? ⟨q, 4, none⟩ = some (.int .i64 (n : Int)) ∧ w6.cell? ⟨q, 5, none⟩ = some (.int .i64 (p : Int)) ∧ w6.cell? ⟨q, 6, none⟩ = some (.slice la ll lc) ∧ w6.cell? ⟨q, 7, none⟩ = some (.slice ma ml mc) ∧ w6.cell? ⟨q, 8, none⟩ = some (.bool els) := ⟨hq6.cell (i := 0) rfl, hq6.cell (i := 1) rfl, hq6.cell (i := 2) rfl, hq6.cell (i := 3) rfl, hq6.cell (i := 4) rfl, hq6.cell (i := 5) rfl, hq6.cell (i := 6) rfl, hq6.cell (i := 7) rfl, hq6.cell (i := 8) rfl⟩
        obtain ⟨w7, hw7⟩ : ∃ w7, w6.setCell ⟨g, 1, none⟩ (.slice (some ⟨g2, 0, none⟩) (hs.length + 1) c2) = w7 := ⟨_, rfl⟩
        rw [hw7] at p1 p2
        have hq7 : H9 w7 q [.int .i64 (k : Int), .string ⟨s.toArray⟩, .string ⟨t2.toArray⟩, .string ⟨u.toArray⟩, .int .i64 (n : Int), .int .i64 (p : Int), .slice la ll lc, .slice ma ml mc, .bool els] := hw7 ▸ hq6.same (Below.heap_setCell _ _ _ _ (fun e => hgq e.symm))
        have hs7 : w7.cell? ⟨q, 0, none⟩ = some (.int .i64 (k : Int)) ∧ w7.cell? ⟨q, 1, none⟩ = some (.string ⟨s.toArray⟩) ∧ w7.cell? ⟨q, 2, none⟩ = some (.string ⟨t2.toArray⟩) ∧ w7.cell? ⟨q, 3, none⟩ = some (.string ⟨u.toArray⟩) ∧ w7.cell? ⟨q, 4, none⟩ = some (.int .i64 (n : Int)) ∧ w7.cell? ⟨q, 5, none⟩ = some (.int .i64 (p : Int)) ∧ w7.cell? ⟨q, 6, none⟩ = some (.slice la ll lc) ∧ w7.cell? ⟨q, 7, none⟩ = some (.slice ma ml mc) ∧ w7.cell? ⟨q, 8, none⟩ = some (.bool els) := ⟨hq7.cell (i := 0) rfl, hq7.cell (i := 1) rfl, hq7.cell (i := 2) rfl, hq7.cell (i := 3) rfl, hq7.cell (i := 4) rfl, hq7.cell (i := 5) rfl, hq7.cell (i := 6) rfl, hq7.cell (i := 7) rfl, hq7.cell (i := 8) rfl⟩
        refine hK.out _ _ hs6 ?_; clear hK K
        try simp only [Act.put, List.setIfInBounds_toArray, List.set_cons_zero, List.set_cons_succ]
        refine heldTake (i := 8) (v := ?_) rfl (by kernel_rfl) (by kernel_rfl) (fun _ _ _ h => h) (by rfl) (by assumption) (fun w hSw => ?_) ?_; rotate_left; focus ((try dsimp only at hSw); go_simp; try with_reducible rfl)
        try simp only [Act.put, List.setIfInBounds_toArray, List.set_cons_zero, List.set_cons_succ]
        refine heldTake (i := 9) (v := ?_) rfl (by kernel_rfl) (by kernel_rfl) (fun _ _ _ h => h) (by rfl) (by assumption) (fun w hSw => ?_) ?_; rotate_left; focus ((try dsimp only at hSw); go_simp; try with_reducible rfl)
        try simp only [Act.put, List.setIfInBounds_toArray, List.set_cons_zero, List.set_cons_succ]
        -- NEXT 10 Op.store 48 (Operand.tmp 82) (Operand.tmp 80)
        refine heldNext (i := 10) rfl (by kernel_rfl) (by rfl) (fun K hK => ?_)
        go_simp; refine hK.out _ _ hs7 ?_; clear hK K
        try simp only [Act.put, List.setIfInBounds_toArray, List.set_cons_zero, List.set_cons_succ]
        refine wpAnyH_done (by kernel_rfl) ?_ _
        have HP7 := Lib.hid p1
        have HB7 := Lib.hid p2
        clear p1 p2 hr6 hq6 hq7 hs6 hs7 f1 ff ho hg hgg hw7
        simp only [Exit.then]
        go_wp2
        go_step3
        refine ⟨Or.inl ⟨rfl, FR.of _ _ _ rfl, _, hs ++ [⟨⟨k, s, t2, u, n, p, pl, pm⟩, .slice la ll lc, .slice ma ml mc, els⟩], _, _, ⟨⟨_, _, _, _, HP7.out⟩, HENDS.out, by rw [List.length_append, List.length_singleton]; have := HD7.out; omega, by have := HFEW.out; rw [List.length_append, List.length_singleton]; simp only [List.length_cons, List.length_nil] at this ⊢; omega, ⟨fun z hz => HLENS.out.h z (by simpa using hz), HLENS.out.t⟩, (HBASE.out.trans HBA.out).trans HB7.out⟩, ?_⟩, ?_⟩
        · exact HTG.out.trans (congrArg (fun s => Ps.run s [] (rowOf cs) top _) (stk_snoc hs ⟨⟨k, s, t2, u, n, p, pl, pm⟩, .slice la ll lc, .slice ma ml mc, els⟩).symm)
        · show 4 * lenG w7 g + 1 < _
          rw [HP7.out.lenG]
          exact HMU.out
end Go.Proofs.YtiikionoagmabaaDoor

/- A script's head, taken by words (layer 15, plain). -/
namespace Go.Proofs.YtiikionoagmabaaDoor
namespace Ps
open Lx (Tok)

theorem take_one {d : Nat} {w : List UInt8} {ws : List (List UInt8)} {t : Tok} {ts : List Tok} (hw : w ≠ [123]) : takeW d (w :: ws) (t :: ts) = if fitsT w t = true then takeW d ws ts else .error (t.place, 20) := by
  rw [takeW]
  split
  · rw [if_neg (fun e => hw e.1)]
  · rfl
theorem take_script {d : Nat} {ts : List Tok} (he : Ends ts) : (∀ x, takeW d [wMode, [109], [59]] ts = .error x → head ts = .error x ∧ x.2 = 20) ∧
    (∀ r, takeW d [wMode, [109], [59]] ts = .ok r → ∃ t0 t1 t2, ts = t0 :: t1 :: t2 :: r ∧ head ts = .ok (mode t1.text, r) ∧ Ends r) := by
  obtain ⟨t0, ts1, rfl, hf0⟩ := he.ne
  have h0 : fitsT wMode t0 = isName wMode t0 := by rw [show wMode = 109 :: 111 :: [100, 101] from rfl]; exact fitsT_word (by decide) hf0
  rw [take_one (by decide), h0]
  by_cases h1 : isName wMode t0 = true
  · rw [if_pos h1]
    have hk0 : t0.kind ≠ 0 := by unfold isName at h1; simp at h1; omega
    have he1 := he.tail hk0
    obtain ⟨t1, ts2, rfl, hf1⟩ := he1.ne
    have h2 : fitsT [109] t1 = (t1.kind == 1 && mode t1.text != 0) := rfl
    rw [take_one (by decide), h2]
    by_cases h3 : (t1.kind == 1 && mode t1.text != 0) = true
    · rw [if_pos h3]
      have h3' : t1.kind = 1 ∧ mode t1.text ≠ 0 := by simpa using h3
      have he2 := he1.tail (by omega)
      obtain ⟨t2, ts3, rfl, hf2⟩ := he2.ne
      rw [take_one (by decide), fitsT_sign rfl hf2]
      by_cases h4 : isSign 59 t2 = true
      · rw [if_pos h4]
        have hk2 : t2.kind ≠ 0 := by unfold isSign at h4; simp at h4; omega
        refine ⟨fun x h => (by cases h), fun r h => ?_⟩
        cases h
        refine ⟨t0, t1, t2, rfl, ?_, he2.tail hk2⟩
        show (if isName wMode t0 = true then _ else _) = _
        rw [if_pos h1, if_pos h3']
        exact if_pos h4
      · rw [if_neg h4]
        refine ⟨fun x h => ?_, fun r h => (by cases h)⟩
        cases h
        refine ⟨?_, rfl⟩
        show (if isName wMode t0 = true then _ else _) = _
        rw [if_pos h1, if_pos h3']
        exact if_neg h4
    · rw [if_neg h3]
      have h3' : ¬ (t1.kind = 1 ∧ mode t1.text ≠ 0) := by simpa using h3
      refine ⟨fun x h => ?_, fun r h => (by cases h)⟩
      cases h
      refine ⟨?_, rfl⟩
      show (if isName wMode t0 = true then _ else _) = _
      rw [if_pos h1, if_neg h3']
  · rw [if_neg h1]
    refine ⟨fun x h => ?_, fun r h => (by cases h)⟩
    cases h
    refine ⟨?_, rfl⟩
    show (if isName wMode t0 = true then _ else _) = _
    rw [if_neg h1]
theorem all_of {l : List UInt8} : all l = (match Lx.all l with | .error e => .error e | .ok ts => prog ts) := rfl
theorem all_few {l : List UInt8} {ts : List Tok} (h : Lx.all l = .ok ts) : ts.length ≤ 401 := by
  have go_few : ∀ (n f k : Nat) (l : List UInt8) {ts : List Tok}, Lx.go n f k l = .ok ts → k ≤ 400 → ts.length + k ≤ 401 := by
    intro n f
    induction f with
    | zero => intro k l ts h hk; cases h; simp; omega
    | succ f ih =>
      intro k l ts h hk
      cases l with
      | nil => cases h; simp; omega
      | cons c l =>
        rw [Lx.go] at h
        cases hx : Lx.next c l with
        | error x => rw [hx] at h; cases h
        | ok x =>
          obtain ⟨kd, t, r⟩ := x
          rw [hx] at h
          dsimp only at h
          split at h
          · cases h
          · next h4 =>
            split at h
            · cases h
            · next hg =>
              cases h
              have := ih (k + 1) _ hg (by omega)
              simp only [List.length_cons]
              omega
  unfold Lx.all at h
  split at h
  · cases h
  · have := go_few _ _ _ _ h (by omega)
    omega
end Ps
end Go.Proofs.YtiikionoagmabaaDoor

/- Bits of int: joins and masks. -/
namespace Go.Proofs.YtiikionoagmabaaDoor
theorem wraps_i64 (n : Int) (h₀ : 0 ≤ n) (h₁ : n < 2 ^ 63) : IntKind.i64.wrap n = n := by rw [IntKind.wrap_i64]; omega
theorem or_i64 (i : Nat) {x y : Int} (hx₀ : 0 ≤ x) (hx : x % 2 ^ i = 0) (hx₁ : x < 2 ^ 63) (hy₀ : 0 ≤ y) (hy : y < 2 ^ i) (hy₁ : y < 2 ^ 63) : bits .or .i64 x y = x + y :=
  bits_join .i64 63 (by decide) wraps_i64 i x y hx₀ hx hx₁ hy₀ hy hy₁
theorem mask_i64 (i : Nat) (hi : i ≤ 63) {x : Int} (h₀ : 0 ≤ x) (h₁ : x < 2 ^ 63) : bits .and .i64 x (2 ^ i - 1) = x % 2 ^ i :=
  bits_mask .i64 63 (by decide) wraps_i64 i hi x h₀ h₁
theorem wraps_u8 (n : Int) (h₀ : 0 ≤ n) (h₁ : n < 2 ^ 8) : IntKind.u8.wrap n = n := by rw [IntKind.wrap_u8]; omega
theorem mask_u8 (i : Nat) (hi : i ≤ 8) {x : Int} (h₀ : 0 ≤ x) (h₁ : x < 2 ^ 8) : bits .and .u8 x (2 ^ i - 1) = x % 2 ^ i :=
  bits_mask .u8 8 (by decide) wraps_u8 i hi x h₀ h₁
end Go.Proofs.YtiikionoagmabaaDoor
