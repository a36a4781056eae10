/- The reference's body in memory: New, Line walked. -/
import Derived.Test.YtnodngcfjdghcaaDoorStuffP
import Derived.Test.YtnodngcfjdghcaaDoorApart
import Derived.Test.YtnodngcfjdghcaaDoorAppendT
import Derived.Test.YtnodngcfjdghcaaDoorBits
import Derived.Test.YtnodngcfjdghcaaDoorToBytes
import Derived.BigQuiet
import Derived.Deep.QuietTactic
namespace Go.Proofs.YtnodngcfjdghcaaDoor
open Go.RowKit

/-- Block g holds a body of the reference's. -/
structure RO (w : World) (B g : Nat) (s : Value) (most : Int) (b : St.Bd) : Prop where
  c : w.heap[g]? = some (.cells #[s, .int .i64 (b.n : Int), .int .i64 most] 59 (0, 0))
  o : w.ownsRow B 5 1 s b.bs.length (b.bs.map bv)
  hg : B ≤ g
  h0 : 0 ≤ most
  hm : most < 9223372036854775808
section
variable {w w' : World} {B g : Nat} {s : Value} {most : Int} {b : St.Bd}
theorem RO.lt (h : RO w B g s most b) : g < w.heap.size := (Array.getElem?_eq_some_iff.1 h.c).1
theorem RO.slt (h : RO w B g s most b) : ∀ k, s.ownBlock = some k → B ≤ k ∧ k < w.heap.size := h.o.lt
theorem RO.ne (h : RO w B g s most b) : s.ownBlock ≠ some g := own_not h.o h.c (by decide)
theorem RO.next (h : RO w B g s most b) (hb : Below w.heap.size w w') : RO w' B g s most b := ⟨(hb.block _ h.lt).trans h.c, own_below h.o hb, h.hg, h.h0, h.hm⟩
theorem RO.c0 (h : RO w B g s most b) : w.cell? ⟨g, 0, none⟩ = some s := cell_of_row _ _ _ _ _ _ h.c
theorem RO.c1 (h : RO w B g s most b) : w.cell? ⟨g, 1, none⟩ = some (.int .i64 (b.n : Int)) := cell_of_row _ _ _ _ _ _ h.c
theorem RO.c2 (h : RO w B g s most b) : w.cell? ⟨g, 2, none⟩ = some (.int .i64 most) := cell_of_row _ _ _ _ _ _ h.c
theorem RO.rd (h : RO w B g s most b) : Rd w s (b.bs.map bv) := .of_own h.o
theorem RO.turn (h : RO w B g s most b) (hT : Turn g s w w') (hB : B ≤ w.heap.size) : Below B w w' := hT.below h.hg (fun k hk => (h.slt k hk).1) hB
theorem RO.past (h : RO w B g s most b) {g' : Nat} {s' : Value} (hT : Turn g' s' w w') (h1 : g ≠ g') (h2 : s'.ownBlock ≠ some g) (h3 : s.ownBlock ≠ some g') (h4 : Ap s s') : RO w' B g s most b :=
  ⟨(hT.block _ h.lt h1 h2).trans h.c, hT.past h.o h3 h4, h.hg, h.h0, h.hm⟩
/-- Another row is put there, a new one. -/
theorem RO.put {s' : Value} {ys : List UInt8} (h : RO w B g s most b) (hb : Below w.heap.size w w') (ho : w'.ownsRow w.heap.size 5 1 s' ys.length (ys.map bv)) (hB : B ≤ w.heap.size) :
    RO (w'.setCell ⟨g, 0, none⟩ s') B g s' most ⟨ys, b.n⟩ ∧ Turn g s w (w'.setCell ⟨g, 0, none⟩ s') ∧ Nx s s' w.heap.size := by
  have hc := (hb.block g h.lt).trans h.c
  refine ⟨⟨(setCell_row hc).trans rfl, ?_, h.hg, h.h0, h.hm⟩, Turn.before hb (fturn_setCell w' g 0 s s'), ?_⟩
  · exact own_setCell (ownsRow_lower ho hB) (own_not ho hc (by decide))
  · cases hk : s'.ownBlock with
    | none => exact .inl hk
    | some k => exact .inr (.inr ⟨k, hk, (ho.lt k hk).1⟩)
theorem RO.count (h : RO w B g s most b) : RO (w.setCell ⟨g, 1, none⟩ (.int .i64 ((b.n + 1 : Nat) : Int))) B g s most ⟨b.bs, b.n + 1⟩ :=
  ⟨(setCell_row h.c).trans rfl, own_setCell h.o h.ne, h.hg, h.h0, h.hm⟩
theorem ro_new (w : World) (m : Int) (h0 : 0 ≤ m) (hm : m < 9223372036854775808) : RO (w.alloc (.cells #[.slice none 0 0, .int .i64 0, .int .i64 m] 59)) w.heap.size w.heap.size (.slice none 0 0) m ⟨[], 0⟩ :=
  ⟨heap_alloc_new w _, World.ownsRow_nil _ _ _ _, Nat.le_refl _, h0, hm⟩
/-- 'New'. -/
theorem rnew_any (m : Int) (hm : m < 9223372036854775808) (w : World) :
    Calls Tryd.prog 18 #[.int .i64 m] w fun e w' => e = .returned (.pointer (some ⟨w.heap.size, 0, none⟩)) ∧ Below w.heap.size w w' ∧ RO w' w.heap.size w.heap.size (.slice none 0 0) (max 0 m) ⟨[], 0⟩ := by
  have hq := Lib.hid (fun k h0 hk => ro_new w k h0 hk)
  by_cases hm0 : m ≤ 0
  · rw [show max 0 m = 0 by omega]
    go_enter Tryd.func18, Tryd.ntmps18
    go_wp2
    all_goals
      go_ret
      first
        | exact ⟨rfl, (Below.refl _ _).alloc (Nat.le_refl _) _, hq.out _ (by omega) (by omega)⟩
        | (exfalso; omega)
        | (obtain rfl : m = 0 := by omega
           exact ⟨rfl, (Below.refl _ _).alloc (Nat.le_refl _) _, hq.out _ (by omega) (by omega)⟩)
  · rw [show max 0 m = m by omega]
    go_enter Tryd.func18, Tryd.ntmps18
    go_wp2
    all_goals
      go_ret
      first
        | exact ⟨rfl, (Below.refl _ _).alloc (Nat.le_refl _) _, hq.out _ (by omega) (by omega)⟩
        | (exfalso; omega)

/-- What Line does: its answer, and what has turned. -/
def RPost (w : World) (B g : Nat) (s : Value) (most : Int) (b : St.Bd) (t : List UInt8) (e : Ending) (w' : World) : Prop :=
  ∃ s', e = .returned (.tuple #[.bool (b.line most t).1, .int .i64 ((b.line most t).2.1 : Int)]) ∧ RO w' B g s' most (b.line most t).2.2 ∧ Turn g s w w' ∧ Nx s s' w.heap.size

theorem drewN_below (w : World) (q : Nat) : Below w.heap.size w (w.drewN q) := ⟨rfl, rfl, rfl, Nat.le_refl _, fun _ _ => rfl⟩

set_option maxHeartbeats 4000000 in
theorem rline_any (w : World) (B g : Nat) (s : Value) (most : Int) (b : St.Bd) (t : ByteArray) (h : RO w B g s most b) (hs : b.bs.length ≤ 1000000) (hnb : b.n ≤ 1000000) (ht : t.size ≤ 1000000) (hB : B ≤ w.heap.size) :
    Calls Tryd.prog 19 #[.pointer (some ⟨g, 0, none⟩), .string t] w (RPost w B g s most b t.data.toList) := by
  unfold RPost
  by_cases hd : t.data.toList = [46]
  · have ht : t = ⟨#[46]⟩ := by
      cases t with
      | mk d =>
        have : d = [46].toArray := by rw [← hd]
        rw [this]
    subst ht
    show Calls _ _ _ _ fun e w' => ∃ s', e = .returned (.tuple #[.bool (b.line most [46]).1, .int .i64 ((b.line most [46]).2.1 : Int)]) ∧ RO w' B g s' most (b.line most [46]).2.2 ∧ Turn g s w w' ∧ Nx s s' w.heap.size
    rw [St.line_end]
    have H := Lib.hid h
    clear h hd hs ht
    go_enter Tryd.func19, Tryd.ntmps19
    go_wp2
    go_ret2
    exact ⟨s, rfl, H.out, Turn.refl _ _ _, Nx.refl _ _⟩
  · have hne : (t.toList == [46]) = false := by rw [Lib.toList_data]; exact beq_eq_false_iff_ne.2 hd
    obtain ⟨p, hp⟩ : ∃ p : ByteArray, p = ⟨(St.bare t.data.toList).toArray⟩ := ⟨_, rfl⟩
    have hpl : p.data.toList = St.bare t.data.toList := by rw [hp]
    have hps : p.size = (St.bare t.data.toList).length := by rw [Lib.size_eq, hpl]
    have hpb : p.size ≤ 1000000 := by
      rw [hps]
      have := St.bare_len t.data.toList
      rw [Lib.size_eq] at ht
      omega
    -- how it is cut
    have hway : (t.size = 0 ∧ p = t) ∨ (∃ h0 : 0 < t.size, (t[0]'h0).toNat ≠ 46 ∧ p = t) ∨ (∃ h0 : 0 < t.size, (t[0]'h0).toNat = 46 ∧ t.extract 1 t.size = p) := by
      cases hl : t.data.toList with
      | nil =>
        left
        refine ⟨by rw [Lib.size_eq, hl]; rfl, ?_⟩
        rw [hp, hl]
        cases t with
        | mk d =>
          have : d = #[] := by simpa using hl
          rw [this]; rfl
      | cons x r =>
        have h0 : 0 < t.size := by rw [Lib.size_eq, hl]; exact Nat.zero_lt_succ _
        have hx : t[0]'h0 = x := by rw [byte_at, hl]; rfl
        right
        by_cases hx46 : x = 46
        · right
          refine ⟨h0, by rw [hx, hx46]; rfl, ?_⟩
          apply ByteArray.ext
          rw [ByteArray.data_extract]
          apply Array.ext'
          rw [Array.toList_extract, hpl, hl, hx46]
          have : t.size = r.length + 1 := by rw [Lib.size_eq, hl]; rfl
          simp [List.extract, St.bare, this]
        · left
          refine ⟨h0, fun e => hx46 (UInt8.toNat_inj.1 (by rw [← hx]; exact e)), ?_⟩
          have : St.bare t.data.toList = t.data.toList := St.bare_not (by rw [hl]; simpa using hx46)
          rw [hp, this]
    have c0 := h.c0
    have c1 := h.c1
    have c2 := h.c2
    have h0 := h.h0
    have hm := h.hm
    obtain ⟨bo, bc, rfl⟩ := own_form h.o
    by_cases hf : most < ((b.bs.length + (St.bare t.data.toList).length + 2 : Nat) : Int)
    · rw [St.line_full hd hf]
      have H := Lib.hid (show ∀ q, RO (w.drewN q) B g (.slice bo b.bs.length bc) most b ∧ Below w.heap.size w (w.drewN q) from fun q => ⟨h.next (drewN_below w q), drewN_below w q⟩)
      rw [← hps] at hf
      generalize b.bs.length = L at *
      have i1 : IntKind.i64.wrap ((p.size : Int) + 2) = (p.size : Int) + 2 := wraps_i64 _ (by omega) (by omega)
      have i2 : IntKind.i64.wrap (most - (L : Int)) = most - (L : Int) := by rw [IntKind.wrap_i64]; omega
      have i3 : (most - (L : Int) < (p.size : Int) + 2) = True := eq_true (by omega)
      clear hd hp hpl hps h ht c1
      rcases hway with ⟨hz, rfl⟩ | ⟨hz, hx, rfl⟩ | ⟨hz, hx, hex⟩
      · go_enter Tryd.func19, Tryd.ntmps19
        go_wp2
        go_quiet (fail)
        simp only [Exit.then]
        go_wp2
        go_ret2
        exact ⟨_, rfl, (H.out nq).1, .of_below (H.out nq).2, Nx.refl _ _⟩
      · have x1 : (((p[0]'hz).toNat : Int) == 46) = false := beq_eq_false_iff_ne.2 (by omega)
        have x2 : (((p[0]'hz).toNat : Int) = 46) = False := eq_false (by omega)
        clear hx
        go_enter Tryd.func19, Tryd.ntmps19
        go_wp2
        go_quiet (fail)
        simp only [Exit.then]
        go_wp2
        go_ret2
        exact ⟨_, rfl, (H.out nq).1, .of_below (H.out nq).2, Nx.refl _ _⟩
      · go_enter Tryd.func19, Tryd.ntmps19
        go_wp2
        go_quiet (fail)
        simp only [Exit.then]
        go_wp2
        go_ret2
        exact ⟨_, rfl, (H.out nq).1, .of_below (H.out nq).2, Nx.refl _ _⟩
    · rw [St.line_more hd (by omega)]
      have H := Lib.hid (show ∀ q, RO (w.drewN q) B g (.slice bo b.bs.length bc) most b ∧ Below w.heap.size w (w.drewN q) from fun q => ⟨h.next (drewN_below w q), drewN_below w q⟩)
      rw [← hps] at hf
      have HPL := Lib.hid hpl
      obtain ⟨L, hL⟩ : ∃ L, L = b.bs.length := ⟨_, rfl⟩
      rw [← hL] at hs hf c0 H ⊢
      obtain ⟨N, hN⟩ : ∃ N, N = b.n := ⟨_, rfl⟩
      rw [← hN] at hnb c1 ⊢
      have HN := Lib.hid hN
      have HL := Lib.hid hL
      have i1 : IntKind.i64.wrap ((p.size : Int) + 2) = (p.size : Int) + 2 := wraps_i64 _ (by omega) (by omega)
      have i2 : IntKind.i64.wrap (most - (L : Int)) = most - (L : Int) := by rw [IntKind.wrap_i64]; omega
      have i3 : (most - (L : Int) < (p.size : Int) + 2) = False := eq_false (by omega)
      have hlim : (9223372036854775807 < p.size + 2) = False := eq_false (by omega)
      obtain ⟨q, hq⟩ : ∃ q : ByteArray, p ++ (⟨#[13, 10]⟩ : ByteArray) = q := ⟨_, rfl⟩
      obtain ⟨Q, hQ⟩ : ∃ Q, q.size = Q := ⟨_, rfl⟩
      have HQS := Lib.hid (show Q = p.size + 2 by rw [← hQ, ← hq, ByteArray.size_append]; rfl)
      have hql : b.bs ++ q.data.toList = b.bs ++ St.bare t.data.toList ++ [13, 10] := by
        rw [← hq, ByteArray.data_append, Array.toList_append, hpl, List.append_assoc]
      have HQL := Lib.hid hql
      have HB := Lib.hid hB
      clear hd hp hpl hps h ht hL hN hql hB
      generalize St.bare t.data.toList = br at *
      rcases hway with ⟨hz, rfl⟩ | ⟨hz, hx, rfl⟩ | ⟨hz, hx, hex⟩
      · go_enter Tryd.func19, Tryd.ntmps19
        go_wp2
        go_quiet (fail)
        simp only [Exit.then]
        obtain ⟨h1, hb1⟩ := H.out nq
        clear H i1 i2 i3 c0 c1 c2
        generalize w.drewN nq = w1 at h1 hb1 ⊢
        have c1 := h1.c0
        have hal : Below w1.heap.size w1 (w1.alloc (.cells #[] 5)) := (Below.refl _ _).alloc (Nat.le_refl _) _
        have HRD := Lib.hid (h1.rd.below hal)
        have c1a := (h1.next hal).c0
        have H1 := Lib.hid h1
        have HB1 := Lib.hid hb1
        have HAL := Lib.hid hal
        clear h1 hb1 hal
        go_wp2_with (at_builtin; refine append_u8s rfl (.tmp 33) (.tmp 37) rfl rfl (World.ownsRow_made (base := w1.heap.size) w1 #[] 0 (Nat.le_refl _) (Nat.zero_le _) rfl) (b.bs.map bv) HRD.out (bv_cell _) ?ca HAL.out.size ?_)
        case ca => rw [List.length_map, ← HL.out]; omega
        intro v2 w2 ho2 hg2
        have hb2 := HAL.out.grown hg2 HAL.out.size (fun k hk => by cases hk; exact Nat.le_refl _)
        have HO2 := Lib.hid ho2
        have HB2 := Lib.hid hb2
        clear ho2 hg2 hb2 HAL HRD c1 c1a
        go_wp2_with (at_builtin; refine append_text rfl (.tmp 38) (.tmp 40) rfl rfl HO2.out q rfl ?cb HB2.out.size ?_)
        case cb => rw [hQ, ← HL.out]; have := HQS.out; omega
        intro v3 w3 ho3 hg3
        obtain ⟨co, cc, rfl⟩ := own_form ho3
        have hb3 := HB2.out.grown hg3 HB2.out.size (fun k hk => (HO2.out.lt k hk).1)
        have ho4 : w3.ownsRow w1.heap.size 5 1 (.slice co (b.bs.length + Q) cc) (b.bs ++ br ++ [13, 10]).length ((b.bs ++ br ++ [13, 10]).map bv) := by
          rw [← HQL.out, List.length_append, List.map_append, ← Lib.size_eq, hQ]
          exact ho3
        have hgr := H1.out.put hb3 ho4 (Nat.le_trans HB.out HB1.out.size)
        have hc3 := (hb3.block g H1.out.lt).trans H1.out.c
        have c3 : w3.cell? ⟨g, 0, none⟩ = some _ := cell_of_row _ _ _ _ _ _ hc3
        have f3 : w3.frozen? ⟨g, 0, none⟩ = false := frozen_of_row _ _ _ _ _ hc3
        have c4 : w3.cell? ⟨g, 1, none⟩ = some (.int .i64 (b.n : Int)) := cell_of_row _ _ _ _ _ _ hc3
        have f4 : w3.frozen? ⟨g, 1, none⟩ = false := frozen_of_row _ _ _ _ _ hc3
        have hcn := hgr.1.count
        have hT := hgr.2.1.trans3 hgr.2.2 (fturn_setCell _ g 1 (.slice co (b.bs.length + Q) cc) (.int .i64 ((b.n + 1 : Nat) : Int)))
        have HF := Lib.hid (show RO _ B g _ most ⟨b.bs ++ br ++ [13, 10], b.n + 1⟩ ∧ _ ∧ _ from ⟨hcn, Turn.before HB1.out hT, hgr.2.2.lower HB1.out.size⟩)
        clear hcn hT hgr hc3 ho4 ho3 hg3 hb3 HO2 HB2 H1
        dsimp only at HF
        rw [← HN.out] at HF
        rw [← HN.out] at c4
        rw [show ((N + 1 : Nat) : Int) = (N : Int) + 1 by omega] at HF
        go_wp2
        go_ret2
        exact ⟨_, rfl, HF.out.1, HF.out.2.1, HF.out.2.2⟩
      · have x1 : (((p[0]'hz).toNat : Int) == 46) = false := beq_eq_false_iff_ne.2 (by omega)
        have x2 : (((p[0]'hz).toNat : Int) = 46) = False := eq_false (by omega)
        clear hx
        go_enter Tryd.func19, Tryd.ntmps19
        go_wp2
        go_quiet (fail)
        simp only [Exit.then]
        obtain ⟨h1, hb1⟩ := H.out nq
        clear H i1 i2 i3 c0 c1 c2
        generalize w.drewN nq = w1 at h1 hb1 ⊢
        have c1 := h1.c0
        have hal : Below w1.heap.size w1 (w1.alloc (.cells #[] 5)) := (Below.refl _ _).alloc (Nat.le_refl _) _
        have HRD := Lib.hid (h1.rd.below hal)
        have c1a := (h1.next hal).c0
        have H1 := Lib.hid h1
        have HB1 := Lib.hid hb1
        have HAL := Lib.hid hal
        clear h1 hb1 hal
        go_wp2_with (at_builtin; refine append_u8s rfl (.tmp 33) (.tmp 37) rfl rfl (World.ownsRow_made (base := w1.heap.size) w1 #[] 0 (Nat.le_refl _) (Nat.zero_le _) rfl) (b.bs.map bv) HRD.out (bv_cell _) ?ca HAL.out.size ?_)
        case ca => rw [List.length_map, ← HL.out]; omega
        intro v2 w2 ho2 hg2
        have hb2 := HAL.out.grown hg2 HAL.out.size (fun k hk => by cases hk; exact Nat.le_refl _)
        have HO2 := Lib.hid ho2
        have HB2 := Lib.hid hb2
        clear ho2 hg2 hb2 HAL HRD c1 c1a
        go_wp2_with (at_builtin; refine append_text rfl (.tmp 38) (.tmp 40) rfl rfl HO2.out q rfl ?cb HB2.out.size ?_)
        case cb => rw [hQ, ← HL.out]; have := HQS.out; omega
        intro v3 w3 ho3 hg3
        obtain ⟨co, cc, rfl⟩ := own_form ho3
        have hb3 := HB2.out.grown hg3 HB2.out.size (fun k hk => (HO2.out.lt k hk).1)
        have ho4 : w3.ownsRow w1.heap.size 5 1 (.slice co (b.bs.length + Q) cc) (b.bs ++ br ++ [13, 10]).length ((b.bs ++ br ++ [13, 10]).map bv) := by
          rw [← HQL.out, List.length_append, List.map_append, ← Lib.size_eq, hQ]
          exact ho3
        have hgr := H1.out.put hb3 ho4 (Nat.le_trans HB.out HB1.out.size)
        have hc3 := (hb3.block g H1.out.lt).trans H1.out.c
        have c3 : w3.cell? ⟨g, 0, none⟩ = some _ := cell_of_row _ _ _ _ _ _ hc3
        have f3 : w3.frozen? ⟨g, 0, none⟩ = false := frozen_of_row _ _ _ _ _ hc3
        have c4 : w3.cell? ⟨g, 1, none⟩ = some (.int .i64 (b.n : Int)) := cell_of_row _ _ _ _ _ _ hc3
        have f4 : w3.frozen? ⟨g, 1, none⟩ = false := frozen_of_row _ _ _ _ _ hc3
        have hcn := hgr.1.count
        have hT := hgr.2.1.trans3 hgr.2.2 (fturn_setCell _ g 1 (.slice co (b.bs.length + Q) cc) (.int .i64 ((b.n + 1 : Nat) : Int)))
        have HF := Lib.hid (show RO _ B g _ most ⟨b.bs ++ br ++ [13, 10], b.n + 1⟩ ∧ _ ∧ _ from ⟨hcn, Turn.before HB1.out hT, hgr.2.2.lower HB1.out.size⟩)
        clear hcn hT hgr hc3 ho4 ho3 hg3 hb3 HO2 HB2 H1
        dsimp only at HF
        rw [← HN.out] at HF
        rw [← HN.out] at c4
        rw [show ((N + 1 : Nat) : Int) = (N : Int) + 1 by omega] at HF
        go_wp2
        go_ret2
        exact ⟨_, rfl, HF.out.1, HF.out.2.1, HF.out.2.2⟩
      · go_enter Tryd.func19, Tryd.ntmps19
        go_wp2
        go_quiet (fail)
        simp only [Exit.then]
        obtain ⟨h1, hb1⟩ := H.out nq
        clear H i1 i2 i3 c0 c1 c2
        generalize w.drewN nq = w1 at h1 hb1 ⊢
        have c1 := h1.c0
        have hal : Below w1.heap.size w1 (w1.alloc (.cells #[] 5)) := (Below.refl _ _).alloc (Nat.le_refl _) _
        have HRD := Lib.hid (h1.rd.below hal)
        have c1a := (h1.next hal).c0
        have H1 := Lib.hid h1
        have HB1 := Lib.hid hb1
        have HAL := Lib.hid hal
        clear h1 hb1 hal
        go_wp2_with (at_builtin; refine append_u8s rfl (.tmp 33) (.tmp 37) rfl rfl (World.ownsRow_made (base := w1.heap.size) w1 #[] 0 (Nat.le_refl _) (Nat.zero_le _) rfl) (b.bs.map bv) HRD.out (bv_cell _) ?ca HAL.out.size ?_)
        case ca => rw [List.length_map, ← HL.out]; omega
        intro v2 w2 ho2 hg2
        have hb2 := HAL.out.grown hg2 HAL.out.size (fun k hk => by cases hk; exact Nat.le_refl _)
        have HO2 := Lib.hid ho2
        have HB2 := Lib.hid hb2
        clear ho2 hg2 hb2 HAL HRD c1 c1a
        go_wp2_with (at_builtin; refine append_text rfl (.tmp 38) (.tmp 40) rfl rfl HO2.out q rfl ?cb HB2.out.size ?_)
        case cb => rw [hQ, ← HL.out]; have := HQS.out; omega
        intro v3 w3 ho3 hg3
        obtain ⟨co, cc, rfl⟩ := own_form ho3
        have hb3 := HB2.out.grown hg3 HB2.out.size (fun k hk => (HO2.out.lt k hk).1)
        have ho4 : w3.ownsRow w1.heap.size 5 1 (.slice co (b.bs.length + Q) cc) (b.bs ++ br ++ [13, 10]).length ((b.bs ++ br ++ [13, 10]).map bv) := by
          rw [← HQL.out, List.length_append, List.map_append, ← Lib.size_eq, hQ]
          exact ho3
        have hgr := H1.out.put hb3 ho4 (Nat.le_trans HB.out HB1.out.size)
        have hc3 := (hb3.block g H1.out.lt).trans H1.out.c
        have c3 : w3.cell? ⟨g, 0, none⟩ = some _ := cell_of_row _ _ _ _ _ _ hc3
        have f3 : w3.frozen? ⟨g, 0, none⟩ = false := frozen_of_row _ _ _ _ _ hc3
        have c4 : w3.cell? ⟨g, 1, none⟩ = some (.int .i64 (b.n : Int)) := cell_of_row _ _ _ _ _ _ hc3
        have f4 : w3.frozen? ⟨g, 1, none⟩ = false := frozen_of_row _ _ _ _ _ hc3
        have hcn := hgr.1.count
        have hT := hgr.2.1.trans3 hgr.2.2 (fturn_setCell _ g 1 (.slice co (b.bs.length + Q) cc) (.int .i64 ((b.n + 1 : Nat) : Int)))
        have HF := Lib.hid (show RO _ B g _ most ⟨b.bs ++ br ++ [13, 10], b.n + 1⟩ ∧ _ ∧ _ from ⟨hcn, Turn.before HB1.out hT, hgr.2.2.lower HB1.out.size⟩)
        clear hcn hT hgr hc3 ho4 ho3 hg3 hb3 HO2 HB2 H1
        dsimp only at HF
        rw [← HN.out] at HF
        rw [← HN.out] at c4
        rw [show ((N + 1 : Nat) : Int) = (N : Int) + 1 by omega] at HF
        go_wp2
        go_ret2
        exact ⟨_, rfl, HF.out.1, HF.out.2.1, HF.out.2.2⟩
end
end Go.Proofs.YtnodngcfjdghcaaDoor
