/- The texts CodeStm, CodeList, one behind the other. -/
import Derived.Test.YtodlhhfcjkjapaaGreatDoorDU
import Derived.Test.YtodlhhfcjkjapaaGreatDoorCC
namespace Go.Proofs.YtodlhhfcjkjapaaGreatDoor
open Go.RowKit
structure CP (w0 : World) (ao : Option Addr) (N cap : Nat) (row : List Ps.St) : Prop where
 sr : SR w0 (.slice ao N cap) row
 ok : Cd.RowOk row
 sm : ∀ st ∈ row, st.s.length ≤ 16777216
 few : N ≤ 1000
def WP (w0 w w' : World) (g m : Nat) (rv : Value) (M : List Cd.MOp) (L : List Cd.Lb) : Prop := (∃ ov σ, WS w0 w' w0.heap.size g m rv ov (M.map (·.1)) σ ∧ Tells σ M L) ∧ Keep w w'
section
variable {w0 w : World} {ao : Option Addr} {N cap g m i : Nat} {ov : Value} {row : List Ps.St} {M : List Cd.MOp} {L : List Cd.Lb} {σ : List LA} {st : Ps.St}
theorem st_enter (E : CP w0 ao N cap row) (h : WS w0 w w0.heap.size g m (.slice ao N cap) ov (M.map (·.1)) σ) (hst : row[i]? = some st) :
  ∃ q lo lc mo mc T b, ao = some ⟨q, 0, none⟩ ∧ w.heap.size = b ∧ w.alloc (.cells #[.int .i64 (st.kind : Int), .string ⟨st.s.toArray⟩, .string ⟨st.t.toArray⟩, .string ⟨st.u.toArray⟩, .int .i64 (st.n : Int), .int .i64 (st.place : Int), .slice lo st.l.length lc, .slice mo st.m.length mc] 41) = T ∧
   i < N ∧ N ≤ 1000 ∧ C8 w q i st lo lc mo mc ∧ SB T b st lo lc mo mc ∧ WS w0 T w0.heap.size g m (.slice ao N cap) ov (M.map (·.1)) σ ∧ Keep w T ∧ Rd w0 (.slice lo st.l.length lc) (st.l.map nv) ∧ Rd w0 (.slice mo st.m.length mc) (st.m.map nv) := by
 obtain ⟨q, lo, lc, mo, mc, e, _, _, c8⟩ := (E.sr.below h.base).at8 hst
 obtain ⟨q', lo', lc', mo', mc', e', r1, r2, c8'⟩ := E.sr.at8 hst
 have eq : q' = q := by rw [e] at e'; cases e'; rfl
 subst eq
 have e6 := (c8'.below h.base).c6.symm.trans c8.c6
 have e7 := (c8'.below h.base).c7.symm.trans c8.c7
 simp only [Option.some.injEq, Value.slice.injEq, true_and] at e6 e7
 obtain ⟨rfl, rfl⟩ := e6
 obtain ⟨rfl, rfl⟩ := e7
 have hN := E.sr.len
 have hb : Below w.heap.size w (w.alloc (.cells #[.int .i64 (st.kind : Int), .string ⟨st.s.toArray⟩, .string ⟨st.t.toArray⟩, .string ⟨st.u.toArray⟩, .int .i64 (st.n : Int), .int .i64 (st.place : Int), .slice lo' st.l.length lc', .slice mo' st.m.length mc'] 41)) := (Below.refl _ _).alloc (Nat.le_refl _) _
 exact ⟨q', lo', lc', mo', mc', _, _, e, rfl, rfl, by rw [hN]; exact (List.getElem?_eq_some_iff.1 hst).1, E.few, c8, heap_alloc_new _ _, h.below hb, Keep.of_below hb, r1, r2⟩
theorem label_fin {w0 w1 wd w3 : World} {B g m t : Nat} {rv ov : Value} {O : List Cd.Op} {σ : List LA} {e : LA} (h : WS w0 wd B g m rv ov O σ) (hon : Once σ) (hk : Keep w1 wd) (hB1 : B ≤ w1.heap.size) (hv : e.v = (lookL σ e.x).v) (hgs : e.gs = (lookL σ e.x).gs) (c0 c1 : Value) (ht : wd.heap.size = t)
  (h3 : (wd.alloc (.cells #[c0, e.v] 72)).setCell ⟨t, 0, none⟩ c1 = w3) :
  w3.drew.heap[t]? = some (.cells #[c1, e.v] 72 (0, 0)) ∧ Below wd.heap.size wd w3.drew ∧ WS w0 w3.drew B g m rv ov O σ ∧ WS w0 (setL w3.drew m (putL σ e)) B g m rv ov O (putL σ e) ∧ Keep w1 (setL w3.drew m (putL σ e)) ∧ ∀ k, Free w3.drew k → ∀ i, (setL w3.drew m (putL σ e)).cell? ⟨k, i, none⟩ = w3.drew.cell? ⟨k, i, none⟩ := by
 have hb : Below wd.heap.size wd w3.drew := by
  rw [← h3]
  exact below_drew (((Below.refl _ _).alloc (Nat.le_refl _) _).setCell (p := ⟨t, 0, none⟩) (by show wd.heap.size ≤ t; omega) _)
 have hz := h.below hb
 obtain ⟨u1, u2⟩ := hz.upd (e := e) (F := fun _ => False) hon (hk.trans (Keep.of_below hb)) hB1 (Trn.refl _ _) (fun k hF => hF.elim) (by rw [hv, hgs]; exact hz.look _) (fun k hk2 => .inl (by rw [← hv]; exact hk2))
 refine ⟨?_, hb, hz, u1, u2, fun k hk i => World.cell?_of_block (setL_other _ _ _ (fun e2 => hz.free_m (by rw [← show k = m from e2]; exact hk)))⟩
 rw [← h3]
 show (World.setCell _ _ _).heap[t]? = _
 rw [setCell_row (by rw [← ht]; exact heap_alloc_new _ _)]; rfl
theorem SB.c7 {w : World} {b : Nat} {st : Ps.St} {lo : Option Addr} {lc : Nat} {mo : Option Addr} {mc : Nat} (h : SB w b st lo lc mo mc) : w.cell? ⟨b, 7, none⟩ = some (.slice mo st.m.length mc) := cell_of_row _ _ _ _ _ _ h
set_option maxRecDepth 20000 in
set_option maxHeartbeats 4000000 in
theorem st_goto (E : CP w0 ao N cap row) (h : WS w0 w w0.heap.size g m (.slice ao N cap) ov (M.map (·.1)) σ) (ht : Tells σ M L) (hM : M.length ≤ 100000) (hst : row[i]? = some st) (hk : st.kind = 14) :
  Calls Tryz.prog 34 #[.pointer (some ⟨g, 0, none⟩), .int .i64 (i : Int)] w fun e w' => e = .returned (.tuple #[]) ∧ WP w0 w w' g m (.slice ao N cap) (M ++ [(Cd.zop 18, some st.s)]) L := by
 have hsm := E.sm st (List.mem_of_getElem? hst)
 obtain ⟨q, lo, lc, mo, mc, T, b, rfl, hb, hT, hi, hN, c8, hS, hW, hKp, _, _⟩ := st_enter E h hst
 obtain ⟨K, SS, TT, UU, n0, p0, LL, MM⟩ := st
 dsimp only at hk hsm hT c8 hS ⊢
 subst hk
 have d0 : w.cell? ⟨q, i * 8, none⟩ = some (.int .i64 14) := c8.c0
 have d1 : w.cell? ⟨q, i * 8 + 1, none⟩ = some (.string ⟨SS.toArray⟩) := c8.c1
 have d2 : w.cell? ⟨q, i * 8 + 2, none⟩ = some (.string ⟨TT.toArray⟩) := c8.c2
 have d3 : w.cell? ⟨q, i * 8 + 3, none⟩ = some (.string ⟨UU.toArray⟩) := c8.c3
 have d4 : w.cell? ⟨q, i * 8 + 4, none⟩ = some (.int .i64 (n0 : Int)) := c8.c4
 have d5 : w.cell? ⟨q, i * 8 + 5, none⟩ = some (.int .i64 (p0 : Int)) := c8.c5
 have d6 : w.cell? ⟨q, i * 8 + 6, none⟩ = some (.slice lo LL.length lc) := c8.c6
 have d7 : w.cell? ⟨q, i * 8 + 7, none⟩ = some (.slice mo MM.length mc) := c8.c7
 have g0 := h.c.1
 have x1 : ((N : Int) ≤ (i : Int)) = False := eq_false (by omega)
 have x2 : (i : Int) < (N : Int) := by omega
 replace hT : w.alloc (.cells #[.int .i64 (14), .string ⟨SS.toArray⟩, .string ⟨TT.toArray⟩, .string ⟨UU.toArray⟩, .int .i64 (n0 : Int), .int .i64 (p0 : Int), .slice lo LL.length lc, .slice mo MM.length mc] 41) = T := hT
 have f0 : T.cell? ⟨b, 0, none⟩ = some (.int .i64 14) := hS.c0
 have f1 : T.cell? ⟨b, 1, none⟩ = some (.string ⟨SS.toArray⟩) := hS.c1
 have f2 : T.cell? ⟨b, 2, none⟩ = some (.string ⟨TT.toArray⟩) := hS.c2
 have f3 : T.cell? ⟨b, 3, none⟩ = some (.string ⟨UU.toArray⟩) := hS.c3
 have f4 : T.cell? ⟨b, 4, none⟩ = some (.int .i64 (n0 : Int)) := hS.c4
 have HT := Lib.hid hT
 have HB := Lib.hid hb
 have HS := Lib.hid hS
 have HW := Lib.hid hW
 have HK := Lib.hid hKp
 have HTL := Lib.hid ht
 have HBW := Lib.hid h.bsz
 clear E h hst c8 hT hb hS hW hKp ht
 have GO := Lib.hid (goes_any HW.out HTL.out 18 SS hsm (by omega))
 go_enter Tryz.func34, Tryz.ntmps34
 go_upto_region 1 with fail
 rw [HT.out, HB.out]
 clear d0 d1 d2 d3 d4 d5 d6 d7 g0
 go_wp2_with fail
 refine GO.out.mono ?_
 rintro e w2 ⟨rfl, h2, k2⟩
 clear f0 f1 f2 f3 f4
 go_wp2
 go_end0
 exact ⟨rfl, h2, HK.out.trans k2⟩
set_option maxRecDepth 20000 in
set_option maxHeartbeats 4000000 in
theorem st_on (E : CP w0 ao N cap row) (h : WS w0 w w0.heap.size g m (.slice ao N cap) ov (M.map (·.1)) σ) (ht : Tells σ M L) (hM : M.length ≤ 100000) (hst : row[i]? = some st) (hk : st.kind = 15) :
  Calls Tryz.prog 34 #[.pointer (some ⟨g, 0, none⟩), .int .i64 (i : Int)] w fun e w' => e = .returned (.tuple #[]) ∧ WP w0 w w' g m (.slice ao N cap) (M ++ [(Cd.zop 15, some st.s)]) L := by
 have hsm := E.sm st (List.mem_of_getElem? hst)
 obtain ⟨q, lo, lc, mo, mc, T, b, rfl, hb, hT, hi, hN, c8, hS, hW, hKp, _, _⟩ := st_enter E h hst
 obtain ⟨K, SS, TT, UU, n0, p0, LL, MM⟩ := st
 dsimp only at hk hsm hT c8 hS ⊢
 subst hk
 have d0 : w.cell? ⟨q, i * 8, none⟩ = some (.int .i64 15) := c8.c0
 have d1 : w.cell? ⟨q, i * 8 + 1, none⟩ = some (.string ⟨SS.toArray⟩) := c8.c1
 have d2 : w.cell? ⟨q, i * 8 + 2, none⟩ = some (.string ⟨TT.toArray⟩) := c8.c2
 have d3 : w.cell? ⟨q, i * 8 + 3, none⟩ = some (.string ⟨UU.toArray⟩) := c8.c3
 have d4 : w.cell? ⟨q, i * 8 + 4, none⟩ = some (.int .i64 (n0 : Int)) := c8.c4
 have d5 : w.cell? ⟨q, i * 8 + 5, none⟩ = some (.int .i64 (p0 : Int)) := c8.c5
 have d6 : w.cell? ⟨q, i * 8 + 6, none⟩ = some (.slice lo LL.length lc) := c8.c6
 have d7 : w.cell? ⟨q, i * 8 + 7, none⟩ = some (.slice mo MM.length mc) := c8.c7
 have g0 := h.c.1
 have x1 : ((N : Int) ≤ (i : Int)) = False := eq_false (by omega)
 have x2 : (i : Int) < (N : Int) := by omega
 replace hT : w.alloc (.cells #[.int .i64 (15), .string ⟨SS.toArray⟩, .string ⟨TT.toArray⟩, .string ⟨UU.toArray⟩, .int .i64 (n0 : Int), .int .i64 (p0 : Int), .slice lo LL.length lc, .slice mo MM.length mc] 41) = T := hT
 have f0 : T.cell? ⟨b, 0, none⟩ = some (.int .i64 15) := hS.c0
 have f1 : T.cell? ⟨b, 1, none⟩ = some (.string ⟨SS.toArray⟩) := hS.c1
 have f2 : T.cell? ⟨b, 2, none⟩ = some (.string ⟨TT.toArray⟩) := hS.c2
 have f3 : T.cell? ⟨b, 3, none⟩ = some (.string ⟨UU.toArray⟩) := hS.c3
 have f4 : T.cell? ⟨b, 4, none⟩ = some (.int .i64 (n0 : Int)) := hS.c4
 have HT := Lib.hid hT
 have HB := Lib.hid hb
 have HS := Lib.hid hS
 have HW := Lib.hid hW
 have HK := Lib.hid hKp
 have HTL := Lib.hid ht
 have HBW := Lib.hid h.bsz
 clear E h hst c8 hT hb hS hW hKp ht
 have GO := Lib.hid (goes_any HW.out HTL.out 15 SS hsm (by omega))
 go_enter Tryz.func34, Tryz.ntmps34
 go_upto_region 1 with fail
 rw [HT.out, HB.out]
 clear d0 d1 d2 d3 d4 d5 d6 d7 g0
 go_wp2_with fail
 refine GO.out.mono ?_
 rintro e w2 ⟨rfl, h2, k2⟩
 clear f0 f1 f2 f3 f4
 go_wp2
 go_end0
 exact ⟨rfl, h2, HK.out.trans k2⟩
set_option maxRecDepth 20000 in
set_option maxHeartbeats 4000000 in
theorem st_else (E : CP w0 ao N cap row) (h : WS w0 w w0.heap.size g m (.slice ao N cap) ov (M.map (·.1)) σ) (ht : Tells σ M L) (hM : M.length ≤ 100000) (hst : row[i]? = some st) (hk : st.kind ≠ 13 ∧ st.kind ≠ 14 ∧ st.kind ≠ 15 ∧ st.kind ≠ 5 ∧ st.kind ≠ 6) :
  Calls Tryz.prog 34 #[.pointer (some ⟨g, 0, none⟩), .int .i64 (i : Int)] w fun e w' => e = .returned (.tuple #[]) ∧ WP w0 w w' g m (.slice ao N cap) (M ++ [(Cd.wop st, none)]) L := by
 have hsm := E.sm st (List.mem_of_getElem? hst)
 obtain ⟨q, lo, lc, mo, mc, T, b, rfl, hb, hT, hi, hN, c8, hS, hW, hKp, _, _⟩ := st_enter E h hst
 obtain ⟨K, SS, TT, UU, n0, p0, LL, MM⟩ := st
 dsimp only at hk hsm hT c8 hS ⊢
 have d0 : w.cell? ⟨q, i * 8, none⟩ = some (.int .i64 (K : Int)) := c8.c0
 have d1 : w.cell? ⟨q, i * 8 + 1, none⟩ = some (.string ⟨SS.toArray⟩) := c8.c1
 have d2 : w.cell? ⟨q, i * 8 + 2, none⟩ = some (.string ⟨TT.toArray⟩) := c8.c2
 have d3 : w.cell? ⟨q, i * 8 + 3, none⟩ = some (.string ⟨UU.toArray⟩) := c8.c3
 have d4 : w.cell? ⟨q, i * 8 + 4, none⟩ = some (.int .i64 (n0 : Int)) := c8.c4
 have d5 : w.cell? ⟨q, i * 8 + 5, none⟩ = some (.int .i64 (p0 : Int)) := c8.c5
 have d6 : w.cell? ⟨q, i * 8 + 6, none⟩ = some (.slice lo LL.length lc) := c8.c6
 have d7 : w.cell? ⟨q, i * 8 + 7, none⟩ = some (.slice mo MM.length mc) := c8.c7
 have g0 := h.c.1
 have x1 : ((N : Int) ≤ (i : Int)) = False := eq_false (by omega)
 have x2 : (i : Int) < (N : Int) := by omega
 replace hT : w.alloc (.cells #[.int .i64 (K : Int), .string ⟨SS.toArray⟩, .string ⟨TT.toArray⟩, .string ⟨UU.toArray⟩, .int .i64 (n0 : Int), .int .i64 (p0 : Int), .slice lo LL.length lc, .slice mo MM.length mc] 41) = T := hT
 have f0 : T.cell? ⟨b, 0, none⟩ = some (.int .i64 (K : Int)) := hS.c0
 have f1 : T.cell? ⟨b, 1, none⟩ = some (.string ⟨SS.toArray⟩) := hS.c1
 have f2 : T.cell? ⟨b, 2, none⟩ = some (.string ⟨TT.toArray⟩) := hS.c2
 have f3 : T.cell? ⟨b, 3, none⟩ = some (.string ⟨UU.toArray⟩) := hS.c3
 have f4 : T.cell? ⟨b, 4, none⟩ = some (.int .i64 (n0 : Int)) := hS.c4
 have HT := Lib.hid hT
 have HB := Lib.hid hb
 have HS := Lib.hid hS
 have HW := Lib.hid hW
 have HK := Lib.hid hKp
 have HTL := Lib.hid ht
 have HBW := Lib.hid h.bsz
 clear E h hst c8 hT hb hS hW hKp ht
 have PUT := Lib.hid (wput_any HW.out K SS TT UU n0 0 (by rw [List.length_map]; omega))
 have k13 : ((K : Int) == 13) = false := beq_eq_false_iff_ne.2 (by omega)
 have j13 : ((K : Int) = 13) = False := eq_false (by omega)
 have k14 : ((K : Int) == 14) = false := beq_eq_false_iff_ne.2 (by omega)
 have j14 : ((K : Int) = 14) = False := eq_false (by omega)
 have k15 : ((K : Int) == 15) = false := beq_eq_false_iff_ne.2 (by omega)
 have j15 : ((K : Int) = 15) = False := eq_false (by omega)
 have k5 : ((K : Int) == 5) = false := beq_eq_false_iff_ne.2 (by omega)
 have j5 : ((K : Int) = 5) = False := eq_false (by omega)
 have k6 : ((K : Int) == 6) = false := beq_eq_false_iff_ne.2 (by omega)
 have j6 : ((K : Int) = 6) = False := eq_false (by omega)
 clear hk
 go_enter Tryz.func34, Tryz.ntmps34
 go_upto_region 1 with fail
 rw [HT.out, HB.out]
 clear d0 d1 d2 d3 d4 d5 d6 d7 g0
 go_wp2_with fail
 refine PUT.out.mono ?_
 rintro e w2 ⟨rfl, ⟨ov2, h2⟩, k2⟩
 clear f0 f1 f2 f3 f4
 go_wp2
 go_end0
 refine ⟨rfl, ⟨ov2, _, ?_, HTL.out.plain _⟩, HK.out.trans k2⟩
 have e9 : (M ++ ([(Cd.wop ⟨K, SS, TT, UU, n0, p0, LL, MM⟩, none)] : List Cd.MOp)).map (·.1) = M.map (·.1) ++ [⟨K, SS, TT, UU, n0, 0⟩] := List.map_append
 rw [e9]
 exact h2
set_option maxRecDepth 20000 in
set_option maxHeartbeats 4000000 in
theorem st_label (E : CP w0 ao N cap row) (h : WS w0 w w0.heap.size g m (.slice ao N cap) ov (M.map (·.1)) σ) (ht : Tells σ M L) (hst : row[i]? = some st) (hk : st.kind = 13) :
  Calls Tryz.prog 34 #[.pointer (some ⟨g, 0, none⟩), .int .i64 (i : Int)] w fun e w' => e = .returned (.tuple #[]) ∧ WP w0 w w' g m (.slice ao N cap) M (L ++ [(st.s, M.length)]) := by
 have hsm := E.sm st (List.mem_of_getElem? hst)
 obtain ⟨q, lo, lc, mo, mc, T, b, rfl, hb, hT, hi, hN, c8, hS, hW, hKp, _, _⟩ := st_enter E h hst
 obtain ⟨K, SS, TT, UU, n0, p0, LL, MM⟩ := st
 dsimp only at hk hsm hT c8 hS ⊢
 subst hk
 have d0 : w.cell? ⟨q, i * 8, none⟩ = some (.int .i64 13) := c8.c0
 have d1 : w.cell? ⟨q, i * 8 + 1, none⟩ = some (.string ⟨SS.toArray⟩) := c8.c1
 have d2 : w.cell? ⟨q, i * 8 + 2, none⟩ = some (.string ⟨TT.toArray⟩) := c8.c2
 have d3 : w.cell? ⟨q, i * 8 + 3, none⟩ = some (.string ⟨UU.toArray⟩) := c8.c3
 have d4 : w.cell? ⟨q, i * 8 + 4, none⟩ = some (.int .i64 (n0 : Int)) := c8.c4
 have d5 : w.cell? ⟨q, i * 8 + 5, none⟩ = some (.int .i64 (p0 : Int)) := c8.c5
 have d6 : w.cell? ⟨q, i * 8 + 6, none⟩ = some (.slice lo LL.length lc) := c8.c6
 have d7 : w.cell? ⟨q, i * 8 + 7, none⟩ = some (.slice mo MM.length mc) := c8.c7
 have g0 := h.c.1
 have x1 : ((N : Int) ≤ (i : Int)) = False := eq_false (by omega)
 have x2 : (i : Int) < (N : Int) := by omega
 replace hT : w.alloc (.cells #[.int .i64 (13), .string ⟨SS.toArray⟩, .string ⟨TT.toArray⟩, .string ⟨UU.toArray⟩, .int .i64 (n0 : Int), .int .i64 (p0 : Int), .slice lo LL.length lc, .slice mo MM.length mc] 41) = T := hT
 have f0 : T.cell? ⟨b, 0, none⟩ = some (.int .i64 13) := hS.c0
 have f1 : T.cell? ⟨b, 1, none⟩ = some (.string ⟨SS.toArray⟩) := hS.c1
 have f2 : T.cell? ⟨b, 2, none⟩ = some (.string ⟨TT.toArray⟩) := hS.c2
 have f3 : T.cell? ⟨b, 3, none⟩ = some (.string ⟨UU.toArray⟩) := hS.c3
 have f4 : T.cell? ⟨b, 4, none⟩ = some (.int .i64 (n0 : Int)) := hS.c4
 have HT := Lib.hid hT
 have HB := Lib.hid hb
 have HS := Lib.hid hS
 have HW := Lib.hid hW
 have HK := Lib.hid hKp
 have HTL := Lib.hid ht
 have HBW := Lib.hid h.bsz
 clear E h hst c8 hT hb hS hW hKp ht
 have hlx := lookL_x σ SS
 obtain ⟨vo, vc, hv⟩ := (HW.out.look SS).form
 have hir := HW.out.look SS
 obtain ⟨P, hP⟩ : ∃ P, (lookL σ SS).p = P := ⟨_, rfl⟩
 obtain ⟨G, hG⟩ : ∃ G, (lookL σ SS).gs = G := ⟨_, rfl⟩
 have hlk := look_entL HW.out.mp SS hsm
 have hD := HW.out.below (below_drew (Below.refl T.heap.size T))
 have hlkD := look_entL hD.mp SS hsm
 have htl := HTL.out.label SS
 rw [hG] at hv
 rw [hv, hP] at hlkD
 rw [hv, hG] at htl
 have HV := Lib.hid hv
 have HG := Lib.hid hG
 have HD := Lib.hid hD
 have HSM := Lib.hid hsm
 obtain ⟨oo, oc, hov⟩ := own_form9 HW.out.op
 rw [List.length_map] at hov
 subst hov
 have e2 := hD.c.2.2.1
 obtain ⟨Nn, hNn⟩ : ∃ Nn, M.length = Nn := ⟨_, rfl⟩
 rw [hNn] at htl
 have HTL2 := Lib.hid htl
 have HNN := Lib.hid hNn
 have HP := Lib.hid hP
 clear hv hG hP htl hlk hir hlx hD hNn
 go_enter Tryz.func34, Tryz.ntmps34
 go_upto_region 1 with fail
 rw [HT.out, HB.out]
 clear d0 d1 d2 d3 d4 d5 d6 d7 g0
 go_upto_region 4 with fail
 have hsT : T.drew.heap[b]? = _ := HS.out
 have hs0 : (T.drew.cell? ⟨g, 2, none⟩ = some (.map (some m)) ∧ T.drew.cell? ⟨b, 1, none⟩ = some (.string ⟨SS.toArray⟩)) ∧ (Instr.lookup 49 (.map (some m)) (.string ⟨SS.toArray⟩) false).run Tryz.prog T.drew = .ok (.agg #[.int .i64 (P : Int), .slice vo G.length vc]) T.drew := ⟨⟨e2, f1⟩, hlkD⟩
 have HSA : Hid (∀ o', ((T.drew.alloc o').cell? ⟨g, 2, none⟩ = some (.map (some m)) ∧ (T.drew.alloc o').cell? ⟨b, 1, none⟩ = some (.string ⟨SS.toArray⟩)) ∧ (Instr.lookup 49 (.map (some m)) (.string ⟨SS.toArray⟩) false).run Tryz.prog (T.drew.alloc o') = .ok (.agg #[.int .i64 (P : Int), .slice vo G.length vc]) (T.drew.alloc o')) := Lib.hid fun o' => by
  have hb1 : Below T.heap.size T.drew (T.drew.alloc o') := (Below.refl _ T.drew).alloc (Nat.le_refl _) _
  have hD2 := HD.out.below hb1
  have hl2 := look_entL hD2.mp SS HSM.out
  rw [HV.out, HP.out] at hl2
  exact ⟨⟨hD2.c.2.2.1, SB.c1 ((show SB T.drew b _ lo lc mo mc from HS.out).below hb1)⟩, hl2⟩
 refine wp_region_held_drew (S := fun w' => (w'.cell? ⟨g, 2, none⟩ = some (.map (some m)) ∧ w'.cell? ⟨b, 1, none⟩ = some (.string ⟨SS.toArray⟩)) ∧ (Instr.lookup 49 (.map (some m)) (.string ⟨SS.toArray⟩) false).run Tryz.prog w' = .ok (.agg #[.int .i64 (P : Int), .slice vo G.length vc]) w') (by kernel_rfl) hs0 (fun hH => ?_)
 refine heldTk (i := 0) (v := ?_) (fun w hSw => ?_) ?_; rotate_left; focus ((try dsimp only at hSw); go_simp; try with_reducible rfl)
 try simp only [Act.put, zLa, zLb, zLc]
 refine heldTk (i := 1) (v := ?_) (fun w hSw => ?_) ?_; rotate_left; focus ((try dsimp only at hSw); go_simp; try with_reducible rfl)
 try simp only [Act.put, zLa, zLb, zLc]
 refine heldTk (i := 2) (v := ?_) (fun w hSw => ?_) ?_; rotate_left; focus ((try dsimp only at hSw); go_simp; try with_reducible rfl)
 try simp only [Act.put, zLa, zLb, zLc]
 refine heldTk (i := 3) (v := ?_) (fun w hSw => ?_) ?_; rotate_left; focus ((try dsimp only at hSw); go_simp; try with_reducible rfl)
 try simp only [Act.put, zLa, zLb, zLc]
 refine heldTk (i := 4) (v := ?_) (fun w hSw => ?_) ?_; rotate_left; focus ((try dsimp only at hSw); go_simp; try with_reducible rfl)
 try simp only [Act.put, zLa, zLb, zLc]
 refine heldTk (i := 5) (v := ?_) (fun w hSw => ?_) ?_; rotate_left; focus ((try dsimp only at hSw); go_simp; try with_reducible rfl)
 try simp only [Act.put, zLa, zLb, zLc]
 refine heldTk (i := 6) (v := ?_) (fun w hSw => ?_) ?_; rotate_left; focus ((try dsimp only at hSw); go_simp; try with_reducible rfl)
 try simp only [Act.put, zLa, zLb, zLc]
 refine heldNext (i := 7) rfl (by kernel_rfl) (by rfl) (fun K hK => ?_)
 go_simp; refine hK.out _ _ (HSA.out _) ?_; clear hK K
 try simp only [Act.put, zLa, zLb, zLc]
 refine heldNext (i := 8) rfl (by kernel_rfl) (by rfl) (fun K hK => ?_)
 go_simp; refine hK.out _ _ (HSA.out _) ?_; clear hK K
 try simp only [Act.put, zLa, zLb, zLc]
 refine wpAnyH_done (by kernel_rfl) ?_ _
 clear hH hs0 e2 hlkD
 obtain ⟨ts, hts⟩ : ∃ ts, T.drew.heap.size = ts := ⟨_, rfl⟩
 obtain ⟨W2, hW2'⟩ : ∃ W2, (T.alloc (.cells #[.int .i64 (P : Int), .slice vo G.length vc] 72)).drew = W2 := ⟨_, rfl⟩
 have HW2 := Lib.hid hW2'
 have hW2 : T.drew.alloc (.cells #[.int .i64 (P : Int), .slice vo G.length vc] 72) = W2 := hW2'
 have hb2 : Below T.heap.size T.drew W2 := by rw [← hW2]; exact (Below.refl _ T.drew).alloc (Nat.le_refl _) _
 have hD2 := HD.out.below hb2
 have z1 := hD2.c.2.1
 rw [HNN.out] at z1
 have ht2 : W2.heap[ts]? = some (.cells #[.int .i64 (P : Int), .slice vo G.length vc] 72 (0, 0)) := by rw [← hW2, ← hts]; exact heap_alloc_new _ _
 have z2 : W2.cell? ⟨ts, 0, none⟩ = some (.int .i64 (P : Int)) := cell_of_row _ _ _ _ _ _ ht2
 have zf : W2.frozen? ⟨ts, 0, none⟩ = false := frozen_of_row _ _ _ _ _ ht2
 obtain ⟨W3, hW3⟩ : ∃ W3, W2.setCell ⟨ts, 0, none⟩ (.int .i64 (Nn : Int)) = W3 := ⟨_, rfl⟩
 have hF := label_fin (w3 := W3) (e := ⟨SS, Nn, .slice vo G.length vc, G⟩) HD.out HTL.out.1 (HK.out.trans (Keep.of_below (below_drew (Below.refl T.heap.size T)))) HBW.out HV.out.symm HG.out.symm (.int .i64 (P : Int)) (.int .i64 (Nn : Int)) hts (by dsimp only; rw [hW2]; exact hW3)
 dsimp only at hF
 have HF := Lib.hid hF
 have HTS := Lib.hid hts
 have HW3 := Lib.hid hW3
 clear hb2 hD2 ht2 hF hW2 hW2' hts hW3
 rw [HW2.out]
 simp only [show T.heap.size = ts from HTS.out]
 go_upto_region 6 with fail
 rw [HW3.out]
 clear z1 z2 zf
 obtain ⟨r0, r1, r2, r3, r4, r5⟩ := HF.out
 have q0 := r2.c.2.2.1
 have q1 : W3.drew.cell? ⟨b, 1, none⟩ = some (.string ⟨SS.toArray⟩) := SB.c1 ((show SB T.drew b _ lo lc mo mc from HS.out).below r1)
 have q2 : W3.drew.cell? ⟨ts, 0, none⟩ = some (.int .i64 (Nn : Int)) := cell_of_row _ _ _ _ _ _ r0
 have q3 : W3.drew.cell? ⟨ts, 1, none⟩ = some (.slice vo G.length vc) := cell_of_row _ _ _ _ _ _ r0
 have up := upd_entL r2.mp ⟨SS, Nn, .slice vo G.length vc, G⟩ HSM.out
 dsimp only at up
 have HFIN := Lib.hid (And.intro r3 r4)
 have rb := r5 b ⟨_, _, _, (show SB W3.drew b _ lo lc mo mc from (show SB T.drew b _ lo lc mo mc from HS.out).below r1), by decide, by decide, by decide⟩
 have rt := r5 ts ⟨_, _, _, r0, by decide, by decide, by decide⟩
 have HSL := Lib.hid (show (((setL W3.drew m (putL σ ⟨SS, Nn, .slice vo G.length vc, G⟩)).cell? ⟨g, 2, none⟩ = some (.map (some m)) ∧ (setL W3.drew m (putL σ ⟨SS, Nn, .slice vo G.length vc, G⟩)).cell? ⟨b, 1, none⟩ = some (.string ⟨SS.toArray⟩)) ∧ (setL W3.drew m (putL σ ⟨SS, Nn, .slice vo G.length vc, G⟩)).cell? ⟨ts, 0, none⟩ = some (.int .i64 (Nn : Int))) ∧ (setL W3.drew m (putL σ ⟨SS, Nn, .slice vo G.length vc, G⟩)).cell? ⟨ts, 1, none⟩ = some (.slice vo G.length vc) from ⟨⟨⟨r3.c.2.2.1, (rb 1).trans q1⟩, (rt 0).trans q2⟩, (rt 1).trans q3⟩)
 clear r0 r1 r2 r3 r4 r5 rb rt
 have hs0 : ((W3.drew.cell? ⟨g, 2, none⟩ = some (.map (some m)) ∧ W3.drew.cell? ⟨b, 1, none⟩ = some (.string ⟨SS.toArray⟩)) ∧ W3.drew.cell? ⟨ts, 0, none⟩ = some (.int .i64 (Nn : Int))) ∧ W3.drew.cell? ⟨ts, 1, none⟩ = some (.slice vo G.length vc) := ⟨⟨⟨q0, q1⟩, q2⟩, q3⟩
 refine wp_region_held_drew (S := fun w' => ((w'.cell? ⟨g, 2, none⟩ = some (.map (some m)) ∧ w'.cell? ⟨b, 1, none⟩ = some (.string ⟨SS.toArray⟩)) ∧ w'.cell? ⟨ts, 0, none⟩ = some (.int .i64 (Nn : Int))) ∧ w'.cell? ⟨ts, 1, none⟩ = some (.slice vo G.length vc)) (by kernel_rfl) hs0 (fun hH => ?_)
 refine heldTk (i := 0) (v := ?_) (fun w hSw => ?_) ?_; rotate_left; focus ((try dsimp only at hSw); go_simp; try with_reducible rfl)
 try simp only [Act.put, zLa, zLb, zLc]
 refine heldTk (i := 1) (v := ?_) (fun w hSw => ?_) ?_; rotate_left; focus ((try dsimp only at hSw); go_simp; try with_reducible rfl)
 try simp only [Act.put, zLa, zLb, zLc]
 refine heldTk (i := 2) (v := ?_) (fun w hSw => ?_) ?_; rotate_left; focus ((try dsimp only at hSw); go_simp; try with_reducible rfl)
 try simp only [Act.put, zLa, zLb, zLc]
 refine heldTk (i := 3) (v := ?_) (fun w hSw => ?_) ?_; rotate_left; focus ((try dsimp only at hSw); go_simp; try with_reducible rfl)
 try simp only [Act.put, zLa, zLb, zLc]
 refine heldTk (i := 4) (v := ?_) (fun w hSw => ?_) ?_; rotate_left; focus ((try dsimp only at hSw); go_simp; try with_reducible rfl)
 try simp only [Act.put, zLa, zLb, zLc]
 refine heldTk (i := 5) (v := ?_) (fun w hSw => ?_) ?_; rotate_left; focus ((try dsimp only at hSw); go_simp; try with_reducible rfl)
 try simp only [Act.put, zLa, zLb, zLc]
 refine heldTk (i := 6) (v := ?_) (fun w hSw => ?_) ?_; rotate_left; focus ((try dsimp only at hSw); go_simp; try with_reducible rfl)
 try simp only [Act.put, zLa, zLb, zLc]
 refine heldNext (i := 7) rfl (by kernel_rfl) (by rfl) (fun K hK => ?_)
 go_simp; refine hK.out _ _ HSL.out ?_; clear hK K
 try simp only [Act.put, zLa, zLb, zLc]
 refine wpAnyH_done (by kernel_rfl) ?_ _
 clear hH hs0 up q0 q1 q2 q3
 go_wp2
 go_end0
 rw [HNN.out]
 exact ⟨rfl, ⟨_, _, HFIN.out.1, HTL2.out⟩, HFIN.out.2⟩
end
end Go.Proofs.YtodlhhfcjkjapaaGreatDoor
namespace Go.Proofs.YtodlhhfcjkjapaaGreatDoor
open Go.RowKit
def ListC (w0 : World) (ao : Option Addr) (N cap : Nat) (row : List Ps.St) (n : Nat) : Prop := ∀ (l : List Nat) (lo : Option Addr) (lc : Nat) (w : World) (g m : Nat) (ov : Value) (M : List Cd.MOp) (L : List Cd.Lb) (σ : List LA), n ≤ N → Cd.LOk n l → Rd w0 (.slice lo l.length lc) (l.map nv) →
 WS w0 w w0.heap.size g m (.slice ao N cap) ov (M.map (·.1)) σ → Tells σ M L → (M ++ Cd.mops (Cd.tree row l) M.length).length ≤ 100000 →
 Calls Tryz.prog 20 #[.pointer (some ⟨g, 0, none⟩), .slice lo l.length lc, .int .i64 (n : Int)] w fun e w' => e = .returned (.tuple #[]) ∧ WP w0 w w' g m (.slice ao N cap) (M ++ Cd.mops (Cd.tree row l) M.length) (L ++ Cd.labs (Cd.tree row l) M.length)
def StmC (w0 : World) (ao : Option Addr) (N cap : Nat) (row : List Ps.St) (i : Nat) : Prop := ∀ (st : Ps.St) (w : World) (g m : Nat) (ov : Value) (M : List Cd.MOp) (L : List Cd.Lb) (σ : List LA), row[i]? = some st →
 WS w0 w w0.heap.size g m (.slice ao N cap) ov (M.map (·.1)) σ → Tells σ M L → (M ++ Cd.one st (Cd.mops (Cd.tree row st.l)) (Cd.mops (Cd.tree row st.m)) (Cd.isNil (Cd.tree row st.m)) M.length).length ≤ 100000 →
 Calls Tryz.prog 34 #[.pointer (some ⟨g, 0, none⟩), .int .i64 (i : Int)] w fun e w' => e = .returned (.tuple #[]) ∧ WP w0 w w' g m (.slice ao N cap) (M ++ Cd.one st (Cd.mops (Cd.tree row st.l)) (Cd.mops (Cd.tree row st.m)) (Cd.isNil (Cd.tree row st.m)) M.length) (L ++ Cd.lone st (Cd.labs (Cd.tree row st.l)) (Cd.labs (Cd.tree row st.m)) (Cd.mops (Cd.tree row st.l) (M.length + 1)).length (Cd.isNil (Cd.tree row st.m)) M.length)
theorem turn_map (p : Int) (o : Cd.Op) (A X : List Cd.MOp) : ((A ++ (o, none) :: X).map (·.1)).modify A.length (Cd.toP p) = (A ++ (Cd.toP p o, none) :: X).map (·.1) := by
 rw [List.map_append, List.map_append]
 have : (A.map (·.1)).length = A.length := List.length_map ..
 rw [← this]
 generalize A.map (·.1) = C
 rw [List.map_cons, List.map_cons]
 induction C with
 | nil => rfl
 | cons c C ih => rw [List.cons_append, List.length_cons, List.modify_succ_cons, ih]; rfl
theorem here_any {w0 w : World} {g m : Nat} {rv ov : Value} {A X : List Cd.MOp} {o : Cd.Op} {L : List Cd.Lb} {σ : List LA} (k : Nat) (h : WS w0 w w0.heap.size g m rv ov ((A ++ (o, none) :: X).map (·.1)) σ) (ht : Tells σ (A ++ (o, none) :: X) L) (hk : A.length = k) :
  Calls Tryz.prog 55 #[.pointer (some ⟨g, 0, none⟩), .int .i64 (k : Int)] w fun e w' => e = .returned (.tuple #[]) ∧ WP w0 w w' g m rv (A ++ (Cd.toP ((k + 1 + X.length : Nat) : Int) o, none) :: X) L := by
 subst hk
 have hl : ((A ++ (o, none) :: X).map (·.1)).length = A.length + 1 + X.length := by simp; omega
 refine (goeshere_any h (k := A.length) (by omega)).mono ?_
 rintro e w' ⟨rfl, h1, h2⟩
 rw [hl, turn_map] at h1
 exact ⟨rfl, ⟨_, _, h1, ht.turn _⟩, h2⟩
theorem LOk.drop {N : Nat} {l : List Nat} (h : Cd.LOk N l) (k : Nat) : Cd.LOk N (l.drop k) := ⟨fun x hx => h.lt x (List.mem_of_mem_drop hx), h.inc.drop⟩
section
variable {w0 w : World} {ao : Option Addr} {N cap g m i : Nat} {ov : Value} {row : List Ps.St} {M : List Cd.MOp} {L : List Cd.Lb} {σ : List LA} {st : Ps.St}
set_option maxRecDepth 20000 in
set_option maxHeartbeats 4000000 in
theorem st_pipe (E : CP w0 ao N cap row) (IH : ListC w0 ao N cap row i) (h : WS w0 w w0.heap.size g m (.slice ao N cap) ov (M.map (·.1)) σ) (ht : Tells σ M L) (hM : (M ++ Cd.one st (Cd.mops (Cd.tree row st.l)) (Cd.mops (Cd.tree row st.m)) (Cd.isNil (Cd.tree row st.m)) M.length).length ≤ 100000) (hst : row[i]? = some st) (hk : st.kind = 6) :
  Calls Tryz.prog 34 #[.pointer (some ⟨g, 0, none⟩), .int .i64 (i : Int)] w fun e w' => e = .returned (.tuple #[]) ∧ WP w0 w w' g m (.slice ao N cap) (M ++ Cd.one st (Cd.mops (Cd.tree row st.l)) (Cd.mops (Cd.tree row st.m)) (Cd.isNil (Cd.tree row st.m)) M.length) (L ++ Cd.lone st (Cd.labs (Cd.tree row st.l)) (Cd.labs (Cd.tree row st.m)) (Cd.mops (Cd.tree row st.l) (M.length + 1)).length (Cd.isNil (Cd.tree row st.m)) M.length) := by
 have hsok := E.ok i st hst
 have hLL := Cd.LOk.l hsok
 have hMM := Cd.LOk.m hsok
 have hnil := Cd.tree_isNil E.ok (hMM.more (Nat.le_of_lt (List.getElem?_eq_some_iff.1 hst).1))
 clear hsok
 have hsm := E.sm st (List.mem_of_getElem? hst)
 obtain ⟨q, lo, lc, mo, mc, T, b, rfl, hb, hT, hi, hN, c8, hS, hW, hKp, hrL, hrM⟩ := st_enter E h hst
 obtain ⟨K, SS, TT, UU, n0, p0, LL, MM⟩ := st
 dsimp only at hk hLL hMM hnil hrL hrM hM hsm hT c8 hS ⊢
 subst hk
 have d0 : w.cell? ⟨q, i * 8, none⟩ = some (.int .i64 6) := c8.c0
 have d1 : w.cell? ⟨q, i * 8 + 1, none⟩ = some (.string ⟨SS.toArray⟩) := c8.c1
 have d2 : w.cell? ⟨q, i * 8 + 2, none⟩ = some (.string ⟨TT.toArray⟩) := c8.c2
 have d3 : w.cell? ⟨q, i * 8 + 3, none⟩ = some (.string ⟨UU.toArray⟩) := c8.c3
 have d4 : w.cell? ⟨q, i * 8 + 4, none⟩ = some (.int .i64 (n0 : Int)) := c8.c4
 have d5 : w.cell? ⟨q, i * 8 + 5, none⟩ = some (.int .i64 (p0 : Int)) := c8.c5
 have d6 : w.cell? ⟨q, i * 8 + 6, none⟩ = some (.slice lo LL.length lc) := c8.c6
 have d7 : w.cell? ⟨q, i * 8 + 7, none⟩ = some (.slice mo MM.length mc) := c8.c7
 have g0 := h.c.1
 have x1 : ((N : Int) ≤ (i : Int)) = False := eq_false (by omega)
 have x2 : (i : Int) < (N : Int) := by omega
 replace hT : w.alloc (.cells #[.int .i64 (6), .string ⟨SS.toArray⟩, .string ⟨TT.toArray⟩, .string ⟨UU.toArray⟩, .int .i64 (n0 : Int), .int .i64 (p0 : Int), .slice lo LL.length lc, .slice mo MM.length mc] 41) = T := hT
 have f0 : T.cell? ⟨b, 0, none⟩ = some (.int .i64 6) := hS.c0
 have f1 : T.cell? ⟨b, 1, none⟩ = some (.string ⟨SS.toArray⟩) := hS.c1
 have f2 : T.cell? ⟨b, 2, none⟩ = some (.string ⟨TT.toArray⟩) := hS.c2
 have f3 : T.cell? ⟨b, 3, none⟩ = some (.string ⟨UU.toArray⟩) := hS.c3
 have f4 : T.cell? ⟨b, 4, none⟩ = some (.int .i64 (n0 : Int)) := hS.c4
 have HT := Lib.hid hT
 have HB := Lib.hid hb
 have HS := Lib.hid hS
 have HW := Lib.hid hW
 have HK := Lib.hid hKp
 have HTL := Lib.hid ht
 have HRL := Lib.hid hrL
 have HRM := Lib.hid hrM
 have HLL := Lib.hid hLL
 have HMM := Lib.hid hMM
 have HBW := Lib.hid h.bsz
 clear hrL hrM hLL hMM E h hst c8 hT hb hS hW hKp ht
 have PUT := Lib.hid (wput_any HW.out 6 [] [] [] n0 0 (by rw [List.length_map]; simp at hM; omega))
 have hML : (M.map (·.1)).length = M.length := List.length_map ..
 rw [hML] at PUT
 obtain ⟨X, hX⟩ : ∃ X, Cd.mops (Cd.tree row LL) (M.length + 1) = X := ⟨_, rfl⟩
 have hone : Cd.one ⟨6, SS, TT, UU, n0, p0, LL, MM⟩ (Cd.mops (Cd.tree row LL)) (Cd.mops (Cd.tree row MM)) (Cd.isNil (Cd.tree row MM)) M.length = (⟨6, [], [], [], n0, ((M.length + 1 + X.length : Nat) : Int)⟩, none) :: X := by unfold Cd.one; rw [hX]; rfl
 have hlone : Cd.lone ⟨6, SS, TT, UU, n0, p0, LL, MM⟩ (Cd.labs (Cd.tree row LL)) (Cd.labs (Cd.tree row MM)) (Cd.mops (Cd.tree row LL) (M.length + 1)).length (Cd.isNil (Cd.tree row MM)) M.length = Cd.labs (Cd.tree row LL) (M.length + 1) := rfl
 rw [hone] at hM ⊢
 rw [hlone]
 have HX := Lib.hid hX
 clear hone hlone hX hnil hML
 go_enter Tryz.func34, Tryz.ntmps34
 go_upto_region 1 with fail
 rw [HT.out, HB.out]
 clear d0 d1 d2 d3 d4 d5 d6 d7 g0
 go_wp2_with fail
 refine PUT.out.mono ?_
 rintro e w2 ⟨rfl, ⟨ov2, h2⟩, k2⟩
 have hS2 := k2.sb HS.out
 have f6 : w2.cell? ⟨b, 6, none⟩ = some (.slice lo LL.length lc) := hS2.c6
 have h2' : WS w0 w2 w0.heap.size g m (.slice (some ⟨q, 0, none⟩) N cap) ov2 ((M ++ ([(⟨6, [], [], [], n0, 0⟩, none)] : List Cd.MOp)).map (·.1)) σ := by rw [List.map_append]; exact h2
 have LST := Lib.hid (IH LL lo lc w2 g m ov2 _ L σ (Nat.le_of_lt hi) HLL.out HRL.out h2' (HTL.out.plain _) (by rw [List.length_append, List.length_append, List.length_singleton, HX.out]; rw [List.length_append, List.length_cons] at hM; omega))
 have HK2 := Lib.hid (HK.out.trans k2)
 clear f0 f1 f2 f3 f4 h2 h2' k2 hS2 PUT
 go_wp2_with fail
 refine LST.out.mono ?_
 rintro e w3 ⟨rfl, ⟨ov3, σ3, h3, t3⟩, k3⟩
 rw [List.length_append, List.length_singleton, HX.out, List.append_assoc, List.singleton_append] at h3 t3
 have HR := Lib.hid (here_any M.length h3 t3 rfl)
 have HK3 := Lib.hid (HK2.out.trans k3)
 clear f6 h3 t3 k3 LST
 go_wp2_with fail
 refine HR.out.mono ?_
 rintro e w4 ⟨rfl, h4, k4⟩
 clear HR
 go_wp2
 go_end0
 exact ⟨rfl, h4, HK3.out.trans k4⟩
set_option maxRecDepth 20000 in
set_option maxHeartbeats 4000000 in
theorem br_if (E : CP w0 ao N cap row) (IH : ListC w0 ao N cap row i) (h : WS w0 w w0.heap.size g m (.slice ao N cap) ov (M.map (·.1)) σ) (ht : Tells σ M L) (hM : (M ++ Cd.one st (Cd.mops (Cd.tree row st.l)) (Cd.mops (Cd.tree row st.m)) (Cd.isNil (Cd.tree row st.m)) M.length).length ≤ 100000) (hst : row[i]? = some st) (hk : st.kind = 5) (hmm : st.m = []) :
  Calls Tryz.prog 54 #[.pointer (some ⟨g, 0, none⟩), .int .i64 (i : Int)] w fun e w' => e = .returned (.tuple #[]) ∧ WP w0 w w' g m (.slice ao N cap) (M ++ Cd.one st (Cd.mops (Cd.tree row st.l)) (Cd.mops (Cd.tree row st.m)) (Cd.isNil (Cd.tree row st.m)) M.length) (L ++ Cd.lone st (Cd.labs (Cd.tree row st.l)) (Cd.labs (Cd.tree row st.m)) (Cd.mops (Cd.tree row st.l) (M.length + 1)).length (Cd.isNil (Cd.tree row st.m)) M.length) := by
 have hsok := E.ok i st hst
 have hLL := Cd.LOk.l hsok
 have hMM := Cd.LOk.m hsok
 have hnil := Cd.tree_isNil E.ok (hMM.more (Nat.le_of_lt (List.getElem?_eq_some_iff.1 hst).1))
 clear hsok
 have hsm := E.sm st (List.mem_of_getElem? hst)
 obtain ⟨q, lo, lc, mo, mc, T, b, rfl, hb, hT, hi, hN, c8, hS, hW, hKp, hrL, hrM⟩ := st_enter E h hst
 obtain ⟨K, SS, TT, UU, n0, p0, LL, MM⟩ := st
 dsimp only at hk hmm hLL hMM hnil hrL hrM hM hsm hT c8 hS ⊢
 subst hk hmm
 have d0 : w.cell? ⟨q, i * 8, none⟩ = some (.int .i64 5) := c8.c0
 have d1 : w.cell? ⟨q, i * 8 + 1, none⟩ = some (.string ⟨SS.toArray⟩) := c8.c1
 have d2 : w.cell? ⟨q, i * 8 + 2, none⟩ = some (.string ⟨TT.toArray⟩) := c8.c2
 have d3 : w.cell? ⟨q, i * 8 + 3, none⟩ = some (.string ⟨UU.toArray⟩) := c8.c3
 have d4 : w.cell? ⟨q, i * 8 + 4, none⟩ = some (.int .i64 (n0 : Int)) := c8.c4
 have d5 : w.cell? ⟨q, i * 8 + 5, none⟩ = some (.int .i64 (p0 : Int)) := c8.c5
 have d6 : w.cell? ⟨q, i * 8 + 6, none⟩ = some (.slice lo LL.length lc) := c8.c6
 have d7 : w.cell? ⟨q, i * 8 + 7, none⟩ = some (.slice mo 0 mc) := c8.c7
 have g0 := h.c.1
 have x1 : ((N : Int) ≤ (i : Int)) = False := eq_false (by omega)
 have x2 : (i : Int) < (N : Int) := by omega
 replace hT : w.alloc (.cells #[.int .i64 (5), .string ⟨SS.toArray⟩, .string ⟨TT.toArray⟩, .string ⟨UU.toArray⟩, .int .i64 (n0 : Int), .int .i64 (p0 : Int), .slice lo LL.length lc, .slice mo 0 mc] 41) = T := hT
 have f0 : T.cell? ⟨b, 0, none⟩ = some (.int .i64 5) := hS.c0
 have f1 : T.cell? ⟨b, 1, none⟩ = some (.string ⟨SS.toArray⟩) := hS.c1
 have f2 : T.cell? ⟨b, 2, none⟩ = some (.string ⟨TT.toArray⟩) := hS.c2
 have f3 : T.cell? ⟨b, 3, none⟩ = some (.string ⟨UU.toArray⟩) := hS.c3
 have f4 : T.cell? ⟨b, 4, none⟩ = some (.int .i64 (n0 : Int)) := hS.c4
 have HT := Lib.hid hT
 have HB := Lib.hid hb
 have HS := Lib.hid hS
 have HW := Lib.hid hW
 have HK := Lib.hid hKp
 have HTL := Lib.hid ht
 have HRL := Lib.hid hrL
 have HRM := Lib.hid hrM
 have HLL := Lib.hid hLL
 have HMM := Lib.hid hMM
 have HBW := Lib.hid h.bsz
 clear hrL hrM hLL hMM E h hst c8 hT hb hS hW hKp ht
 have PUT := Lib.hid (wput_any HW.out 5 SS TT [] 0 0 (by rw [List.length_map]; simp at hM; omega))
 have hML : (M.map (·.1)).length = M.length := List.length_map ..
 rw [hML] at PUT
 obtain ⟨X, hX⟩ : ∃ X, Cd.mops (Cd.tree row LL) (M.length + 1) = X := ⟨_, rfl⟩
 have hnl : Cd.isNil (Cd.tree row []) = true := rfl
 have hone : Cd.one ⟨5, SS, TT, UU, n0, p0, LL, []⟩ (Cd.mops (Cd.tree row LL)) (Cd.mops (Cd.tree row [])) (Cd.isNil (Cd.tree row [])) M.length = (⟨5, SS, TT, [], 0, ((M.length + 1 + X.length : Nat) : Int)⟩, none) :: X := by unfold Cd.one; rw [hX, hnl]; rfl
 have hlone : Cd.lone ⟨5, SS, TT, UU, n0, p0, LL, []⟩ (Cd.labs (Cd.tree row LL)) (Cd.labs (Cd.tree row [])) (Cd.mops (Cd.tree row LL) (M.length + 1)).length (Cd.isNil (Cd.tree row [])) M.length = Cd.labs (Cd.tree row LL) (M.length + 1) := by unfold Cd.lone; rw [hnl]; exact List.append_nil _
 clear hnl
 rw [hone] at hM ⊢
 rw [hlone]
 have HX := Lib.hid hX
 clear hone hlone hX hnil hML
 go_enter Tryz.func54, Tryz.ntmps54
 go_upto_region 1 with fail
 rw [HT.out, HB.out]
 clear d0 d1 d2 d3 d4 d5 d6 d7 g0
 go_wp2_with fail
 refine PUT.out.mono ?_
 rintro e w2 ⟨rfl, ⟨ov2, h2⟩, k2⟩
 have hS2 := k2.sb HS.out
 have f6 : w2.cell? ⟨b, 6, none⟩ = some (.slice lo LL.length lc) := hS2.c6
 have h2' : WS w0 w2 w0.heap.size g m (.slice (some ⟨q, 0, none⟩) N cap) ov2 ((M ++ ([(⟨5, SS, TT, [], 0, 0⟩, none)] : List Cd.MOp)).map (·.1)) σ := by rw [List.map_append]; exact h2
 have LST := Lib.hid (IH LL lo lc w2 g m ov2 _ L σ (Nat.le_of_lt hi) HLL.out HRL.out h2' (HTL.out.plain _) (by rw [List.length_append, List.length_append, List.length_singleton, HX.out]; simp only [List.length_append, List.length_cons] at hM; omega))
 have HK2 := Lib.hid (HK.out.trans k2)
 have HS2 := Lib.hid hS2
 clear f0 f1 f2 f3 f4 h2 h2' k2 hS2 PUT
 go_wp2_with fail
 refine LST.out.mono ?_
 rintro e w3 ⟨rfl, ⟨ov3, σ3, h3, t3⟩, k3⟩
 rw [List.length_append, List.length_singleton, HX.out, List.append_assoc, List.singleton_append] at h3 t3
 have hS3 := k3.sb HS2.out
 have f7 : w3.cell? ⟨b, 7, none⟩ = some (.slice mo 0 mc) := hS3.c7
 have HK3 := Lib.hid (HK2.out.trans k3)
 have HR := Lib.hid (here_any M.length h3 t3 rfl)
 clear f6 h3 t3 k3 LST hS3
 go_wp2_with fail
 refine HR.out.mono ?_
 rintro e w4 ⟨rfl, h4, k4⟩
 clear HR
 go_wp2
 go_end0
 exact ⟨rfl, h4, HK3.out.trans k4⟩
set_option maxRecDepth 20000 in
set_option maxHeartbeats 4000000 in
theorem br_else (E : CP w0 ao N cap row) (IH : ListC w0 ao N cap row i) (h : WS w0 w w0.heap.size g m (.slice ao N cap) ov (M.map (·.1)) σ) (ht : Tells σ M L) (hM : (M ++ Cd.one st (Cd.mops (Cd.tree row st.l)) (Cd.mops (Cd.tree row st.m)) (Cd.isNil (Cd.tree row st.m)) M.length).length ≤ 100000) (hst : row[i]? = some st) (hk : st.kind = 5) (hmm : st.m ≠ []) :
  Calls Tryz.prog 54 #[.pointer (some ⟨g, 0, none⟩), .int .i64 (i : Int)] w fun e w' => e = .returned (.tuple #[]) ∧ WP w0 w w' g m (.slice ao N cap) (M ++ Cd.one st (Cd.mops (Cd.tree row st.l)) (Cd.mops (Cd.tree row st.m)) (Cd.isNil (Cd.tree row st.m)) M.length) (L ++ Cd.lone st (Cd.labs (Cd.tree row st.l)) (Cd.labs (Cd.tree row st.m)) (Cd.mops (Cd.tree row st.l) (M.length + 1)).length (Cd.isNil (Cd.tree row st.m)) M.length) := by
 have hsok := E.ok i st hst
 have hLL := Cd.LOk.l hsok
 have hMM := Cd.LOk.m hsok
 have hnil := Cd.tree_isNil E.ok (hMM.more (Nat.le_of_lt (List.getElem?_eq_some_iff.1 hst).1))
 clear hsok
 have hsm := E.sm st (List.mem_of_getElem? hst)
 obtain ⟨q, lo, lc, mo, mc, T, b, rfl, hb, hT, hi, hN, c8, hS, hW, hKp, hrL, hrM⟩ := st_enter E h hst
 obtain ⟨K, SS, TT, UU, n0, p0, LL, MM⟩ := st
 dsimp only at hk hmm hLL hMM hnil hrL hrM hM hsm hT c8 hS ⊢
 subst hk
 have d0 : w.cell? ⟨q, i * 8, none⟩ = some (.int .i64 5) := c8.c0
 have d1 : w.cell? ⟨q, i * 8 + 1, none⟩ = some (.string ⟨SS.toArray⟩) := c8.c1
 have d2 : w.cell? ⟨q, i * 8 + 2, none⟩ = some (.string ⟨TT.toArray⟩) := c8.c2
 have d3 : w.cell? ⟨q, i * 8 + 3, none⟩ = some (.string ⟨UU.toArray⟩) := c8.c3
 have d4 : w.cell? ⟨q, i * 8 + 4, none⟩ = some (.int .i64 (n0 : Int)) := c8.c4
 have d5 : w.cell? ⟨q, i * 8 + 5, none⟩ = some (.int .i64 (p0 : Int)) := c8.c5
 have d6 : w.cell? ⟨q, i * 8 + 6, none⟩ = some (.slice lo LL.length lc) := c8.c6
 have d7 : w.cell? ⟨q, i * 8 + 7, none⟩ = some (.slice mo MM.length mc) := c8.c7
 have g0 := h.c.1
 have x1 : ((N : Int) ≤ (i : Int)) = False := eq_false (by omega)
 have x2 : (i : Int) < (N : Int) := by omega
 replace hT : w.alloc (.cells #[.int .i64 (5), .string ⟨SS.toArray⟩, .string ⟨TT.toArray⟩, .string ⟨UU.toArray⟩, .int .i64 (n0 : Int), .int .i64 (p0 : Int), .slice lo LL.length lc, .slice mo MM.length mc] 41) = T := hT
 have f0 : T.cell? ⟨b, 0, none⟩ = some (.int .i64 5) := hS.c0
 have f1 : T.cell? ⟨b, 1, none⟩ = some (.string ⟨SS.toArray⟩) := hS.c1
 have f2 : T.cell? ⟨b, 2, none⟩ = some (.string ⟨TT.toArray⟩) := hS.c2
 have f3 : T.cell? ⟨b, 3, none⟩ = some (.string ⟨UU.toArray⟩) := hS.c3
 have f4 : T.cell? ⟨b, 4, none⟩ = some (.int .i64 (n0 : Int)) := hS.c4
 have HT := Lib.hid hT
 have HB := Lib.hid hb
 have HS := Lib.hid hS
 have HW := Lib.hid hW
 have HK := Lib.hid hKp
 have HTL := Lib.hid ht
 have HRL := Lib.hid hrL
 have HRM := Lib.hid hrM
 have HLL := Lib.hid hLL
 have HMM := Lib.hid hMM
 have HBW := Lib.hid h.bsz
 clear hrL hrM hLL hMM E h hst c8 hT hb hS hW hKp ht
 have PUT := Lib.hid (wput_any HW.out 5 SS TT [] 0 0 (by rw [List.length_map]; simp at hM; omega))
 have hML : (M.map (·.1)).length = M.length := List.length_map ..
 rw [hML] at PUT
 obtain ⟨X, hX⟩ : ∃ X, Cd.mops (Cd.tree row LL) (M.length + 1) = X := ⟨_, rfl⟩
 have hnl : Cd.isNil (Cd.tree row MM) = false := by rw [hnil]; cases MM with
  | nil => exact absurd rfl hmm
  | cons _ _ => rfl
 have hmp : 0 < MM.length := List.length_pos_iff.2 hmm
 obtain ⟨Y, hY⟩ : ∃ Y, Cd.mops (Cd.tree row MM) (M.length + 2 + X.length) = Y := ⟨_, rfl⟩
 have hone : Cd.one ⟨5, SS, TT, UU, n0, p0, LL, MM⟩ (Cd.mops (Cd.tree row LL)) (Cd.mops (Cd.tree row MM)) (Cd.isNil (Cd.tree row MM)) M.length = (⟨5, SS, TT, [], 0, ((M.length + 2 + X.length : Nat) : Int)⟩, none) :: (X ++ (Cd.jump ((M.length + 2 + X.length + Y.length : Nat) : Int), none) :: Y) := by unfold Cd.one; simp only [hX, hnl, hY]; rfl
 have hlone : Cd.lone ⟨5, SS, TT, UU, n0, p0, LL, MM⟩ (Cd.labs (Cd.tree row LL)) (Cd.labs (Cd.tree row MM)) (Cd.mops (Cd.tree row LL) (M.length + 1)).length (Cd.isNil (Cd.tree row MM)) M.length = Cd.labs (Cd.tree row LL) (M.length + 1) ++ Cd.labs (Cd.tree row MM) (M.length + 2 + X.length) := by unfold Cd.lone; rw [hnl, hX]; rfl
 have HY := Lib.hid hY
 have m1 : (0 : Int) < (MM.length : Int) := by omega
 clear hnl hY hmm
 rw [hone] at hM ⊢
 rw [hlone]
 have HX := Lib.hid hX
 clear hone hlone hX hnil hML
 go_enter Tryz.func54, Tryz.ntmps54
 go_upto_region 1 with fail
 rw [HT.out, HB.out]
 clear d0 d1 d2 d3 d4 d5 d6 d7 g0
 go_wp2_with fail
 refine PUT.out.mono ?_
 rintro e w2 ⟨rfl, ⟨ov2, h2⟩, k2⟩
 have hS2 := k2.sb HS.out
 have f6 : w2.cell? ⟨b, 6, none⟩ = some (.slice lo LL.length lc) := hS2.c6
 have h2' : WS w0 w2 w0.heap.size g m (.slice (some ⟨q, 0, none⟩) N cap) ov2 ((M ++ ([(⟨5, SS, TT, [], 0, 0⟩, none)] : List Cd.MOp)).map (·.1)) σ := by rw [List.map_append]; exact h2
 have LST := Lib.hid (IH LL lo lc w2 g m ov2 _ L σ (Nat.le_of_lt hi) HLL.out HRL.out h2' (HTL.out.plain _) (by rw [List.length_append, List.length_append, List.length_singleton, HX.out]; simp only [List.length_append, List.length_cons] at hM; omega))
 have HK2 := Lib.hid (HK.out.trans k2)
 have HS2 := Lib.hid hS2
 clear f0 f1 f2 f3 f4 h2 h2' k2 hS2 PUT
 go_wp2_with fail
 refine LST.out.mono ?_
 rintro e w3 ⟨rfl, ⟨ov3, σ3, h3, t3⟩, k3⟩
 rw [List.length_append, List.length_singleton, HX.out, List.append_assoc, List.singleton_append] at h3 t3
 have hS3 := k3.sb HS2.out
 have f7 : w3.cell? ⟨b, 7, none⟩ = some (.slice mo MM.length mc) := hS3.c7
 have HK3 := Lib.hid (HK2.out.trans k3)
 obtain ⟨k, hk⟩ : ∃ k, M.length + 1 + X.length = k := ⟨_, rfl⟩
 have hO3 : ((M ++ (⟨5, SS, TT, [], 0, 0⟩, none) :: X).map (·.1)).length = k := by simp; omega
 have PUT2 := Lib.hid (wput_any h3 18 [] [] [] 0 0 (by rw [hO3]; simp only [List.length_append, List.length_cons] at hM; omega))
 rw [hO3] at PUT2
 have HT3 := Lib.hid t3
 have HS3 := Lib.hid hS3
 have HKK := Lib.hid hk
 clear f6 h3 t3 k3 LST hS3 hO3 hk
 go_wp2_with fail
 refine PUT2.out.mono ?_
 rintro e w4 ⟨rfl, ⟨ov4, h4⟩, k4⟩
 have hS4 := k4.sb HS3.out
 have t4 := HT3.out.plain ⟨18, [], [], [], 0, 0⟩
 have h4' : WS w0 w4 w0.heap.size g m (.slice (some ⟨q, 0, none⟩) N cap) ov4 ((M ++ ((⟨5, SS, TT, [], 0, 0⟩, none) : Cd.MOp) :: (X ++ ([(⟨18, [], [], [], 0, 0⟩, none)] : List Cd.MOp))).map (·.1)) σ3 := by
  rw [show M ++ ((⟨5, SS, TT, [], 0, 0⟩, none) : Cd.MOp) :: (X ++ ([(⟨18, [], [], [], 0, 0⟩, none)] : List Cd.MOp)) = (M ++ ((⟨5, SS, TT, [], 0, 0⟩, none) : Cd.MOp) :: X) ++ [(⟨18, [], [], [], 0, 0⟩, none)] by simp, List.map_append]
  exact h4
 rw [show (M ++ ((⟨5, SS, TT, [], 0, 0⟩, none) : Cd.MOp) :: X) ++ [(⟨18, [], [], [], 0, 0⟩, none)] = M ++ ((⟨5, SS, TT, [], 0, 0⟩, none) : Cd.MOp) :: (X ++ ([(⟨18, [], [], [], 0, 0⟩, none)] : List Cd.MOp)) by simp] at t4
 have HR := Lib.hid (here_any M.length h4' t4 rfl)
 have HK4 := Lib.hid (HK3.out.trans k4)
 have HS4 := Lib.hid hS4
 clear f7 h4 h4' t4 k4 PUT2 hS4
 go_wp2_with fail
 refine HR.out.mono ?_
 rintro e w5 ⟨rfl, ⟨ov5, σ5, h5, t5⟩, k5⟩
 have hS5 := k5.sb HS4.out
 have f75 : w5.cell? ⟨b, 7, none⟩ = some (.slice mo MM.length mc) := hS5.c7
 rw [show M.length + 1 + (X ++ ([(⟨18, [], [], [], 0, 0⟩, none)] : List Cd.MOp)).length = M.length + 2 + X.length by simp; omega] at h5 t5
 have hl5 : (M ++ (Cd.toP ((M.length + 2 + X.length : Nat) : Int) ⟨5, SS, TT, [], 0, 0⟩, none) :: (X ++ ([(⟨18, [], [], [], 0, 0⟩, none)] : List Cd.MOp))).length = M.length + 2 + X.length := by simp; omega
 have LST := Lib.hid (IH MM mo mc w5 g m ov5 _ _ σ5 (Nat.le_of_lt hi) HMM.out HRM.out h5 t5 (by rw [List.length_append, hl5, HY.out]; simp only [List.length_append, List.length_cons] at hM; omega))
 rw [hl5, HY.out] at LST
 have HK5 := Lib.hid (HK4.out.trans k5)
 clear h5 t5 k5 HR hS5 hl5
 go_wp2_with fail
 refine LST.out.mono ?_
 rintro e w6 ⟨rfl, ⟨ov6, σ6, h6, t6⟩, k6⟩
 have e6 : M ++ ((Cd.toP ((M.length + 2 + X.length : Nat) : Int) ⟨5, SS, TT, [], 0, 0⟩, none) : Cd.MOp) :: (X ++ ([(⟨18, [], [], [], 0, 0⟩, none)] : List Cd.MOp)) ++ Y = (M ++ ((Cd.toP ((M.length + 2 + X.length : Nat) : Int) ⟨5, SS, TT, [], 0, 0⟩, none) : Cd.MOp) :: X) ++ (⟨18, [], [], [], 0, 0⟩, none) :: Y := by simp
 rw [e6] at h6 t6
 have HR2 := Lib.hid (here_any k h6 t6 (by simp; have := HKK.out; omega))
 have HK6 := Lib.hid (HK5.out.trans k6)
 clear f75 h6 t6 k6 LST e6
 go_wp2_with fail
 refine HR2.out.mono ?_
 rintro e w7 ⟨rfl, h7, k7⟩
 clear HR2
 go_wp2
 go_end0
 refine ⟨rfl, ?_, HK6.out.trans k7⟩
 rw [show k + 1 + Y.length = M.length + 2 + X.length + Y.length by have := HKK.out; omega, List.append_assoc L] at h7
 rw [show M ++ ((⟨5, SS, TT, [], 0, ((M.length + 2 + X.length : Nat) : Int)⟩, none) : Cd.MOp) :: (X ++ (Cd.jump ((M.length + 2 + X.length + Y.length : Nat) : Int), none) :: Y) = M ++ ((Cd.toP ((M.length + 2 + X.length : Nat) : Int) ⟨5, SS, TT, [], 0, 0⟩, none) : Cd.MOp) :: X ++ (Cd.toP ((M.length + 2 + X.length + Y.length : Nat) : Int) ⟨18, [], [], [], 0, 0⟩, none) :: Y by simp [Cd.toP, Cd.jump]]
 exact h7
theorem br_any (E : CP w0 ao N cap row) (IH : ListC w0 ao N cap row i) (h : WS w0 w w0.heap.size g m (.slice ao N cap) ov (M.map (·.1)) σ) (ht : Tells σ M L) (hM : (M ++ Cd.one st (Cd.mops (Cd.tree row st.l)) (Cd.mops (Cd.tree row st.m)) (Cd.isNil (Cd.tree row st.m)) M.length).length ≤ 100000) (hst : row[i]? = some st) (hk : st.kind = 5) :
  Calls Tryz.prog 54 #[.pointer (some ⟨g, 0, none⟩), .int .i64 (i : Int)] w fun e w' => e = .returned (.tuple #[]) ∧ WP w0 w w' g m (.slice ao N cap) (M ++ Cd.one st (Cd.mops (Cd.tree row st.l)) (Cd.mops (Cd.tree row st.m)) (Cd.isNil (Cd.tree row st.m)) M.length) (L ++ Cd.lone st (Cd.labs (Cd.tree row st.l)) (Cd.labs (Cd.tree row st.m)) (Cd.mops (Cd.tree row st.l) (M.length + 1)).length (Cd.isNil (Cd.tree row st.m)) M.length) := by
 by_cases hmm : st.m = []
 ·exact br_if E IH h ht hM hst hk hmm
 ·exact br_else E IH h ht hM hst hk hmm
set_option maxRecDepth 20000 in
set_option maxHeartbeats 4000000 in
theorem st_if (E : CP w0 ao N cap row) (IH : ListC w0 ao N cap row i) (h : WS w0 w w0.heap.size g m (.slice ao N cap) ov (M.map (·.1)) σ) (ht : Tells σ M L) (hM : (M ++ Cd.one st (Cd.mops (Cd.tree row st.l)) (Cd.mops (Cd.tree row st.m)) (Cd.isNil (Cd.tree row st.m)) M.length).length ≤ 100000) (hst : row[i]? = some st) (hk : st.kind = 5) :
  Calls Tryz.prog 34 #[.pointer (some ⟨g, 0, none⟩), .int .i64 (i : Int)] w fun e w' => e = .returned (.tuple #[]) ∧ WP w0 w w' g m (.slice ao N cap) (M ++ Cd.one st (Cd.mops (Cd.tree row st.l)) (Cd.mops (Cd.tree row st.m)) (Cd.isNil (Cd.tree row st.m)) M.length) (L ++ Cd.lone st (Cd.labs (Cd.tree row st.l)) (Cd.labs (Cd.tree row st.m)) (Cd.mops (Cd.tree row st.l) (M.length + 1)).length (Cd.isNil (Cd.tree row st.m)) M.length) := by
 have hsok := E.ok i st hst
 have hLL := Cd.LOk.l hsok
 have hMM := Cd.LOk.m hsok
 have hnil := Cd.tree_isNil E.ok (hMM.more (Nat.le_of_lt (List.getElem?_eq_some_iff.1 hst).1))
 clear hsok
 have hsm := E.sm st (List.mem_of_getElem? hst)
 obtain ⟨q, lo, lc, mo, mc, T, b, rfl, hb, hT, hi, hN, c8, hS, hW, hKp, hrL, hrM⟩ := st_enter E h hst
 obtain ⟨K, SS, TT, UU, n0, p0, LL, MM⟩ := st
 dsimp only at hk hLL hMM hnil hrL hrM hM hsm hT c8 hS ⊢
 subst hk
 have d0 : w.cell? ⟨q, i * 8, none⟩ = some (.int .i64 5) := c8.c0
 have d1 : w.cell? ⟨q, i * 8 + 1, none⟩ = some (.string ⟨SS.toArray⟩) := c8.c1
 have d2 : w.cell? ⟨q, i * 8 + 2, none⟩ = some (.string ⟨TT.toArray⟩) := c8.c2
 have d3 : w.cell? ⟨q, i * 8 + 3, none⟩ = some (.string ⟨UU.toArray⟩) := c8.c3
 have d4 : w.cell? ⟨q, i * 8 + 4, none⟩ = some (.int .i64 (n0 : Int)) := c8.c4
 have d5 : w.cell? ⟨q, i * 8 + 5, none⟩ = some (.int .i64 (p0 : Int)) := c8.c5
 have d6 : w.cell? ⟨q, i * 8 + 6, none⟩ = some (.slice lo LL.length lc) := c8.c6
 have d7 : w.cell? ⟨q, i * 8 + 7, none⟩ = some (.slice mo MM.length mc) := c8.c7
 have g0 := h.c.1
 have x1 : ((N : Int) ≤ (i : Int)) = False := eq_false (by omega)
 have x2 : (i : Int) < (N : Int) := by omega
 replace hT : w.alloc (.cells #[.int .i64 (5), .string ⟨SS.toArray⟩, .string ⟨TT.toArray⟩, .string ⟨UU.toArray⟩, .int .i64 (n0 : Int), .int .i64 (p0 : Int), .slice lo LL.length lc, .slice mo MM.length mc] 41) = T := hT
 have f0 : T.cell? ⟨b, 0, none⟩ = some (.int .i64 5) := hS.c0
 have f1 : T.cell? ⟨b, 1, none⟩ = some (.string ⟨SS.toArray⟩) := hS.c1
 have f2 : T.cell? ⟨b, 2, none⟩ = some (.string ⟨TT.toArray⟩) := hS.c2
 have f3 : T.cell? ⟨b, 3, none⟩ = some (.string ⟨UU.toArray⟩) := hS.c3
 have f4 : T.cell? ⟨b, 4, none⟩ = some (.int .i64 (n0 : Int)) := hS.c4
 have HT := Lib.hid hT
 have HB := Lib.hid hb
 have HS := Lib.hid hS
 have HW := Lib.hid hW
 have HK := Lib.hid hKp
 have HTL := Lib.hid ht
 have HRL := Lib.hid hrL
 have HRM := Lib.hid hrM
 have HLL := Lib.hid hLL
 have HMM := Lib.hid hMM
 have HBW := Lib.hid h.bsz
 clear hrL hrM hLL hMM h c8 hT hb hS hW hKp ht
 have BR := Lib.hid (br_any E IH HW.out HTL.out hM hst rfl)
 clear hnil IH E hst
 go_enter Tryz.func34, Tryz.ntmps34
 go_upto_region 1 with fail
 rw [HT.out, HB.out]
 clear d0 d1 d2 d3 d4 d5 d6 d7 g0
 go_wp2_with fail
 refine BR.out.mono ?_
 rintro e w2 ⟨rfl, h2, k2⟩
 clear f0 f1 f2 f3 f4
 go_wp2
 go_end0
 exact ⟨rfl, h2, HK.out.trans k2⟩
theorem stm_any (E : CP w0 ao N cap row) (IH : ListC w0 ao N cap row i) : StmC w0 ao N cap row i := by
 intro st w g m ov M L σ hst h ht hM
 have hM0 : M.length ≤ 100000 := by rw [List.length_append] at hM; omega
 by_cases h13 : st.kind = 13
 ·have e1 : Cd.one st (Cd.mops (Cd.tree row st.l)) (Cd.mops (Cd.tree row st.m)) (Cd.isNil (Cd.tree row st.m)) M.length = [] := by unfold Cd.one; rw [if_pos h13]
  have e2 : Cd.lone st (Cd.labs (Cd.tree row st.l)) (Cd.labs (Cd.tree row st.m)) (Cd.mops (Cd.tree row st.l) (M.length + 1)).length (Cd.isNil (Cd.tree row st.m)) M.length = [(st.s, M.length)] := by unfold Cd.lone; rw [if_pos h13]
  rw [e1, e2, List.append_nil]
  exact st_label E h ht hst h13
 by_cases h14 : st.kind = 14
 ·have e1 : Cd.one st (Cd.mops (Cd.tree row st.l)) (Cd.mops (Cd.tree row st.m)) (Cd.isNil (Cd.tree row st.m)) M.length = [(Cd.zop 18, some st.s)] := by unfold Cd.one; rw [if_neg h13, if_pos h14]
  have e2 : Cd.lone st (Cd.labs (Cd.tree row st.l)) (Cd.labs (Cd.tree row st.m)) (Cd.mops (Cd.tree row st.l) (M.length + 1)).length (Cd.isNil (Cd.tree row st.m)) M.length = [] := by unfold Cd.lone; rw [if_neg h13, if_pos (.inl h14)]
  rw [e1, e2, List.append_nil]
  exact st_goto E h ht hM0 hst h14
 by_cases h15 : st.kind = 15
 ·have e1 : Cd.one st (Cd.mops (Cd.tree row st.l)) (Cd.mops (Cd.tree row st.m)) (Cd.isNil (Cd.tree row st.m)) M.length = [(Cd.zop 15, some st.s)] := by unfold Cd.one; rw [if_neg h13, if_neg h14, if_pos h15]
  have e2 : Cd.lone st (Cd.labs (Cd.tree row st.l)) (Cd.labs (Cd.tree row st.m)) (Cd.mops (Cd.tree row st.l) (M.length + 1)).length (Cd.isNil (Cd.tree row st.m)) M.length = [] := by unfold Cd.lone; rw [if_neg h13, if_pos (.inr h15)]
  rw [e1, e2, List.append_nil]
  exact st_on E h ht hM0 hst h15
 by_cases h6 : st.kind = 6
 ·exact st_pipe E IH h ht hM hst h6
 by_cases h5 : st.kind = 5
 ·exact st_if E IH h ht hM hst h5
 ·have e1 : Cd.one st (Cd.mops (Cd.tree row st.l)) (Cd.mops (Cd.tree row st.m)) (Cd.isNil (Cd.tree row st.m)) M.length = [(Cd.wop st, none)] := by unfold Cd.one; rw [if_neg h13, if_neg h14, if_neg h15, if_neg h6, if_neg h5]
  have e2 : Cd.lone st (Cd.labs (Cd.tree row st.l)) (Cd.labs (Cd.tree row st.m)) (Cd.mops (Cd.tree row st.l) (M.length + 1)).length (Cd.isNil (Cd.tree row st.m)) M.length = [] := by unfold Cd.lone; rw [if_neg h13, if_neg (by omega), if_neg h6, if_neg h5]
  rw [e1, e2, List.append_nil]
  exact st_else E h ht hM0 hst ⟨h13, h14, h15, h5, h6⟩
def LH (w0 w wr : World) (g m : Nat) (rv : Value) (row : List Ps.St) (l : List Nat) (k : Nat) (FM : List Cd.MOp) (FL : List Cd.Lb) : Prop := ∃ ov M L σ, WS w0 wr w0.heap.size g m rv ov (M.map (·.1)) σ ∧ Tells σ M L ∧ Keep w wr ∧ M ++ Cd.mops (Cd.tree row (l.drop k)) M.length = FM ∧ L ++ Cd.labs (Cd.tree row (l.drop k)) M.length = FL
set_option maxRecDepth 20000 in
set_option maxHeartbeats 4000000 in
theorem list_any {n : Nat} (E : CP w0 ao N cap row) (IH : ∀ i, i < n → StmC w0 ao N cap row i) : ListC w0 ao N cap row n := by
 intro l lo lc w g m ov M L σ hn hl hrd h ht hM
 obtain ⟨FM, hFM⟩ : ∃ FM, M ++ Cd.mops (Cd.tree row l) M.length = FM := ⟨_, rfl⟩
 obtain ⟨FL, hFL⟩ : ∃ FL, L ++ Cd.labs (Cd.tree row l) M.length = FL := ⟨_, rfl⟩
 rw [hFM] at hM ⊢
 rw [hFL]
 have HL0 : Hid (LH w0 w w g m (.slice ao N cap) row l 0 FM FL) := Lib.hid ⟨ov, M, L, σ, h, ht, Keep.refl _, by rw [List.drop_zero]; exact hFM, by rw [List.drop_zero]; exact hFL⟩
 have HE := Lib.hid E
 have HIH : Hid (∀ i, i < n → StmC w0 ao N cap row i) := Lib.hid IH
 have HL := Lib.hid hl
 have HRD := Lib.hid hrd
 have hlN : l.length ≤ N := Nat.le_trans hl.len hn
 have hN1 := E.few
 have HNR := Lib.hid E.sr.len
 clear h ht hl hrd IH E hFM hFL
 go_enter Tryz.func20, Tryz.ntmps20
 go_wp2
 go_loopw [7, 10] (fun _ i wr => ∃ k : Nat, k ≤ l.length ∧ i = .int .i64 k ∧ Hid (LH w0 w wr g m (.slice ao N cap) row l k FM FL)) (fun _ i _ => l.length - (intOf i).toNat)
 case atStart => exact ⟨0, Nat.zero_le _, rfl, HL0⟩
 case round =>
  obtain ⟨k, hk, rfl, HH⟩ := hrel
  by_cases hlt : k < l.length
  ·obtain ⟨ov2, M2, L2, σ2, h2, t2, k2, e1, e2⟩ := HH.out
   obtain ⟨bb, oo, rfl, _, hc⟩ := rd_nv (HRD.out.below h2.base) k hlt
   obtain ⟨x, hx⟩ : ∃ x, l.getD k 0 = x := ⟨_, rfl⟩
   rw [hx] at hc
   have hxg : l[k] = x := by rw [← hx, List.getD_eq_getElem?_getD, List.getElem?_eq_getElem hlt]; rfl
   have hxn : x < n := by rw [← hxg]; exact HL.out.lt _ (List.getElem_mem _)
   have hdr : l.drop k = x :: l.drop (k + 1) := by rw [← hxg]; exact List.drop_eq_getElem_cons hlt
   have hnr : n ≤ row.length := by rw [← HNR.out]; exact hn
   obtain ⟨st, hst⟩ := Cd.at_of (row := row) (i := x) (by omega)
   have htc := Cd.tree_cons HE.out.ok (hdr ▸ (LOk.drop HL.out k).more hnr) hst
   rw [hdr, htc, Cd.mops, ← List.append_assoc] at e1
   rw [hdr, htc, Cd.labs, ← List.append_assoc] at e2
   have STM := Lib.hid (HIH.out x hxn st wr g m ov2 M2 L2 σ2 hst h2 t2 (by rw [← e1, List.length_append] at hM; omega))
   have HK2 := Lib.hid k2
   have HE1 := Lib.hid e1
   have HE2 := Lib.hid e2
   have x0 : (0 : Int) ≤ (x : Int) := by omega
   have x1 : (x : Int) < (n : Int) := by omega
   clear h2 t2 k2 e1 e2 hst htc hdr hx hxg
   go_wp2_with fail
   refine STM.out.mono ?_
   rintro e w3 ⟨rfl, ⟨ov3, σ3, h3, t3⟩, k3⟩
   have HN : Hid (LH w0 w w3 g m (.slice ao N cap) row l (k + 1) FM FL) := Lib.hid ⟨ov3, _, _, σ3, h3, t3, HK2.out.trans k3, by rw [List.length_append]; exact HE1.out, by rw [List.length_append]; exact HE2.out⟩
   clear h3 t3 k3 STM hc
   go_wp2
   go_roundw
   case rel => exact ⟨k + 1, by omega, by go_num, HN⟩
   case measure => simp [intOf]; omega
  ·obtain rfl : k = l.length := by omega
   have HF : Hid (WP w0 w wr g m (.slice ao N cap) FM FL) := by
    obtain ⟨ov2, M2, L2, σ2, h2, t2, k2, e1, e2⟩ := HH.out
    rw [List.drop_length, Cd.tree_nil, Cd.mops, List.append_nil] at e1
    rw [List.drop_length, Cd.tree_nil, Cd.labs, List.append_nil] at e2
    rw [← e1, ← e2]
    exact Lib.hid ⟨⟨_, _, h2, t2⟩, k2⟩
   go_wp2
   go_end0
   exact ⟨rfl, HF.out⟩
theorem lists_any (E : CP w0 ao N cap row) : ∀ n, ListC w0 ao N cap row n := fun n => by
 induction n using Nat.strongRecOn with
 | _ n ih => exact list_any E (fun i hi => stm_any E (ih i hi))
end
end Go.Proofs.YtodlhhfcjkjapaaGreatDoor
