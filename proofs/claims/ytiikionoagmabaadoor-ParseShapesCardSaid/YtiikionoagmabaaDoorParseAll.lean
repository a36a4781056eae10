/- parse.All walked (layer 15). -/
import Derived.Test.YtiikionoagmabaaDoorParseStm
import Derived.Test.YtiikionoagmabaaDoorPC
import Derived.Test.YtiikionoagmabaaDoorLexAll
namespace Go.Proofs.YtiikionoagmabaaDoor
open Go.RowKit

/-- A script's statements, read; all from block B on. -/
def PR (B : Nat) (w : World) (sv tv : Value) (row : List Ps.St) (top : List Nat) : Prop := ∃ cs : List SA, rowOf cs = row ∧
  (∃ ao cap, sv = .slice ao cs.length cap ∧ ∀ (k : Nat) c, cs[k]? = some c → ∃ g, ao = some ⟨g, 0, none⟩ ∧ B ≤ g ∧ ∀ i u, (stCells c)[i]? = some u → w.cell? ⟨g, k * 8 + i, none⟩ = some u) ∧
  (∀ c ∈ cs, (Rd w c.l (c.st.l.map nv) ∧ Rd w c.m (c.st.m.map nv)) ∧ (c.l.oneCell' = true ∧ c.m.oneCell' = true) ∧ ∀ k, c.l.ownBlock = some k ∨ c.m.ownBlock = some k → B ≤ k) ∧ Rd w tv (top.map nv) ∧ ∀ k, tv.ownBlock = some k → B ≤ k
section
variable {B : Nat} {w w' : World} {sv tv : Value} {row : List Ps.St} {top : List Nat}
theorem Rd.blocks {v : Value} {vs : List Value} (h : Rd w v vs) (hb : ∀ k, v.ownBlock = some k → k < w.heap.size → w'.heap[k]? = w.heap[k]?) : Rd w' v vs := by
  rcases h with h | ⟨b, o, cap, e, g1, g2, g3⟩
  · exact .inl h
  · refine .inr ⟨b, o, cap, e, g1, g2, fun j u hj => ?_⟩
    have hc := g3 j u hj
    exact (World.cell?_of_block (a := ⟨b, o + j, none⟩) (hb b (by rw [e]; rfl) (World.block_lt_of_cell? w _ hc))).trans hc
theorem PR.past (h : PR B w sv tv row top) (hb : ∀ k, B ≤ k → w'.heap[k]? = w.heap[k]?) : PR B w' sv tv row top := by
  obtain ⟨cs, h1, ⟨ao, cap, h2, h3⟩, h4, h5, h6⟩ := h
  refine ⟨cs, h1, ⟨ao, cap, h2, fun k c hk => ?_⟩, fun c hc => ⟨⟨(h4 c hc).1.1.blocks fun k hk _ => hb k ((h4 c hc).2.2 k (.inl hk)), (h4 c hc).1.2.blocks fun k hk _ => hb k ((h4 c hc).2.2 k (.inr hk))⟩, (h4 c hc).2⟩, h5.blocks fun k hk _ => hb k (h6 k hk), h6⟩
  obtain ⟨g, e, hg, hc⟩ := h3 k c hk
  exact ⟨g, e, hg, fun i u hu => (World.cell?_of_block (a := ⟨g, k * 8 + i, none⟩) (hb g hg)).trans (hc i u hu)⟩
theorem PR.below (h : PR B w sv tv row top) (hb : Below w.heap.size w w') : PR B w' sv tv row top := by
  obtain ⟨cs, h1, ⟨ao, cap, h2, h3⟩, h4, h5, h6⟩ := h
  refine ⟨cs, h1, ⟨ao, cap, h2, fun k c hk => ?_⟩, fun c hc => ⟨⟨(h4 c hc).1.1.below hb, (h4 c hc).1.2.below hb⟩, (h4 c hc).2⟩, h5.below hb, h6⟩
  obtain ⟨g, e, hg, hc⟩ := h3 k c hk
  exact ⟨g, e, hg, fun i u hu => (hb.cell (World.block_lt_of_cell? w _ (hc i u hu))).trans (hc i u hu)⟩
theorem PR.lower {C : Nat} (h : PR B w sv tv row top) (hC : C ≤ B) : PR C w sv tv row top := by
  obtain ⟨cs, h1, ⟨ao, cap, h2, h3⟩, h4, h5, h6⟩ := h
  refine ⟨cs, h1, ⟨ao, cap, h2, fun k c hk => ?_⟩, fun c hc => ⟨(h4 c hc).1, (h4 c hc).2.1, fun k hk => Nat.le_trans hC ((h4 c hc).2.2 k hk)⟩, h5, fun k hk => Nat.le_trans hC (h6 k hk)⟩
  obtain ⟨g, e, hg, hc⟩ := h3 k c hk
  exact ⟨g, e, Nat.le_trans hC hg, hc⟩
end
theorem PX.read {w : World} {B g b q md a f : Nat} {lv ov sv tv : Value} {ts : List Lx.Tok} {cs : List SA} {top : List Nat} (h : PX w B g b q lv ov sv tv md a f ts [] [] cs top) : PR B w sv tv (rowOf cs) top := by
  refine ⟨cs, rfl, ?_, fun c hc => ⟨⟨(h.cl c hc).1.rd, (h.cl c hc).2.rd⟩, ⟨(h.cl c hc).1.one, (h.cl c hc).2.one⟩, fun k hk => hk.elim (fun e => ((h.cl c hc).1.ap k e).2.1) (fun e => ((h.cl c hc).2.ap k e).2.1)⟩, IR.rd h.tp, fun k hk => (IR.lt h.tp k hk).1⟩
  have hcell := fun (g' cap : Nat) (he : sv = .slice (some ⟨g', 0, none⟩) cs.length cap) (k : Nat) (t : SA) (ht : cs[k]? = some t) (i : Nat) (u : Value) (hu : (stCells t)[i]? = some u) => own_cellN (he ▸ h.os) (stRow_at cs k t ht i u hu)
  rcases h.os.2 with ⟨e, hn⟩ | ⟨g', cap, cur, e, hb, hg, _⟩
  · obtain rfl : cs = [] := List.length_eq_zero_iff.1 hn
    exact ⟨_, _, e, fun k t ht => by cases ht⟩
  · exact ⟨_, cap, e, fun k t ht => ⟨g', rfl, hb, fun i u hu => hcell g' cap e k t ht i u hu⟩⟩
def PAllP (r : Ps.Res (Nat × List Ps.St × List Nat)) (w : World) (e : Ending) (w' : World) : Prop := Below w.heap.size w w' ∧ match r with
  | .error (p, c) => e = .returned (.tuple #[.agg #[.int .i64 0, .slice none 0 0, .slice none 0 0], .int .i64 (p : Int), .int .i64 (c : Int)]) ∧ c ≠ 0
  | .ok (md, row, top) => ∃ sv tv, e = .returned (.tuple #[.agg #[.int .i64 (md : Int), sv, tv], .int .i64 0, .int .i64 0]) ∧ PR w.heap.size w' sv tv row top
/-- A script's row in a block of its own. -/
def H3 (w : World) (q : Nat) (vs : List Value) : Prop := w.heap[q]? = some (.cells vs.toArray 27 (0, 0))
theorem H3.set {w : World} {q : Nat} {vs us : List Value} (h : H3 w q us) (hl : us.length = vs.length) : H3 (setN w q 0 vs) q vs := setN_heap vs [] us w h hl
theorem H3.cell {w : World} {q : Nat} {vs : List Value} (h : H3 w q vs) {i : Nat} {u : Value} (hu : vs[i]? = some u) : w.cell? ⟨q, i, none⟩ = some u := by
  unfold H3 at h
  rw [cell_of_row _ _ _ _ _ _ h]
  simpa using hu
theorem H3.fr {w : World} {q : Nat} {vs : List Value} (h : H3 w q vs) (i : Nat) : w.frozen? ⟨q, i, none⟩ = false := by unfold H3 at h; simp [World.frozen?, h]
theorem H3.lt {w : World} {q : Nat} {vs : List Value} (h : H3 w q vs) : q < w.heap.size := (Array.getElem?_eq_some_iff.1 h).1
theorem H3.below {w w' : World} {B q : Nat} {vs : List Value} (h : H3 w q vs) (hb : Below B w w') (hq : q < B) : H3 w' q vs := (hb.block _ hq).trans h

theorem below_setN {B : Nat} {a : World} (q : Nat) : ∀ (vs : List Value) (i : Nat) {w : World}, B ≤ q → Below B a w → Below B a (setN w q i vs)
  | [], _, _, _, h => h
  | v :: vs, i, _, hq, h => below_setN q vs (i + 1) hq (h.setCell (p := ⟨q, i, none⟩) hq v)

set_option maxRecDepth 40000 in
set_option maxHeartbeats 16000000 in
theorem pall_any (l : List UInt8) (hl : l.length ≤ 1048576) (w : World) (hS : SHP w) :
    Calls Tryd.prog 11 #[.string ⟨l.toArray⟩] w fun e w' => PAllP (Ps.all l) w e w' := by
  have hg0 : 0 < w.heap.size := World.block_lt_of_cell? w _ (hS 0 (by decide))
  obtain ⟨T, hT⟩ : ∃ T, w.alloc (.cells #[.int .i64 0, .slice none 0 0, .slice none 0 0] 27) = T := ⟨_, rfl⟩
  have hbT : Below w.heap.size w T := by rw [← hT]; exact (Below.refl _ _).alloc (Nat.le_refl _) _
  have hz : H3 T w.heap.size [.int .i64 0, .slice none 0 0, .slice none 0 0] := by rw [← hT]; exact heap_alloc_new _ _
  have hTs : T.heap.size = w.heap.size + 1 := by rw [← hT]; simp
  have LA := all_any l hl T
  have hall := Ps.all_of (l := l)
  have HZ := Lib.hid hz
  have HBT := Lib.hid hbT
  have HSH := Lib.hid (hS.below hbT)
  obtain ⟨B, hB⟩ : ∃ B, T.heap.size = B := ⟨_, rfl⟩
  clear hz hbT hS hl
  go_enter Tryd.func11, Tryd.ntmps11
  go_wp2_with fail
  refine LA.mono ?_
  rintro e w2 hP
  obtain ⟨hb2, hP⟩ := hP
  rw [hB] at hb2 hP
  have hs2 := hb2.size
  have hz2 := HZ.out.below hb2 (by omega)
  clear LA
  cases hx : Lx.all l with
  | error x =>
    obtain ⟨p, f⟩ := x
    rw [hx] at hP hall
    obtain rfl := hP
    obtain ⟨hf0, _⟩ := Lx.all_err hx
    have f1 : ((f : Int) != 0) = true := by rw [bne_iff_ne]; omega
    have f2 : ((f : Int) == 0) = false := beq_eq_false_iff_ne.2 (by omega)
    have f3 : ((f : Int) = 0) = False := eq_false (by omega)
    have HA := Lib.hid (⟨hall, hf0⟩ : _ ∧ _)
    have zc0 := hz2.cell (i := 0) rfl
    have zc1 := hz2.cell (i := 1) rfl
    have zc2 := hz2.cell (i := 2) rfl
    have zf0 := hz2.fr 0
    have zf1 := hz2.fr 1
    have zf2 := hz2.fr 2
    have HSET := Lib.hid (hz2.set (vs := [.int .i64 0, .slice none 0 0, .slice none 0 0]) rfl)
    have HBL := Lib.hid (below_setN w.heap.size [.int .i64 0, .slice none 0 0, .slice none 0 0] 0 (Nat.le_refl _) (HBT.out.trans (hb2.mono (by omega))))
    clear hall hf0 hz2 hx
    go_wp2
    change bodyPost _ _ _ _ _ (setN w2 w.heap.size 0 [.int .i64 0, .slice none 0 0, .slice none 0 0])
    have hset := HSET.out
    have hbl := HBL.out
    generalize setN w2 w.heap.size 0 [.int .i64 0, .slice none 0 0, .slice none 0 0] = W at hset hbl ⊢
    have r0 := hset.cell (i := 0) rfl
    have r1 := hset.cell (i := 1) rfl
    have r2 := hset.cell (i := 2) rfl
    refine bodyPost_ret (v := .tuple #[.agg #[.int .i64 0, .slice none 0 0, .slice none 0 0], .int .i64 (p : Int), .int .i64 (f : Int)]) (by simp [results, Tryd.results11, go_sem, r0, r1, r2]) rfl ?_
    unfold PAllP
    rw [HA.out.1]
    exact ⟨hbl, rfl, HA.out.2⟩
  | ok ts =>
    rw [hx] at hP hall
    obtain ⟨v, rfl, ho⟩ := hP
    have hends := Ps.all_ends hx
    have hfew := Ps.all_few hx
    obtain ⟨b, hb, hblt, hvb, htr⟩ := TR.of_own ho (by obtain ⟨t, r, e, _⟩ := hends.ne; rw [e]; simp)
    obtain ⟨o, cap, rfl, hcp, hcp2, hcl⟩ := id htr
    obtain ⟨w3, hw3⟩ : ∃ w3, w2.alloc (.cells #[.slice (some ⟨b, o, none⟩) ts.length cap, .slice none 0 0, .int .i64 0, .slice none 0 0, .slice none 0 0, .int .i64 0, .int .i64 0] 50) = w3 := ⟨_, rfl⟩
    have hb3 : Below w2.heap.size w2 w3 := by rw [← hw3]; exact (Below.refl _ _).alloc (Nat.le_refl _) _
    have hr3 : RB w3 w2.heap.size (.slice (some ⟨b, o, none⟩) ts.length cap) (.slice none 0 0) 0 (.slice none 0 0) (.slice none 0 0) 0 0 := by rw [← hw3]; exact heap_alloc_new _ _
    have htr3 := htr.below hb3
    obtain ⟨g, hg⟩ : ∃ g, w2.heap.size = g := ⟨_, rfl⟩
    rw [hg] at hr3
    have hs3 : w3.heap.size = g + 1 := by rw [← hw3]; simp [hg]
    obtain ⟨w4, hw4⟩ : ∃ w4, w3.alloc (.cells #[.string ⟨#[109, 111, 100, 101]⟩, .string ⟨#[109]⟩, .string ⟨#[59]⟩] 9) = w4 := ⟨_, rfl⟩
    have hb4 : Below w3.heap.size w3 w4 := by rw [← hw4]; exact (Below.refl _ _).alloc (Nat.le_refl _) _
    have hn4 : w4.heap[w3.heap.size]? = some (.cells #[.string ⟨#[109, 111, 100, 101]⟩, .string ⟨#[109]⟩, .string ⟨#[59]⟩] 9 (0, 0)) := by rw [← hw4]; exact heap_alloc_new _ _
    have hrd : Rd w4 (.slice (some ⟨w3.heap.size, 0, none⟩) 3 3) ([Ps.wMode, [109], [59]].map sv) := by
      refine .inr ⟨_, 0, 3, rfl, Nat.le_refl _, by unfold maxLen; omega, fun j v hj => ?_⟩
      rw [Nat.zero_add, cell_of_row _ _ _ _ _ _ hn4, ← hj]
      match j with
      | 0 => rfl
      | 1 => rfl
      | 2 => rfl
      | j + 3 => simp
    have hbg : b ≠ g := by omega
    have hBw : Below w.heap.size w w4 := ((HBT.out.trans (hb2.mono (by omega))).trans (hb3.mono (by omega))).trans (hb4.mono (by omega))
    have hBB : Below B T w4 := (hb2.trans (hb3.mono (by omega))).trans (hb4.mono (by omega))
    have TK := take_any [Ps.wMode, [109], [59]] ts b g 0 0 0 0 _ _ _ _ (.slice (some ⟨w3.heap.size, 0, none⟩) 3 3) w4 (hr3.below hb4) (htr3.below hb4) hbg hends ⟨_, _, rfl⟩ (by omega) hrd (by simp [Ps.wMode]) (by simp) (by simp) (by simp [Value.ownBlock]; omega) (by omega)
    have hts := Ps.take_script (d := 0) hends
    have HSB := Lib.hid hBB
    have HSW := Lib.hid hBw
    have HEN := Lib.hid hends
    clear hcl hcp hcp2 htr htr3 hb3 hb4 hr3 hrd hn4 ho hx hBB hBw hends
    have HG := Lib.hid hg
    have HS3 := Lib.hid hs3
    have hgB : B ≤ g := by omega
    have HW3 := Lib.hid hw3
    clear hg hs3 hw3
    go_upto_region 5 with fail
    rw [HW3.out, HG.out]
    go_wp2_with fail
    refine TK.mono ?_
    rintro e w5 ⟨ht5, hQ5⟩
    clear TK
    have hBg : B ≤ g := hgB
    have hB5 : Below B T w5 := HSB.out.trans (ht5.below (fun k hk => by rw [show k = g from hk]; exact hBg) (by have := HSB.out.size; omega))
    cases htk : Ps.takeW 0 [Ps.wMode, [109], [59]] ts with
    | error x =>
      obtain ⟨p, c⟩ := x
      rw [htk] at hQ5
      obtain ⟨rfl, hr5⟩ := hQ5
      obtain ⟨hh, hc⟩ := hts.1 _ htk
      dsimp only at hc
      subst hc
      rw [Ps.prog_run, hh] at hall
      have en := fun wx => neq_nil none 0 0 wx
      have HA := Lib.hid (⟨hall, by decide⟩ : _ ∧ (20 : Nat) ≠ 0)
      have HBE := Lib.hid hB5
      have hr5 : RB w5 g (.slice (some ⟨b, o, none⟩) ts.length cap) (.slice none 0 0) 0 (.slice none 0 0) (.slice none 0 0) p 20 := hr5
      have HR5 := Lib.hid hr5
      clear hall hr5 ht5 htk hh hts hB5
      have c6 := HR5.out.c6
      have c5 := HR5.out.c5
      have hzE := HZ.out.below HBE.out (by omega)
      have zc0 := hzE.cell (i := 0) rfl
      have zc1 := hzE.cell (i := 1) rfl
      have zc2 := hzE.cell (i := 2) rfl
      have zf0 := hzE.fr 0
      have zf1 := hzE.fr 1
      have zf2 := hzE.fr 2
      have HSET := Lib.hid (hzE.set (vs := [.int .i64 0, .slice none 0 0, .slice none 0 0]) rfl)
      have HBL := Lib.hid (below_setN w.heap.size [.int .i64 0, .slice none 0 0, .slice none 0 0] 0 (Nat.le_refl _) (HBT.out.trans (HBE.out.mono (by omega))))
      have hgz : w.heap.size ≠ g := by omega
      have hs5E : (setN w5 w.heap.size 0 [.int .i64 0, .slice none 0 0, .slice none 0 0]).cell? ⟨g, 5, none⟩ = some (.int .i64 (p : Int)) ∧ (setN w5 w.heap.size 0 [.int .i64 0, .slice none 0 0, .slice none 0 0]).cell? ⟨g, 6, none⟩ = some (.int .i64 20) := ⟨(World.cell?_of_block (a := ⟨g, 5, none⟩) (setN_other (fun e => hgz e.symm) _ _)).trans c5, (World.cell?_of_block (a := ⟨g, 6, none⟩) (setN_other (fun e => hgz e.symm) _ _)).trans c6⟩
      have hs0 : w5.drew.cell? ⟨g, 5, none⟩ = some (.int .i64 (p : Int)) ∧ w5.drew.cell? ⟨g, 6, none⟩ = some (.int .i64 20) := ⟨c5, c6⟩
      clear hzE
      go_wp2
      refine wp_region_held_drew (S := fun w' => w'.cell? ⟨g, 5, none⟩ = some (.int .i64 (p : Int)) ∧ w'.cell? ⟨g, 6, none⟩ = some (.int .i64 20)) (by kernel_rfl) hs0 (fun hH => ?_)
      have zd0 : w5.drew.cell? ⟨w.heap.size, 0, none⟩ = some _ := zc0
      have zd1 : w5.drew.cell? ⟨w.heap.size, 1, none⟩ = some _ := zc1
      have zd2 : w5.drew.cell? ⟨w.heap.size, 2, none⟩ = some _ := zc2
      have ze0 : w5.drew.frozen? ⟨w.heap.size, 0, none⟩ = false := zf0
      have ze1 : w5.drew.frozen? ⟨w.heap.size, 1, none⟩ = false := zf1
      have ze2 : w5.drew.frozen? ⟨w.heap.size, 2, none⟩ = false := zf2
      have HSETD : Hid (H3 (setN w5.drew w.heap.size 0 [.int .i64 0, .slice none 0 0, .slice none 0 0]) w.heap.size [.int .i64 0, .slice none 0 0, .slice none 0 0]) := Lib.hid (H3.set (us := [.int .i64 0, .slice none 0 0, .slice none 0 0]) (HZ.out.below (show Below B T w5.drew from ⟨HBE.out.os, HBE.out.tape, HBE.out.output, HBE.out.size, HBE.out.block⟩) (by omega)) rfl)
      have HBLD := Lib.hid (below_setN w.heap.size [.int .i64 0, .slice none 0 0, .slice none 0 0] 0 (Nat.le_refl _) (show Below w.heap.size w w5.drew from (HBT.out.trans (Below.mono (show Below B T w5.drew from ⟨HBE.out.os, HBE.out.tape, HBE.out.output, HBE.out.size, HBE.out.block⟩) (by omega)))))
      have hs5D : (setN w5.drew w.heap.size 0 [.int .i64 0, .slice none 0 0, .slice none 0 0]).cell? ⟨g, 5, none⟩ = some (.int .i64 (p : Int)) ∧ (setN w5.drew w.heap.size 0 [.int .i64 0, .slice none 0 0, .slice none 0 0]).cell? ⟨g, 6, none⟩ = some (.int .i64 20) := ⟨(World.cell?_of_block (a := ⟨g, 5, none⟩) (setN_other (fun e => hgz e.symm) _ _)).trans hs0.1, (World.cell?_of_block (a := ⟨g, 6, none⟩) (setN_other (fun e => hgz e.symm) _ _)).trans hs0.2⟩
      generalize w5.drew = wd at *
      refine heldTake (i := 0) (v := ?_) rfl (by kernel_rfl) (by kernel_rfl) (fun _ _ _ h => h) (by rfl) (by assumption) (fun w hSw => ?_) ?_; rotate_left; focus ((try dsimp only at hSw); go_simp; try with_reducible rfl)
      try simp only [Act.put, List.setIfInBounds_toArray, List.set_cons_zero, List.set_cons_succ]
      refine heldTake (i := 1) (v := ?_) rfl (by kernel_rfl) (by kernel_rfl) (fun _ _ _ h => h) (by rfl) (by assumption) (fun w hSw => ?_) ?_; rotate_left; focus ((try dsimp only at hSw); go_simp; try with_reducible rfl)
      try simp only [Act.put, List.setIfInBounds_toArray, List.set_cons_zero, List.set_cons_succ]
      refine heldTake (i := 2) (v := ?_) rfl (by kernel_rfl) (by kernel_rfl) (fun _ _ _ h => h) (by rfl) (by assumption) (fun w hSw => ?_) ?_; rotate_left; focus ((try dsimp only at hSw); go_simp; try with_reducible rfl)
      try simp only [Act.put, List.setIfInBounds_toArray, List.set_cons_zero, List.set_cons_succ]
      refine heldTake (i := 3) (v := ?_) rfl (by kernel_rfl) (by kernel_rfl) (fun _ _ _ h => h) (by rfl) (by assumption) (fun w hSw => ?_) ?_; rotate_left; focus ((try dsimp only at hSw); go_simp; try with_reducible rfl)
      try simp only [Act.put, List.setIfInBounds_toArray, List.set_cons_zero, List.set_cons_succ]
      refine heldTake (i := 4) (v := ?_) rfl (by kernel_rfl) (by kernel_rfl) (fun _ _ _ h => h) (by rfl) (by assumption) (fun w hSw => ?_) ?_; rotate_left; focus ((try dsimp only at hSw); go_simp; try with_reducible rfl)
      try simp only [Act.put, List.setIfInBounds_toArray, List.set_cons_zero, List.set_cons_succ]
      -- NEXT 5 Op.store 27 (Operand.tmp 2) (Operand.tmp 39)
      refine heldNext (i := 5) rfl (by kernel_rfl) (by rfl) (fun K hK => ?_)
      go_simp; refine hK.out _ (setN wd w.heap.size 0 [.int .i64 0, .slice none 0 0, .slice none 0 0]) hs5D ?_; clear hK K
      try simp only [Act.put, List.setIfInBounds_toArray, List.set_cons_zero, List.set_cons_succ]
      refine heldTake (i := 6) (v := ?_) rfl (by kernel_rfl) (by kernel_rfl) (fun _ _ _ h => h) (by rfl) (by assumption) (fun w hSw => ?_) ?_; rotate_left; focus ((try dsimp only at hSw); go_simp; try with_reducible rfl)
      try simp only [Act.put, List.setIfInBounds_toArray, List.set_cons_zero, List.set_cons_succ]
      refine heldTake (i := 7) (v := ?_) rfl (by kernel_rfl) (by kernel_rfl) (fun _ _ _ h => h) (by rfl) (by assumption) (fun w hSw => ?_) ?_; rotate_left; focus ((try dsimp only at hSw); go_simp; try with_reducible rfl)
      try simp only [Act.put, List.setIfInBounds_toArray, List.set_cons_zero, List.set_cons_succ]
      refine wpAnyH_done (by kernel_rfl) ?_ _
      skip
      simp only [Exit.then]
      go_wp2
      have hset := HSETD.out
      have hbl := HBLD.out
      generalize setN wd w.heap.size 0 [.int .i64 0, .slice none 0 0, .slice none 0 0] = W at hset hbl ⊢
      have r0 := hset.cell (i := 0) rfl
      have r1 := hset.cell (i := 1) rfl
      have r2 := hset.cell (i := 2) rfl
      refine bodyPost_ret (v := .tuple #[.agg #[.int .i64 0, .slice none 0 0, .slice none 0 0], .int .i64 (p : Int), .int .i64 20]) (by simp [results, Tryd.results11, go_sem, r0, r1, r2]) rfl ?_
      unfold PAllP
      rw [HA.out.1]
      exact ⟨hbl, rfl, HA.out.2⟩
    | ok r =>
      rw [htk] at hQ5
      obtain ⟨rv, lv5, rfl, htr5, hr5, htl5⟩ := hQ5
      obtain ⟨t0, t1, t2, hte, hh, her⟩ := hts.2 _ htk
      rw [Ps.prog_run, hh] at hall
      dsimp only at hall
      obtain ⟨o5, cap5, rfl, _, _, hc5⟩ := htr5
      have hl3 : (ts.take [Ps.wMode, [109], [59]].length).length = 3 := by rw [hte]; rfl
      obtain ⟨x0, x1, x2⟩ := hc5 1 t1 (by rw [hte]; rfl)
      rw [hl3, Nat.one_mul] at *
      have en := fun wx => neq_nil (some ⟨b, o5, none⟩) 3 cap5 wx
      have PM := Lib.hid (fun wx => pmode_any t1.text wx)
      obtain ⟨md, hmd⟩ : ∃ md, Ps.mode t1.text = md := ⟨_, rfl⟩
      rw [hmd] at hall PM
      obtain ⟨w6, hw6⟩ : ∃ w6, w5.setCell ⟨g, 2, none⟩ (.int .i64 (md : Int)) = w6 := ⟨_, rfl⟩
      have c2 := hr5.c2
      have cf2 := hr5.fr 2
      have hr6 : RB w6 g lv5 (.slice none 0 0) md (.slice none 0 0) (.slice none 0 0) 0 0 := by rw [← hw6]; exact hr5.set2 md
      have ht6 : Trn (only g) w5 w6 := by rw [← hw6]; exact Trn.setCell (F := only g) (Trn.refl _ _) (show g = g from rfl) _
      have htr6 := htl5.trn ht6 hbg
      have hB6 : Below B T w6 := hB5.trans (ht6.below (fun k hk => by rw [show k = g from hk]; exact hBg) (by have := hB5.size; omega))
      have hS6 : SHP w6 := fun i hi => (hB6.cell (p := ⟨0, i, none⟩) (show 0 < B by omega)).trans (HSH.out i hi)
      have SM := statements_any (B := B) w6 hr6 htr6 her hbg hBg hb hS6 (by omega) (by have := congrArg List.length hte; simp only [List.length_cons] at this; omega)
      have HB6 := Lib.hid hB6
      have HALL := Lib.hid hall
      clear hall hc5 hl3 hr5 hr6 ht6 htr6 hB6 hS6 htl5 hte hh her hts htk hmd ht5 x0 x2 hB5
      go_wp2_with fail
      refine (PM.out _).mono ?_
      rintro e w7 ⟨rfl, he7⟩
      obtain rfl := he7
      go_wp2_with fail
      refine SM.mono ?_
      rintro e w8 ⟨rfl, hb8, hq8⟩
      have HBE := Lib.hid (HB6.out.trans hb8)
      clear SM hb8
      cases hrun : Ps.run [] [] [] [] r with
      | error x =>
        obtain ⟨p, c⟩ := x
        rw [hrun] at hq8
        obtain ⟨lvE, ovE, svE, tvE, hrE, hcE⟩ := hq8
        have hall := HALL.out
        rw [hrun] at hall
        rcases hcE with rfl | rfl
        · have HA := Lib.hid (⟨hall, by decide⟩ : _ ∧ (20 : Nat) ≠ 0)
          have HRE : Hid (RB w8 g lvE ovE md svE tvE p 20) := Lib.hid hrE
          clear hall hrE hrun
          have c6 := HRE.out.c6
          have c5 := HRE.out.c5
          have hzE := HZ.out.below HBE.out (by omega)
          have zc0 := hzE.cell (i := 0) rfl
          have zc1 := hzE.cell (i := 1) rfl
          have zc2 := hzE.cell (i := 2) rfl
          have zf0 := hzE.fr 0
          have zf1 := hzE.fr 1
          have zf2 := hzE.fr 2
          have HSET := Lib.hid (hzE.set (vs := [.int .i64 0, .slice none 0 0, .slice none 0 0]) rfl)
          have HBL := Lib.hid (below_setN w.heap.size [.int .i64 0, .slice none 0 0, .slice none 0 0] 0 (Nat.le_refl _) (HBT.out.trans (HBE.out.mono (by omega))))
          have hgz : w.heap.size ≠ g := by omega
          have hs5E : (setN w8 w.heap.size 0 [.int .i64 0, .slice none 0 0, .slice none 0 0]).cell? ⟨g, 5, none⟩ = some (.int .i64 (p : Int)) ∧ (setN w8 w.heap.size 0 [.int .i64 0, .slice none 0 0, .slice none 0 0]).cell? ⟨g, 6, none⟩ = some (.int .i64 20) := ⟨(World.cell?_of_block (a := ⟨g, 5, none⟩) (setN_other (fun e => hgz e.symm) _ _)).trans c5, (World.cell?_of_block (a := ⟨g, 6, none⟩) (setN_other (fun e => hgz e.symm) _ _)).trans c6⟩
          have hs0 : w8.drew.cell? ⟨g, 5, none⟩ = some (.int .i64 (p : Int)) ∧ w8.drew.cell? ⟨g, 6, none⟩ = some (.int .i64 20) := ⟨c5, c6⟩
          clear hzE
          go_wp2
          refine wp_region_held_drew (S := fun w' => w'.cell? ⟨g, 5, none⟩ = some (.int .i64 (p : Int)) ∧ w'.cell? ⟨g, 6, none⟩ = some (.int .i64 20)) (by kernel_rfl) hs0 (fun hH => ?_)
          have zd0 : w8.drew.cell? ⟨w.heap.size, 0, none⟩ = some _ := zc0
          have zd1 : w8.drew.cell? ⟨w.heap.size, 1, none⟩ = some _ := zc1
          have zd2 : w8.drew.cell? ⟨w.heap.size, 2, none⟩ = some _ := zc2
          have ze0 : w8.drew.frozen? ⟨w.heap.size, 0, none⟩ = false := zf0
          have ze1 : w8.drew.frozen? ⟨w.heap.size, 1, none⟩ = false := zf1
          have ze2 : w8.drew.frozen? ⟨w.heap.size, 2, none⟩ = false := zf2
          have HSETD : Hid (H3 (setN w8.drew w.heap.size 0 [.int .i64 0, .slice none 0 0, .slice none 0 0]) w.heap.size [.int .i64 0, .slice none 0 0, .slice none 0 0]) := Lib.hid (H3.set (us := [.int .i64 0, .slice none 0 0, .slice none 0 0]) (HZ.out.below (show Below B T w8.drew from ⟨HBE.out.os, HBE.out.tape, HBE.out.output, HBE.out.size, HBE.out.block⟩) (by omega)) rfl)
          have HBLD := Lib.hid (below_setN w.heap.size [.int .i64 0, .slice none 0 0, .slice none 0 0] 0 (Nat.le_refl _) (show Below w.heap.size w w8.drew from (HBT.out.trans (Below.mono (show Below B T w8.drew from ⟨HBE.out.os, HBE.out.tape, HBE.out.output, HBE.out.size, HBE.out.block⟩) (by omega)))))
          have hs5D : (setN w8.drew w.heap.size 0 [.int .i64 0, .slice none 0 0, .slice none 0 0]).cell? ⟨g, 5, none⟩ = some (.int .i64 (p : Int)) ∧ (setN w8.drew w.heap.size 0 [.int .i64 0, .slice none 0 0, .slice none 0 0]).cell? ⟨g, 6, none⟩ = some (.int .i64 20) := ⟨(World.cell?_of_block (a := ⟨g, 5, none⟩) (setN_other (fun e => hgz e.symm) _ _)).trans hs0.1, (World.cell?_of_block (a := ⟨g, 6, none⟩) (setN_other (fun e => hgz e.symm) _ _)).trans hs0.2⟩
          generalize w8.drew = wd at *
          refine heldTake (i := 0) (v := ?_) rfl (by kernel_rfl) (by kernel_rfl) (fun _ _ _ h => h) (by rfl) (by assumption) (fun w hSw => ?_) ?_; rotate_left; focus ((try dsimp only at hSw); go_simp; try with_reducible rfl)
          try simp only [Act.put, List.setIfInBounds_toArray, List.set_cons_zero, List.set_cons_succ]
          refine heldTake (i := 1) (v := ?_) rfl (by kernel_rfl) (by kernel_rfl) (fun _ _ _ h => h) (by rfl) (by assumption) (fun w hSw => ?_) ?_; rotate_left; focus ((try dsimp only at hSw); go_simp; try with_reducible rfl)
          try simp only [Act.put, List.setIfInBounds_toArray, List.set_cons_zero, List.set_cons_succ]
          refine heldTake (i := 2) (v := ?_) rfl (by kernel_rfl) (by kernel_rfl) (fun _ _ _ h => h) (by rfl) (by assumption) (fun w hSw => ?_) ?_; rotate_left; focus ((try dsimp only at hSw); go_simp; try with_reducible rfl)
          try simp only [Act.put, List.setIfInBounds_toArray, List.set_cons_zero, List.set_cons_succ]
          refine heldTake (i := 3) (v := ?_) rfl (by kernel_rfl) (by kernel_rfl) (fun _ _ _ h => h) (by rfl) (by assumption) (fun w hSw => ?_) ?_; rotate_left; focus ((try dsimp only at hSw); go_simp; try with_reducible rfl)
          try simp only [Act.put, List.setIfInBounds_toArray, List.set_cons_zero, List.set_cons_succ]
          refine heldTake (i := 4) (v := ?_) rfl (by kernel_rfl) (by kernel_rfl) (fun _ _ _ h => h) (by rfl) (by assumption) (fun w hSw => ?_) ?_; rotate_left; focus ((try dsimp only at hSw); go_simp; try with_reducible rfl)
          try simp only [Act.put, List.setIfInBounds_toArray, List.set_cons_zero, List.set_cons_succ]
          -- NEXT 5 Op.store 27 (Operand.tmp 2) (Operand.tmp 39)
          refine heldNext (i := 5) rfl (by kernel_rfl) (by rfl) (fun K hK => ?_)
          go_simp; refine hK.out _ (setN wd w.heap.size 0 [.int .i64 0, .slice none 0 0, .slice none 0 0]) hs5D ?_; clear hK K
          try simp only [Act.put, List.setIfInBounds_toArray, List.set_cons_zero, List.set_cons_succ]
          refine heldTake (i := 6) (v := ?_) rfl (by kernel_rfl) (by kernel_rfl) (fun _ _ _ h => h) (by rfl) (by assumption) (fun w hSw => ?_) ?_; rotate_left; focus ((try dsimp only at hSw); go_simp; try with_reducible rfl)
          try simp only [Act.put, List.setIfInBounds_toArray, List.set_cons_zero, List.set_cons_succ]
          refine heldTake (i := 7) (v := ?_) rfl (by kernel_rfl) (by kernel_rfl) (fun _ _ _ h => h) (by rfl) (by assumption) (fun w hSw => ?_) ?_; rotate_left; focus ((try dsimp only at hSw); go_simp; try with_reducible rfl)
          try simp only [Act.put, List.setIfInBounds_toArray, List.set_cons_zero, List.set_cons_succ]
          refine wpAnyH_done (by kernel_rfl) ?_ _
          skip
          simp only [Exit.then]
          go_wp2
          have hset := HSETD.out
          have hbl := HBLD.out
          generalize setN wd w.heap.size 0 [.int .i64 0, .slice none 0 0, .slice none 0 0] = W at hset hbl ⊢
          have r0 := hset.cell (i := 0) rfl
          have r1 := hset.cell (i := 1) rfl
          have r2 := hset.cell (i := 2) rfl
          refine bodyPost_ret (v := .tuple #[.agg #[.int .i64 0, .slice none 0 0, .slice none 0 0], .int .i64 (p : Int), .int .i64 20]) (by simp [results, Tryd.results11, go_sem, r0, r1, r2]) rfl ?_
          unfold PAllP
          rw [HA.out.1]
          exact ⟨hbl, rfl, HA.out.2⟩
        · have HA := Lib.hid (⟨hall, by decide⟩ : _ ∧ (21 : Nat) ≠ 0)
          have HRE : Hid (RB w8 g lvE ovE md svE tvE p 21) := Lib.hid hrE
          clear hall hrE hrun
          have c6 := HRE.out.c6
          have c5 := HRE.out.c5
          have hzE := HZ.out.below HBE.out (by omega)
          have zc0 := hzE.cell (i := 0) rfl
          have zc1 := hzE.cell (i := 1) rfl
          have zc2 := hzE.cell (i := 2) rfl
          have zf0 := hzE.fr 0
          have zf1 := hzE.fr 1
          have zf2 := hzE.fr 2
          have HSET := Lib.hid (hzE.set (vs := [.int .i64 0, .slice none 0 0, .slice none 0 0]) rfl)
          have HBL := Lib.hid (below_setN w.heap.size [.int .i64 0, .slice none 0 0, .slice none 0 0] 0 (Nat.le_refl _) (HBT.out.trans (HBE.out.mono (by omega))))
          have hgz : w.heap.size ≠ g := by omega
          have hs5E : (setN w8 w.heap.size 0 [.int .i64 0, .slice none 0 0, .slice none 0 0]).cell? ⟨g, 5, none⟩ = some (.int .i64 (p : Int)) ∧ (setN w8 w.heap.size 0 [.int .i64 0, .slice none 0 0, .slice none 0 0]).cell? ⟨g, 6, none⟩ = some (.int .i64 21) := ⟨(World.cell?_of_block (a := ⟨g, 5, none⟩) (setN_other (fun e => hgz e.symm) _ _)).trans c5, (World.cell?_of_block (a := ⟨g, 6, none⟩) (setN_other (fun e => hgz e.symm) _ _)).trans c6⟩
          have hs0 : w8.drew.cell? ⟨g, 5, none⟩ = some (.int .i64 (p : Int)) ∧ w8.drew.cell? ⟨g, 6, none⟩ = some (.int .i64 21) := ⟨c5, c6⟩
          clear hzE
          go_wp2
          refine wp_region_held_drew (S := fun w' => w'.cell? ⟨g, 5, none⟩ = some (.int .i64 (p : Int)) ∧ w'.cell? ⟨g, 6, none⟩ = some (.int .i64 21)) (by kernel_rfl) hs0 (fun hH => ?_)
          have zd0 : w8.drew.cell? ⟨w.heap.size, 0, none⟩ = some _ := zc0
          have zd1 : w8.drew.cell? ⟨w.heap.size, 1, none⟩ = some _ := zc1
          have zd2 : w8.drew.cell? ⟨w.heap.size, 2, none⟩ = some _ := zc2
          have ze0 : w8.drew.frozen? ⟨w.heap.size, 0, none⟩ = false := zf0
          have ze1 : w8.drew.frozen? ⟨w.heap.size, 1, none⟩ = false := zf1
          have ze2 : w8.drew.frozen? ⟨w.heap.size, 2, none⟩ = false := zf2
          have HSETD : Hid (H3 (setN w8.drew w.heap.size 0 [.int .i64 0, .slice none 0 0, .slice none 0 0]) w.heap.size [.int .i64 0, .slice none 0 0, .slice none 0 0]) := Lib.hid (H3.set (us := [.int .i64 0, .slice none 0 0, .slice none 0 0]) (HZ.out.below (show Below B T w8.drew from ⟨HBE.out.os, HBE.out.tape, HBE.out.output, HBE.out.size, HBE.out.block⟩) (by omega)) rfl)
          have HBLD := Lib.hid (below_setN w.heap.size [.int .i64 0, .slice none 0 0, .slice none 0 0] 0 (Nat.le_refl _) (show Below w.heap.size w w8.drew from (HBT.out.trans (Below.mono (show Below B T w8.drew from ⟨HBE.out.os, HBE.out.tape, HBE.out.output, HBE.out.size, HBE.out.block⟩) (by omega)))))
          have hs5D : (setN w8.drew w.heap.size 0 [.int .i64 0, .slice none 0 0, .slice none 0 0]).cell? ⟨g, 5, none⟩ = some (.int .i64 (p : Int)) ∧ (setN w8.drew w.heap.size 0 [.int .i64 0, .slice none 0 0, .slice none 0 0]).cell? ⟨g, 6, none⟩ = some (.int .i64 21) := ⟨(World.cell?_of_block (a := ⟨g, 5, none⟩) (setN_other (fun e => hgz e.symm) _ _)).trans hs0.1, (World.cell?_of_block (a := ⟨g, 6, none⟩) (setN_other (fun e => hgz e.symm) _ _)).trans hs0.2⟩
          generalize w8.drew = wd at *
          refine heldTake (i := 0) (v := ?_) rfl (by kernel_rfl) (by kernel_rfl) (fun _ _ _ h => h) (by rfl) (by assumption) (fun w hSw => ?_) ?_; rotate_left; focus ((try dsimp only at hSw); go_simp; try with_reducible rfl)
          try simp only [Act.put, List.setIfInBounds_toArray, List.set_cons_zero, List.set_cons_succ]
          refine heldTake (i := 1) (v := ?_) rfl (by kernel_rfl) (by kernel_rfl) (fun _ _ _ h => h) (by rfl) (by assumption) (fun w hSw => ?_) ?_; rotate_left; focus ((try dsimp only at hSw); go_simp; try with_reducible rfl)
          try simp only [Act.put, List.setIfInBounds_toArray, List.set_cons_zero, List.set_cons_succ]
          refine heldTake (i := 2) (v := ?_) rfl (by kernel_rfl) (by kernel_rfl) (fun _ _ _ h => h) (by rfl) (by assumption) (fun w hSw => ?_) ?_; rotate_left; focus ((try dsimp only at hSw); go_simp; try with_reducible rfl)
          try simp only [Act.put, List.setIfInBounds_toArray, List.set_cons_zero, List.set_cons_succ]
          refine heldTake (i := 3) (v := ?_) rfl (by kernel_rfl) (by kernel_rfl) (fun _ _ _ h => h) (by rfl) (by assumption) (fun w hSw => ?_) ?_; rotate_left; focus ((try dsimp only at hSw); go_simp; try with_reducible rfl)
          try simp only [Act.put, List.setIfInBounds_toArray, List.set_cons_zero, List.set_cons_succ]
          refine heldTake (i := 4) (v := ?_) rfl (by kernel_rfl) (by kernel_rfl) (fun _ _ _ h => h) (by rfl) (by assumption) (fun w hSw => ?_) ?_; rotate_left; focus ((try dsimp only at hSw); go_simp; try with_reducible rfl)
          try simp only [Act.put, List.setIfInBounds_toArray, List.set_cons_zero, List.set_cons_succ]
          -- NEXT 5 Op.store 27 (Operand.tmp 2) (Operand.tmp 39)
          refine heldNext (i := 5) rfl (by kernel_rfl) (by rfl) (fun K hK => ?_)
          go_simp; refine hK.out _ (setN wd w.heap.size 0 [.int .i64 0, .slice none 0 0, .slice none 0 0]) hs5D ?_; clear hK K
          try simp only [Act.put, List.setIfInBounds_toArray, List.set_cons_zero, List.set_cons_succ]
          refine heldTake (i := 6) (v := ?_) rfl (by kernel_rfl) (by kernel_rfl) (fun _ _ _ h => h) (by rfl) (by assumption) (fun w hSw => ?_) ?_; rotate_left; focus ((try dsimp only at hSw); go_simp; try with_reducible rfl)
          try simp only [Act.put, List.setIfInBounds_toArray, List.set_cons_zero, List.set_cons_succ]
          refine heldTake (i := 7) (v := ?_) rfl (by kernel_rfl) (by kernel_rfl) (fun _ _ _ h => h) (by rfl) (by assumption) (fun w hSw => ?_) ?_; rotate_left; focus ((try dsimp only at hSw); go_simp; try with_reducible rfl)
          try simp only [Act.put, List.setIfInBounds_toArray, List.set_cons_zero, List.set_cons_succ]
          refine wpAnyH_done (by kernel_rfl) ?_ _
          skip
          simp only [Exit.then]
          go_wp2
          have hset := HSETD.out
          have hbl := HBLD.out
          generalize setN wd w.heap.size 0 [.int .i64 0, .slice none 0 0, .slice none 0 0] = W at hset hbl ⊢
          have r0 := hset.cell (i := 0) rfl
          have r1 := hset.cell (i := 1) rfl
          have r2 := hset.cell (i := 2) rfl
          refine bodyPost_ret (v := .tuple #[.agg #[.int .i64 0, .slice none 0 0, .slice none 0 0], .int .i64 (p : Int), .int .i64 21]) (by simp [results, Tryd.results11, go_sem, r0, r1, r2]) rfl ?_
          unfold PAllP
          rw [HA.out.1]
          exact ⟨hbl, rfl, HA.out.2⟩
      | ok x =>
        obtain ⟨row, top⟩ := x
        rw [hrun] at hq8
        obtain ⟨b8, q8, lv8, ov8, sv8, tv8, ts8, cs8, hP8, hrow⟩ := hq8
        obtain ⟨so, sc, hsv⟩ := own_form9 hP8.os
        obtain ⟨tvo, tvc, htv⟩ := IR.len hP8.tp
        subst hsv htv
        have c6 : w8.cell? ⟨g, 6, none⟩ = some (.int .i64 0) := hP8.rb.c6
        have c2 := hP8.rb.c2
        have c3 := hP8.rb.c3
        have c4 := hP8.rb.c4
        have hrd8 := hP8.read
        rw [hrow] at hrd8
        have hlen : row.length = cs8.length := by rw [← hrow]; unfold rowOf; rw [List.length_map]
        have hall := HALL.out
        rw [hrun] at hall
        dsimp only at hall
        rw [hlen] at hall
        generalize cs8.length = N8 at *
        generalize top.length = M8 at *
        have hzE := HZ.out.below HBE.out (by omega)
        have zc0 := hzE.cell (i := 0) rfl
        have zc1 := hzE.cell (i := 1) rfl
        have zc2 := hzE.cell (i := 2) rfl
        have zf0 := hzE.fr 0
        have zf1 := hzE.fr 1
        have zf2 := hzE.fr 2
        by_cases hbig : 100 < N8
        · have b1 : (100 : Int) < (N8 : Int) := by omega
          rw [if_pos hbig] at hall
          have HA := Lib.hid hall
          have HSET := Lib.hid (hzE.set (vs := [.int .i64 0, .slice none 0 0, .slice none 0 0]) rfl)
          have HBL := Lib.hid (below_setN w.heap.size [.int .i64 0, .slice none 0 0, .slice none 0 0] 0 (Nat.le_refl _) (HBT.out.trans (HBE.out.mono (by omega))))
          clear hzE hall hrd8 hP8 hrow hlen hbig hrun
          go_wp2
          change bodyPost _ _ _ _ _ (setN w8 w.heap.size 0 [.int .i64 0, .slice none 0 0, .slice none 0 0])
          have hset := HSET.out
          have hbl := HBL.out
          generalize setN w8 w.heap.size 0 [.int .i64 0, .slice none 0 0, .slice none 0 0] = W at hset hbl ⊢
          have r0 := hset.cell (i := 0) rfl
          have r1 := hset.cell (i := 1) rfl
          have r2 := hset.cell (i := 2) rfl
          refine bodyPost_ret (v := .tuple #[.agg #[.int .i64 0, .slice none 0 0, .slice none 0 0], .int .i64 0, .int .i64 4]) (by simp [results, Tryd.results11, go_sem, r0, r1, r2]) rfl ?_
          unfold PAllP
          rw [HA.out]
          exact ⟨hbl, rfl, by decide⟩
        · have b1 : ((100 : Int) < (N8 : Int)) = False := eq_false (by omega)
          rw [if_neg hbig] at hall
          have HA := Lib.hid hall
          have hrd9 : PR B (setN w8 w.heap.size 0 [.int .i64 (md : Int), .slice so N8 sc, .slice tvo M8 tvc]) (.slice so N8 sc) (.slice tvo M8 tvc) row top := hrd8.past (fun k hk => setN_other (show k ≠ w.heap.size by omega) _ _)
          have HRD := Lib.hid hrd9
          have HSET := Lib.hid (hzE.set (vs := [.int .i64 (md : Int), .slice so N8 sc, .slice tvo M8 tvc]) rfl)
          have HBL := Lib.hid (below_setN w.heap.size [.int .i64 (md : Int), .slice so N8 sc, .slice tvo M8 tvc] 0 (Nat.le_refl _) (HBT.out.trans (HBE.out.mono (by omega))))
          clear hzE hall hrd8 hrd9 hP8 hrow hlen hbig hrun
          go_wp2
          change bodyPost _ _ _ _ _ (setN w8 w.heap.size 0 [.int .i64 (md : Int), .slice so N8 sc, .slice tvo M8 tvc])
          have hset := HSET.out
          have hbl := HBL.out
          have hpr := HRD.out
          generalize setN w8 w.heap.size 0 [.int .i64 (md : Int), .slice so N8 sc, .slice tvo M8 tvc] = W at hset hbl hpr ⊢
          have r0 := hset.cell (i := 0) rfl
          have r1 := hset.cell (i := 1) rfl
          have r2 := hset.cell (i := 2) rfl
          refine bodyPost_ret (v := .tuple #[.agg #[.int .i64 (md : Int), .slice so N8 sc, .slice tvo M8 tvc], .int .i64 0, .int .i64 0]) (by simp [results, Tryd.results11, go_sem, r0, r1, r2]) rfl ?_
          unfold PAllP
          rw [HA.out]
          exact ⟨hbl, _, _, rfl, hpr.lower (by omega)⟩
end Go.Proofs.YtiikionoagmabaaDoor
