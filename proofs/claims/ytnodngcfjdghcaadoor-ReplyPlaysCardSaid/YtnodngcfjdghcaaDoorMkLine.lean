/- A maker's Line walked. -/
import Derived.Test.YtnodngcfjdghcaaDoorMkStep
import Derived.Deep.CutRange
namespace Go.Proofs.YtnodngcfjdghcaaDoor
open Go.RowKit

/-- What is told lies apart from what the maker holds then. -/
def Td (w : World) (F F' : Nat → Prop) (n : Nat) (v : Value) (vs : List Value) : Prop := Rd w v vs ∧ ∀ k, v.ownBlock = some k → (F k ∨ n ≤ k) ∧ k < w.heap.size ∧ ¬ F' k
/-- What Line does. -/
def LnP (w : World) (B g : Nat) (F : Nat → Prop) (p : Int) (o : Rp.Out) (e : Ending) (w' : World) : Prop :=
  ∃ F' lv bo, e = .returned (.tuple #[.agg #[.string (ba (Rp.outRe o).code), lv, bo], .bool (Rp.outDone o), .int .i64 (Rp.outErr o : Int)]) ∧ MO w' B g F' p (Rp.outSt o) ∧ Trn F w w' ∧ Fx F F' w.heap.size ∧
    Td w' F F' w.heap.size lv ((Rp.outRe o).lines.map sv) ∧ Td w' F F' w.heap.size bo ((Rp.outRe o).body.map bv)
theorem Td.nil (w : World) (F F' : Nat → Prop) (n : Nat) : Td w F F' n (.slice none 0 0) [] := ⟨.inl ⟨rfl, none, 0, fun _ => rfl, rfl⟩, fun k hk => by cases hk⟩

/-- All cells stored: a fresh maker. -/
def wiped (w : World) (g : Nat) (p : Int) : World := (((((w.setCell ⟨g, 0, none⟩ (.int .i64 p)).setCell ⟨g, 1, none⟩ (.string ⟨#[]⟩)).setCell ⟨g, 2, none⟩ (.slice none 0 0)).setCell ⟨g, 3, none⟩ (.slice none 0 0)).setCell ⟨g, 4, none⟩ (.pointer none)).setCell ⟨g, 5, none⟩ .nilFunc
section
variable {w w' : World} {g : Nat} {p : Int} {c : ByteArray} {lv bo bp tk : Value}
theorem wiped_mk (h : MkC w g p c lv bo bp tk) : MkC (wiped w g p) g p ⟨#[]⟩ (.slice none 0 0) (.slice none 0 0) (.pointer none) .nilFunc :=
  by unfold wiped; exact (((((h.set0 p).set1 ⟨#[]⟩).set2 (.slice none 0 0)).set3 (.slice none 0 0)).set4 (.pointer none)).set5 .nilFunc
theorem wiped_block (w : World) (g : Nat) (p : Int) {k : Nat} (h : k ≠ g) : (wiped w g p).heap[k]? = w.heap[k]? := by
  unfold wiped
  rw [Below.heap_setCell _ _ _ _ h, Below.heap_setCell _ _ _ _ h, Below.heap_setCell _ _ _ _ h, Below.heap_setCell _ _ _ _ h, Below.heap_setCell _ _ _ _ h, Below.heap_setCell _ _ _ _ h]
theorem wiped_trn (w : World) (g : Nat) (p : Int) {F : Nat → Prop} (hg : F g) : Trn F w (wiped w g p) := by
  unfold wiped
  exact ((((((Trn.refl F w).setCell hg _).setCell hg _).setCell hg _).setCell hg _).setCell hg _).setCell hg _
theorem wiped_size (w : World) (g : Nat) (p : Int) : (wiped w g p).heap.size = w.heap.size := by simp [wiped, World.setCell]
end
/-- A reply in a block of its own. -/
def Rb (w : World) (b : Nat) (c : ByteArray) (lv bo : Value) : Prop := w.heap[b]? = some (.cells #[.string c, lv, bo] 30 (0, 0))
section
variable {w w' : World} {b : Nat} {c : ByteArray} {lv bo : Value}
theorem Rb.c0 (h : Rb w b c lv bo) : w.cell? ⟨b, 0, none⟩ = some (.string c) := cell_of_row _ _ _ _ _ _ h
theorem Rb.c1 (h : Rb w b c lv bo) : w.cell? ⟨b, 1, none⟩ = some lv := cell_of_row _ _ _ _ _ _ h
theorem Rb.c2 (h : Rb w b c lv bo) : w.cell? ⟨b, 2, none⟩ = some bo := cell_of_row _ _ _ _ _ _ h
theorem Rb.fr (h : Rb w b c lv bo) (i : Nat) : w.frozen? ⟨b, i, none⟩ = false := frozen_of_row _ _ _ _ _ h
theorem Rb.lt (h : Rb w b c lv bo) : b < w.heap.size := (Array.getElem?_eq_some_iff.1 h).1
theorem Rb.same (h : Rb w b c lv bo) (e : w'.heap[b]? = w.heap[b]?) : Rb w' b c lv bo := e.trans h
theorem Rb.set0 (h : Rb w b c lv bo) (c' : ByteArray) : Rb (w.setCell ⟨b, 0, none⟩ (.string c')) b c' lv bo := setCell_row h
theorem Rb.set1 (h : Rb w b c lv bo) (u : Value) : Rb (w.setCell ⟨b, 1, none⟩ u) b c u bo := setCell_row h
theorem Rb.set2 (h : Rb w b c lv bo) (u : Value) : Rb (w.setCell ⟨b, 2, none⟩ u) b c lv u := setCell_row h
theorem Rb.set (h : Rb w b c lv bo) (c' : ByteArray) (lv' bo' : Value) : Rb (((w.setCell ⟨b, 0, none⟩ (.string c')).setCell ⟨b, 1, none⟩ lv').setCell ⟨b, 2, none⟩ bo') b c' lv' bo' :=
  ((h.set0 c').set1 lv').set2 bo'
theorem trn_set3 {w : World} {F : Nat → Prop} (h : Trn F w w') (hb : w.heap.size ≤ b) (u0 u1 u2 : Value) : Trn F w (((w'.setCell ⟨b, 0, none⟩ u0).setCell ⟨b, 1, none⟩ u1).setCell ⟨b, 2, none⟩ u2) :=
  ⟨h.os, h.tape, h.output, by simpa [World.setCell] using h.size, fun k hk h1 => by
    have hn : k ≠ b := by omega
    rw [Below.heap_setCell _ _ _ _ hn, Below.heap_setCell _ _ _ _ hn, Below.heap_setCell _ _ _ _ hn]
    exact h.block k hk h1⟩
theorem Trn.set3_one (w : World) (b : Nat) (u0 u1 u2 : Value) : Trn (fun k => k = b) w (((w.setCell ⟨b, 0, none⟩ u0).setCell ⟨b, 1, none⟩ u1).setCell ⟨b, 2, none⟩ u2) :=
  ⟨rfl, rfl, rfl, by simp [World.setCell], fun k _ hn => by rw [Below.heap_setCell _ _ _ _ hn, Below.heap_setCell _ _ _ _ hn, Below.heap_setCell _ _ _ _ hn]⟩
end

set_option maxHeartbeats 4000000 in
theorem mline_first_more {w : World} {B g : Nat} {F : Nat → Prop} {p : Int} (h : MO w B g F p none) (s : List UInt8) (hs : s.length ≤ 1000000) (body : Bool) (hB : B ≤ w.heap.size) {m' : Rp.Mid} (ho : Rp.first p s body = .inl m') :
    Calls Tryd.prog 12 #[.pointer (some ⟨g, 0, none⟩), .string (ba s), .bool body] w (LnP w B g F p (.inl m')) := by
  have hal := (Below.refl w.heap.size w).alloc (Nat.le_refl _) (.cells #[.string ⟨#[]⟩, .slice none 0 0, .slice none 0 0] 30)
  have h0 := h.next hal
  have hrb : Rb (w.alloc (.cells #[.string ⟨#[]⟩, .slice none 0 0, .slice none 0 0] 30)) w.heap.size ⟨#[]⟩ (.slice none 0 0) (.slice none 0 0) := World.alloc_heap_new w _
  have hFr : ¬ F w.heap.size := fun e => by have := (h.lt _ e).2; omega
  have CG := Lib.hid (begin_step h0 (Nat.le_trans hB hal.size) s (by omega) body)
  have CB := Lib.hid (mbusy_no (show MkC _ g p _ _ _ _ _ from h0.c))
  have c5 := MkC.c5 (show MkC _ g p _ _ _ _ _ from h0.c)
  rw [ho] at CG
  have HH := Lib.hid h
  have HFR := Lib.hid hFr
  have HAL := Lib.hid hal
  have HRB := Lib.hid hrb
  clear h h0 hFr hal hrb ho
  obtain ⟨w0, hw0⟩ : ∃ w0, w0 = w.alloc (.cells #[.string ⟨#[]⟩, .slice none 0 0, .slice none 0 0] 30) := ⟨_, rfl⟩
  have HW0 := Lib.hid hw0
  clear hw0
  go_enter Tryd.func12, Tryd.ntmps12
  go_wp2_with fail
  refine CB.out.mono ?_
  rintro e wx ⟨rfl, hwx⟩
  rw [← hwx]
  clear hwx CB
  go_wp2_with fail
  refine CG.out.mono ?_
  rintro e w1 ⟨wh, F1, c, lv, bo, bp, tk, rfl, hT, hX, hF1, hL1, hC, ⟨lo, ln, lc, rfl⟩, ⟨oo, on, oc, rfl⟩, hz⟩
  have hrb1 : Rb w1 w.heap.size ⟨#[]⟩ (.slice none 0 0) (.slice none 0 0) := HRB.out.same (hT.block _ HRB.out.lt HFR.out)
  have hFr1 : ¬ F1 w.heap.size := fun e => by
    rcases hX _ e with e | e
    · exact HFR.out e
    · have := HRB.out.lt; omega
  have HFR1 := Lib.hid hFr1
  have hTw := (Trn.of_below HAL.out).then hT
  have hXw := hX.lower HAL.out.size
  have hrlt := HRB.out.lt
  have HAL2 : w.heap.size + 1 = (w.alloc (.cells #[.string ⟨#[]⟩, .slice none 0 0, .slice none 0 0] 30)).heap.size := (World.size_alloc _ _).symm
  clear CG HAL hFr1
  obtain ⟨rfl, hl, hI⟩ := hz rfl
  have z0 := hrb1.c0
  have z1 := hrb1.c1
  have z2 := hrb1.c2
  have y0 := hrb1.fr 0
  have y1 := hrb1.fr 1
  have y2 := hrb1.fr 2
  have HRB1 := Lib.hid hrb1
  have HT := Lib.hid hTw
  have HX := Lib.hid hXw
  have HI := Lib.hid hI
  have HF1 := Lib.hid hF1
  have HL1 := Lib.hid hL1
  clear hrb1 hTw hXw hI hF1 hL1 hT hX hz hl hC c5
  simp only [Rp.outErr, Rp.outDone]
  go_wp2
  clear z0 z1 z2 y0 y1 y2
  have hr2 := HRB1.out.set ⟨#[]⟩ (.slice none 0 0) (.slice none 0 0)
  have hT2 := trn_set3 HT.out (Nat.le_refl _) (.string ⟨#[]⟩) (.slice none 0 0) (.slice none 0 0)
  have hFr1 := HFR1.out
  refine bodyPost_ret (v := .tuple #[.agg #[.string ⟨#[]⟩, .slice none 0 0, .slice none 0 0], .bool false, .int .i64 0]) (by
    have d0 := hr2.c0
    have d1 := hr2.c1
    have d2 := hr2.c2
    generalize World.setCell _ _ _ = wz at d0 d1 d2 ⊢
    simp [results, Tryd.f12, go_sem, d0, d1, d2]) rfl ?_
  refine ⟨F1, .slice none 0 0, .slice none 0 0, rfl, ?_, hT2, HX.out, Td.nil _ _ _ _, Td.nil _ _ _ _⟩
  exact MO.past (G := fun k => k = w.heap.size) (show MO w1 B g F1 p (some m') from ⟨HF1.out, HL1.out, _, _, _, HI.out⟩) (Trn.set3_one w1 _ _ _ _) (fun k hk e => hFr1 (e ▸ hk))
set_option maxHeartbeats 4000000 in
theorem mline_first_whole {w : World} {B g : Nat} {F : Nat → Prop} {p : Int} (h : MO w B g F p none) (s : List UInt8) (hs : s.length ≤ 1000000) (body : Bool) (hB : B ≤ w.heap.size) {r : Rp.Re} (ho : Rp.first p s body = .inr (.inl r)) :
    Calls Tryd.prog 12 #[.pointer (some ⟨g, 0, none⟩), .string (ba s), .bool body] w (LnP w B g F p (.inr (.inl r))) := by
  have hal := (Below.refl w.heap.size w).alloc (Nat.le_refl _) (.cells #[.string ⟨#[]⟩, .slice none 0 0, .slice none 0 0] 30)
  have h0 := h.next hal
  have hrb : Rb (w.alloc (.cells #[.string ⟨#[]⟩, .slice none 0 0, .slice none 0 0] 30)) w.heap.size ⟨#[]⟩ (.slice none 0 0) (.slice none 0 0) := World.alloc_heap_new w _
  have hFr : ¬ F w.heap.size := fun e => by have := (h.lt _ e).2; omega
  have CG := Lib.hid (begin_step h0 (Nat.le_trans hB hal.size) s (by omega) body)
  have CB := Lib.hid (mbusy_no (show MkC _ g p _ _ _ _ _ from h0.c))
  have c5 := MkC.c5 (show MkC _ g p _ _ _ _ _ from h0.c)
  rw [ho] at CG
  have HH := Lib.hid h
  have HFR := Lib.hid hFr
  have HAL := Lib.hid hal
  have HRB := Lib.hid hrb
  clear h h0 hFr hal hrb ho
  obtain ⟨w0, hw0⟩ : ∃ w0, w0 = w.alloc (.cells #[.string ⟨#[]⟩, .slice none 0 0, .slice none 0 0] 30) := ⟨_, rfl⟩
  have HW0 := Lib.hid hw0
  clear hw0
  go_enter Tryd.func12, Tryd.ntmps12
  go_wp2_with fail
  refine CB.out.mono ?_
  rintro e wx ⟨rfl, hwx⟩
  rw [← hwx]
  clear hwx CB
  go_wp2_with fail
  refine CG.out.mono ?_
  rintro e w1 ⟨wh, F1, c, lv, bo, bp, tk, rfl, hT, hX, hF1, hL1, hC, ⟨lo, ln, lc, rfl⟩, ⟨oo, on, oc, rfl⟩, hz⟩
  have hrb1 : Rb w1 w.heap.size ⟨#[]⟩ (.slice none 0 0) (.slice none 0 0) := HRB.out.same (hT.block _ HRB.out.lt HFR.out)
  have hFr1 : ¬ F1 w.heap.size := fun e => by
    rcases hX _ e with e | e
    · exact HFR.out e
    · have := HRB.out.lt; omega
  have HFR1 := Lib.hid hFr1
  have hTw := (Trn.of_below HAL.out).then hT
  have hXw := hX.lower HAL.out.size
  have hrlt := HRB.out.lt
  have HAL2 : w.heap.size + 1 = (w.alloc (.cells #[.string ⟨#[]⟩, .slice none 0 0, .slice none 0 0] 30)).heap.size := (World.size_alloc _ _).symm
  clear CG HAL hFr1
  have hz := hz rfl
  have hCa := fun o => hC.next ((Below.refl w1.heap.size w1).alloc (Nat.le_refl _) o)
  have c0 := hC.c0
  have c1 := hC.c1
  have c2 := hC.c2
  have c3 := hC.c3
  have a0 := fun o => (hCa o).c0
  have a1 := fun o => (hCa o).c1
  have a2 := fun o => (hCa o).c2
  have a3 := fun o => (hCa o).c3
  have a4 := fun o => (hCa o).c4
  have a5 := fun o => (hCa o).c5
  have b0 := fun o => (hCa o).fr 0
  have b1 := fun o => (hCa o).fr 1
  have b2 := fun o => (hCa o).fr 2
  have b3 := fun o => (hCa o).fr 3
  have b4 := fun o => (hCa o).fr 4
  have b5 := fun o => (hCa o).fr 5
  have HC := Lib.hid hC
  have HRB1 := Lib.hid hrb1
  have HT := Lib.hid hTw
  have HX := Lib.hid hXw
  have HX1 := Lib.hid hX
  have HF1 := Lib.hid hF1
  have HL1 := Lib.hid hL1
  have HZ := Lib.hid hz
  clear hrb1 hTw hXw hF1 hL1 hT hX hz hC c5 hCa
  simp only [Rp.outErr]
  obtain ⟨rfl, hl2, rfl, r1, r2, r3⟩ : wh = true ∧ _ := HZ.out
  have HR1 := Lib.hid r1
  have HR2 := Lib.hid r2
  have HR3 := Lib.hid r3
  have HL2 := Lib.hid hl2
  clear r1 r2 r3 hl2 HZ
  go_upto_region 10 with fail
  change Code.wp _ _ _ _ (wiped (w1.alloc (.cells #[.string (ba r.code), .slice lo ln lc, .slice oo on oc] 30)) g p)
  have hg0 : g < w.heap.size := (HH.out.lt g HH.out.fg).2
  have hsz1 : w.heap.size < w1.heap.size := HRB1.out.lt
  have hM2 := wiped_mk (HC.out.next ((Below.refl w1.heap.size w1).alloc (Nat.le_refl _) (.cells #[.string (ba r.code), .slice lo ln lc, .slice oo on oc] 30)))
  have hT2 := (HT.out.alloc (.cells #[.string (ba r.code), .slice lo ln lc, .slice oo on oc] 30)).then (wiped_trn _ g p HH.out.fg)
  have hU2 := ((Trn.refl (fun k => k = g) w1).alloc (.cells #[.string (ba r.code), .slice lo ln lc, .slice oo on oc] 30)).then (wiped_trn _ g p rfl)
  have hr2 : Rb (wiped (w1.alloc (.cells #[.string (ba r.code), .slice lo ln lc, .slice oo on oc] 30)) g p) w.heap.size ⟨#[]⟩ (.slice none 0 0) (.slice none 0 0) := HRB1.out.same ((wiped_block _ g p (by omega)).trans (Below.heap_alloc _ _ _ hsz1))
  have ht2 : Rb (wiped (w1.alloc (.cells #[.string (ba r.code), .slice lo ln lc, .slice oo on oc] 30)) g p) w1.heap.size (ba r.code) (.slice lo ln lc) (.slice oo on oc) := (wiped_block _ g p (by omega)).trans (World.alloc_heap_new w1 _)
  clear c0 c1 c2 c3 a0 a1 a2 a3 a4 a5 b0 b1 b2 b3 b4 b5
  generalize wiped (w1.alloc (.cells #[.string (ba r.code), .slice lo ln lc, .slice oo on oc] 30)) g p = w2 at *
  have z0 := hr2.c0
  have z1 := hr2.c1
  have z2 := hr2.c2
  have y0 := hr2.fr 0
  have y1 := hr2.fr 1
  have y2 := hr2.fr 2
  have t0 := ht2.c0
  have t1 := ht2.c1
  have t2 := ht2.c2
  have HM2 := Lib.hid hM2
  have HT2 := Lib.hid hT2
  have HU2 := Lib.hid hU2
  have HRR := Lib.hid hr2
  clear hM2 hT2 hU2 hr2 ht2
  go_wp2
  clear z0 z1 z2 y0 y1 y2 t0 t1 t2
  have hr3 := HRR.out.set (ba r.code) (.slice lo ln lc) (.slice oo on oc)
  have hT3 := trn_set3 HT2.out (Nat.le_refl _) (.string (ba r.code)) (.slice lo ln lc) (.slice oo on oc)
  have hX3 := HU2.out
  refine bodyPost_ret (v := .tuple #[.agg #[.string (ba r.code), .slice lo ln lc, .slice oo on oc], .bool true, .int .i64 0]) (by
    have d0 := hr3.c0
    have d1 := hr3.c1
    have d2 := hr3.c2
    generalize World.setCell _ _ _ = wz at d0 d1 d2 ⊢
    simp [results, Tryd.f12, go_sem, d0, d1, d2]) rfl ?_
  have hsz2 := HU2.out.size
  refine ⟨fun k => k = g, .slice lo ln lc, .slice oo on oc, rfl, ?_, hT3, fun k hk => .inl (hk ▸ HH.out.fg), ?_, ?_⟩
  · exact MO.past (G := fun k => k = w.heap.size) (show MO w2 B g (fun k => k = g) p none from ⟨rfl, fun k hk => by subst hk; exact ⟨(HH.out.lt _ HH.out.fg).1, by omega⟩, HM2.out⟩) (Trn.set3_one w2 _ _ _ _) (fun k hk e => by have hk : k = g := hk; have e : k = w.heap.size := e; omega)
  · refine ⟨(Trn.set3_one w2 w.heap.size _ _ _).rd (HU2.out.rd HR1.out (fun k hk => (HL2.out k hk).2)) (fun k hk e => HFR1.out (by rw [← show k = w.heap.size from e]; exact (HL2.out k hk).1)), fun k hk => ⟨HX.out k (HL2.out k hk).1, ?_, (HL2.out k hk).2⟩⟩
    have := (HL1.out k (HL2.out k hk).1).2
    simp [World.setCell]
    omega
  · have h3 := HR3.out
    refine ⟨(Trn.set3_one w2 w.heap.size _ _ _).rd (HU2.out.rd HR2.out (fun k hk e => by have := (h3 k hk).1; have e : k = g := e; have := HAL2; omega)) (fun k hk e => by have := (h3 k hk).1; have e : k = w.heap.size := e; have := HAL2; omega), fun k hk => ⟨.inr (by have := (h3 k hk).1; have := HAL2; omega), ?_, fun e => by have := (h3 k hk).1; have e : k = g := e; have := HAL2; omega⟩⟩
    have := (h3 k hk).2
    simp [World.setCell]
    omega
set_option maxHeartbeats 4000000 in
theorem mline_first_err {w : World} {B g : Nat} {F : Nat → Prop} {p : Int} (h : MO w B g F p none) (s : List UInt8) (hs : s.length ≤ 1000000) (body : Bool) (hB : B ≤ w.heap.size) {er : Nat} (ho : Rp.first p s body = .inr (.inr er)) (he : er ≠ 0) :
    Calls Tryd.prog 12 #[.pointer (some ⟨g, 0, none⟩), .string (ba s), .bool body] w (LnP w B g F p (.inr (.inr er))) := by
  have hal := (Below.refl w.heap.size w).alloc (Nat.le_refl _) (.cells #[.string ⟨#[]⟩, .slice none 0 0, .slice none 0 0] 30)
  have h0 := h.next hal
  have hrb : Rb (w.alloc (.cells #[.string ⟨#[]⟩, .slice none 0 0, .slice none 0 0] 30)) w.heap.size ⟨#[]⟩ (.slice none 0 0) (.slice none 0 0) := World.alloc_heap_new w _
  have hFr : ¬ F w.heap.size := fun e => by have := (h.lt _ e).2; omega
  have CG := Lib.hid (begin_step h0 (Nat.le_trans hB hal.size) s (by omega) body)
  have CB := Lib.hid (mbusy_no (show MkC _ g p _ _ _ _ _ from h0.c))
  have c5 := MkC.c5 (show MkC _ g p _ _ _ _ _ from h0.c)
  rw [ho] at CG
  have HH := Lib.hid h
  have HFR := Lib.hid hFr
  have HAL := Lib.hid hal
  have HRB := Lib.hid hrb
  clear h h0 hFr hal hrb ho
  obtain ⟨w0, hw0⟩ : ∃ w0, w0 = w.alloc (.cells #[.string ⟨#[]⟩, .slice none 0 0, .slice none 0 0] 30) := ⟨_, rfl⟩
  have HW0 := Lib.hid hw0
  clear hw0
  go_enter Tryd.func12, Tryd.ntmps12
  go_wp2_with fail
  refine CB.out.mono ?_
  rintro e wx ⟨rfl, hwx⟩
  rw [← hwx]
  clear hwx CB
  go_wp2_with fail
  refine CG.out.mono ?_
  rintro e w1 ⟨wh, F1, c, lv, bo, bp, tk, rfl, hT, hX, hF1, hL1, hC, ⟨lo, ln, lc, rfl⟩, ⟨oo, on, oc, rfl⟩, hz⟩
  have hrb1 : Rb w1 w.heap.size ⟨#[]⟩ (.slice none 0 0) (.slice none 0 0) := HRB.out.same (hT.block _ HRB.out.lt HFR.out)
  have hFr1 : ¬ F1 w.heap.size := fun e => by
    rcases hX _ e with e | e
    · exact HFR.out e
    · have := HRB.out.lt; omega
  have HFR1 := Lib.hid hFr1
  have hTw := (Trn.of_below HAL.out).then hT
  have hXw := hX.lower HAL.out.size
  have hrlt := HRB.out.lt
  have HAL2 : w.heap.size + 1 = (w.alloc (.cells #[.string ⟨#[]⟩, .slice none 0 0, .slice none 0 0] 30)).heap.size := (World.size_alloc _ _).symm
  clear CG HAL hFr1
  have hz := hz
  have hCa := fun o => hC.next ((Below.refl w1.heap.size w1).alloc (Nat.le_refl _) o)
  have c0 := hC.c0
  have c1 := hC.c1
  have c2 := hC.c2
  have c3 := hC.c3
  have a0 := fun o => (hCa o).c0
  have a1 := fun o => (hCa o).c1
  have a2 := fun o => (hCa o).c2
  have a3 := fun o => (hCa o).c3
  have a4 := fun o => (hCa o).c4
  have a5 := fun o => (hCa o).c5
  have b0 := fun o => (hCa o).fr 0
  have b1 := fun o => (hCa o).fr 1
  have b2 := fun o => (hCa o).fr 2
  have b3 := fun o => (hCa o).fr 3
  have b4 := fun o => (hCa o).fr 4
  have b5 := fun o => (hCa o).fr 5
  have HC := Lib.hid hC
  have HRB1 := Lib.hid hrb1
  have HT := Lib.hid hTw
  have HX := Lib.hid hXw
  have HX1 := Lib.hid hX
  have HF1 := Lib.hid hF1
  have HL1 := Lib.hid hL1
  have HZ := Lib.hid hz
  clear hrb1 hTw hXw hF1 hL1 hT hX hz hC c5 hCa
  simp only [Rp.outErr]
  have x1 : ((er : Int) == 0) = false := beq_eq_false_iff_ne.2 (by omega)
  have x2 : ((er : Int) = 0) = False := eq_false (by omega)
  go_upto_region 10 with fail
  change Code.wp _ _ _ _ (wiped (w1.alloc (.cells #[.string c, .slice lo ln lc, .slice oo on oc] 30)) g p)
  have hg0 : g < w.heap.size := (HH.out.lt g HH.out.fg).2
  have hsz1 : w.heap.size < w1.heap.size := HRB1.out.lt
  have hM2 := wiped_mk (HC.out.next ((Below.refl w1.heap.size w1).alloc (Nat.le_refl _) (.cells #[.string c, .slice lo ln lc, .slice oo on oc] 30)))
  have hT2 := (HT.out.alloc (.cells #[.string c, .slice lo ln lc, .slice oo on oc] 30)).then (wiped_trn _ g p HH.out.fg)
  have hU2 := ((Trn.refl (fun k => k = g) w1).alloc (.cells #[.string c, .slice lo ln lc, .slice oo on oc] 30)).then (wiped_trn _ g p rfl)
  have hr2 : Rb (wiped (w1.alloc (.cells #[.string c, .slice lo ln lc, .slice oo on oc] 30)) g p) w.heap.size ⟨#[]⟩ (.slice none 0 0) (.slice none 0 0) := HRB1.out.same ((wiped_block _ g p (by omega)).trans (Below.heap_alloc _ _ _ hsz1))
  have ht2 : Rb (wiped (w1.alloc (.cells #[.string c, .slice lo ln lc, .slice oo on oc] 30)) g p) w1.heap.size c (.slice lo ln lc) (.slice oo on oc) := (wiped_block _ g p (by omega)).trans (World.alloc_heap_new w1 _)
  clear c0 c1 c2 c3 a0 a1 a2 a3 a4 a5 b0 b1 b2 b3 b4 b5
  generalize wiped (w1.alloc (.cells #[.string c, .slice lo ln lc, .slice oo on oc] 30)) g p = w2 at *
  have z0 := hr2.c0
  have z1 := hr2.c1
  have z2 := hr2.c2
  have y0 := hr2.fr 0
  have y1 := hr2.fr 1
  have y2 := hr2.fr 2
  have t0 := ht2.c0
  have t1 := ht2.c1
  have t2 := ht2.c2
  have HM2 := Lib.hid hM2
  have HT2 := Lib.hid hT2
  have HU2 := Lib.hid hU2
  have HRR := Lib.hid hr2
  clear hM2 hT2 hU2 hr2 ht2
  go_wp2
  clear z0 z1 z2 y0 y1 y2 t0 t1 t2
  have hr3 := HRR.out.set ⟨#[]⟩ (.slice none 0 0) (.slice none 0 0)
  have hT3 := trn_set3 HT2.out (Nat.le_refl _) (.string ⟨#[]⟩) (.slice none 0 0) (.slice none 0 0)
  have hX3 := HU2.out
  refine bodyPost_ret (v := .tuple #[.agg #[.string ⟨#[]⟩, .slice none 0 0, .slice none 0 0], .bool false, .int .i64 (er : Int)]) (by
    have d0 := hr3.c0
    have d1 := hr3.c1
    have d2 := hr3.c2
    generalize World.setCell _ _ _ = wz at d0 d1 d2 ⊢
    simp [results, Tryd.f12, go_sem, d0, d1, d2]) rfl ?_
  have hsz2 := HU2.out.size
  refine ⟨fun k => k = g, .slice none 0 0, .slice none 0 0, rfl, ?_, hT3, fun k hk => .inl (hk ▸ HH.out.fg), ?_, ?_⟩
  · exact MO.past (G := fun k => k = w.heap.size) (show MO w2 B g (fun k => k = g) p none from ⟨rfl, fun k hk => by subst hk; exact ⟨(HH.out.lt _ HH.out.fg).1, by omega⟩, HM2.out⟩) (Trn.set3_one w2 _ _ _ _) (fun k hk e => by have hk : k = g := hk; have e : k = w.heap.size := e; omega)
  · exact Td.nil _ _ _ _
  · exact Td.nil _ _ _ _
set_option maxHeartbeats 4000000 in
theorem mline_numbered_more {w : World} {B g : Nat} {F : Nat → Prop} {p : Int} {m : Rp.Mid} (h : MO w B g F p (some m)) (s : List UInt8) (_hs : s.length ≤ 1000000) (body : Bool) (_hB : B ≤ w.heap.size) (hK : ∀ wz, w.heap.size ≤ wz.heap.size → MO wz B g F p (some m) → ∃ lv bp, MkC wz g p (ba m.code) lv (.slice none 0 0) bp (.func (.func 31) #[.pointer (some ⟨g, 0, none⟩)] #[]) ∧ Calls Tryd.prog 31 #[.pointer (some ⟨g, 0, none⟩), .string (ba s)] wz (TP wz B g F p (Rp.next p m s))) {m' : Rp.Mid} (ho : Rp.next p m s = .inl m') :
    Calls Tryd.prog 12 #[.pointer (some ⟨g, 0, none⟩), .string (ba s), .bool body] w (LnP w B g F p (.inl m')) := by
  have hal := (Below.refl w.heap.size w).alloc (Nat.le_refl _) (.cells #[.string ⟨#[]⟩, .slice none 0 0, .slice none 0 0] 30)
  have h0 := h.next hal
  have hrb : Rb (w.alloc (.cells #[.string ⟨#[]⟩, .slice none 0 0, .slice none 0 0] 30)) w.heap.size ⟨#[]⟩ (.slice none 0 0) (.slice none 0 0) := World.alloc_heap_new w _
  have hFr : ¬ F w.heap.size := fun e => by have := (h.lt _ e).2; omega
  obtain ⟨lv0, bp0, hi, hG⟩ := hK _ hal.size h0
  have CG := Lib.hid hG
  have CB := Lib.hid (mbusy_yes hi)
  have c5 := hi.c5
  clear hG hi hK
  rw [ho] at CG
  have HH := Lib.hid h
  have HFR := Lib.hid hFr
  have HAL := Lib.hid hal
  have HRB := Lib.hid hrb
  clear h h0 hFr hal hrb ho
  obtain ⟨w0, hw0⟩ : ∃ w0, w0 = w.alloc (.cells #[.string ⟨#[]⟩, .slice none 0 0, .slice none 0 0] 30) := ⟨_, rfl⟩
  have HW0 := Lib.hid hw0
  clear hw0
  go_enter Tryd.func12, Tryd.ntmps12
  go_wp2_with fail
  refine CB.out.mono ?_
  rintro e wx ⟨rfl, hwx⟩
  rw [← hwx]
  clear hwx CB
  go_wp2_with fail
  refine CG.out.mono ?_
  rintro e w1 ⟨wh, F1, c, lv, bo, bp, tk, rfl, hT, hX, hF1, hL1, hC, ⟨lo, ln, lc, rfl⟩, ⟨oo, on, oc, rfl⟩, hz⟩
  have hrb1 : Rb w1 w.heap.size ⟨#[]⟩ (.slice none 0 0) (.slice none 0 0) := HRB.out.same (hT.block _ HRB.out.lt HFR.out)
  have hFr1 : ¬ F1 w.heap.size := fun e => by
    rcases hX _ e with e | e
    · exact HFR.out e
    · have := HRB.out.lt; omega
  have HFR1 := Lib.hid hFr1
  have hTw := (Trn.of_below HAL.out).then hT
  have hXw := hX.lower HAL.out.size
  have hrlt := HRB.out.lt
  have HAL2 : w.heap.size + 1 = (w.alloc (.cells #[.string ⟨#[]⟩, .slice none 0 0, .slice none 0 0] 30)).heap.size := (World.size_alloc _ _).symm
  clear CG HAL hFr1
  obtain ⟨rfl, hl, hI⟩ := hz rfl
  have z0 := hrb1.c0
  have z1 := hrb1.c1
  have z2 := hrb1.c2
  have y0 := hrb1.fr 0
  have y1 := hrb1.fr 1
  have y2 := hrb1.fr 2
  have HRB1 := Lib.hid hrb1
  have HT := Lib.hid hTw
  have HX := Lib.hid hXw
  have HI := Lib.hid hI
  have HF1 := Lib.hid hF1
  have HL1 := Lib.hid hL1
  clear hrb1 hTw hXw hI hF1 hL1 hT hX hz hl hC c5
  simp only [Rp.outErr, Rp.outDone]
  go_wp2
  clear z0 z1 z2 y0 y1 y2
  have hr2 := HRB1.out.set ⟨#[]⟩ (.slice none 0 0) (.slice none 0 0)
  have hT2 := trn_set3 HT.out (Nat.le_refl _) (.string ⟨#[]⟩) (.slice none 0 0) (.slice none 0 0)
  have hFr1 := HFR1.out
  refine bodyPost_ret (v := .tuple #[.agg #[.string ⟨#[]⟩, .slice none 0 0, .slice none 0 0], .bool false, .int .i64 0]) (by
    have d0 := hr2.c0
    have d1 := hr2.c1
    have d2 := hr2.c2
    generalize World.setCell _ _ _ = wz at d0 d1 d2 ⊢
    simp [results, Tryd.f12, go_sem, d0, d1, d2]) rfl ?_
  refine ⟨F1, .slice none 0 0, .slice none 0 0, rfl, ?_, hT2, HX.out, Td.nil _ _ _ _, Td.nil _ _ _ _⟩
  exact MO.past (G := fun k => k = w.heap.size) (show MO w1 B g F1 p (some m') from ⟨HF1.out, HL1.out, _, _, _, HI.out⟩) (Trn.set3_one w1 _ _ _ _) (fun k hk e => hFr1 (e ▸ hk))
set_option maxHeartbeats 4000000 in
theorem mline_numbered_whole {w : World} {B g : Nat} {F : Nat → Prop} {p : Int} {m : Rp.Mid} (h : MO w B g F p (some m)) (s : List UInt8) (_hs : s.length ≤ 1000000) (body : Bool) (_hB : B ≤ w.heap.size) (hK : ∀ wz, w.heap.size ≤ wz.heap.size → MO wz B g F p (some m) → ∃ lv bp, MkC wz g p (ba m.code) lv (.slice none 0 0) bp (.func (.func 31) #[.pointer (some ⟨g, 0, none⟩)] #[]) ∧ Calls Tryd.prog 31 #[.pointer (some ⟨g, 0, none⟩), .string (ba s)] wz (TP wz B g F p (Rp.next p m s))) {r : Rp.Re} (ho : Rp.next p m s = .inr (.inl r)) :
    Calls Tryd.prog 12 #[.pointer (some ⟨g, 0, none⟩), .string (ba s), .bool body] w (LnP w B g F p (.inr (.inl r))) := by
  have hal := (Below.refl w.heap.size w).alloc (Nat.le_refl _) (.cells #[.string ⟨#[]⟩, .slice none 0 0, .slice none 0 0] 30)
  have h0 := h.next hal
  have hrb : Rb (w.alloc (.cells #[.string ⟨#[]⟩, .slice none 0 0, .slice none 0 0] 30)) w.heap.size ⟨#[]⟩ (.slice none 0 0) (.slice none 0 0) := World.alloc_heap_new w _
  have hFr : ¬ F w.heap.size := fun e => by have := (h.lt _ e).2; omega
  obtain ⟨lv0, bp0, hi, hG⟩ := hK _ hal.size h0
  have CG := Lib.hid hG
  have CB := Lib.hid (mbusy_yes hi)
  have c5 := hi.c5
  clear hG hi hK
  rw [ho] at CG
  have HH := Lib.hid h
  have HFR := Lib.hid hFr
  have HAL := Lib.hid hal
  have HRB := Lib.hid hrb
  clear h h0 hFr hal hrb ho
  obtain ⟨w0, hw0⟩ : ∃ w0, w0 = w.alloc (.cells #[.string ⟨#[]⟩, .slice none 0 0, .slice none 0 0] 30) := ⟨_, rfl⟩
  have HW0 := Lib.hid hw0
  clear hw0
  go_enter Tryd.func12, Tryd.ntmps12
  go_wp2_with fail
  refine CB.out.mono ?_
  rintro e wx ⟨rfl, hwx⟩
  rw [← hwx]
  clear hwx CB
  go_wp2_with fail
  refine CG.out.mono ?_
  rintro e w1 ⟨wh, F1, c, lv, bo, bp, tk, rfl, hT, hX, hF1, hL1, hC, ⟨lo, ln, lc, rfl⟩, ⟨oo, on, oc, rfl⟩, hz⟩
  have hrb1 : Rb w1 w.heap.size ⟨#[]⟩ (.slice none 0 0) (.slice none 0 0) := HRB.out.same (hT.block _ HRB.out.lt HFR.out)
  have hFr1 : ¬ F1 w.heap.size := fun e => by
    rcases hX _ e with e | e
    · exact HFR.out e
    · have := HRB.out.lt; omega
  have HFR1 := Lib.hid hFr1
  have hTw := (Trn.of_below HAL.out).then hT
  have hXw := hX.lower HAL.out.size
  have hrlt := HRB.out.lt
  have HAL2 : w.heap.size + 1 = (w.alloc (.cells #[.string ⟨#[]⟩, .slice none 0 0, .slice none 0 0] 30)).heap.size := (World.size_alloc _ _).symm
  clear CG HAL hFr1
  have hz := hz rfl
  have hCa := fun o => hC.next ((Below.refl w1.heap.size w1).alloc (Nat.le_refl _) o)
  have c0 := hC.c0
  have c1 := hC.c1
  have c2 := hC.c2
  have c3 := hC.c3
  have a0 := fun o => (hCa o).c0
  have a1 := fun o => (hCa o).c1
  have a2 := fun o => (hCa o).c2
  have a3 := fun o => (hCa o).c3
  have a4 := fun o => (hCa o).c4
  have a5 := fun o => (hCa o).c5
  have b0 := fun o => (hCa o).fr 0
  have b1 := fun o => (hCa o).fr 1
  have b2 := fun o => (hCa o).fr 2
  have b3 := fun o => (hCa o).fr 3
  have b4 := fun o => (hCa o).fr 4
  have b5 := fun o => (hCa o).fr 5
  have HC := Lib.hid hC
  have HRB1 := Lib.hid hrb1
  have HT := Lib.hid hTw
  have HX := Lib.hid hXw
  have HX1 := Lib.hid hX
  have HF1 := Lib.hid hF1
  have HL1 := Lib.hid hL1
  have HZ := Lib.hid hz
  clear hrb1 hTw hXw hF1 hL1 hT hX hz hC c5 hCa
  simp only [Rp.outErr]
  obtain ⟨rfl, hl2, rfl, r1, r2, r3⟩ : wh = true ∧ _ := HZ.out
  have HR1 := Lib.hid r1
  have HR2 := Lib.hid r2
  have HR3 := Lib.hid r3
  have HL2 := Lib.hid hl2
  clear r1 r2 r3 hl2 HZ
  go_upto_region 10 with fail
  change Code.wp _ _ _ _ (wiped (w1.alloc (.cells #[.string (ba r.code), .slice lo ln lc, .slice oo on oc] 30)) g p)
  have hg0 : g < w.heap.size := (HH.out.lt g HH.out.fg).2
  have hsz1 : w.heap.size < w1.heap.size := HRB1.out.lt
  have hM2 := wiped_mk (HC.out.next ((Below.refl w1.heap.size w1).alloc (Nat.le_refl _) (.cells #[.string (ba r.code), .slice lo ln lc, .slice oo on oc] 30)))
  have hT2 := (HT.out.alloc (.cells #[.string (ba r.code), .slice lo ln lc, .slice oo on oc] 30)).then (wiped_trn _ g p HH.out.fg)
  have hU2 := ((Trn.refl (fun k => k = g) w1).alloc (.cells #[.string (ba r.code), .slice lo ln lc, .slice oo on oc] 30)).then (wiped_trn _ g p rfl)
  have hr2 : Rb (wiped (w1.alloc (.cells #[.string (ba r.code), .slice lo ln lc, .slice oo on oc] 30)) g p) w.heap.size ⟨#[]⟩ (.slice none 0 0) (.slice none 0 0) := HRB1.out.same ((wiped_block _ g p (by omega)).trans (Below.heap_alloc _ _ _ hsz1))
  have ht2 : Rb (wiped (w1.alloc (.cells #[.string (ba r.code), .slice lo ln lc, .slice oo on oc] 30)) g p) w1.heap.size (ba r.code) (.slice lo ln lc) (.slice oo on oc) := (wiped_block _ g p (by omega)).trans (World.alloc_heap_new w1 _)
  clear c0 c1 c2 c3 a0 a1 a2 a3 a4 a5 b0 b1 b2 b3 b4 b5
  generalize wiped (w1.alloc (.cells #[.string (ba r.code), .slice lo ln lc, .slice oo on oc] 30)) g p = w2 at *
  have z0 := hr2.c0
  have z1 := hr2.c1
  have z2 := hr2.c2
  have y0 := hr2.fr 0
  have y1 := hr2.fr 1
  have y2 := hr2.fr 2
  have t0 := ht2.c0
  have t1 := ht2.c1
  have t2 := ht2.c2
  have HM2 := Lib.hid hM2
  have HT2 := Lib.hid hT2
  have HU2 := Lib.hid hU2
  have HRR := Lib.hid hr2
  clear hM2 hT2 hU2 hr2 ht2
  go_wp2
  clear z0 z1 z2 y0 y1 y2 t0 t1 t2
  have hr3 := HRR.out.set (ba r.code) (.slice lo ln lc) (.slice oo on oc)
  have hT3 := trn_set3 HT2.out (Nat.le_refl _) (.string (ba r.code)) (.slice lo ln lc) (.slice oo on oc)
  have hX3 := HU2.out
  refine bodyPost_ret (v := .tuple #[.agg #[.string (ba r.code), .slice lo ln lc, .slice oo on oc], .bool true, .int .i64 0]) (by
    have d0 := hr3.c0
    have d1 := hr3.c1
    have d2 := hr3.c2
    generalize World.setCell _ _ _ = wz at d0 d1 d2 ⊢
    simp [results, Tryd.f12, go_sem, d0, d1, d2]) rfl ?_
  have hsz2 := HU2.out.size
  refine ⟨fun k => k = g, .slice lo ln lc, .slice oo on oc, rfl, ?_, hT3, fun k hk => .inl (hk ▸ HH.out.fg), ?_, ?_⟩
  · exact MO.past (G := fun k => k = w.heap.size) (show MO w2 B g (fun k => k = g) p none from ⟨rfl, fun k hk => by subst hk; exact ⟨(HH.out.lt _ HH.out.fg).1, by omega⟩, HM2.out⟩) (Trn.set3_one w2 _ _ _ _) (fun k hk e => by have hk : k = g := hk; have e : k = w.heap.size := e; omega)
  · refine ⟨(Trn.set3_one w2 w.heap.size _ _ _).rd (HU2.out.rd HR1.out (fun k hk => (HL2.out k hk).2)) (fun k hk e => HFR1.out (by rw [← show k = w.heap.size from e]; exact (HL2.out k hk).1)), fun k hk => ⟨HX.out k (HL2.out k hk).1, ?_, (HL2.out k hk).2⟩⟩
    have := (HL1.out k (HL2.out k hk).1).2
    simp [World.setCell]
    omega
  · have h3 := HR3.out
    refine ⟨(Trn.set3_one w2 w.heap.size _ _ _).rd (HU2.out.rd HR2.out (fun k hk e => by have := (h3 k hk).1; have e : k = g := e; have := HAL2; omega)) (fun k hk e => by have := (h3 k hk).1; have e : k = w.heap.size := e; have := HAL2; omega), fun k hk => ⟨.inr (by have := (h3 k hk).1; have := HAL2; omega), ?_, fun e => by have := (h3 k hk).1; have e : k = g := e; have := HAL2; omega⟩⟩
    have := (h3 k hk).2
    simp [World.setCell]
    omega
set_option maxHeartbeats 4000000 in
theorem mline_numbered_err {w : World} {B g : Nat} {F : Nat → Prop} {p : Int} {m : Rp.Mid} (h : MO w B g F p (some m)) (s : List UInt8) (_hs : s.length ≤ 1000000) (body : Bool) (_hB : B ≤ w.heap.size) (hK : ∀ wz, w.heap.size ≤ wz.heap.size → MO wz B g F p (some m) → ∃ lv bp, MkC wz g p (ba m.code) lv (.slice none 0 0) bp (.func (.func 31) #[.pointer (some ⟨g, 0, none⟩)] #[]) ∧ Calls Tryd.prog 31 #[.pointer (some ⟨g, 0, none⟩), .string (ba s)] wz (TP wz B g F p (Rp.next p m s))) {er : Nat} (ho : Rp.next p m s = .inr (.inr er)) (he : er ≠ 0) :
    Calls Tryd.prog 12 #[.pointer (some ⟨g, 0, none⟩), .string (ba s), .bool body] w (LnP w B g F p (.inr (.inr er))) := by
  have hal := (Below.refl w.heap.size w).alloc (Nat.le_refl _) (.cells #[.string ⟨#[]⟩, .slice none 0 0, .slice none 0 0] 30)
  have h0 := h.next hal
  have hrb : Rb (w.alloc (.cells #[.string ⟨#[]⟩, .slice none 0 0, .slice none 0 0] 30)) w.heap.size ⟨#[]⟩ (.slice none 0 0) (.slice none 0 0) := World.alloc_heap_new w _
  have hFr : ¬ F w.heap.size := fun e => by have := (h.lt _ e).2; omega
  obtain ⟨lv0, bp0, hi, hG⟩ := hK _ hal.size h0
  have CG := Lib.hid hG
  have CB := Lib.hid (mbusy_yes hi)
  have c5 := hi.c5
  clear hG hi hK
  rw [ho] at CG
  have HH := Lib.hid h
  have HFR := Lib.hid hFr
  have HAL := Lib.hid hal
  have HRB := Lib.hid hrb
  clear h h0 hFr hal hrb ho
  obtain ⟨w0, hw0⟩ : ∃ w0, w0 = w.alloc (.cells #[.string ⟨#[]⟩, .slice none 0 0, .slice none 0 0] 30) := ⟨_, rfl⟩
  have HW0 := Lib.hid hw0
  clear hw0
  go_enter Tryd.func12, Tryd.ntmps12
  go_wp2_with fail
  refine CB.out.mono ?_
  rintro e wx ⟨rfl, hwx⟩
  rw [← hwx]
  clear hwx CB
  go_wp2_with fail
  refine CG.out.mono ?_
  rintro e w1 ⟨wh, F1, c, lv, bo, bp, tk, rfl, hT, hX, hF1, hL1, hC, ⟨lo, ln, lc, rfl⟩, ⟨oo, on, oc, rfl⟩, hz⟩
  have hrb1 : Rb w1 w.heap.size ⟨#[]⟩ (.slice none 0 0) (.slice none 0 0) := HRB.out.same (hT.block _ HRB.out.lt HFR.out)
  have hFr1 : ¬ F1 w.heap.size := fun e => by
    rcases hX _ e with e | e
    · exact HFR.out e
    · have := HRB.out.lt; omega
  have HFR1 := Lib.hid hFr1
  have hTw := (Trn.of_below HAL.out).then hT
  have hXw := hX.lower HAL.out.size
  have hrlt := HRB.out.lt
  have HAL2 : w.heap.size + 1 = (w.alloc (.cells #[.string ⟨#[]⟩, .slice none 0 0, .slice none 0 0] 30)).heap.size := (World.size_alloc _ _).symm
  clear CG HAL hFr1
  have hz := hz
  have hCa := fun o => hC.next ((Below.refl w1.heap.size w1).alloc (Nat.le_refl _) o)
  have c0 := hC.c0
  have c1 := hC.c1
  have c2 := hC.c2
  have c3 := hC.c3
  have a0 := fun o => (hCa o).c0
  have a1 := fun o => (hCa o).c1
  have a2 := fun o => (hCa o).c2
  have a3 := fun o => (hCa o).c3
  have a4 := fun o => (hCa o).c4
  have a5 := fun o => (hCa o).c5
  have b0 := fun o => (hCa o).fr 0
  have b1 := fun o => (hCa o).fr 1
  have b2 := fun o => (hCa o).fr 2
  have b3 := fun o => (hCa o).fr 3
  have b4 := fun o => (hCa o).fr 4
  have b5 := fun o => (hCa o).fr 5
  have HC := Lib.hid hC
  have HRB1 := Lib.hid hrb1
  have HT := Lib.hid hTw
  have HX := Lib.hid hXw
  have HX1 := Lib.hid hX
  have HF1 := Lib.hid hF1
  have HL1 := Lib.hid hL1
  have HZ := Lib.hid hz
  clear hrb1 hTw hXw hF1 hL1 hT hX hz hC c5 hCa
  simp only [Rp.outErr]
  have x1 : ((er : Int) == 0) = false := beq_eq_false_iff_ne.2 (by omega)
  have x2 : ((er : Int) = 0) = False := eq_false (by omega)
  go_upto_region 10 with fail
  change Code.wp _ _ _ _ (wiped (w1.alloc (.cells #[.string c, .slice lo ln lc, .slice oo on oc] 30)) g p)
  have hg0 : g < w.heap.size := (HH.out.lt g HH.out.fg).2
  have hsz1 : w.heap.size < w1.heap.size := HRB1.out.lt
  have hM2 := wiped_mk (HC.out.next ((Below.refl w1.heap.size w1).alloc (Nat.le_refl _) (.cells #[.string c, .slice lo ln lc, .slice oo on oc] 30)))
  have hT2 := (HT.out.alloc (.cells #[.string c, .slice lo ln lc, .slice oo on oc] 30)).then (wiped_trn _ g p HH.out.fg)
  have hU2 := ((Trn.refl (fun k => k = g) w1).alloc (.cells #[.string c, .slice lo ln lc, .slice oo on oc] 30)).then (wiped_trn _ g p rfl)
  have hr2 : Rb (wiped (w1.alloc (.cells #[.string c, .slice lo ln lc, .slice oo on oc] 30)) g p) w.heap.size ⟨#[]⟩ (.slice none 0 0) (.slice none 0 0) := HRB1.out.same ((wiped_block _ g p (by omega)).trans (Below.heap_alloc _ _ _ hsz1))
  have ht2 : Rb (wiped (w1.alloc (.cells #[.string c, .slice lo ln lc, .slice oo on oc] 30)) g p) w1.heap.size c (.slice lo ln lc) (.slice oo on oc) := (wiped_block _ g p (by omega)).trans (World.alloc_heap_new w1 _)
  clear c0 c1 c2 c3 a0 a1 a2 a3 a4 a5 b0 b1 b2 b3 b4 b5
  generalize wiped (w1.alloc (.cells #[.string c, .slice lo ln lc, .slice oo on oc] 30)) g p = w2 at *
  have z0 := hr2.c0
  have z1 := hr2.c1
  have z2 := hr2.c2
  have y0 := hr2.fr 0
  have y1 := hr2.fr 1
  have y2 := hr2.fr 2
  have t0 := ht2.c0
  have t1 := ht2.c1
  have t2 := ht2.c2
  have HM2 := Lib.hid hM2
  have HT2 := Lib.hid hT2
  have HU2 := Lib.hid hU2
  have HRR := Lib.hid hr2
  clear hM2 hT2 hU2 hr2 ht2
  go_wp2
  clear z0 z1 z2 y0 y1 y2 t0 t1 t2
  have hr3 := HRR.out.set ⟨#[]⟩ (.slice none 0 0) (.slice none 0 0)
  have hT3 := trn_set3 HT2.out (Nat.le_refl _) (.string ⟨#[]⟩) (.slice none 0 0) (.slice none 0 0)
  have hX3 := HU2.out
  refine bodyPost_ret (v := .tuple #[.agg #[.string ⟨#[]⟩, .slice none 0 0, .slice none 0 0], .bool false, .int .i64 (er : Int)]) (by
    have d0 := hr3.c0
    have d1 := hr3.c1
    have d2 := hr3.c2
    generalize World.setCell _ _ _ = wz at d0 d1 d2 ⊢
    simp [results, Tryd.f12, go_sem, d0, d1, d2]) rfl ?_
  have hsz2 := HU2.out.size
  refine ⟨fun k => k = g, .slice none 0 0, .slice none 0 0, rfl, ?_, hT3, fun k hk => .inl (hk ▸ HH.out.fg), ?_, ?_⟩
  · exact MO.past (G := fun k => k = w.heap.size) (show MO w2 B g (fun k => k = g) p none from ⟨rfl, fun k hk => by subst hk; exact ⟨(HH.out.lt _ HH.out.fg).1, by omega⟩, HM2.out⟩) (Trn.set3_one w2 _ _ _ _) (fun k hk e => by have hk : k = g := hk; have e : k = w.heap.size := e; omega)
  · exact Td.nil _ _ _ _
  · exact Td.nil _ _ _ _
set_option maxHeartbeats 4000000 in
theorem mline_framed_more {w : World} {B g : Nat} {F : Nat → Prop} {p : Int} {m : Rp.Mid} (h : MO w B g F p (some m)) (s : List UInt8) (_hs : s.length ≤ 1000000) (body : Bool) (_hB : B ≤ w.heap.size) (hK : ∀ wz, w.heap.size ≤ wz.heap.size → MO wz B g F p (some m) → ∃ lv bp, MkC wz g p (ba m.code) lv (.slice none 0 0) bp (.func (.func 32) #[.pointer (some ⟨g, 0, none⟩)] #[]) ∧ Calls Tryd.prog 32 #[.pointer (some ⟨g, 0, none⟩), .string (ba s)] wz (TP wz B g F p (Rp.next p m s))) {m' : Rp.Mid} (ho : Rp.next p m s = .inl m') :
    Calls Tryd.prog 12 #[.pointer (some ⟨g, 0, none⟩), .string (ba s), .bool body] w (LnP w B g F p (.inl m')) := by
  have hal := (Below.refl w.heap.size w).alloc (Nat.le_refl _) (.cells #[.string ⟨#[]⟩, .slice none 0 0, .slice none 0 0] 30)
  have h0 := h.next hal
  have hrb : Rb (w.alloc (.cells #[.string ⟨#[]⟩, .slice none 0 0, .slice none 0 0] 30)) w.heap.size ⟨#[]⟩ (.slice none 0 0) (.slice none 0 0) := World.alloc_heap_new w _
  have hFr : ¬ F w.heap.size := fun e => by have := (h.lt _ e).2; omega
  obtain ⟨lv0, bp0, hi, hG⟩ := hK _ hal.size h0
  have CG := Lib.hid hG
  have CB := Lib.hid (mbusy_yes hi)
  have c5 := hi.c5
  clear hG hi hK
  rw [ho] at CG
  have HH := Lib.hid h
  have HFR := Lib.hid hFr
  have HAL := Lib.hid hal
  have HRB := Lib.hid hrb
  clear h h0 hFr hal hrb ho
  obtain ⟨w0, hw0⟩ : ∃ w0, w0 = w.alloc (.cells #[.string ⟨#[]⟩, .slice none 0 0, .slice none 0 0] 30) := ⟨_, rfl⟩
  have HW0 := Lib.hid hw0
  clear hw0
  go_enter Tryd.func12, Tryd.ntmps12
  go_wp2_with fail
  refine CB.out.mono ?_
  rintro e wx ⟨rfl, hwx⟩
  rw [← hwx]
  clear hwx CB
  go_wp2_with fail
  refine CG.out.mono ?_
  rintro e w1 ⟨wh, F1, c, lv, bo, bp, tk, rfl, hT, hX, hF1, hL1, hC, ⟨lo, ln, lc, rfl⟩, ⟨oo, on, oc, rfl⟩, hz⟩
  have hrb1 : Rb w1 w.heap.size ⟨#[]⟩ (.slice none 0 0) (.slice none 0 0) := HRB.out.same (hT.block _ HRB.out.lt HFR.out)
  have hFr1 : ¬ F1 w.heap.size := fun e => by
    rcases hX _ e with e | e
    · exact HFR.out e
    · have := HRB.out.lt; omega
  have HFR1 := Lib.hid hFr1
  have hTw := (Trn.of_below HAL.out).then hT
  have hXw := hX.lower HAL.out.size
  have hrlt := HRB.out.lt
  have HAL2 : w.heap.size + 1 = (w.alloc (.cells #[.string ⟨#[]⟩, .slice none 0 0, .slice none 0 0] 30)).heap.size := (World.size_alloc _ _).symm
  clear CG HAL hFr1
  obtain ⟨rfl, hl, hI⟩ := hz rfl
  have z0 := hrb1.c0
  have z1 := hrb1.c1
  have z2 := hrb1.c2
  have y0 := hrb1.fr 0
  have y1 := hrb1.fr 1
  have y2 := hrb1.fr 2
  have HRB1 := Lib.hid hrb1
  have HT := Lib.hid hTw
  have HX := Lib.hid hXw
  have HI := Lib.hid hI
  have HF1 := Lib.hid hF1
  have HL1 := Lib.hid hL1
  clear hrb1 hTw hXw hI hF1 hL1 hT hX hz hl hC c5
  simp only [Rp.outErr, Rp.outDone]
  go_wp2
  clear z0 z1 z2 y0 y1 y2
  have hr2 := HRB1.out.set ⟨#[]⟩ (.slice none 0 0) (.slice none 0 0)
  have hT2 := trn_set3 HT.out (Nat.le_refl _) (.string ⟨#[]⟩) (.slice none 0 0) (.slice none 0 0)
  have hFr1 := HFR1.out
  refine bodyPost_ret (v := .tuple #[.agg #[.string ⟨#[]⟩, .slice none 0 0, .slice none 0 0], .bool false, .int .i64 0]) (by
    have d0 := hr2.c0
    have d1 := hr2.c1
    have d2 := hr2.c2
    generalize World.setCell _ _ _ = wz at d0 d1 d2 ⊢
    simp [results, Tryd.f12, go_sem, d0, d1, d2]) rfl ?_
  refine ⟨F1, .slice none 0 0, .slice none 0 0, rfl, ?_, hT2, HX.out, Td.nil _ _ _ _, Td.nil _ _ _ _⟩
  exact MO.past (G := fun k => k = w.heap.size) (show MO w1 B g F1 p (some m') from ⟨HF1.out, HL1.out, _, _, _, HI.out⟩) (Trn.set3_one w1 _ _ _ _) (fun k hk e => hFr1 (e ▸ hk))
set_option maxHeartbeats 4000000 in
theorem mline_framed_whole {w : World} {B g : Nat} {F : Nat → Prop} {p : Int} {m : Rp.Mid} (h : MO w B g F p (some m)) (s : List UInt8) (_hs : s.length ≤ 1000000) (body : Bool) (_hB : B ≤ w.heap.size) (hK : ∀ wz, w.heap.size ≤ wz.heap.size → MO wz B g F p (some m) → ∃ lv bp, MkC wz g p (ba m.code) lv (.slice none 0 0) bp (.func (.func 32) #[.pointer (some ⟨g, 0, none⟩)] #[]) ∧ Calls Tryd.prog 32 #[.pointer (some ⟨g, 0, none⟩), .string (ba s)] wz (TP wz B g F p (Rp.next p m s))) {r : Rp.Re} (ho : Rp.next p m s = .inr (.inl r)) :
    Calls Tryd.prog 12 #[.pointer (some ⟨g, 0, none⟩), .string (ba s), .bool body] w (LnP w B g F p (.inr (.inl r))) := by
  have hal := (Below.refl w.heap.size w).alloc (Nat.le_refl _) (.cells #[.string ⟨#[]⟩, .slice none 0 0, .slice none 0 0] 30)
  have h0 := h.next hal
  have hrb : Rb (w.alloc (.cells #[.string ⟨#[]⟩, .slice none 0 0, .slice none 0 0] 30)) w.heap.size ⟨#[]⟩ (.slice none 0 0) (.slice none 0 0) := World.alloc_heap_new w _
  have hFr : ¬ F w.heap.size := fun e => by have := (h.lt _ e).2; omega
  obtain ⟨lv0, bp0, hi, hG⟩ := hK _ hal.size h0
  have CG := Lib.hid hG
  have CB := Lib.hid (mbusy_yes hi)
  have c5 := hi.c5
  clear hG hi hK
  rw [ho] at CG
  have HH := Lib.hid h
  have HFR := Lib.hid hFr
  have HAL := Lib.hid hal
  have HRB := Lib.hid hrb
  clear h h0 hFr hal hrb ho
  obtain ⟨w0, hw0⟩ : ∃ w0, w0 = w.alloc (.cells #[.string ⟨#[]⟩, .slice none 0 0, .slice none 0 0] 30) := ⟨_, rfl⟩
  have HW0 := Lib.hid hw0
  clear hw0
  go_enter Tryd.func12, Tryd.ntmps12
  go_wp2_with fail
  refine CB.out.mono ?_
  rintro e wx ⟨rfl, hwx⟩
  rw [← hwx]
  clear hwx CB
  go_wp2_with fail
  refine CG.out.mono ?_
  rintro e w1 ⟨wh, F1, c, lv, bo, bp, tk, rfl, hT, hX, hF1, hL1, hC, ⟨lo, ln, lc, rfl⟩, ⟨oo, on, oc, rfl⟩, hz⟩
  have hrb1 : Rb w1 w.heap.size ⟨#[]⟩ (.slice none 0 0) (.slice none 0 0) := HRB.out.same (hT.block _ HRB.out.lt HFR.out)
  have hFr1 : ¬ F1 w.heap.size := fun e => by
    rcases hX _ e with e | e
    · exact HFR.out e
    · have := HRB.out.lt; omega
  have HFR1 := Lib.hid hFr1
  have hTw := (Trn.of_below HAL.out).then hT
  have hXw := hX.lower HAL.out.size
  have hrlt := HRB.out.lt
  have HAL2 : w.heap.size + 1 = (w.alloc (.cells #[.string ⟨#[]⟩, .slice none 0 0, .slice none 0 0] 30)).heap.size := (World.size_alloc _ _).symm
  clear CG HAL hFr1
  have hz := hz rfl
  have hCa := fun o => hC.next ((Below.refl w1.heap.size w1).alloc (Nat.le_refl _) o)
  have c0 := hC.c0
  have c1 := hC.c1
  have c2 := hC.c2
  have c3 := hC.c3
  have a0 := fun o => (hCa o).c0
  have a1 := fun o => (hCa o).c1
  have a2 := fun o => (hCa o).c2
  have a3 := fun o => (hCa o).c3
  have a4 := fun o => (hCa o).c4
  have a5 := fun o => (hCa o).c5
  have b0 := fun o => (hCa o).fr 0
  have b1 := fun o => (hCa o).fr 1
  have b2 := fun o => (hCa o).fr 2
  have b3 := fun o => (hCa o).fr 3
  have b4 := fun o => (hCa o).fr 4
  have b5 := fun o => (hCa o).fr 5
  have HC := Lib.hid hC
  have HRB1 := Lib.hid hrb1
  have HT := Lib.hid hTw
  have HX := Lib.hid hXw
  have HX1 := Lib.hid hX
  have HF1 := Lib.hid hF1
  have HL1 := Lib.hid hL1
  have HZ := Lib.hid hz
  clear hrb1 hTw hXw hF1 hL1 hT hX hz hC c5 hCa
  simp only [Rp.outErr]
  obtain ⟨rfl, hl2, rfl, r1, r2, r3⟩ : wh = true ∧ _ := HZ.out
  have HR1 := Lib.hid r1
  have HR2 := Lib.hid r2
  have HR3 := Lib.hid r3
  have HL2 := Lib.hid hl2
  clear r1 r2 r3 hl2 HZ
  go_upto_region 10 with fail
  change Code.wp _ _ _ _ (wiped (w1.alloc (.cells #[.string (ba r.code), .slice lo ln lc, .slice oo on oc] 30)) g p)
  have hg0 : g < w.heap.size := (HH.out.lt g HH.out.fg).2
  have hsz1 : w.heap.size < w1.heap.size := HRB1.out.lt
  have hM2 := wiped_mk (HC.out.next ((Below.refl w1.heap.size w1).alloc (Nat.le_refl _) (.cells #[.string (ba r.code), .slice lo ln lc, .slice oo on oc] 30)))
  have hT2 := (HT.out.alloc (.cells #[.string (ba r.code), .slice lo ln lc, .slice oo on oc] 30)).then (wiped_trn _ g p HH.out.fg)
  have hU2 := ((Trn.refl (fun k => k = g) w1).alloc (.cells #[.string (ba r.code), .slice lo ln lc, .slice oo on oc] 30)).then (wiped_trn _ g p rfl)
  have hr2 : Rb (wiped (w1.alloc (.cells #[.string (ba r.code), .slice lo ln lc, .slice oo on oc] 30)) g p) w.heap.size ⟨#[]⟩ (.slice none 0 0) (.slice none 0 0) := HRB1.out.same ((wiped_block _ g p (by omega)).trans (Below.heap_alloc _ _ _ hsz1))
  have ht2 : Rb (wiped (w1.alloc (.cells #[.string (ba r.code), .slice lo ln lc, .slice oo on oc] 30)) g p) w1.heap.size (ba r.code) (.slice lo ln lc) (.slice oo on oc) := (wiped_block _ g p (by omega)).trans (World.alloc_heap_new w1 _)
  clear c0 c1 c2 c3 a0 a1 a2 a3 a4 a5 b0 b1 b2 b3 b4 b5
  generalize wiped (w1.alloc (.cells #[.string (ba r.code), .slice lo ln lc, .slice oo on oc] 30)) g p = w2 at *
  have z0 := hr2.c0
  have z1 := hr2.c1
  have z2 := hr2.c2
  have y0 := hr2.fr 0
  have y1 := hr2.fr 1
  have y2 := hr2.fr 2
  have t0 := ht2.c0
  have t1 := ht2.c1
  have t2 := ht2.c2
  have HM2 := Lib.hid hM2
  have HT2 := Lib.hid hT2
  have HU2 := Lib.hid hU2
  have HRR := Lib.hid hr2
  clear hM2 hT2 hU2 hr2 ht2
  go_wp2
  clear z0 z1 z2 y0 y1 y2 t0 t1 t2
  have hr3 := HRR.out.set (ba r.code) (.slice lo ln lc) (.slice oo on oc)
  have hT3 := trn_set3 HT2.out (Nat.le_refl _) (.string (ba r.code)) (.slice lo ln lc) (.slice oo on oc)
  have hX3 := HU2.out
  refine bodyPost_ret (v := .tuple #[.agg #[.string (ba r.code), .slice lo ln lc, .slice oo on oc], .bool true, .int .i64 0]) (by
    have d0 := hr3.c0
    have d1 := hr3.c1
    have d2 := hr3.c2
    generalize World.setCell _ _ _ = wz at d0 d1 d2 ⊢
    simp [results, Tryd.f12, go_sem, d0, d1, d2]) rfl ?_
  have hsz2 := HU2.out.size
  refine ⟨fun k => k = g, .slice lo ln lc, .slice oo on oc, rfl, ?_, hT3, fun k hk => .inl (hk ▸ HH.out.fg), ?_, ?_⟩
  · exact MO.past (G := fun k => k = w.heap.size) (show MO w2 B g (fun k => k = g) p none from ⟨rfl, fun k hk => by subst hk; exact ⟨(HH.out.lt _ HH.out.fg).1, by omega⟩, HM2.out⟩) (Trn.set3_one w2 _ _ _ _) (fun k hk e => by have hk : k = g := hk; have e : k = w.heap.size := e; omega)
  · refine ⟨(Trn.set3_one w2 w.heap.size _ _ _).rd (HU2.out.rd HR1.out (fun k hk => (HL2.out k hk).2)) (fun k hk e => HFR1.out (by rw [← show k = w.heap.size from e]; exact (HL2.out k hk).1)), fun k hk => ⟨HX.out k (HL2.out k hk).1, ?_, (HL2.out k hk).2⟩⟩
    have := (HL1.out k (HL2.out k hk).1).2
    simp [World.setCell]
    omega
  · have h3 := HR3.out
    refine ⟨(Trn.set3_one w2 w.heap.size _ _ _).rd (HU2.out.rd HR2.out (fun k hk e => by have := (h3 k hk).1; have e : k = g := e; have := HAL2; omega)) (fun k hk e => by have := (h3 k hk).1; have e : k = w.heap.size := e; have := HAL2; omega), fun k hk => ⟨.inr (by have := (h3 k hk).1; have := HAL2; omega), ?_, fun e => by have := (h3 k hk).1; have e : k = g := e; have := HAL2; omega⟩⟩
    have := (h3 k hk).2
    simp [World.setCell]
    omega
set_option maxHeartbeats 4000000 in
theorem mline_framed_err {w : World} {B g : Nat} {F : Nat → Prop} {p : Int} {m : Rp.Mid} (h : MO w B g F p (some m)) (s : List UInt8) (_hs : s.length ≤ 1000000) (body : Bool) (_hB : B ≤ w.heap.size) (hK : ∀ wz, w.heap.size ≤ wz.heap.size → MO wz B g F p (some m) → ∃ lv bp, MkC wz g p (ba m.code) lv (.slice none 0 0) bp (.func (.func 32) #[.pointer (some ⟨g, 0, none⟩)] #[]) ∧ Calls Tryd.prog 32 #[.pointer (some ⟨g, 0, none⟩), .string (ba s)] wz (TP wz B g F p (Rp.next p m s))) {er : Nat} (ho : Rp.next p m s = .inr (.inr er)) (he : er ≠ 0) :
    Calls Tryd.prog 12 #[.pointer (some ⟨g, 0, none⟩), .string (ba s), .bool body] w (LnP w B g F p (.inr (.inr er))) := by
  have hal := (Below.refl w.heap.size w).alloc (Nat.le_refl _) (.cells #[.string ⟨#[]⟩, .slice none 0 0, .slice none 0 0] 30)
  have h0 := h.next hal
  have hrb : Rb (w.alloc (.cells #[.string ⟨#[]⟩, .slice none 0 0, .slice none 0 0] 30)) w.heap.size ⟨#[]⟩ (.slice none 0 0) (.slice none 0 0) := World.alloc_heap_new w _
  have hFr : ¬ F w.heap.size := fun e => by have := (h.lt _ e).2; omega
  obtain ⟨lv0, bp0, hi, hG⟩ := hK _ hal.size h0
  have CG := Lib.hid hG
  have CB := Lib.hid (mbusy_yes hi)
  have c5 := hi.c5
  clear hG hi hK
  rw [ho] at CG
  have HH := Lib.hid h
  have HFR := Lib.hid hFr
  have HAL := Lib.hid hal
  have HRB := Lib.hid hrb
  clear h h0 hFr hal hrb ho
  obtain ⟨w0, hw0⟩ : ∃ w0, w0 = w.alloc (.cells #[.string ⟨#[]⟩, .slice none 0 0, .slice none 0 0] 30) := ⟨_, rfl⟩
  have HW0 := Lib.hid hw0
  clear hw0
  go_enter Tryd.func12, Tryd.ntmps12
  go_wp2_with fail
  refine CB.out.mono ?_
  rintro e wx ⟨rfl, hwx⟩
  rw [← hwx]
  clear hwx CB
  go_wp2_with fail
  refine CG.out.mono ?_
  rintro e w1 ⟨wh, F1, c, lv, bo, bp, tk, rfl, hT, hX, hF1, hL1, hC, ⟨lo, ln, lc, rfl⟩, ⟨oo, on, oc, rfl⟩, hz⟩
  have hrb1 : Rb w1 w.heap.size ⟨#[]⟩ (.slice none 0 0) (.slice none 0 0) := HRB.out.same (hT.block _ HRB.out.lt HFR.out)
  have hFr1 : ¬ F1 w.heap.size := fun e => by
    rcases hX _ e with e | e
    · exact HFR.out e
    · have := HRB.out.lt; omega
  have HFR1 := Lib.hid hFr1
  have hTw := (Trn.of_below HAL.out).then hT
  have hXw := hX.lower HAL.out.size
  have hrlt := HRB.out.lt
  have HAL2 : w.heap.size + 1 = (w.alloc (.cells #[.string ⟨#[]⟩, .slice none 0 0, .slice none 0 0] 30)).heap.size := (World.size_alloc _ _).symm
  clear CG HAL hFr1
  have hz := hz
  have hCa := fun o => hC.next ((Below.refl w1.heap.size w1).alloc (Nat.le_refl _) o)
  have c0 := hC.c0
  have c1 := hC.c1
  have c2 := hC.c2
  have c3 := hC.c3
  have a0 := fun o => (hCa o).c0
  have a1 := fun o => (hCa o).c1
  have a2 := fun o => (hCa o).c2
  have a3 := fun o => (hCa o).c3
  have a4 := fun o => (hCa o).c4
  have a5 := fun o => (hCa o).c5
  have b0 := fun o => (hCa o).fr 0
  have b1 := fun o => (hCa o).fr 1
  have b2 := fun o => (hCa o).fr 2
  have b3 := fun o => (hCa o).fr 3
  have b4 := fun o => (hCa o).fr 4
  have b5 := fun o => (hCa o).fr 5
  have HC := Lib.hid hC
  have HRB1 := Lib.hid hrb1
  have HT := Lib.hid hTw
  have HX := Lib.hid hXw
  have HX1 := Lib.hid hX
  have HF1 := Lib.hid hF1
  have HL1 := Lib.hid hL1
  have HZ := Lib.hid hz
  clear hrb1 hTw hXw hF1 hL1 hT hX hz hC c5 hCa
  simp only [Rp.outErr]
  have x1 : ((er : Int) == 0) = false := beq_eq_false_iff_ne.2 (by omega)
  have x2 : ((er : Int) = 0) = False := eq_false (by omega)
  go_upto_region 10 with fail
  change Code.wp _ _ _ _ (wiped (w1.alloc (.cells #[.string c, .slice lo ln lc, .slice oo on oc] 30)) g p)
  have hg0 : g < w.heap.size := (HH.out.lt g HH.out.fg).2
  have hsz1 : w.heap.size < w1.heap.size := HRB1.out.lt
  have hM2 := wiped_mk (HC.out.next ((Below.refl w1.heap.size w1).alloc (Nat.le_refl _) (.cells #[.string c, .slice lo ln lc, .slice oo on oc] 30)))
  have hT2 := (HT.out.alloc (.cells #[.string c, .slice lo ln lc, .slice oo on oc] 30)).then (wiped_trn _ g p HH.out.fg)
  have hU2 := ((Trn.refl (fun k => k = g) w1).alloc (.cells #[.string c, .slice lo ln lc, .slice oo on oc] 30)).then (wiped_trn _ g p rfl)
  have hr2 : Rb (wiped (w1.alloc (.cells #[.string c, .slice lo ln lc, .slice oo on oc] 30)) g p) w.heap.size ⟨#[]⟩ (.slice none 0 0) (.slice none 0 0) := HRB1.out.same ((wiped_block _ g p (by omega)).trans (Below.heap_alloc _ _ _ hsz1))
  have ht2 : Rb (wiped (w1.alloc (.cells #[.string c, .slice lo ln lc, .slice oo on oc] 30)) g p) w1.heap.size c (.slice lo ln lc) (.slice oo on oc) := (wiped_block _ g p (by omega)).trans (World.alloc_heap_new w1 _)
  clear c0 c1 c2 c3 a0 a1 a2 a3 a4 a5 b0 b1 b2 b3 b4 b5
  generalize wiped (w1.alloc (.cells #[.string c, .slice lo ln lc, .slice oo on oc] 30)) g p = w2 at *
  have z0 := hr2.c0
  have z1 := hr2.c1
  have z2 := hr2.c2
  have y0 := hr2.fr 0
  have y1 := hr2.fr 1
  have y2 := hr2.fr 2
  have t0 := ht2.c0
  have t1 := ht2.c1
  have t2 := ht2.c2
  have HM2 := Lib.hid hM2
  have HT2 := Lib.hid hT2
  have HU2 := Lib.hid hU2
  have HRR := Lib.hid hr2
  clear hM2 hT2 hU2 hr2 ht2
  go_wp2
  clear z0 z1 z2 y0 y1 y2 t0 t1 t2
  have hr3 := HRR.out.set ⟨#[]⟩ (.slice none 0 0) (.slice none 0 0)
  have hT3 := trn_set3 HT2.out (Nat.le_refl _) (.string ⟨#[]⟩) (.slice none 0 0) (.slice none 0 0)
  have hX3 := HU2.out
  refine bodyPost_ret (v := .tuple #[.agg #[.string ⟨#[]⟩, .slice none 0 0, .slice none 0 0], .bool false, .int .i64 (er : Int)]) (by
    have d0 := hr3.c0
    have d1 := hr3.c1
    have d2 := hr3.c2
    generalize World.setCell _ _ _ = wz at d0 d1 d2 ⊢
    simp [results, Tryd.f12, go_sem, d0, d1, d2]) rfl ?_
  have hsz2 := HU2.out.size
  refine ⟨fun k => k = g, .slice none 0 0, .slice none 0 0, rfl, ?_, hT3, fun k hk => .inl (hk ▸ HH.out.fg), ?_, ?_⟩
  · exact MO.past (G := fun k => k = w.heap.size) (show MO w2 B g (fun k => k = g) p none from ⟨rfl, fun k hk => by subst hk; exact ⟨(HH.out.lt _ HH.out.fg).1, by omega⟩, HM2.out⟩) (Trn.set3_one w2 _ _ _ _) (fun k hk e => by have hk : k = g := hk; have e : k = w.heap.size := e; omega)
  · exact Td.nil _ _ _ _
  · exact Td.nil _ _ _ _
set_option maxHeartbeats 4000000 in
theorem mline_dotted_more {w : World} {B g : Nat} {F : Nat → Prop} {p : Int} {m : Rp.Mid} (h : MO w B g F p (some m)) (s : List UInt8) (_hs : s.length ≤ 1000000) (body : Bool) (_hB : B ≤ w.heap.size) (hK : ∀ wz, w.heap.size ≤ wz.heap.size → MO wz B g F p (some m) → ∃ lv bp, MkC wz g p (ba m.code) lv (.slice none 0 0) bp (.func (.func 33) #[.pointer (some ⟨g, 0, none⟩)] #[]) ∧ Calls Tryd.prog 33 #[.pointer (some ⟨g, 0, none⟩), .string (ba s)] wz (TP wz B g F p (Rp.next p m s))) {m' : Rp.Mid} (ho : Rp.next p m s = .inl m') :
    Calls Tryd.prog 12 #[.pointer (some ⟨g, 0, none⟩), .string (ba s), .bool body] w (LnP w B g F p (.inl m')) := by
  have hal := (Below.refl w.heap.size w).alloc (Nat.le_refl _) (.cells #[.string ⟨#[]⟩, .slice none 0 0, .slice none 0 0] 30)
  have h0 := h.next hal
  have hrb : Rb (w.alloc (.cells #[.string ⟨#[]⟩, .slice none 0 0, .slice none 0 0] 30)) w.heap.size ⟨#[]⟩ (.slice none 0 0) (.slice none 0 0) := World.alloc_heap_new w _
  have hFr : ¬ F w.heap.size := fun e => by have := (h.lt _ e).2; omega
  obtain ⟨lv0, bp0, hi, hG⟩ := hK _ hal.size h0
  have CG := Lib.hid hG
  have CB := Lib.hid (mbusy_yes hi)
  have c5 := hi.c5
  clear hG hi hK
  rw [ho] at CG
  have HH := Lib.hid h
  have HFR := Lib.hid hFr
  have HAL := Lib.hid hal
  have HRB := Lib.hid hrb
  clear h h0 hFr hal hrb ho
  obtain ⟨w0, hw0⟩ : ∃ w0, w0 = w.alloc (.cells #[.string ⟨#[]⟩, .slice none 0 0, .slice none 0 0] 30) := ⟨_, rfl⟩
  have HW0 := Lib.hid hw0
  clear hw0
  go_enter Tryd.func12, Tryd.ntmps12
  go_wp2_with fail
  refine CB.out.mono ?_
  rintro e wx ⟨rfl, hwx⟩
  rw [← hwx]
  clear hwx CB
  go_wp2_with fail
  refine CG.out.mono ?_
  rintro e w1 ⟨wh, F1, c, lv, bo, bp, tk, rfl, hT, hX, hF1, hL1, hC, ⟨lo, ln, lc, rfl⟩, ⟨oo, on, oc, rfl⟩, hz⟩
  have hrb1 : Rb w1 w.heap.size ⟨#[]⟩ (.slice none 0 0) (.slice none 0 0) := HRB.out.same (hT.block _ HRB.out.lt HFR.out)
  have hFr1 : ¬ F1 w.heap.size := fun e => by
    rcases hX _ e with e | e
    · exact HFR.out e
    · have := HRB.out.lt; omega
  have HFR1 := Lib.hid hFr1
  have hTw := (Trn.of_below HAL.out).then hT
  have hXw := hX.lower HAL.out.size
  have hrlt := HRB.out.lt
  have HAL2 : w.heap.size + 1 = (w.alloc (.cells #[.string ⟨#[]⟩, .slice none 0 0, .slice none 0 0] 30)).heap.size := (World.size_alloc _ _).symm
  clear CG HAL hFr1
  obtain ⟨rfl, hl, hI⟩ := hz rfl
  have z0 := hrb1.c0
  have z1 := hrb1.c1
  have z2 := hrb1.c2
  have y0 := hrb1.fr 0
  have y1 := hrb1.fr 1
  have y2 := hrb1.fr 2
  have HRB1 := Lib.hid hrb1
  have HT := Lib.hid hTw
  have HX := Lib.hid hXw
  have HI := Lib.hid hI
  have HF1 := Lib.hid hF1
  have HL1 := Lib.hid hL1
  clear hrb1 hTw hXw hI hF1 hL1 hT hX hz hl hC c5
  simp only [Rp.outErr, Rp.outDone]
  go_wp2
  clear z0 z1 z2 y0 y1 y2
  have hr2 := HRB1.out.set ⟨#[]⟩ (.slice none 0 0) (.slice none 0 0)
  have hT2 := trn_set3 HT.out (Nat.le_refl _) (.string ⟨#[]⟩) (.slice none 0 0) (.slice none 0 0)
  have hFr1 := HFR1.out
  refine bodyPost_ret (v := .tuple #[.agg #[.string ⟨#[]⟩, .slice none 0 0, .slice none 0 0], .bool false, .int .i64 0]) (by
    have d0 := hr2.c0
    have d1 := hr2.c1
    have d2 := hr2.c2
    generalize World.setCell _ _ _ = wz at d0 d1 d2 ⊢
    simp [results, Tryd.f12, go_sem, d0, d1, d2]) rfl ?_
  refine ⟨F1, .slice none 0 0, .slice none 0 0, rfl, ?_, hT2, HX.out, Td.nil _ _ _ _, Td.nil _ _ _ _⟩
  exact MO.past (G := fun k => k = w.heap.size) (show MO w1 B g F1 p (some m') from ⟨HF1.out, HL1.out, _, _, _, HI.out⟩) (Trn.set3_one w1 _ _ _ _) (fun k hk e => hFr1 (e ▸ hk))
set_option maxHeartbeats 4000000 in
theorem mline_dotted_whole {w : World} {B g : Nat} {F : Nat → Prop} {p : Int} {m : Rp.Mid} (h : MO w B g F p (some m)) (s : List UInt8) (_hs : s.length ≤ 1000000) (body : Bool) (_hB : B ≤ w.heap.size) (hK : ∀ wz, w.heap.size ≤ wz.heap.size → MO wz B g F p (some m) → ∃ lv bp, MkC wz g p (ba m.code) lv (.slice none 0 0) bp (.func (.func 33) #[.pointer (some ⟨g, 0, none⟩)] #[]) ∧ Calls Tryd.prog 33 #[.pointer (some ⟨g, 0, none⟩), .string (ba s)] wz (TP wz B g F p (Rp.next p m s))) {r : Rp.Re} (ho : Rp.next p m s = .inr (.inl r)) :
    Calls Tryd.prog 12 #[.pointer (some ⟨g, 0, none⟩), .string (ba s), .bool body] w (LnP w B g F p (.inr (.inl r))) := by
  have hal := (Below.refl w.heap.size w).alloc (Nat.le_refl _) (.cells #[.string ⟨#[]⟩, .slice none 0 0, .slice none 0 0] 30)
  have h0 := h.next hal
  have hrb : Rb (w.alloc (.cells #[.string ⟨#[]⟩, .slice none 0 0, .slice none 0 0] 30)) w.heap.size ⟨#[]⟩ (.slice none 0 0) (.slice none 0 0) := World.alloc_heap_new w _
  have hFr : ¬ F w.heap.size := fun e => by have := (h.lt _ e).2; omega
  obtain ⟨lv0, bp0, hi, hG⟩ := hK _ hal.size h0
  have CG := Lib.hid hG
  have CB := Lib.hid (mbusy_yes hi)
  have c5 := hi.c5
  clear hG hi hK
  rw [ho] at CG
  have HH := Lib.hid h
  have HFR := Lib.hid hFr
  have HAL := Lib.hid hal
  have HRB := Lib.hid hrb
  clear h h0 hFr hal hrb ho
  obtain ⟨w0, hw0⟩ : ∃ w0, w0 = w.alloc (.cells #[.string ⟨#[]⟩, .slice none 0 0, .slice none 0 0] 30) := ⟨_, rfl⟩
  have HW0 := Lib.hid hw0
  clear hw0
  go_enter Tryd.func12, Tryd.ntmps12
  go_wp2_with fail
  refine CB.out.mono ?_
  rintro e wx ⟨rfl, hwx⟩
  rw [← hwx]
  clear hwx CB
  go_wp2_with fail
  refine CG.out.mono ?_
  rintro e w1 ⟨wh, F1, c, lv, bo, bp, tk, rfl, hT, hX, hF1, hL1, hC, ⟨lo, ln, lc, rfl⟩, ⟨oo, on, oc, rfl⟩, hz⟩
  have hrb1 : Rb w1 w.heap.size ⟨#[]⟩ (.slice none 0 0) (.slice none 0 0) := HRB.out.same (hT.block _ HRB.out.lt HFR.out)
  have hFr1 : ¬ F1 w.heap.size := fun e => by
    rcases hX _ e with e | e
    · exact HFR.out e
    · have := HRB.out.lt; omega
  have HFR1 := Lib.hid hFr1
  have hTw := (Trn.of_below HAL.out).then hT
  have hXw := hX.lower HAL.out.size
  have hrlt := HRB.out.lt
  have HAL2 : w.heap.size + 1 = (w.alloc (.cells #[.string ⟨#[]⟩, .slice none 0 0, .slice none 0 0] 30)).heap.size := (World.size_alloc _ _).symm
  clear CG HAL hFr1
  have hz := hz rfl
  have hCa := fun o => hC.next ((Below.refl w1.heap.size w1).alloc (Nat.le_refl _) o)
  have c0 := hC.c0
  have c1 := hC.c1
  have c2 := hC.c2
  have c3 := hC.c3
  have a0 := fun o => (hCa o).c0
  have a1 := fun o => (hCa o).c1
  have a2 := fun o => (hCa o).c2
  have a3 := fun o => (hCa o).c3
  have a4 := fun o => (hCa o).c4
  have a5 := fun o => (hCa o).c5
  have b0 := fun o => (hCa o).fr 0
  have b1 := fun o => (hCa o).fr 1
  have b2 := fun o => (hCa o).fr 2
  have b3 := fun o => (hCa o).fr 3
  have b4 := fun o => (hCa o).fr 4
  have b5 := fun o => (hCa o).fr 5
  have HC := Lib.hid hC
  have HRB1 := Lib.hid hrb1
  have HT := Lib.hid hTw
  have HX := Lib.hid hXw
  have HX1 := Lib.hid hX
  have HF1 := Lib.hid hF1
  have HL1 := Lib.hid hL1
  have HZ := Lib.hid hz
  clear hrb1 hTw hXw hF1 hL1 hT hX hz hC c5 hCa
  simp only [Rp.outErr]
  obtain ⟨rfl, hl2, rfl, r1, r2, r3⟩ : wh = true ∧ _ := HZ.out
  have HR1 := Lib.hid r1
  have HR2 := Lib.hid r2
  have HR3 := Lib.hid r3
  have HL2 := Lib.hid hl2
  clear r1 r2 r3 hl2 HZ
  go_upto_region 10 with fail
  change Code.wp _ _ _ _ (wiped (w1.alloc (.cells #[.string (ba r.code), .slice lo ln lc, .slice oo on oc] 30)) g p)
  have hg0 : g < w.heap.size := (HH.out.lt g HH.out.fg).2
  have hsz1 : w.heap.size < w1.heap.size := HRB1.out.lt
  have hM2 := wiped_mk (HC.out.next ((Below.refl w1.heap.size w1).alloc (Nat.le_refl _) (.cells #[.string (ba r.code), .slice lo ln lc, .slice oo on oc] 30)))
  have hT2 := (HT.out.alloc (.cells #[.string (ba r.code), .slice lo ln lc, .slice oo on oc] 30)).then (wiped_trn _ g p HH.out.fg)
  have hU2 := ((Trn.refl (fun k => k = g) w1).alloc (.cells #[.string (ba r.code), .slice lo ln lc, .slice oo on oc] 30)).then (wiped_trn _ g p rfl)
  have hr2 : Rb (wiped (w1.alloc (.cells #[.string (ba r.code), .slice lo ln lc, .slice oo on oc] 30)) g p) w.heap.size ⟨#[]⟩ (.slice none 0 0) (.slice none 0 0) := HRB1.out.same ((wiped_block _ g p (by omega)).trans (Below.heap_alloc _ _ _ hsz1))
  have ht2 : Rb (wiped (w1.alloc (.cells #[.string (ba r.code), .slice lo ln lc, .slice oo on oc] 30)) g p) w1.heap.size (ba r.code) (.slice lo ln lc) (.slice oo on oc) := (wiped_block _ g p (by omega)).trans (World.alloc_heap_new w1 _)
  clear c0 c1 c2 c3 a0 a1 a2 a3 a4 a5 b0 b1 b2 b3 b4 b5
  generalize wiped (w1.alloc (.cells #[.string (ba r.code), .slice lo ln lc, .slice oo on oc] 30)) g p = w2 at *
  have z0 := hr2.c0
  have z1 := hr2.c1
  have z2 := hr2.c2
  have y0 := hr2.fr 0
  have y1 := hr2.fr 1
  have y2 := hr2.fr 2
  have t0 := ht2.c0
  have t1 := ht2.c1
  have t2 := ht2.c2
  have HM2 := Lib.hid hM2
  have HT2 := Lib.hid hT2
  have HU2 := Lib.hid hU2
  have HRR := Lib.hid hr2
  clear hM2 hT2 hU2 hr2 ht2
  go_wp2
  clear z0 z1 z2 y0 y1 y2 t0 t1 t2
  have hr3 := HRR.out.set (ba r.code) (.slice lo ln lc) (.slice oo on oc)
  have hT3 := trn_set3 HT2.out (Nat.le_refl _) (.string (ba r.code)) (.slice lo ln lc) (.slice oo on oc)
  have hX3 := HU2.out
  refine bodyPost_ret (v := .tuple #[.agg #[.string (ba r.code), .slice lo ln lc, .slice oo on oc], .bool true, .int .i64 0]) (by
    have d0 := hr3.c0
    have d1 := hr3.c1
    have d2 := hr3.c2
    generalize World.setCell _ _ _ = wz at d0 d1 d2 ⊢
    simp [results, Tryd.f12, go_sem, d0, d1, d2]) rfl ?_
  have hsz2 := HU2.out.size
  refine ⟨fun k => k = g, .slice lo ln lc, .slice oo on oc, rfl, ?_, hT3, fun k hk => .inl (hk ▸ HH.out.fg), ?_, ?_⟩
  · exact MO.past (G := fun k => k = w.heap.size) (show MO w2 B g (fun k => k = g) p none from ⟨rfl, fun k hk => by subst hk; exact ⟨(HH.out.lt _ HH.out.fg).1, by omega⟩, HM2.out⟩) (Trn.set3_one w2 _ _ _ _) (fun k hk e => by have hk : k = g := hk; have e : k = w.heap.size := e; omega)
  · refine ⟨(Trn.set3_one w2 w.heap.size _ _ _).rd (HU2.out.rd HR1.out (fun k hk => (HL2.out k hk).2)) (fun k hk e => HFR1.out (by rw [← show k = w.heap.size from e]; exact (HL2.out k hk).1)), fun k hk => ⟨HX.out k (HL2.out k hk).1, ?_, (HL2.out k hk).2⟩⟩
    have := (HL1.out k (HL2.out k hk).1).2
    simp [World.setCell]
    omega
  · have h3 := HR3.out
    refine ⟨(Trn.set3_one w2 w.heap.size _ _ _).rd (HU2.out.rd HR2.out (fun k hk e => by have := (h3 k hk).1; have e : k = g := e; have := HAL2; omega)) (fun k hk e => by have := (h3 k hk).1; have e : k = w.heap.size := e; have := HAL2; omega), fun k hk => ⟨.inr (by have := (h3 k hk).1; have := HAL2; omega), ?_, fun e => by have := (h3 k hk).1; have e : k = g := e; have := HAL2; omega⟩⟩
    have := (h3 k hk).2
    simp [World.setCell]
    omega
set_option maxHeartbeats 4000000 in
theorem mline_dotted_err {w : World} {B g : Nat} {F : Nat → Prop} {p : Int} {m : Rp.Mid} (h : MO w B g F p (some m)) (s : List UInt8) (_hs : s.length ≤ 1000000) (body : Bool) (_hB : B ≤ w.heap.size) (hK : ∀ wz, w.heap.size ≤ wz.heap.size → MO wz B g F p (some m) → ∃ lv bp, MkC wz g p (ba m.code) lv (.slice none 0 0) bp (.func (.func 33) #[.pointer (some ⟨g, 0, none⟩)] #[]) ∧ Calls Tryd.prog 33 #[.pointer (some ⟨g, 0, none⟩), .string (ba s)] wz (TP wz B g F p (Rp.next p m s))) {er : Nat} (ho : Rp.next p m s = .inr (.inr er)) (he : er ≠ 0) :
    Calls Tryd.prog 12 #[.pointer (some ⟨g, 0, none⟩), .string (ba s), .bool body] w (LnP w B g F p (.inr (.inr er))) := by
  have hal := (Below.refl w.heap.size w).alloc (Nat.le_refl _) (.cells #[.string ⟨#[]⟩, .slice none 0 0, .slice none 0 0] 30)
  have h0 := h.next hal
  have hrb : Rb (w.alloc (.cells #[.string ⟨#[]⟩, .slice none 0 0, .slice none 0 0] 30)) w.heap.size ⟨#[]⟩ (.slice none 0 0) (.slice none 0 0) := World.alloc_heap_new w _
  have hFr : ¬ F w.heap.size := fun e => by have := (h.lt _ e).2; omega
  obtain ⟨lv0, bp0, hi, hG⟩ := hK _ hal.size h0
  have CG := Lib.hid hG
  have CB := Lib.hid (mbusy_yes hi)
  have c5 := hi.c5
  clear hG hi hK
  rw [ho] at CG
  have HH := Lib.hid h
  have HFR := Lib.hid hFr
  have HAL := Lib.hid hal
  have HRB := Lib.hid hrb
  clear h h0 hFr hal hrb ho
  obtain ⟨w0, hw0⟩ : ∃ w0, w0 = w.alloc (.cells #[.string ⟨#[]⟩, .slice none 0 0, .slice none 0 0] 30) := ⟨_, rfl⟩
  have HW0 := Lib.hid hw0
  clear hw0
  go_enter Tryd.func12, Tryd.ntmps12
  go_wp2_with fail
  refine CB.out.mono ?_
  rintro e wx ⟨rfl, hwx⟩
  rw [← hwx]
  clear hwx CB
  go_wp2_with fail
  refine CG.out.mono ?_
  rintro e w1 ⟨wh, F1, c, lv, bo, bp, tk, rfl, hT, hX, hF1, hL1, hC, ⟨lo, ln, lc, rfl⟩, ⟨oo, on, oc, rfl⟩, hz⟩
  have hrb1 : Rb w1 w.heap.size ⟨#[]⟩ (.slice none 0 0) (.slice none 0 0) := HRB.out.same (hT.block _ HRB.out.lt HFR.out)
  have hFr1 : ¬ F1 w.heap.size := fun e => by
    rcases hX _ e with e | e
    · exact HFR.out e
    · have := HRB.out.lt; omega
  have HFR1 := Lib.hid hFr1
  have hTw := (Trn.of_below HAL.out).then hT
  have hXw := hX.lower HAL.out.size
  have hrlt := HRB.out.lt
  have HAL2 : w.heap.size + 1 = (w.alloc (.cells #[.string ⟨#[]⟩, .slice none 0 0, .slice none 0 0] 30)).heap.size := (World.size_alloc _ _).symm
  clear CG HAL hFr1
  have hz := hz
  have hCa := fun o => hC.next ((Below.refl w1.heap.size w1).alloc (Nat.le_refl _) o)
  have c0 := hC.c0
  have c1 := hC.c1
  have c2 := hC.c2
  have c3 := hC.c3
  have a0 := fun o => (hCa o).c0
  have a1 := fun o => (hCa o).c1
  have a2 := fun o => (hCa o).c2
  have a3 := fun o => (hCa o).c3
  have a4 := fun o => (hCa o).c4
  have a5 := fun o => (hCa o).c5
  have b0 := fun o => (hCa o).fr 0
  have b1 := fun o => (hCa o).fr 1
  have b2 := fun o => (hCa o).fr 2
  have b3 := fun o => (hCa o).fr 3
  have b4 := fun o => (hCa o).fr 4
  have b5 := fun o => (hCa o).fr 5
  have HC := Lib.hid hC
  have HRB1 := Lib.hid hrb1
  have HT := Lib.hid hTw
  have HX := Lib.hid hXw
  have HX1 := Lib.hid hX
  have HF1 := Lib.hid hF1
  have HL1 := Lib.hid hL1
  have HZ := Lib.hid hz
  clear hrb1 hTw hXw hF1 hL1 hT hX hz hC c5 hCa
  simp only [Rp.outErr]
  have x1 : ((er : Int) == 0) = false := beq_eq_false_iff_ne.2 (by omega)
  have x2 : ((er : Int) = 0) = False := eq_false (by omega)
  go_upto_region 10 with fail
  change Code.wp _ _ _ _ (wiped (w1.alloc (.cells #[.string c, .slice lo ln lc, .slice oo on oc] 30)) g p)
  have hg0 : g < w.heap.size := (HH.out.lt g HH.out.fg).2
  have hsz1 : w.heap.size < w1.heap.size := HRB1.out.lt
  have hM2 := wiped_mk (HC.out.next ((Below.refl w1.heap.size w1).alloc (Nat.le_refl _) (.cells #[.string c, .slice lo ln lc, .slice oo on oc] 30)))
  have hT2 := (HT.out.alloc (.cells #[.string c, .slice lo ln lc, .slice oo on oc] 30)).then (wiped_trn _ g p HH.out.fg)
  have hU2 := ((Trn.refl (fun k => k = g) w1).alloc (.cells #[.string c, .slice lo ln lc, .slice oo on oc] 30)).then (wiped_trn _ g p rfl)
  have hr2 : Rb (wiped (w1.alloc (.cells #[.string c, .slice lo ln lc, .slice oo on oc] 30)) g p) w.heap.size ⟨#[]⟩ (.slice none 0 0) (.slice none 0 0) := HRB1.out.same ((wiped_block _ g p (by omega)).trans (Below.heap_alloc _ _ _ hsz1))
  have ht2 : Rb (wiped (w1.alloc (.cells #[.string c, .slice lo ln lc, .slice oo on oc] 30)) g p) w1.heap.size c (.slice lo ln lc) (.slice oo on oc) := (wiped_block _ g p (by omega)).trans (World.alloc_heap_new w1 _)
  clear c0 c1 c2 c3 a0 a1 a2 a3 a4 a5 b0 b1 b2 b3 b4 b5
  generalize wiped (w1.alloc (.cells #[.string c, .slice lo ln lc, .slice oo on oc] 30)) g p = w2 at *
  have z0 := hr2.c0
  have z1 := hr2.c1
  have z2 := hr2.c2
  have y0 := hr2.fr 0
  have y1 := hr2.fr 1
  have y2 := hr2.fr 2
  have t0 := ht2.c0
  have t1 := ht2.c1
  have t2 := ht2.c2
  have HM2 := Lib.hid hM2
  have HT2 := Lib.hid hT2
  have HU2 := Lib.hid hU2
  have HRR := Lib.hid hr2
  clear hM2 hT2 hU2 hr2 ht2
  go_wp2
  clear z0 z1 z2 y0 y1 y2 t0 t1 t2
  have hr3 := HRR.out.set ⟨#[]⟩ (.slice none 0 0) (.slice none 0 0)
  have hT3 := trn_set3 HT2.out (Nat.le_refl _) (.string ⟨#[]⟩) (.slice none 0 0) (.slice none 0 0)
  have hX3 := HU2.out
  refine bodyPost_ret (v := .tuple #[.agg #[.string ⟨#[]⟩, .slice none 0 0, .slice none 0 0], .bool false, .int .i64 (er : Int)]) (by
    have d0 := hr3.c0
    have d1 := hr3.c1
    have d2 := hr3.c2
    generalize World.setCell _ _ _ = wz at d0 d1 d2 ⊢
    simp [results, Tryd.f12, go_sem, d0, d1, d2]) rfl ?_
  have hsz2 := HU2.out.size
  refine ⟨fun k => k = g, .slice none 0 0, .slice none 0 0, rfl, ?_, hT3, fun k hk => .inl (hk ▸ HH.out.fg), ?_, ?_⟩
  · exact MO.past (G := fun k => k = w.heap.size) (show MO w2 B g (fun k => k = g) p none from ⟨rfl, fun k hk => by subst hk; exact ⟨(HH.out.lt _ HH.out.fg).1, by omega⟩, HM2.out⟩) (Trn.set3_one w2 _ _ _ _) (fun k hk e => by have hk : k = g := hk; have e : k = w.heap.size := e; omega)
  · exact Td.nil _ _ _ _
  · exact Td.nil _ _ _ _
end Go.Proofs.YtnodngcfjdghcaaDoor
