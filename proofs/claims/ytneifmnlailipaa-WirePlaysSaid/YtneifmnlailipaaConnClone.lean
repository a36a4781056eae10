/- 'clone' of a connection, walked. (Laid by wip/tools/gen_cclone.py.) -/
import Derived.Test.YtneifmnlailipaaConnGive
import Derived.Deep.CutRange
namespace Go.Proofs.Ytneifmnlailipaa
open Go.RowKit
section
variable {w : World} {B g o : Nat} {F : Nat → Prop} {C : Array Value} {T : TypeId} {s so sw : Value} {most : Int} {c : Wi.Cn}

/-- Where a connection is cloned: the one, and the block that is made of it. -/
structure JC (w : World) (B g o : Nat) (F : Nat → Prop) (C : Array Value) (T : TypeId) (s so sw : Value) (most : Int) (c : Wi.Cn) (gb : Nat) (D : Array Value) (wr : World) : Prop where
  x : CX wr B g o F C T s so sw most c
  b : Below w.heap.size w wr
  hb : w.heap.size < gb
  h : wr.heap[gb]? = some (.cells D 52 (0, 0))
  n : D.size = 8
  z : wr.heap[w.heap.size]? = some (.cells #[.int .i64 0, .bool false, .int .i64 0, .int .i64 0, .slice none 0 0, .int .i64 0, .slice none 0 0, .slice none 0 0] 52 (0, 0))
variable {gb : Nat} {D : Array Value} {wr w' : World}
theorem JC.next (h : JC w B g o F C T s so sw most c gb D wr) (hb : Below wr.heap.size wr w') : JC w B g o F C T s so sw most c gb D w' :=
  ⟨h.x.next hb, h.b.trans (hb.mono h.b.size), h.hb, (hb.block _ (Array.getElem?_eq_some_iff.1 h.h).1).trans h.h, h.n, (hb.block _ (Array.getElem?_eq_some_iff.1 h.z).1).trans h.z⟩
theorem JC.cs (h : JC w B g o F C T s so sw most c gb D wr) : wr.cell? ⟨g, o + 6, none⟩ = some so ∧ wr.cell? ⟨g, o + 7, none⟩ = some sw := ⟨h.x.c6, h.x.c7⟩
theorem JC.f (h : JC w B g o F C T s so sw most c gb D wr) (i : Nat) : wr.frozen? ⟨gb, i, none⟩ = false := frozen_of_row _ _ _ _ _ h.h
theorem JC.k (h : JC w B g o F C T s so sw most c gb D wr) {i : Nat} {v : Value} (hv : D[i]? = some v) : wr.cell? ⟨gb, i, none⟩ = some v := cell_in h.h hv
theorem JC.some (h : JC w B g o F C T s so sw most c gb D wr) (i : Nat) (hi : i < 8) : ∃ v, wr.cell? ⟨gb, i, none⟩ = some v := ⟨D[i]'(by rw [h.n]; exact hi), cell_in h.h (by simp)⟩
theorem JC.set (h : JC w B g o F C T s so sw most c gb D wr) (hg : g < w.heap.size) (hF : ∀ k, F k → k < w.heap.size) (i : Nat) (v : Value) : JC w B g o F C T s so sw most c gb (D.setIfInBounds i v) (wr.setCell ⟨gb, i, none⟩ v) := by
  have ht := turn_setCell wr gb i (.slice none 0 0) v
  have hlt := (Array.getElem?_eq_some_iff.1 h.h).1
  have hb := h.hb
  refine ⟨h.x.kept ht.size (ht.block g h.x.lt (by omega) (fun e => by cases e)) (fun k hk => ht.block k (h.x.fF k hk).2.1 (by have := hF k hk; omega) (fun e => by cases e)), h.b.setCell (Nat.le_of_lt h.hb) v, h.hb, setCell_row h.h, by simpa using h.n, (ht.block _ (Array.getElem?_eq_some_iff.1 h.z).1 (by omega) (fun e => by cases e)).trans h.z⟩
/-- What was made since stays, too. -/
theorem JC.keep {n : Nat} {v u : Value} {xs : List UInt8} (h : Own wr n v xs) (hv : v.ownBlock ≠ Option.some gb) (i : Nat) : Own (wr.setCell ⟨gb, i, none⟩ u) n v xs := ⟨own_set h.r hv, h.e⟩

theorem jc_clone {v : Value} {xs : List UInt8} {n : Nat} (h : JC w B g o F C T s so sw most c gb D wr) (hx : Own wr B v xs) (hn : n ≤ 16777216) (hl : xs.length = n) :
    Calls Try.prog 55 #[v] wr fun e w' => ∃ bo c', e = .returned (.slice bo n c') ∧ JC w B g o F C T s so sw most c gb D w' ∧ Below wr.heap.size wr w' ∧ Own w' wr.heap.size (.slice bo n c') xs := by
  refine (sclone_any v xs wr hx.rd hx.e (by rw [hl]; exact hn)).mono ?_
  rintro e w' ⟨bo, c', rfl, hb, ho⟩
  rw [hl] at ho ⊢
  exact ⟨bo, c', rfl, h.next hb, hb, ho⟩

set_option maxRecDepth 20000 in
set_option maxHeartbeats 4000000 in
/-- 'clone'. -/
theorem cclone_any (h : CX w B g o F C T s so sw most c) (ho : c.old.length ≤ 16777216) (hw : c.wrote.length ≤ 16777216) : Calls Try.prog 40 #[.pointer (some ⟨g, o, none⟩)] w fun e w' => ∃ zo zc xo xc yo yc,
    e = .returned (.agg #[.int .i64 (c.st : Int), .bool c.dn, .int .i64 (c.got : Int), .int .i64 most, .slice zo c.xs.length zc, .int .i64 (c.t : Int), .slice xo c.old.length xc, .slice yo c.wrote.length yc]) ∧ Below w.heap.size w w' ∧
    Own w' w.heap.size (.slice zo c.xs.length zc) c.xs ∧ Own w' w.heap.size (.slice xo c.old.length xc) c.old ∧ Own w' w.heap.size (.slice yo c.wrote.length yc) c.wrote ∧
    Dj (.slice zo c.xs.length zc) (.slice xo c.old.length xc) ∧ Dj (.slice zo c.xs.length zc) (.slice yo c.wrote.length yc) ∧ Dj (.slice xo c.old.length xc) (.slice yo c.wrote.length yc) := by
  have HO := Lib.hid ho
  have HW := Lib.hid hw
  have hglt := h.lt
  have hFlt := fun k hk => (h.fF k hk).2.1
  obtain ⟨ao, ac, hsf, _⟩ := h.q.form
  obtain ⟨bo, bc, hof⟩ := h.ro.form
  obtain ⟨co, cc, hwf⟩ := h.rw.form
  subst hsf hof hwf
  generalize hX : c.xs.length = X at *
  generalize hO : c.old.length = O at *
  generalize hW : c.wrote.length = W at *
  have HX := Lib.hid hX
  have HOL := Lib.hid hO
  have HWL := Lib.hid hW
  have H := Lib.hid h
  have HG := Lib.hid hglt
  have HF := Lib.hid hFlt
  clear h ho hw hX hO hW hglt hFlt
  go_enter Try.func40, Try.ntmps40
  go_upto_region 1 with fail
  have ha : Below w.heap.size w (w.alloc (.cells #[.int .i64 0, .bool false, .int .i64 0, .int .i64 0, .slice none 0 0, .int .i64 0, .slice none 0 0, .slice none 0 0] 52)) := (Below.refl _ _).alloc (Nat.le_refl _) _
  have hz := heap_alloc_new w (.cells #[.int .i64 0, .bool false, .int .i64 0, .int .i64 0, .slice none 0 0, .int .i64 0, .slice none 0 0, .slice none 0 0] 52)
  have hsz : (w.alloc (.cells #[.int .i64 0, .bool false, .int .i64 0, .int .i64 0, .slice none 0 0, .int .i64 0, .slice none 0 0, .slice none 0 0] 52)).heap.size = w.heap.size + 1 := by simp
  generalize w.alloc (.cells #[.int .i64 0, .bool false, .int .i64 0, .int .i64 0, .slice none 0 0, .int .i64 0, .slice none 0 0, .slice none 0 0] 52) = w1 at *
  have H1 := H.out.next ha
  have c0 := H1.c0
  have c1 := H1.c1
  have c2 := H1.c2
  have c3 := H1.q.c0
  have c4 : w1.cell? ⟨g, o + 4, none⟩ = some (.slice ao X ac) := H1.q.c1
  have c5 : w1.cell? ⟨g, o + 5, none⟩ = some (.int .i64 (c.t : Int)) := H1.q.c2
  have c6 := H1.c6
  have c7 := H1.c7
  have HSZ := Lib.hid hsz
  have HZ := Lib.hid hz
  have HA := Lib.hid ha
  clear hz hsz ha
  go_upto_region 2 with fail
  have J2 : JC w B g o F C T _ _ _ most c w1.heap.size #[.int .i64 (c.st : Int), .bool c.dn, .int .i64 (c.got : Int), .int .i64 most, .slice ao X ac, .int .i64 (c.t : Int), .slice bo O bc, .slice co W cc] (w1.alloc (.cells #[.int .i64 (c.st : Int), .bool c.dn, .int .i64 (c.got : Int), .int .i64 most, .slice ao X ac, .int .i64 (c.t : Int), .slice bo O bc, .slice co W cc] 52)) :=
    have hb := (Below.refl w1.heap.size w1).alloc (Nat.le_refl _) (.cells #[.int .i64 (c.st : Int), .bool c.dn, .int .i64 (c.got : Int), .int .i64 most, .slice ao X ac, .int .i64 (c.t : Int), .slice bo O bc, .slice co W cc] 52)
    ⟨H1.next hb, HA.out.trans (hb.mono HA.out.size), by rw [HSZ.out]; omega, heap_alloc_new _ _, rfl, (hb.block _ (by rw [HSZ.out]; omega)).trans HZ.out⟩
  generalize w1.alloc (.cells #[.int .i64 (c.st : Int), .bool c.dn, .int .i64 (c.got : Int), .int .i64 most, .slice ao X ac, .int .i64 (c.t : Int), .slice bo O bc, .slice co W cc] 52) = w2 at *
  generalize w1.heap.size = gb at *
  have J2 := Lib.hid J2
  clear c0 c1 c2 c3 c4 c5 c6 c7 H1 HZ HA HSZ
  go_wp2_with fail
  refine (clone_any J2.out.x.q).mono ?_
  rintro e w5 ⟨g', s', rfl, hg', hr', ho', hn', he', ⟨zo, zc, rfl⟩, hb'⟩
  rw [HX.out] at ho' hn' he' hr'
  have J5 := J2.out.next hb'
  have n0 : w5.cell? ⟨g', 0, none⟩ = some (.int .i64 most) := cell_of_row _ _ _ _ _ _ hr'
  have n1 : w5.cell? ⟨g', 1, none⟩ = some (.slice zo X zc) := cell_of_row _ _ _ _ _ _ hr'
  have n2 : w5.cell? ⟨g', 2, none⟩ = some (.int .i64 (c.t : Int)) := cell_of_row _ _ _ _ _ _ hr'
  have k3 : w5.cell? ⟨gb, 3, none⟩ = some _ := J5.k rfl
  have k4 : w5.cell? ⟨gb, 4, none⟩ = some _ := J5.k rfl
  have k5 : w5.cell? ⟨gb, 5, none⟩ = some _ := J5.k rfl
  have f3 := J5.f 3
  have f4 := J5.f 4
  have f5 := J5.f 5
  have J6 := ((J5.set HG.out HF.out 3 (.int .i64 most)).set HG.out HF.out 4 (.slice zo X zc)).set HG.out HF.out 5 (.int .i64 (c.t : Int))
  have hne : (Value.slice zo X zc).ownBlock ≠ some gb := fun e => by
    have h1 := (ho'.lt _ e).1
    have h2 := (Array.getElem?_eq_some_iff.1 J2.out.h).1
    omega
  have O5 : Own w5 w.heap.size (.slice zo X zc) c.xs := ⟨by rw [HX.out]; exact ownsRow_lower ho' J2.out.b.size, he'⟩
  have O6 := JC.keep (u := .int .i64 (c.t : Int)) (JC.keep (u := .slice zo X zc) (JC.keep (u := .int .i64 most) O5 hne 3) hne 4) hne 5
  have hzlt : ∀ k, (Value.slice zo X zc).ownBlock = some k → k < w5.heap.size := fun k hk => (ho'.lt k hk).2
  have JX := Lib.hid J6
  have OX := Lib.hid O6
  have ZX := Lib.hid hzlt
  have NZ := Lib.hid (show ∀ k, (Value.slice zo X zc).ownBlock = some k → w.heap.size < k from fun k hk => by
    have h1 := (ho'.lt k hk).1
    have h2 := (Array.getElem?_eq_some_iff.1 J2.out.h).1
    have h3 := J2.out.hb
    omega)
  have HSZ6 := Lib.hid (show (((w5.setCell ⟨gb, 3, none⟩ (.int .i64 most)).setCell ⟨gb, 4, none⟩ (.slice zo X zc)).setCell ⟨gb, 5, none⟩ (.int .i64 (c.t : Int))).heap.size = w5.heap.size by simp [World.setCell])
  have NE := Lib.hid hne
  clear J6 O6 O5 J5 hb' hr' ho' hn' he' hg' hzlt hne J2
  go_upto_region 3 with fail
  generalize ((w5.setCell ⟨gb, 3, none⟩ (.int .i64 most)).setCell ⟨gb, 4, none⟩ (.slice zo X zc)).setCell ⟨gb, 5, none⟩ (.int .i64 (c.t : Int)) = w6 at *
  have J6 : JC w B g o F C T _ _ _ most c gb #[.int .i64 (c.st : Int), .bool c.dn, .int .i64 (c.got : Int), .int .i64 most, .slice zo X zc, .int .i64 (c.t : Int), .slice bo O bc, .slice co W cc] w6.drew := JX.out.next ((Below.refl _ _).drew)
  have OX6 := Lib.hid (OX.out.next ((Below.refl w6.heap.size w6).drew))
  have SZ6 := Lib.hid (show w6.drew.heap.size = w5.heap.size from HSZ6.out)
  have CO := Lib.hid (fun wr (hJ : JC w B g o F C T (.slice ao X ac) (.slice bo O bc) (.slice co W cc) most c gb #[.int .i64 (c.st : Int), .bool c.dn, .int .i64 (c.got : Int), .int .i64 most, .slice zo X zc, .int .i64 (c.t : Int), .slice bo O bc, .slice co W cc] wr) => jc_clone hJ hJ.x.ro HO.out HOL.out)
  have CW := Lib.hid (fun wr (hJ : JC w B g o F C T (.slice ao X ac) (.slice bo O bc) (.slice co W cc) most c gb #[.int .i64 (c.st : Int), .bool c.dn, .int .i64 (c.got : Int), .int .i64 most, .slice zo X zc, .int .i64 (c.t : Int), .slice bo O bc, .slice co W cc] wr) => jc_clone hJ hJ.x.rw HW.out HWL.out)
  have s0 := J6.cs
  clear JX OX k3 k4 k5 f3 f4 f5 n0 n1 n2 HSZ6
  refine wp_region_held_drew (S := fun w' => w'.cell? ⟨g, o + 6, none⟩ = some (.slice bo O bc) ∧ w'.cell? ⟨g, o + 7, none⟩ = some (.slice co W cc)) (by kernel_rfl) s0 (fun hH => ?_)
  generalize w6.drew = w6d at *
  refine heldTake (i := 0) (v := ?_) rfl (by kernel_rfl) (by kernel_rfl) (fun _ _ _ h => h) (by rfl) (by assumption) (fun w hSw => ?_) ?_; rotate_left; focus ((try dsimp only at hSw); go_simp; try with_reducible rfl)
  try simp only [Act.put, List.setIfInBounds_toArray, List.set_cons_zero, List.set_cons_succ]
  refine heldTake (i := 1) (v := ?_) rfl (by kernel_rfl) (by kernel_rfl) (fun _ _ _ h => h) (by rfl) (by assumption) (fun w hSw => ?_) ?_; rotate_left; focus ((try dsimp only at hSw); go_simp; try with_reducible rfl)
  try simp only [Act.put, List.setIfInBounds_toArray, List.set_cons_zero, List.set_cons_succ]
  refine heldTake (i := 2) (v := ?_) rfl (by kernel_rfl) (by kernel_rfl) (fun _ _ _ h => h) (by rfl) (by assumption) (fun w hSw => ?_) ?_; rotate_left; focus ((try dsimp only at hSw); go_simp; try with_reducible rfl)
  try simp only [Act.put, List.setIfInBounds_toArray, List.set_cons_zero, List.set_cons_succ]
  refine heldTake (i := 3) (v := ?_) rfl (by kernel_rfl) (by kernel_rfl) (fun _ _ _ h => h) (by rfl) (by assumption) (fun w hSw => ?_) ?_; rotate_left; focus ((try dsimp only at hSw); go_simp; try with_reducible rfl)
  try simp only [Act.put, List.setIfInBounds_toArray, List.set_cons_zero, List.set_cons_succ]
  refine heldTake (i := 5) (v := ?_) rfl (by kernel_rfl) (by kernel_rfl) (fun _ _ _ h => h) (by rfl) (by assumption) (fun w hSw => ?_) ?_; rotate_left; focus ((try dsimp only at hSw); go_simp; try with_reducible rfl)
  try simp only [Act.put, List.setIfInBounds_toArray, List.set_cons_zero, List.set_cons_succ]
  refine heldTake (i := 6) (v := ?_) rfl (by kernel_rfl) (by kernel_rfl) (fun _ _ _ h => h) (by rfl) (by assumption) (fun w hSw => ?_) ?_; rotate_left; focus ((try dsimp only at hSw); go_simp; try with_reducible rfl)
  try simp only [Act.put, List.setIfInBounds_toArray, List.set_cons_zero, List.set_cons_succ]
  refine heldTake (i := 7) (v := ?_) rfl (by kernel_rfl) (by kernel_rfl) (fun _ _ _ h => h) (by rfl) (by assumption) (fun w hSw => ?_) ?_; rotate_left; focus ((try dsimp only at hSw); go_simp; try with_reducible rfl)
  try simp only [Act.put, List.setIfInBounds_toArray, List.set_cons_zero, List.set_cons_succ]
  refine heldTake (i := 8) (v := ?_) rfl (by kernel_rfl) (by kernel_rfl) (fun _ _ _ h => h) (by rfl) (by assumption) (fun w hSw => ?_) ?_; rotate_left; focus ((try dsimp only at hSw); go_simp; try with_reducible rfl)
  try simp only [Act.put, List.setIfInBounds_toArray, List.set_cons_zero, List.set_cons_succ]
  -- NEXT 4 Op.call { callee := Callee.value (Operand.func 55), args := #[Operand.tmp 17], argTypes := #[28] }
  refine heldNext (i := 4) rfl (by kernel_rfl) (by rfl) (fun K hK => ?_)
  go_simp; go_at_call 55; refine (CO.out _ (by assumption)).mono ?_; rintro e w7 ⟨xo7, xc7, rfl, J7, B7, O7⟩; have S7 := J7.cs; first | (refine hK.out _ _ S7 ?_) | (go_wp2_with fail; refine hK.out _ _ S7 ?_); clear hK K
  try simp only [Act.put, List.setIfInBounds_toArray, List.set_cons_zero, List.set_cons_succ]
  refine heldTake (i := 10) (v := ?_) rfl (by kernel_rfl) (by kernel_rfl) (fun _ _ _ h => h) (by rfl) (by assumption) (fun w hSw => ?_) ?_; rotate_left; focus ((try dsimp only at hSw); go_simp; try with_reducible rfl)
  try simp only [Act.put, List.setIfInBounds_toArray, List.set_cons_zero, List.set_cons_succ]
  -- NEXT 9 Op.call { callee := Callee.value (Operand.func 55), args := #[Operand.tmp 22], argTypes := #[28] }
  refine heldNext (i := 9) rfl (by kernel_rfl) (by rfl) (fun K hK => ?_)
  go_simp; go_at_call 55; refine (CW.out _ (by assumption)).mono ?_; rintro e w8 ⟨xo8, xc8, rfl, J8, B8, O8⟩; have S8 := J8.cs; have f6 := J8.f 6; have k6 : w8.cell? ⟨gb, 6, none⟩ = some _ := J8.k rfl; first | (refine hK.out _ _ S8 ?_) | (go_wp2_with fail; refine hK.out _ _ S8 ?_); clear hK K
  try simp only [Act.put, List.setIfInBounds_toArray, List.set_cons_zero, List.set_cons_succ]
  -- NEXT 11 Op.store 28 (Operand.tmp 24) (Operand.tmp 18)
  refine heldNext (i := 11) rfl (by kernel_rfl) (by rfl) (fun K hK => ?_)
  have J9 := J8.set HG.out HF.out 6 (.slice xo7 O xc7)
  have S9 := J9.cs
  have f7 := J9.f 7
  have k7 : (w8.setCell ⟨gb, 6, none⟩ (.slice xo7 O xc7)).cell? ⟨gb, 7, none⟩ = some (.slice co W cc) := J9.k rfl
  go_simp
  refine hK.out _ _ S9 ?_
  clear hK K
  try simp only [Act.put, List.setIfInBounds_toArray, List.set_cons_zero, List.set_cons_succ]
  refine heldTake (i := 12) (v := ?_) rfl (by kernel_rfl) (by kernel_rfl) (fun _ _ _ h => h) (by rfl) (by assumption) (fun w hSw => ?_) ?_; rotate_left; focus ((try dsimp only at hSw); go_simp; try with_reducible rfl)
  try simp only [Act.put, List.setIfInBounds_toArray, List.set_cons_zero, List.set_cons_succ]
  -- NEXT 13 Op.store 28 (Operand.tmp 25) (Operand.tmp 23)
  refine heldNext (i := 13) rfl (by kernel_rfl) (by rfl) (fun K hK => ?_)
  have J10 := J9.set HG.out HF.out 7 (.slice xo8 W xc8)
  have S10 := J10.cs
  go_simp
  refine hK.out _ _ S10 ?_
  clear hK K
  try simp only [Act.put, List.setIfInBounds_toArray, List.set_cons_zero, List.set_cons_succ]
  refine wpAnyH_done (by kernel_rfl) ?_ _
  have zl := ZX.out
  have x7 := O7.r.lt
  have x8 := O8.r.lt
  have b7 := B7.size
  have sz6 : w6d.heap.size = w5.heap.size := SZ6.out
  have hgb := (Array.getElem?_eq_some_iff.1 J6.h).1
  have nx : (Value.slice xo7 O xc7).ownBlock ≠ some gb := fun e => by have := (x7 _ e).1; omega
  have ny : (Value.slice xo8 W xc8).ownBlock ≠ some gb := fun e => by have := (x8 _ e).1; omega
  have OZ := (JC.keep (u := .slice xo8 W xc8) (JC.keep (u := .slice xo7 O xc7) ((OX6.out.next B7).next B8) NE.out 6) NE.out 7)
  have OA := (JC.keep (u := .slice xo8 W xc8) (JC.keep (u := .slice xo7 O xc7) (O7.next B8) nx 6) nx 7)
  have OB := (JC.keep (u := .slice xo8 W xc8) (JC.keep (u := .slice xo7 O xc7) O8 ny 6) ny 7)
  have hsz : w.heap.size ≤ w6d.heap.size := J6.b.size
  have OA : Own _ w.heap.size _ _ := ⟨ownsRow_lower OA.r hsz, OA.e⟩
  have OB : Own _ w.heap.size _ _ := ⟨ownsRow_lower OB.r (Nat.le_trans hsz b7), OB.e⟩
  have d1 : Dj (.slice zo X zc) (.slice xo7 O xc7) := Dj.late (n := w6d.heap.size) (fun k hk => by rw [sz6]; exact zl k hk) (fun k hk => (x7 k hk).1)
  have d2 : Dj (.slice zo X zc) (.slice xo8 W xc8) := Dj.late (n := w7.heap.size) (fun k hk => by have := zl k hk; omega) (fun k hk => (x8 k hk).1)
  have d3 : Dj (.slice xo7 O xc7) (.slice xo8 W xc8) := Dj.late (n := w7.heap.size) (fun k hk => (x7 k hk).2) (fun k hk => (x8 k hk).1)
  have J11 : JC w B g o F C T _ _ _ most c gb #[.int .i64 (c.st : Int), .bool c.dn, .int .i64 (c.got : Int), .int .i64 most, .slice zo X zc, .int .i64 (c.t : Int), .slice xo7 O xc7, .slice xo8 W xc8] _ := J10
  generalize (w8.setCell ⟨gb, 6, none⟩ (.slice xo7 O xc7)).setCell ⟨gb, 7, none⟩ (.slice xo8 W xc8) = w11 at *
  have l0 : w11.cell? ⟨gb, 0, none⟩ = some (.int .i64 (c.st : Int)) := J11.k rfl
  have l1 : w11.cell? ⟨gb, 1, none⟩ = some (.bool c.dn) := J11.k rfl
  have l2 : w11.cell? ⟨gb, 2, none⟩ = some (.int .i64 (c.got : Int)) := J11.k rfl
  have l3 : w11.cell? ⟨gb, 3, none⟩ = some (.int .i64 most) := J11.k rfl
  have l4 : w11.cell? ⟨gb, 4, none⟩ = some (.slice zo X zc) := J11.k rfl
  have l5 : w11.cell? ⟨gb, 5, none⟩ = some (.int .i64 (c.t : Int)) := J11.k rfl
  have l6 : w11.cell? ⟨gb, 6, none⟩ = some (.slice xo7 O xc7) := J11.k rfl
  have l7 : w11.cell? ⟨gb, 7, none⟩ = some (.slice xo8 W xc8) := J11.k rfl
  have z0 : w11.cell? ⟨w.heap.size, 0, none⟩ = some (.int .i64 0) := cell_of_row _ _ _ _ _ _ J11.z
  have y0 : w11.frozen? ⟨w.heap.size, 0, none⟩ = false := frozen_of_row _ _ _ _ _ J11.z
  have z1 : w11.cell? ⟨w.heap.size, 1, none⟩ = some (.bool false) := cell_of_row _ _ _ _ _ _ J11.z
  have y1 : w11.frozen? ⟨w.heap.size, 1, none⟩ = false := frozen_of_row _ _ _ _ _ J11.z
  have z2 : w11.cell? ⟨w.heap.size, 2, none⟩ = some (.int .i64 0) := cell_of_row _ _ _ _ _ _ J11.z
  have y2 : w11.frozen? ⟨w.heap.size, 2, none⟩ = false := frozen_of_row _ _ _ _ _ J11.z
  have z3 : w11.cell? ⟨w.heap.size, 3, none⟩ = some (.int .i64 0) := cell_of_row _ _ _ _ _ _ J11.z
  have y3 : w11.frozen? ⟨w.heap.size, 3, none⟩ = false := frozen_of_row _ _ _ _ _ J11.z
  have z4 : w11.cell? ⟨w.heap.size, 4, none⟩ = some (.slice none 0 0) := cell_of_row _ _ _ _ _ _ J11.z
  have y4 : w11.frozen? ⟨w.heap.size, 4, none⟩ = false := frozen_of_row _ _ _ _ _ J11.z
  have z5 : w11.cell? ⟨w.heap.size, 5, none⟩ = some (.int .i64 0) := cell_of_row _ _ _ _ _ _ J11.z
  have y5 : w11.frozen? ⟨w.heap.size, 5, none⟩ = false := frozen_of_row _ _ _ _ _ J11.z
  have z6 : w11.cell? ⟨w.heap.size, 6, none⟩ = some (.slice none 0 0) := cell_of_row _ _ _ _ _ _ J11.z
  have y6 : w11.frozen? ⟨w.heap.size, 6, none⟩ = false := frozen_of_row _ _ _ _ _ J11.z
  have z7 : w11.cell? ⟨w.heap.size, 7, none⟩ = some (.slice none 0 0) := cell_of_row _ _ _ _ _ _ J11.z
  have y7 : w11.frozen? ⟨w.heap.size, 7, none⟩ = false := frozen_of_row _ _ _ _ _ J11.z
  have nz1 : (Value.slice zo X zc).ownBlock ≠ some w.heap.size := fun e => by have := NZ.out _ e; omega
  have nz2 : (Value.slice xo7 O xc7).ownBlock ≠ some w.heap.size := fun e => by have := (x7 _ e).1; have := J6.hb; omega
  have nz3 : (Value.slice xo8 W xc8).ownBlock ≠ some w.heap.size := fun e => by have := (x8 _ e).1; have := J6.hb; omega
  have hrow : ((((((((w11.setCell ⟨w.heap.size, 0, none⟩ (.int .i64 (c.st : Int))).setCell ⟨w.heap.size, 1, none⟩ (.bool c.dn)).setCell ⟨w.heap.size, 2, none⟩ (.int .i64 (c.got : Int))).setCell ⟨w.heap.size, 3, none⟩ (.int .i64 most)).setCell ⟨w.heap.size, 4, none⟩ (.slice zo X zc)).setCell ⟨w.heap.size, 5, none⟩ (.int .i64 (c.t : Int))).setCell ⟨w.heap.size, 6, none⟩ (.slice xo7 O xc7)).setCell ⟨w.heap.size, 7, none⟩ (.slice xo8 W xc8)).heap[w.heap.size]? = some (.cells #[.int .i64 (c.st : Int), .bool c.dn, .int .i64 (c.got : Int), .int .i64 most, .slice zo X zc, .int .i64 (c.t : Int), .slice xo7 O xc7, .slice xo8 W xc8] 52 (0, 0)) := (setCell_row (setCell_row (setCell_row (setCell_row (setCell_row (setCell_row (setCell_row (setCell_row J11.z))))))))
  have OZ := Lib.hid (JC.keep (u := .slice xo8 W xc8) (JC.keep (u := .slice xo7 O xc7) (JC.keep (u := .int .i64 (c.t : Int)) (JC.keep (u := .slice zo X zc) (JC.keep (u := .int .i64 most) (JC.keep (u := .int .i64 (c.got : Int)) (JC.keep (u := .bool c.dn) (JC.keep (u := .int .i64 (c.st : Int)) OZ nz1 0) nz1 1) nz1 2) nz1 3) nz1 4) nz1 5) nz1 6) nz1 7)
  have OA := Lib.hid (JC.keep (u := .slice xo8 W xc8) (JC.keep (u := .slice xo7 O xc7) (JC.keep (u := .int .i64 (c.t : Int)) (JC.keep (u := .slice zo X zc) (JC.keep (u := .int .i64 most) (JC.keep (u := .int .i64 (c.got : Int)) (JC.keep (u := .bool c.dn) (JC.keep (u := .int .i64 (c.st : Int)) OA nz2 0) nz2 1) nz2 2) nz2 3) nz2 4) nz2 5) nz2 6) nz2 7)
  have OB := Lib.hid (JC.keep (u := .slice xo8 W xc8) (JC.keep (u := .slice xo7 O xc7) (JC.keep (u := .int .i64 (c.t : Int)) (JC.keep (u := .slice zo X zc) (JC.keep (u := .int .i64 most) (JC.keep (u := .int .i64 (c.got : Int)) (JC.keep (u := .bool c.dn) (JC.keep (u := .int .i64 (c.st : Int)) OB nz3 0) nz3 1) nz3 2) nz3 3) nz3 4) nz3 5) nz3 6) nz3 7)
  have BE := Lib.hid ((((((((J11.b.setCell (p := ⟨w.heap.size, 0, none⟩) (Nat.le_refl _) (.int .i64 (c.st : Int))).setCell (p := ⟨w.heap.size, 1, none⟩) (Nat.le_refl _) (.bool c.dn)).setCell (p := ⟨w.heap.size, 2, none⟩) (Nat.le_refl _) (.int .i64 (c.got : Int))).setCell (p := ⟨w.heap.size, 3, none⟩) (Nat.le_refl _) (.int .i64 most)).setCell (p := ⟨w.heap.size, 4, none⟩) (Nat.le_refl _) (.slice zo X zc)).setCell (p := ⟨w.heap.size, 5, none⟩) (Nat.le_refl _) (.int .i64 (c.t : Int))).setCell (p := ⟨w.heap.size, 6, none⟩) (Nat.le_refl _) (.slice xo7 O xc7)).setCell (p := ⟨w.heap.size, 7, none⟩) (Nat.le_refl _) (.slice xo8 W xc8))
  have HROW := Lib.hid hrow
  have d1 := Lib.hid d1
  have d2 := Lib.hid d2
  have d3 := Lib.hid d3
  clear zl x7 x8 b7 sz6 hgb nx ny hsz J10 J9 J11 S9 S10 J6 J7 J8 S7 S8 B7 B8 O7 O8 s0 hH f6 f7 k6 k7 CO CW SZ6 OX6 ZX NE hrow nz1 nz2 nz3 NZ
  simp only [Exit.then]
  go_wp2
  generalize ((((((((w11.setCell ⟨w.heap.size, 0, none⟩ (.int .i64 (c.st : Int))).setCell ⟨w.heap.size, 1, none⟩ (.bool c.dn)).setCell ⟨w.heap.size, 2, none⟩ (.int .i64 (c.got : Int))).setCell ⟨w.heap.size, 3, none⟩ (.int .i64 most)).setCell ⟨w.heap.size, 4, none⟩ (.slice zo X zc)).setCell ⟨w.heap.size, 5, none⟩ (.int .i64 (c.t : Int))).setCell ⟨w.heap.size, 6, none⟩ (.slice xo7 O xc7)).setCell ⟨w.heap.size, 7, none⟩ (.slice xo8 W xc8)) = w12 at *
  have q0 : w12.cell? ⟨w.heap.size, 0, none⟩ = some (.int .i64 (c.st : Int)) := cell_of_row _ _ _ _ _ _ HROW.out
  have q1 : w12.cell? ⟨w.heap.size, 1, none⟩ = some (.bool c.dn) := cell_of_row _ _ _ _ _ _ HROW.out
  have q2 : w12.cell? ⟨w.heap.size, 2, none⟩ = some (.int .i64 (c.got : Int)) := cell_of_row _ _ _ _ _ _ HROW.out
  have q3 : w12.cell? ⟨w.heap.size, 3, none⟩ = some (.int .i64 most) := cell_of_row _ _ _ _ _ _ HROW.out
  have q4 : w12.cell? ⟨w.heap.size, 4, none⟩ = some (.slice zo X zc) := cell_of_row _ _ _ _ _ _ HROW.out
  have q5 : w12.cell? ⟨w.heap.size, 5, none⟩ = some (.int .i64 (c.t : Int)) := cell_of_row _ _ _ _ _ _ HROW.out
  have q6 : w12.cell? ⟨w.heap.size, 6, none⟩ = some (.slice xo7 O xc7) := cell_of_row _ _ _ _ _ _ HROW.out
  have q7 : w12.cell? ⟨w.heap.size, 7, none⟩ = some (.slice xo8 W xc8) := cell_of_row _ _ _ _ _ _ HROW.out
  clear l0 l1 l2 l3 l4 l5 l6 l7 z0 z1 z2 z3 z4 z5 z6 z7 y0 y1 y2 y3 y4 y5 y6 y7
  exact bodyPost_ret (v := .agg #[.int .i64 (c.st : Int), .bool c.dn, .int .i64 (c.got : Int), .int .i64 most, .slice zo X zc, .int .i64 (c.t : Int), .slice xo7 O xc7, .slice xo8 W xc8]) (by simp [results, Try.results40, go_sem, q0, q1, q2, q3, q4, q5, q6, q7]) rfl ⟨zo, zc, xo7, xc7, xo8, xc8, rfl, BE.out, OZ.out, OA.out, OB.out, d1.out, d2.out, d3.out⟩

end
end Go.Proofs.Ytneifmnlailipaa
