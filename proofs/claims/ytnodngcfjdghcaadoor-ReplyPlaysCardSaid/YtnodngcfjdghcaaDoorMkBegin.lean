/- A reply begins: begin walked. -/
import Derived.Test.YtnodngcfjdghcaaDoorMkObj
import Derived.Laws.EntriesVeiled
namespace Go.Proofs.YtnodngcfjdghcaaDoor
open Go.RowKit

set_option maxHeartbeats 2000000 in
theorem begin_none {w : World} {g : Nat} {p : Int} (body : Bool) {lv bo bp tk : Value} (h : MkC w g p ⟨#[]⟩ lv bo bp tk) (s : List UInt8) (hs : s.length ≤ 16777216) (hst : Ln.status p s = none) :
    Calls Tryd.prog 20 #[.pointer (some ⟨g, 0, none⟩), .string (ba s), .bool body] w fun e w' => e = .returned (.tuple #[.bool false, .int .i64 63]) ∧ Below w.heap.size w w' := by
  have hS := fun w => status_any p s hs w
  rw [hst] at hS
  have hS : ∀ w, Calls Tryd.prog 23 #[.int .i64 p, .string (ba s)] w fun e w' => e = .returned (.tuple #[.agg #[.string ⟨#[]⟩, .bool false, .string ⟨#[]⟩], .bool false]) ∧ Below w.heap.size w w' := hS
  have c0 := h.c0
  clear hst h
  go_enter Tryd.func20, Tryd.ntmps20
  go_wp2_with (go_at_call 23; refine (hS _).mono ?_; rintro e w1 ⟨rfl, hb⟩; clear hS)
  go_ret2
  exact ⟨rfl, hb.alloc hb.size _⟩
set_option maxHeartbeats 4000000 in
theorem begin_more {w : World} {g : Nat} {p : Int} (body : Bool) (h : MkC w g p ⟨#[]⟩ (.slice none 0 0) (.slice none 0 0) (.pointer none) .nilFunc) (s : List UInt8) (hs : s.length ≤ 16777216) {t : Ln.Sa} (hst : Ln.status p s = some t) (hm : t.more = true) (hp : p = 1 ∨ p = 2 ∨ p = 3) :
    Calls Tryd.prog 20 #[.pointer (some ⟨g, 0, none⟩), .string (ba s), .bool body] w fun e w' => e = .returned (.tuple #[.bool false, .int .i64 0]) ∧ AddP w w.heap.size g p (ba t.code) (.slice none 0 0) (.slice none 0 0) (.pointer none) (tkv (tkn p) g) [] t.text w' := by
  have hS := fun w => status_any p s hs w
  rw [hst] at hS
  have hS : ∀ w, Calls Tryd.prog 23 #[.int .i64 p, .string (ba s)] w fun e w' => e = .returned (.tuple #[.agg #[.string (ba t.code), .bool t.more, .string (ba t.text)], .bool true]) ∧ Below w.heap.size w w' := hS
  rw [hm] at hS
  have c0 := h.c0
  have H := Lib.hid h
  clear hst h hm
  generalize ba t.code = tc at *
  obtain ⟨tt, htt⟩ : ∃ tt, tt = ba t.text := ⟨_, rfl⟩
  rw [← htt] at hS
  have HTT := Lib.hid htt
  clear htt
  have HP := Lib.hid hp
  clear hp
  obtain ⟨kn, hkn⟩ : ∃ kn, kn = tkn p := ⟨_, rfl⟩
  rw [← hkn]
  have HKN := Lib.hid hkn
  clear hkn
  unfold tkv
  go_enter Tryd.func20, Tryd.ntmps20
  go_wp2_with (go_at_call 23; refine (hS _).mono ?_; rintro e w1 ⟨rfl, hb⟩; clear hS; have c1 := fun o => ((H.out.next hb).next ((Below.refl _ _).alloc (Nat.le_refl _) o)).c1; have f1 := fun o => ((H.out.next hb).next ((Below.refl _ _).alloc (Nat.le_refl _) o)).fr 1; have hsb : w1.heap.size ≠ g := (fun e => by have := H.out.lt; have := hb.size; omega); have d1 : ∀ o u, ((w1.alloc o).setCell ⟨g, 1, none⟩ u).heap[w1.heap.size]? = some o := (fun o u => (Below.heap_setCell _ _ _ _ hsb).trans (World.alloc_heap_new w1 o)); have e0 : ((w1.alloc (.cells #[.string tc, .bool true, .string tt] 54)).setCell ⟨g, 1, none⟩ (.string tc)).cell? ⟨w1.heap.size, 0, none⟩ = some (.string tc) := St3.c0 (d1 _ _); have e1 : ((w1.alloc (.cells #[.string tc, .bool true, .string tt] 54)).setCell ⟨g, 1, none⟩ (.string tc)).cell? ⟨w1.heap.size, 1, none⟩ = some (.bool true) := St3.c1 (d1 _ _))
  have hb2 : Below w.heap.size w (w1.alloc (.cells #[.string tc, .bool true, .string tt] 54)) := hb.alloc hb.size _
  have HC3 := Lib.hid ((H.out.next hb2).set1 tc)
  have hT3 : Turn g (.slice none 0 0) w ((w1.alloc (.cells #[.string tc, .bool true, .string tt] 54)).setCell ⟨g, 1, none⟩ (.string tc)) := Turn.before hb2 (fturn_setCell _ g 1 (.slice none 0 0) (.string tc))
  have hst3 : St3 ((w1.alloc (.cells #[.string tc, .bool true, .string tt] 54)).setCell ⟨g, 1, none⟩ (.string tc)) w1.heap.size tc true tt := d1 _ _
  have HSZ := Lib.hid hb.size
  generalize (w1.alloc (.cells #[.string tc, .bool true, .string tt] 54)).setCell ⟨g, 1, none⟩ (.string tc) = w3 at *
  generalize w1.heap.size = sb at *
  have HT3 := Lib.hid hT3
  have HS3 := Lib.hid hst3
  clear hT3 hst3 c0 c1 f1 e0 e1 d1 hb hb2
  refine wp_region_held_drew (S := fun w' => w'.cell? ⟨g, 0, none⟩ = some (.int .i64 p)) (by kernel_rfl) HC3.out.c0 (fun hH => ?_)
  have HC4 := Lib.hid (show MkC w3.drew g p tc (.slice none 0 0) (.slice none 0 0) (.pointer none) .nilFunc from HC3.out)
  have HT4 := Lib.hid (show Turn g (.slice none 0 0) w w3.drew from ⟨HT3.out.os, HT3.out.tape, HT3.out.output, HT3.out.size, HT3.out.block⟩)
  have HS4 := Lib.hid (show St3 w3.drew sb tc true tt from HS3.out)
  clear HC3 HT3 HS3
  generalize w3.drew = w4 at *
  refine heldTake (i := 0) (v := ?_) rfl (by kernel_rfl) (by kernel_rfl) (fun _ _ _ h => h) (by rfl) (by assumption) (fun w hSw => ?_) ?_; rotate_left; focus ((try dsimp only at hSw); go_simp; try with_reducible rfl)
  try simp only [Act.put, List.setIfInBounds_toArray, List.set_cons_zero, List.set_cons_succ]
  refine heldTake (i := 1) (v := ?_) rfl (by kernel_rfl) (by kernel_rfl) (fun _ _ _ h => h) (by rfl) (by assumption) (fun w hSw => ?_) ?_; rotate_left; focus ((try dsimp only at hSw); go_simp; try with_reducible rfl)
  try simp only [Act.put, List.setIfInBounds_toArray, List.set_cons_zero, List.set_cons_succ]
  refine heldTake (i := 3) (v := ?_) rfl (by kernel_rfl) (by kernel_rfl) (fun _ _ _ h => h) (by rfl) (by assumption) (fun w hSw => ?_) ?_; rotate_left; focus ((try dsimp only at hSw); go_simp; try with_reducible rfl)
  try simp only [Act.put, List.setIfInBounds_toArray, List.set_cons_zero, List.set_cons_succ]
  refine heldTake (i := 4) (v := ?_) rfl (by kernel_rfl) (by kernel_rfl) (fun _ _ _ h => h) (by rfl) (by assumption) (fun w hSw => ?_) ?_; rotate_left; focus ((try dsimp only at hSw); go_simp; try with_reducible rfl)
  try simp only [Act.put, List.setIfInBounds_toArray, List.set_cons_zero, List.set_cons_succ]
  refine heldTake (i := 5) (v := ?_) rfl (by kernel_rfl) (by kernel_rfl) (fun _ _ _ h => h) (by rfl) (by assumption) (fun w hSw => ?_) ?_; rotate_left; focus ((try dsimp only at hSw); go_simp; try with_reducible rfl)
  try simp only [Act.put, List.setIfInBounds_toArray, List.set_cons_zero, List.set_cons_succ]
  refine heldTake (i := 6) (v := ?_) rfl (by kernel_rfl) (by kernel_rfl) (fun _ _ _ h => h) (by rfl) (by assumption) (fun w hSw => ?_) ?_; rotate_left; focus ((try dsimp only at hSw); go_simp; try with_reducible rfl)
  try simp only [Act.put, List.setIfInBounds_toArray, List.set_cons_zero, List.set_cons_succ]
  -- NEXT 2 Op.call { callee := Callee.value (Operand.func 24), args := #[Operand.tmp 38], argTypes := #[25] }
  refine heldNext (i := 2) rfl (by kernel_rfl) (by rfl) (fun K hK => ?_)
  go_simp; go_at_call 24; refine (takers_any g _).mono ?_; rintro e w5 ⟨rfl, hw5⟩; have hb5 : Below w4.heap.size w4 w5 := (by rw [hw5]; exact (Below.refl _ _).alloc (Nat.le_refl _) _); have HC5 := Lib.hid (HC4.out.next hb5); have S5 : w5.cell? ⟨g, 0, none⟩ = some (.int .i64 p) := HC5.out.c0; have hlk := look_taker w5 w4.heap.size g (by rw [hw5]; exact heap_alloc_new _ _) p HP.out; rw [← HKN.out] at hlk; unfold tkv at hlk; have f5 := HC5.out.fr 5; have c5 := HC5.out.c5; have HB5 := Lib.hid hb5; clear hw5 hb5; first | (refine hK.out _ _ S5 ?_) | (go_wp2_with fail; refine hK.out _ _ S5 ?_); clear hK K
  try simp only [Act.put, List.setIfInBounds_toArray, List.set_cons_zero, List.set_cons_succ]
  -- NEXT 7 Op.lookup 60 (Operand.tmp 39) (Operand.tmp 43) false
  refine heldNext (i := 7) rfl (by kernel_rfl) (by rfl) (fun K hK => ?_)
  go_simp; refine hK.out _ _ S5 ?_; clear hK K
  try simp only [Act.put, List.setIfInBounds_toArray, List.set_cons_zero, List.set_cons_succ]
  refine heldTake (i := 8) (v := ?_) rfl (by kernel_rfl) (by kernel_rfl) (fun _ _ _ h => h) (by rfl) S5 (fun w hSw => ?_) ?_; rotate_left; focus ((try dsimp only at hSw); go_simp; try with_reducible rfl)
  try simp only [Act.put, List.setIfInBounds_toArray, List.set_cons_zero, List.set_cons_succ]
  refine heldTake (i := 9) (v := ?_) rfl (by kernel_rfl) (by kernel_rfl) (fun _ _ _ h => h) (by rfl) S5 (fun w hSw => ?_) ?_; rotate_left; focus ((try dsimp only at hSw); go_simp; try with_reducible rfl)
  try simp only [Act.put, List.setIfInBounds_toArray, List.set_cons_zero, List.set_cons_succ]
  -- NEXT 10 Op.store 44 (Operand.tmp 46) (Operand.tmp 44)
  refine heldNext (i := 10) rfl (by kernel_rfl) (by rfl) (fun K hK => ?_)
  have S6 : (w5.setCell ⟨g, 5, none⟩ (.func (.func kn) #[.pointer (some ⟨g, 0, none⟩)] #[])).cell? ⟨g, 0, none⟩ = some (.int .i64 p) := (HC5.out.set5 (.func (.func kn) #[.pointer (some ⟨g, 0, none⟩)] #[])).c0; have f5' : ∀ q, w5.frozen? ⟨g, q, none⟩ = false := HC5.out.fr; go_simp; refine hK.out _ _ S6 ?_; clear hK K f5'
  try simp only [Act.put, List.setIfInBounds_toArray, List.set_cons_zero, List.set_cons_succ]
  refine wpAnyH_done (by kernel_rfl) ?_ _
  have HC6 := Lib.hid (HC5.out.set5 (.func (.func kn) #[.pointer (some ⟨g, 0, none⟩)] #[]))
  have HT6 := Lib.hid ((HT4.out.trans3 (Nx.refl _ _) (.of_below HB5.out)).trans3 (Nx.refl _ _) (fturn_setCell w5 g 5 (.slice none 0 0) (.func (.func kn) #[.pointer (some ⟨g, 0, none⟩)] #[])))
  have HS6 := Lib.hid ((HS4.out.same (HB5.out.block _ HS4.out.lt)).same (Below.heap_setCell w5 ⟨g, 5, none⟩ (.func (.func kn) #[.pointer (some ⟨g, 0, none⟩)] #[]) sb hsb))
  clear S6 f5 c5 S5 hlk HC5 HB5 HC4 HT4 HS4
  generalize w5.setCell ⟨g, 5, none⟩ (.func (.func kn) #[.pointer (some ⟨g, 0, none⟩)] #[]) = w6 at *
  simp only [Exit.then]
  go_wp2
  refine wp_region_held_drew (S := fun w' => w'.cell? ⟨sb, 2, none⟩ = some (.string tt)) (by kernel_rfl) HS6.out.c2 (fun hH2 => ?_)
  have HC7 := Lib.hid (show MkC w6.drew g p tc (.slice none 0 0) (.slice none 0 0) (.pointer none) (.func (.func kn) #[.pointer (some ⟨g, 0, none⟩)] #[]) from HC6.out)
  have HT7 := Lib.hid (show Turn g (.slice none 0 0) w w6.drew from ⟨HT6.out.os, HT6.out.tape, HT6.out.output, HT6.out.size, HT6.out.block⟩)
  have HS7 := Lib.hid (show St3 w6.drew sb tc true tt from HS6.out)
  clear HC6 HT6 HS6
  generalize w6.drew = w7 at *
  have CB := Lib.hid (mbusy_yes HC7.out)
  have CA := Lib.hid (HTT.out ▸ madd_more (xs := []) t.text HC7.out (World.ownsRow_nil _ w.heap.size _ _) (by decide) HT7.out.size)
  refine heldTake (i := 0) (v := ?_) rfl (by kernel_rfl) (by kernel_rfl) (fun _ _ _ h => h) (by rfl) (by assumption) (fun w hSw => ?_) ?_; rotate_left; focus ((try dsimp only at hSw); go_simp; try with_reducible rfl)
  try simp only [Act.put, List.setIfInBounds_toArray, List.set_cons_zero, List.set_cons_succ]
  refine heldTake (i := 3) (v := ?_) rfl (by kernel_rfl) (by kernel_rfl) (fun _ _ _ h => h) (by rfl) (by assumption) (fun w hSw => ?_) ?_; rotate_left; focus ((try dsimp only at hSw); go_simp; try with_reducible rfl)
  try simp only [Act.put, List.setIfInBounds_toArray, List.set_cons_zero, List.set_cons_succ]
  refine heldTake (i := 4) (v := ?_) rfl (by kernel_rfl) (by kernel_rfl) (fun _ _ _ h => h) (by rfl) (by assumption) (fun w hSw => ?_) ?_; rotate_left; focus ((try dsimp only at hSw); go_simp; try with_reducible rfl)
  try simp only [Act.put, List.setIfInBounds_toArray, List.set_cons_zero, List.set_cons_succ]
  refine heldTake (i := 5) (v := ?_) rfl (by kernel_rfl) (by kernel_rfl) (fun _ _ _ h => h) (by rfl) (by assumption) (fun w hSw => ?_) ?_; rotate_left; focus ((try dsimp only at hSw); go_simp; try with_reducible rfl)
  try simp only [Act.put, List.setIfInBounds_toArray, List.set_cons_zero, List.set_cons_succ]
  -- NEXT 1 Op.call { callee := Callee.value (Operand.func 15), args := #[Operand.tmp 47], argTypes := #[25] }
  refine heldNext (i := 1) rfl (by kernel_rfl) (by rfl) (fun K hK => ?_)
  go_simp; go_at_call 15; refine CB.out.mono ?_; rintro e w8 ⟨rfl, hw⟩; rw [← hw]; clear hw; first | (refine hK.out _ _ hH2 ?_) | (go_wp2_with fail; refine hK.out _ _ hH2 ?_); clear hK K
  try simp only [Act.put, List.setIfInBounds_toArray, List.set_cons_zero, List.set_cons_succ]
  refine heldTake (i := 2) (v := ?_) rfl (by kernel_rfl) (by kernel_rfl) (fun _ _ _ h => h) (by rfl) (by assumption) (fun w hSw => ?_) ?_; rotate_left; focus ((try dsimp only at hSw); go_simp; try with_reducible rfl)
  try simp only [Act.put, List.setIfInBounds_toArray, List.set_cons_zero, List.set_cons_succ]
  -- NEXT 6 Op.call { callee := Callee.value (Operand.func 25), args := #[Operand.tmp 50, Operand.tmp 52], argTypes := #[2
  refine heldNext (i := 6) rfl (by kernel_rfl) (by rfl) (fun K hK => ?_)
  go_simp; go_at_call 25; refine CA.out.mono ?_; rintro e w9 ⟨rfl, P9⟩; have S9 : w9.cell? ⟨sb, 2, none⟩ = some (.string tt) := (by obtain ⟨lv', x1, x2, x3, x4⟩ := P9; exact (HS7.out.same (x3.block sb HS7.out.lt hsb (fun e => by cases e))).c2); first | (refine hK.out _ _ S9 ?_) | (go_wp2_with fail; refine hK.out _ _ S9 ?_); clear hK K
  try simp only [Act.put, List.setIfInBounds_toArray, List.set_cons_zero, List.set_cons_succ]
  refine heldTake (i := 7) (v := ?_) rfl (by kernel_rfl) (by kernel_rfl) (fun _ _ _ h => h) (by rfl) (by assumption) (fun w hSw => ?_) ?_; rotate_left; focus ((try dsimp only at hSw); go_simp; try with_reducible rfl)
  try simp only [Act.put, List.setIfInBounds_toArray, List.set_cons_zero, List.set_cons_succ]
  refine heldTake (i := 8) (v := ?_) rfl (by kernel_rfl) (by kernel_rfl) (fun _ _ _ h => h) (by rfl) (by assumption) (fun w hSw => ?_) ?_; rotate_left; focus ((try dsimp only at hSw); go_simp; try with_reducible rfl)
  try simp only [Act.put, List.setIfInBounds_toArray, List.set_cons_zero, List.set_cons_succ]
  refine wpAnyH_done (by kernel_rfl) ?_ _
  simp only [Exit.then]
  go_wp2
  go_ret2
  obtain ⟨lv', x1, x2, x3, x4⟩ := P9
  exact ⟨rfl, lv', x1, x2, HT7.out.trans3 (Nx.refl _ _) x3, x4.lower HT7.out.size⟩
set_option maxHeartbeats 4000000 in
theorem begin_plus {w : World} {g : Nat} {p : Int} (h : MkC w g p ⟨#[]⟩ (.slice none 0 0) (.slice none 0 0) (.pointer none) .nilFunc) (s : List UInt8) (hs : s.length ≤ 16777216) {t : Ln.Sa} (hst : Ln.status p s = some t) (hm : t.more = false) (hp : p = 1 ∨ p = 2 ∨ p = 3) (hk : t.code = [43]) :
    Calls Tryd.prog 20 #[.pointer (some ⟨g, 0, none⟩), .string (ba s), .bool true] w fun e w' => e = .returned (.tuple #[.bool false, .int .i64 0]) ∧ AddP w w.heap.size g p (ba t.code) (.slice none 0 0) (.slice none 0 0) (.pointer none) (tkv (tkn p) g) [] t.text w' := by
  have hS := fun w => status_any p s hs w
  rw [hst] at hS
  have hS : ∀ w, Calls Tryd.prog 23 #[.int .i64 p, .string (ba s)] w fun e w' => e = .returned (.tuple #[.agg #[.string (ba t.code), .bool t.more, .string (ba t.text)], .bool true]) ∧ Below w.heap.size w w' := hS
  rw [hm] at hS
  have c0 := h.c0
  have H := Lib.hid h
  clear hst h hm
  rw [hk] at hS ⊢
  rw [show ba [43] = (⟨#[43]⟩ : ByteArray) from rfl] at hS ⊢
  clear hk
  obtain ⟨tc, htc⟩ : ∃ tc : ByteArray, tc = ⟨#[43]⟩ := ⟨_, rfl⟩
  have heq : (tc.toList == [43]) = true := by rw [htc, Lib.toList_data]; rfl
  rw [← htc] at hS ⊢
  clear htc
  obtain ⟨tt, htt⟩ : ∃ tt, tt = ba t.text := ⟨_, rfl⟩
  rw [← htt] at hS
  have HTT := Lib.hid htt
  clear htt
  have HP := Lib.hid hp
  clear hp
  obtain ⟨kn, hkn⟩ : ∃ kn, kn = tkn p := ⟨_, rfl⟩
  rw [← hkn]
  have HKN := Lib.hid hkn
  clear hkn
  unfold tkv
  go_enter Tryd.func20, Tryd.ntmps20
  go_wp2_with (go_at_call 23; refine (hS _).mono ?_; rintro e w1 ⟨rfl, hb⟩; clear hS; have c1 := fun o => ((H.out.next hb).next ((Below.refl _ _).alloc (Nat.le_refl _) o)).c1; have f1 := fun o => ((H.out.next hb).next ((Below.refl _ _).alloc (Nat.le_refl _) o)).fr 1; have hsb : w1.heap.size ≠ g := (fun e => by have := H.out.lt; have := hb.size; omega); have d1 : ∀ o u, ((w1.alloc o).setCell ⟨g, 1, none⟩ u).heap[w1.heap.size]? = some o := (fun o u => (Below.heap_setCell _ _ _ _ hsb).trans (World.alloc_heap_new w1 o)); have e0 : ((w1.alloc (.cells #[.string tc, .bool false, .string tt] 54)).setCell ⟨g, 1, none⟩ (.string tc)).cell? ⟨w1.heap.size, 0, none⟩ = some (.string tc) := St3.c0 (d1 _ _); have e1 : ((w1.alloc (.cells #[.string tc, .bool false, .string tt] 54)).setCell ⟨g, 1, none⟩ (.string tc)).cell? ⟨w1.heap.size, 1, none⟩ = some (.bool false) := St3.c1 (d1 _ _))
  have hb2 : Below w.heap.size w (w1.alloc (.cells #[.string tc, .bool false, .string tt] 54)) := hb.alloc hb.size _
  have HC3 := Lib.hid ((H.out.next hb2).set1 tc)
  have hT3 : Turn g (.slice none 0 0) w ((w1.alloc (.cells #[.string tc, .bool false, .string tt] 54)).setCell ⟨g, 1, none⟩ (.string tc)) := Turn.before hb2 (fturn_setCell _ g 1 (.slice none 0 0) (.string tc))
  have hst3 : St3 ((w1.alloc (.cells #[.string tc, .bool false, .string tt] 54)).setCell ⟨g, 1, none⟩ (.string tc)) w1.heap.size tc false tt := d1 _ _
  have HSZ := Lib.hid hb.size
  generalize (w1.alloc (.cells #[.string tc, .bool false, .string tt] 54)).setCell ⟨g, 1, none⟩ (.string tc) = w3 at *
  generalize w1.heap.size = sb at *
  have HT3 := Lib.hid hT3
  have HS3 := Lib.hid hst3
  clear hT3 hst3 c0 c1 f1 e0 e1 d1 hb hb2
  refine wp_region_held_drew (S := fun w' => w'.cell? ⟨g, 0, none⟩ = some (.int .i64 p)) (by kernel_rfl) HC3.out.c0 (fun hH => ?_)
  have HC4 := Lib.hid (show MkC w3.drew g p tc (.slice none 0 0) (.slice none 0 0) (.pointer none) .nilFunc from HC3.out)
  have HT4 := Lib.hid (show Turn g (.slice none 0 0) w w3.drew from ⟨HT3.out.os, HT3.out.tape, HT3.out.output, HT3.out.size, HT3.out.block⟩)
  have HS4 := Lib.hid (show St3 w3.drew sb tc false tt from HS3.out)
  clear HC3 HT3 HS3
  generalize w3.drew = w4 at *
  refine heldTake (i := 0) (v := ?_) rfl (by kernel_rfl) (by kernel_rfl) (fun _ _ _ h => h) (by rfl) (by assumption) (fun w hSw => ?_) ?_; rotate_left; focus ((try dsimp only at hSw); go_simp; try with_reducible rfl)
  try simp only [Act.put, List.setIfInBounds_toArray, List.set_cons_zero, List.set_cons_succ]
  refine heldTake (i := 1) (v := ?_) rfl (by kernel_rfl) (by kernel_rfl) (fun _ _ _ h => h) (by rfl) (by assumption) (fun w hSw => ?_) ?_; rotate_left; focus ((try dsimp only at hSw); go_simp; try with_reducible rfl)
  try simp only [Act.put, List.setIfInBounds_toArray, List.set_cons_zero, List.set_cons_succ]
  refine heldTake (i := 3) (v := ?_) rfl (by kernel_rfl) (by kernel_rfl) (fun _ _ _ h => h) (by rfl) (by assumption) (fun w hSw => ?_) ?_; rotate_left; focus ((try dsimp only at hSw); go_simp; try with_reducible rfl)
  try simp only [Act.put, List.setIfInBounds_toArray, List.set_cons_zero, List.set_cons_succ]
  refine heldTake (i := 4) (v := ?_) rfl (by kernel_rfl) (by kernel_rfl) (fun _ _ _ h => h) (by rfl) (by assumption) (fun w hSw => ?_) ?_; rotate_left; focus ((try dsimp only at hSw); go_simp; try with_reducible rfl)
  try simp only [Act.put, List.setIfInBounds_toArray, List.set_cons_zero, List.set_cons_succ]
  refine heldTake (i := 5) (v := ?_) rfl (by kernel_rfl) (by kernel_rfl) (fun _ _ _ h => h) (by rfl) (by assumption) (fun w hSw => ?_) ?_; rotate_left; focus ((try dsimp only at hSw); go_simp; try with_reducible rfl)
  try simp only [Act.put, List.setIfInBounds_toArray, List.set_cons_zero, List.set_cons_succ]
  refine heldTake (i := 6) (v := ?_) rfl (by kernel_rfl) (by kernel_rfl) (fun _ _ _ h => h) (by rfl) (by assumption) (fun w hSw => ?_) ?_; rotate_left; focus ((try dsimp only at hSw); go_simp; try with_reducible rfl)
  try simp only [Act.put, List.setIfInBounds_toArray, List.set_cons_zero, List.set_cons_succ]
  -- NEXT 2 Op.call { callee := Callee.value (Operand.func 24), args := #[Operand.tmp 38], argTypes := #[25] }
  refine heldNext (i := 2) rfl (by kernel_rfl) (by rfl) (fun K hK => ?_)
  go_simp; go_at_call 24; refine (takers_any g _).mono ?_; rintro e w5 ⟨rfl, hw5⟩; have hb5 : Below w4.heap.size w4 w5 := (by rw [hw5]; exact (Below.refl _ _).alloc (Nat.le_refl _) _); have HC5 := Lib.hid (HC4.out.next hb5); have S5 : w5.cell? ⟨g, 0, none⟩ = some (.int .i64 p) := HC5.out.c0; have hlk := look_taker w5 w4.heap.size g (by rw [hw5]; exact heap_alloc_new _ _) p HP.out; rw [← HKN.out] at hlk; unfold tkv at hlk; have f5 := HC5.out.fr 5; have c5 := HC5.out.c5; have HB5 := Lib.hid hb5; clear hw5 hb5; first | (refine hK.out _ _ S5 ?_) | (go_wp2_with fail; refine hK.out _ _ S5 ?_); clear hK K
  try simp only [Act.put, List.setIfInBounds_toArray, List.set_cons_zero, List.set_cons_succ]
  -- NEXT 7 Op.lookup 60 (Operand.tmp 39) (Operand.tmp 43) false
  refine heldNext (i := 7) rfl (by kernel_rfl) (by rfl) (fun K hK => ?_)
  go_simp; refine hK.out _ _ S5 ?_; clear hK K
  try simp only [Act.put, List.setIfInBounds_toArray, List.set_cons_zero, List.set_cons_succ]
  refine heldTake (i := 8) (v := ?_) rfl (by kernel_rfl) (by kernel_rfl) (fun _ _ _ h => h) (by rfl) S5 (fun w hSw => ?_) ?_; rotate_left; focus ((try dsimp only at hSw); go_simp; try with_reducible rfl)
  try simp only [Act.put, List.setIfInBounds_toArray, List.set_cons_zero, List.set_cons_succ]
  refine heldTake (i := 9) (v := ?_) rfl (by kernel_rfl) (by kernel_rfl) (fun _ _ _ h => h) (by rfl) S5 (fun w hSw => ?_) ?_; rotate_left; focus ((try dsimp only at hSw); go_simp; try with_reducible rfl)
  try simp only [Act.put, List.setIfInBounds_toArray, List.set_cons_zero, List.set_cons_succ]
  -- NEXT 10 Op.store 44 (Operand.tmp 46) (Operand.tmp 44)
  refine heldNext (i := 10) rfl (by kernel_rfl) (by rfl) (fun K hK => ?_)
  have S6 : (w5.setCell ⟨g, 5, none⟩ (.func (.func kn) #[.pointer (some ⟨g, 0, none⟩)] #[])).cell? ⟨g, 0, none⟩ = some (.int .i64 p) := (HC5.out.set5 (.func (.func kn) #[.pointer (some ⟨g, 0, none⟩)] #[])).c0; have f5' : ∀ q, w5.frozen? ⟨g, q, none⟩ = false := HC5.out.fr; go_simp; refine hK.out _ _ S6 ?_; clear hK K f5'
  try simp only [Act.put, List.setIfInBounds_toArray, List.set_cons_zero, List.set_cons_succ]
  refine wpAnyH_done (by kernel_rfl) ?_ _
  have HC6 := Lib.hid (HC5.out.set5 (.func (.func kn) #[.pointer (some ⟨g, 0, none⟩)] #[]))
  have HT6 := Lib.hid ((HT4.out.trans3 (Nx.refl _ _) (.of_below HB5.out)).trans3 (Nx.refl _ _) (fturn_setCell w5 g 5 (.slice none 0 0) (.func (.func kn) #[.pointer (some ⟨g, 0, none⟩)] #[])))
  have HS6 := Lib.hid ((HS4.out.same (HB5.out.block _ HS4.out.lt)).same (Below.heap_setCell w5 ⟨g, 5, none⟩ (.func (.func kn) #[.pointer (some ⟨g, 0, none⟩)] #[]) sb hsb))
  clear S6 f5 c5 S5 hlk HC5 HB5 HC4 HT4 HS4
  generalize w5.setCell ⟨g, 5, none⟩ (.func (.func kn) #[.pointer (some ⟨g, 0, none⟩)] #[]) = w6 at *
  simp only [Exit.then]
  go_wp2
  refine wp_region_held_drew (S := fun w' => w'.cell? ⟨sb, 2, none⟩ = some (.string tt)) (by kernel_rfl) HS6.out.c2 (fun hH2 => ?_)
  have HC7 := Lib.hid (show MkC w6.drew g p tc (.slice none 0 0) (.slice none 0 0) (.pointer none) (.func (.func kn) #[.pointer (some ⟨g, 0, none⟩)] #[]) from HC6.out)
  have HT7 := Lib.hid (show Turn g (.slice none 0 0) w w6.drew from ⟨HT6.out.os, HT6.out.tape, HT6.out.output, HT6.out.size, HT6.out.block⟩)
  have HS7 := Lib.hid (show St3 w6.drew sb tc false tt from HS6.out)
  clear HC6 HT6 HS6
  generalize w6.drew = w7 at *
  have CB := Lib.hid (mbusy_yes HC7.out)
  have CA := Lib.hid (HTT.out ▸ madd_more (xs := []) t.text HC7.out (World.ownsRow_nil _ w.heap.size _ _) (by decide) HT7.out.size)
  refine heldTake (i := 0) (v := ?_) rfl (by kernel_rfl) (by kernel_rfl) (fun _ _ _ h => h) (by rfl) (by assumption) (fun w hSw => ?_) ?_; rotate_left; focus ((try dsimp only at hSw); go_simp; try with_reducible rfl)
  try simp only [Act.put, List.setIfInBounds_toArray, List.set_cons_zero, List.set_cons_succ]
  refine heldTake (i := 3) (v := ?_) rfl (by kernel_rfl) (by kernel_rfl) (fun _ _ _ h => h) (by rfl) (by assumption) (fun w hSw => ?_) ?_; rotate_left; focus ((try dsimp only at hSw); go_simp; try with_reducible rfl)
  try simp only [Act.put, List.setIfInBounds_toArray, List.set_cons_zero, List.set_cons_succ]
  refine heldTake (i := 4) (v := ?_) rfl (by kernel_rfl) (by kernel_rfl) (fun _ _ _ h => h) (by rfl) (by assumption) (fun w hSw => ?_) ?_; rotate_left; focus ((try dsimp only at hSw); go_simp; try with_reducible rfl)
  try simp only [Act.put, List.setIfInBounds_toArray, List.set_cons_zero, List.set_cons_succ]
  refine heldTake (i := 5) (v := ?_) rfl (by kernel_rfl) (by kernel_rfl) (fun _ _ _ h => h) (by rfl) (by assumption) (fun w hSw => ?_) ?_; rotate_left; focus ((try dsimp only at hSw); go_simp; try with_reducible rfl)
  try simp only [Act.put, List.setIfInBounds_toArray, List.set_cons_zero, List.set_cons_succ]
  -- NEXT 1 Op.call { callee := Callee.value (Operand.func 15), args := #[Operand.tmp 47], argTypes := #[25] }
  refine heldNext (i := 1) rfl (by kernel_rfl) (by rfl) (fun K hK => ?_)
  go_simp; go_at_call 15; refine CB.out.mono ?_; rintro e w8 ⟨rfl, hw⟩; rw [← hw]; clear hw; first | (refine hK.out _ _ hH2 ?_) | (go_wp2_with fail; refine hK.out _ _ hH2 ?_); clear hK K
  try simp only [Act.put, List.setIfInBounds_toArray, List.set_cons_zero, List.set_cons_succ]
  refine heldTake (i := 2) (v := ?_) rfl (by kernel_rfl) (by kernel_rfl) (fun _ _ _ h => h) (by rfl) (by assumption) (fun w hSw => ?_) ?_; rotate_left; focus ((try dsimp only at hSw); go_simp; try with_reducible rfl)
  try simp only [Act.put, List.setIfInBounds_toArray, List.set_cons_zero, List.set_cons_succ]
  -- NEXT 6 Op.call { callee := Callee.value (Operand.func 25), args := #[Operand.tmp 50, Operand.tmp 52], argTypes := #[2
  refine heldNext (i := 6) rfl (by kernel_rfl) (by rfl) (fun K hK => ?_)
  go_simp; go_at_call 25; refine CA.out.mono ?_; rintro e w9 ⟨rfl, P9⟩; have S9 : w9.cell? ⟨sb, 2, none⟩ = some (.string tt) := (by obtain ⟨lv', x1, x2, x3, x4⟩ := P9; exact (HS7.out.same (x3.block sb HS7.out.lt hsb (fun e => by cases e))).c2); first | (refine hK.out _ _ S9 ?_) | (go_wp2_with fail; refine hK.out _ _ S9 ?_); clear hK K
  try simp only [Act.put, List.setIfInBounds_toArray, List.set_cons_zero, List.set_cons_succ]
  refine heldTake (i := 7) (v := ?_) rfl (by kernel_rfl) (by kernel_rfl) (fun _ _ _ h => h) (by rfl) (by assumption) (fun w hSw => ?_) ?_; rotate_left; focus ((try dsimp only at hSw); go_simp; try with_reducible rfl)
  try simp only [Act.put, List.setIfInBounds_toArray, List.set_cons_zero, List.set_cons_succ]
  refine heldTake (i := 8) (v := ?_) rfl (by kernel_rfl) (by kernel_rfl) (fun _ _ _ h => h) (by rfl) (by assumption) (fun w hSw => ?_) ?_; rotate_left; focus ((try dsimp only at hSw); go_simp; try with_reducible rfl)
  try simp only [Act.put, List.setIfInBounds_toArray, List.set_cons_zero, List.set_cons_succ]
  refine wpAnyH_done (by kernel_rfl) ?_ _
  simp only [Exit.then]
  go_wp2
  go_ret2
  obtain ⟨lv', x1, x2, x3, x4⟩ := P9
  exact ⟨rfl, lv', x1, x2, HT7.out.trans3 (Nx.refl _ _) x3, x4.lower HT7.out.size⟩
set_option maxHeartbeats 4000000 in
theorem begin_nobody {w : World} {g : Nat} {p : Int} (h : MkC w g p ⟨#[]⟩ (.slice none 0 0) (.slice none 0 0) (.pointer none) .nilFunc) (s : List UInt8) (hs : s.length ≤ 16777216) {t : Ln.Sa} (hst : Ln.status p s = some t) (hm : t.more = false) :
    Calls Tryd.prog 20 #[.pointer (some ⟨g, 0, none⟩), .string (ba s), .bool false] w fun e w' => e = .returned (.tuple #[.bool true, .int .i64 0]) ∧ AddP w w.heap.size g p (ba t.code) (.slice none 0 0) (.slice none 0 0) (.pointer none) .nilFunc [] t.text w' := by
  have hS := fun w => status_any p s hs w
  rw [hst] at hS
  have hS : ∀ w, Calls Tryd.prog 23 #[.int .i64 p, .string (ba s)] w fun e w' => e = .returned (.tuple #[.agg #[.string (ba t.code), .bool t.more, .string (ba t.text)], .bool true]) ∧ Below w.heap.size w w' := hS
  rw [hm] at hS
  have c0 := h.c0
  have H := Lib.hid h
  clear hst h hm
  generalize ba t.code = tc at *
  obtain ⟨tt, htt⟩ : ∃ tt, tt = ba t.text := ⟨_, rfl⟩
  rw [← htt] at hS
  have HTT := Lib.hid htt
  clear htt
  go_enter Tryd.func20, Tryd.ntmps20
  go_wp2_with (go_at_call 23; refine (hS _).mono ?_; rintro e w1 ⟨rfl, hb⟩; clear hS; have c1 := fun o => ((H.out.next hb).next ((Below.refl _ _).alloc (Nat.le_refl _) o)).c1; have f1 := fun o => ((H.out.next hb).next ((Below.refl _ _).alloc (Nat.le_refl _) o)).fr 1; have hsb : w1.heap.size ≠ g := (fun e => by have := H.out.lt; have := hb.size; omega); have d1 : ∀ o u, ((w1.alloc o).setCell ⟨g, 1, none⟩ u).heap[w1.heap.size]? = some o := (fun o u => (Below.heap_setCell _ _ _ _ hsb).trans (World.alloc_heap_new w1 o)); have e0 : ((w1.alloc (.cells #[.string tc, .bool false, .string tt] 54)).setCell ⟨g, 1, none⟩ (.string tc)).cell? ⟨w1.heap.size, 0, none⟩ = some (.string tc) := St3.c0 (d1 _ _); have e1 : ((w1.alloc (.cells #[.string tc, .bool false, .string tt] 54)).setCell ⟨g, 1, none⟩ (.string tc)).cell? ⟨w1.heap.size, 1, none⟩ = some (.bool false) := St3.c1 (d1 _ _))
  have hb2 : Below w.heap.size w (w1.alloc (.cells #[.string tc, .bool false, .string tt] 54)) := hb.alloc hb.size _
  have HC3 := Lib.hid ((H.out.next hb2).set1 tc)
  have hT3 : Turn g (.slice none 0 0) w ((w1.alloc (.cells #[.string tc, .bool false, .string tt] 54)).setCell ⟨g, 1, none⟩ (.string tc)) := Turn.before hb2 (fturn_setCell _ g 1 (.slice none 0 0) (.string tc))
  have hst3 : St3 ((w1.alloc (.cells #[.string tc, .bool false, .string tt] 54)).setCell ⟨g, 1, none⟩ (.string tc)) w1.heap.size tc false tt := d1 _ _
  have HSZ := Lib.hid hb.size
  generalize (w1.alloc (.cells #[.string tc, .bool false, .string tt] 54)).setCell ⟨g, 1, none⟩ (.string tc) = w3 at *
  generalize w1.heap.size = sb at *
  have HT3 := Lib.hid hT3
  have HS3 := Lib.hid hst3
  clear hT3 hst3 c0 c1 f1 e0 e1 d1 hb hb2
  have HC6 := HC3
  have HT6 := HT3
  have HS6 := HS3
  clear HC3 HT3 HS3
  refine wp_region_held_drew (S := fun w' => w'.cell? ⟨sb, 2, none⟩ = some (.string tt)) (by kernel_rfl) HS6.out.c2 (fun hH2 => ?_)
  have HC7 := Lib.hid (show MkC w3.drew g p tc (.slice none 0 0) (.slice none 0 0) (.pointer none) .nilFunc from HC6.out)
  have HT7 := Lib.hid (show Turn g (.slice none 0 0) w w3.drew from ⟨HT6.out.os, HT6.out.tape, HT6.out.output, HT6.out.size, HT6.out.block⟩)
  have HS7 := Lib.hid (show St3 w3.drew sb tc false tt from HS6.out)
  clear HC6 HT6 HS6
  generalize w3.drew = w7 at *
  have CB := Lib.hid (mbusy_no HC7.out)
  have CA := Lib.hid (HTT.out ▸ madd_more (xs := []) t.text HC7.out (World.ownsRow_nil _ w.heap.size _ _) (by decide) HT7.out.size)
  refine heldTake (i := 0) (v := ?_) rfl (by kernel_rfl) (by kernel_rfl) (fun _ _ _ h => h) (by rfl) (by assumption) (fun w hSw => ?_) ?_; rotate_left; focus ((try dsimp only at hSw); go_simp; try with_reducible rfl)
  try simp only [Act.put, List.setIfInBounds_toArray, List.set_cons_zero, List.set_cons_succ]
  refine heldTake (i := 3) (v := ?_) rfl (by kernel_rfl) (by kernel_rfl) (fun _ _ _ h => h) (by rfl) (by assumption) (fun w hSw => ?_) ?_; rotate_left; focus ((try dsimp only at hSw); go_simp; try with_reducible rfl)
  try simp only [Act.put, List.setIfInBounds_toArray, List.set_cons_zero, List.set_cons_succ]
  refine heldTake (i := 4) (v := ?_) rfl (by kernel_rfl) (by kernel_rfl) (fun _ _ _ h => h) (by rfl) (by assumption) (fun w hSw => ?_) ?_; rotate_left; focus ((try dsimp only at hSw); go_simp; try with_reducible rfl)
  try simp only [Act.put, List.setIfInBounds_toArray, List.set_cons_zero, List.set_cons_succ]
  refine heldTake (i := 5) (v := ?_) rfl (by kernel_rfl) (by kernel_rfl) (fun _ _ _ h => h) (by rfl) (by assumption) (fun w hSw => ?_) ?_; rotate_left; focus ((try dsimp only at hSw); go_simp; try with_reducible rfl)
  try simp only [Act.put, List.setIfInBounds_toArray, List.set_cons_zero, List.set_cons_succ]
  -- NEXT 1 Op.call { callee := Callee.value (Operand.func 15), args := #[Operand.tmp 47], argTypes := #[25] }
  refine heldNext (i := 1) rfl (by kernel_rfl) (by rfl) (fun K hK => ?_)
  go_simp; go_at_call 15; refine CB.out.mono ?_; rintro e w8 ⟨rfl, hw⟩; rw [← hw]; clear hw; first | (refine hK.out _ _ hH2 ?_) | (go_wp2_with fail; refine hK.out _ _ hH2 ?_); clear hK K
  try simp only [Act.put, List.setIfInBounds_toArray, List.set_cons_zero, List.set_cons_succ]
  refine heldTake (i := 2) (v := ?_) rfl (by kernel_rfl) (by kernel_rfl) (fun _ _ _ h => h) (by rfl) (by assumption) (fun w hSw => ?_) ?_; rotate_left; focus ((try dsimp only at hSw); go_simp; try with_reducible rfl)
  try simp only [Act.put, List.setIfInBounds_toArray, List.set_cons_zero, List.set_cons_succ]
  -- NEXT 6 Op.call { callee := Callee.value (Operand.func 25), args := #[Operand.tmp 50, Operand.tmp 52], argTypes := #[2
  refine heldNext (i := 6) rfl (by kernel_rfl) (by rfl) (fun K hK => ?_)
  go_simp; go_at_call 25; refine CA.out.mono ?_; rintro e w9 ⟨rfl, P9⟩; have S9 : w9.cell? ⟨sb, 2, none⟩ = some (.string tt) := (by obtain ⟨lv', x1, x2, x3, x4⟩ := P9; exact (HS7.out.same (x3.block sb HS7.out.lt hsb (fun e => by cases e))).c2); first | (refine hK.out _ _ S9 ?_) | (go_wp2_with fail; refine hK.out _ _ S9 ?_); clear hK K
  try simp only [Act.put, List.setIfInBounds_toArray, List.set_cons_zero, List.set_cons_succ]
  refine heldTake (i := 7) (v := ?_) rfl (by kernel_rfl) (by kernel_rfl) (fun _ _ _ h => h) (by rfl) (by assumption) (fun w hSw => ?_) ?_; rotate_left; focus ((try dsimp only at hSw); go_simp; try with_reducible rfl)
  try simp only [Act.put, List.setIfInBounds_toArray, List.set_cons_zero, List.set_cons_succ]
  refine heldTake (i := 8) (v := ?_) rfl (by kernel_rfl) (by kernel_rfl) (fun _ _ _ h => h) (by rfl) (by assumption) (fun w hSw => ?_) ?_; rotate_left; focus ((try dsimp only at hSw); go_simp; try with_reducible rfl)
  try simp only [Act.put, List.setIfInBounds_toArray, List.set_cons_zero, List.set_cons_succ]
  refine wpAnyH_done (by kernel_rfl) ?_ _
  simp only [Exit.then]
  go_wp2
  go_ret2
  obtain ⟨lv', x1, x2, x3, x4⟩ := P9
  exact ⟨rfl, lv', x1, x2, HT7.out.trans3 (Nx.refl _ _) x3, x4.lower HT7.out.size⟩
set_option maxHeartbeats 4000000 in
theorem begin_other {w : World} {g : Nat} {p : Int} (h : MkC w g p ⟨#[]⟩ (.slice none 0 0) (.slice none 0 0) (.pointer none) .nilFunc) (s : List UInt8) (hs : s.length ≤ 16777216) {t : Ln.Sa} (hst : Ln.status p s = some t) (hm : t.more = false) (hk : t.code ≠ [43]) :
    Calls Tryd.prog 20 #[.pointer (some ⟨g, 0, none⟩), .string (ba s), .bool true] w fun e w' => e = .returned (.tuple #[.bool true, .int .i64 0]) ∧ AddP w w.heap.size g p (ba t.code) (.slice none 0 0) (.slice none 0 0) (.pointer none) .nilFunc [] t.text w' := by
  have hS := fun w => status_any p s hs w
  rw [hst] at hS
  have hS : ∀ w, Calls Tryd.prog 23 #[.int .i64 p, .string (ba s)] w fun e w' => e = .returned (.tuple #[.agg #[.string (ba t.code), .bool t.more, .string (ba t.text)], .bool true]) ∧ Below w.heap.size w w' := hS
  rw [hm] at hS
  have c0 := h.c0
  have H := Lib.hid h
  clear hst h hm
  have hne : ((ba t.code).toList == [43]) = false := by rw [Lib.toList_data]; exact beq_eq_false_iff_ne.2 hk
  clear hk
  generalize ba t.code = tc at *
  obtain ⟨tt, htt⟩ : ∃ tt, tt = ba t.text := ⟨_, rfl⟩
  rw [← htt] at hS
  have HTT := Lib.hid htt
  clear htt
  go_enter Tryd.func20, Tryd.ntmps20
  go_wp2_with (go_at_call 23; refine (hS _).mono ?_; rintro e w1 ⟨rfl, hb⟩; clear hS; have c1 := fun o => ((H.out.next hb).next ((Below.refl _ _).alloc (Nat.le_refl _) o)).c1; have f1 := fun o => ((H.out.next hb).next ((Below.refl _ _).alloc (Nat.le_refl _) o)).fr 1; have hsb : w1.heap.size ≠ g := (fun e => by have := H.out.lt; have := hb.size; omega); have d1 : ∀ o u, ((w1.alloc o).setCell ⟨g, 1, none⟩ u).heap[w1.heap.size]? = some o := (fun o u => (Below.heap_setCell _ _ _ _ hsb).trans (World.alloc_heap_new w1 o)); have e0 : ((w1.alloc (.cells #[.string tc, .bool false, .string tt] 54)).setCell ⟨g, 1, none⟩ (.string tc)).cell? ⟨w1.heap.size, 0, none⟩ = some (.string tc) := St3.c0 (d1 _ _); have e1 : ((w1.alloc (.cells #[.string tc, .bool false, .string tt] 54)).setCell ⟨g, 1, none⟩ (.string tc)).cell? ⟨w1.heap.size, 1, none⟩ = some (.bool false) := St3.c1 (d1 _ _))
  have hb2 : Below w.heap.size w (w1.alloc (.cells #[.string tc, .bool false, .string tt] 54)) := hb.alloc hb.size _
  have HC3 := Lib.hid ((H.out.next hb2).set1 tc)
  have hT3 : Turn g (.slice none 0 0) w ((w1.alloc (.cells #[.string tc, .bool false, .string tt] 54)).setCell ⟨g, 1, none⟩ (.string tc)) := Turn.before hb2 (fturn_setCell _ g 1 (.slice none 0 0) (.string tc))
  have hst3 : St3 ((w1.alloc (.cells #[.string tc, .bool false, .string tt] 54)).setCell ⟨g, 1, none⟩ (.string tc)) w1.heap.size tc false tt := d1 _ _
  have HSZ := Lib.hid hb.size
  generalize (w1.alloc (.cells #[.string tc, .bool false, .string tt] 54)).setCell ⟨g, 1, none⟩ (.string tc) = w3 at *
  generalize w1.heap.size = sb at *
  have HT3 := Lib.hid hT3
  have HS3 := Lib.hid hst3
  clear hT3 hst3 c0 c1 f1 e0 e1 d1 hb hb2
  have HC6 := HC3
  have HT6 := HT3
  have HS6 := HS3
  clear HC3 HT3 HS3
  refine wp_region_held_drew (S := fun w' => w'.cell? ⟨sb, 2, none⟩ = some (.string tt)) (by kernel_rfl) HS6.out.c2 (fun hH2 => ?_)
  have HC7 := Lib.hid (show MkC w3.drew g p tc (.slice none 0 0) (.slice none 0 0) (.pointer none) .nilFunc from HC6.out)
  have HT7 := Lib.hid (show Turn g (.slice none 0 0) w w3.drew from ⟨HT6.out.os, HT6.out.tape, HT6.out.output, HT6.out.size, HT6.out.block⟩)
  have HS7 := Lib.hid (show St3 w3.drew sb tc false tt from HS6.out)
  clear HC6 HT6 HS6
  generalize w3.drew = w7 at *
  have CB := Lib.hid (mbusy_no HC7.out)
  have CA := Lib.hid (HTT.out ▸ madd_more (xs := []) t.text HC7.out (World.ownsRow_nil _ w.heap.size _ _) (by decide) HT7.out.size)
  refine heldTake (i := 0) (v := ?_) rfl (by kernel_rfl) (by kernel_rfl) (fun _ _ _ h => h) (by rfl) (by assumption) (fun w hSw => ?_) ?_; rotate_left; focus ((try dsimp only at hSw); go_simp; try with_reducible rfl)
  try simp only [Act.put, List.setIfInBounds_toArray, List.set_cons_zero, List.set_cons_succ]
  refine heldTake (i := 3) (v := ?_) rfl (by kernel_rfl) (by kernel_rfl) (fun _ _ _ h => h) (by rfl) (by assumption) (fun w hSw => ?_) ?_; rotate_left; focus ((try dsimp only at hSw); go_simp; try with_reducible rfl)
  try simp only [Act.put, List.setIfInBounds_toArray, List.set_cons_zero, List.set_cons_succ]
  refine heldTake (i := 4) (v := ?_) rfl (by kernel_rfl) (by kernel_rfl) (fun _ _ _ h => h) (by rfl) (by assumption) (fun w hSw => ?_) ?_; rotate_left; focus ((try dsimp only at hSw); go_simp; try with_reducible rfl)
  try simp only [Act.put, List.setIfInBounds_toArray, List.set_cons_zero, List.set_cons_succ]
  refine heldTake (i := 5) (v := ?_) rfl (by kernel_rfl) (by kernel_rfl) (fun _ _ _ h => h) (by rfl) (by assumption) (fun w hSw => ?_) ?_; rotate_left; focus ((try dsimp only at hSw); go_simp; try with_reducible rfl)
  try simp only [Act.put, List.setIfInBounds_toArray, List.set_cons_zero, List.set_cons_succ]
  -- NEXT 1 Op.call { callee := Callee.value (Operand.func 15), args := #[Operand.tmp 47], argTypes := #[25] }
  refine heldNext (i := 1) rfl (by kernel_rfl) (by rfl) (fun K hK => ?_)
  go_simp; go_at_call 15; refine CB.out.mono ?_; rintro e w8 ⟨rfl, hw⟩; rw [← hw]; clear hw; first | (refine hK.out _ _ hH2 ?_) | (go_wp2_with fail; refine hK.out _ _ hH2 ?_); clear hK K
  try simp only [Act.put, List.setIfInBounds_toArray, List.set_cons_zero, List.set_cons_succ]
  refine heldTake (i := 2) (v := ?_) rfl (by kernel_rfl) (by kernel_rfl) (fun _ _ _ h => h) (by rfl) (by assumption) (fun w hSw => ?_) ?_; rotate_left; focus ((try dsimp only at hSw); go_simp; try with_reducible rfl)
  try simp only [Act.put, List.setIfInBounds_toArray, List.set_cons_zero, List.set_cons_succ]
  -- NEXT 6 Op.call { callee := Callee.value (Operand.func 25), args := #[Operand.tmp 50, Operand.tmp 52], argTypes := #[2
  refine heldNext (i := 6) rfl (by kernel_rfl) (by rfl) (fun K hK => ?_)
  go_simp; go_at_call 25; refine CA.out.mono ?_; rintro e w9 ⟨rfl, P9⟩; have S9 : w9.cell? ⟨sb, 2, none⟩ = some (.string tt) := (by obtain ⟨lv', x1, x2, x3, x4⟩ := P9; exact (HS7.out.same (x3.block sb HS7.out.lt hsb (fun e => by cases e))).c2); first | (refine hK.out _ _ S9 ?_) | (go_wp2_with fail; refine hK.out _ _ S9 ?_); clear hK K
  try simp only [Act.put, List.setIfInBounds_toArray, List.set_cons_zero, List.set_cons_succ]
  refine heldTake (i := 7) (v := ?_) rfl (by kernel_rfl) (by kernel_rfl) (fun _ _ _ h => h) (by rfl) (by assumption) (fun w hSw => ?_) ?_; rotate_left; focus ((try dsimp only at hSw); go_simp; try with_reducible rfl)
  try simp only [Act.put, List.setIfInBounds_toArray, List.set_cons_zero, List.set_cons_succ]
  refine heldTake (i := 8) (v := ?_) rfl (by kernel_rfl) (by kernel_rfl) (fun _ _ _ h => h) (by rfl) (by assumption) (fun w hSw => ?_) ?_; rotate_left; focus ((try dsimp only at hSw); go_simp; try with_reducible rfl)
  try simp only [Act.put, List.setIfInBounds_toArray, List.set_cons_zero, List.set_cons_succ]
  refine wpAnyH_done (by kernel_rfl) ?_ _
  simp only [Exit.then]
  go_wp2
  go_ret2
  obtain ⟨lv', x1, x2, x3, x4⟩ := P9
  exact ⟨rfl, lv', x1, x2, HT7.out.trans3 (Nx.refl _ _) x3, x4.lower HT7.out.size⟩
end Go.Proofs.YtnodngcfjdghcaaDoor
