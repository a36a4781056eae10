/- A reply comes: whose it is: isFinal, leave, Reply, walked. -/
import Derived.Test.YtimieknphedniaaPipeH
import Derived.Test.YtimieknphedniaaShelf
namespace Go.Proofs.Ytimieknphedniaa
open Go.RowKit

/-- A text that begins by '1'. -/
def one1 (s : ByteArray) : Bool := s.data.toList.head? == some 49
/-- Whether a reply is final. -/
def fin (p : Int) (s : ByteArray) : Bool := !(p == 3 && one1 s)
theorem one1_prefix (s : ByteArray) : Lib.hasPrefix s.data.toList (⟨#[49]⟩ : ByteArray).data.toList = one1 s := by
  unfold one1
  show Lib.hasPrefix s.data.toList [49] = _
  cases s.data.toList with
  | nil => rfl
  | cons c r =>
    show ([49].isPrefixOf (c :: r)) = ((c :: r).head? == some 49)
    rw [Bool.eq_iff_iff]
    constructor
    · intro h
      have h1 : (49 : UInt8) = c := by simpa [List.isPrefixOf] using h
      rw [← h1]; rfl
    · intro h
      have h1 : c = 49 := by simpa using h
      rw [h1]; rfl

theorem final_any (p : Int) (s : ByteArray) (w : World) : Calls Try.prog 20 #[.int .i64 p, .string s] w fun e w' => e = .returned (.bool (fin p s)) ∧ w = w' := by
  have hP := Try.strings_HasPrefix s ⟨#[49]⟩ w
  rw [one1_prefix] at hP
  unfold fin
  by_cases h : p = 3
  · subst h
    show Calls _ _ _ _ fun e w' => e = .returned (.bool (!one1 s)) ∧ _
    go_enter Try.func20, Try.ntmps20
    go_wp2_with (refine hP.mono ?_; rintro e w' ⟨rfl, hw⟩; obtain rfl := hw)
    go_ret
    exact ⟨rfl, rfl⟩
  · have h1 : (p == 3) = false := beq_eq_false_iff_ne.2 h
    have h2 : (p = 3) = False := eq_false h
    rw [h1]
    show Calls _ _ _ _ fun e w' => e = .returned (.bool true) ∧ _
    clear hP
    go_enter Try.func20, Try.ntmps20
    go_wp2
    go_ret
    exact ⟨rfl, rfl⟩

section
variable {w : World} {g : Nat} {l : List Wt} {x : Wt}
theorem leave_any (h : PO w g (x :: l)) : Calls Try.prog 21 #[.pointer (some ⟨g, 0, none⟩)] w fun e w' => e = .returned (.tuple #[]) ∧ PO w' g l ∧ Trn (· = g) w w' := by
  have hl7 : l.length ≤ 7 := by have := h.le; simp at this; omega
  have c0 := h.cnt
  rw [List.length_cons] at c0
  have hcp0 := h.copy hl7 0
  have hcp1 := h.copy hl7 1
  change Sem.run _ _ w = _ at hcp0
  have HP := Lib.hid h
  clear h
  generalize hn : l.length = n at *
  have HN := Lib.hid hn
  clear hn
  have hn1 : (n : Int) + 1 ≤ 8 := by omega
  have hsl : ∀ q, (Instr.sliceAt 50 (.pointer (some ⟨g, 0, none⟩)) (some (.int .i64 1)) (some (.int .i64 ((n : Int) + 1))) none).run Try.prog (w.drewN q) = .ok (.slice (some ⟨g, 4, none⟩) n 7) (w.drewN q) := by
    intro q
    have e := run_sliceAt_array_lh (P := Try.prog) (w.drewN q) 50 ⟨g, 0, none⟩ Try.underlying50 .i64 .i64 1 ((n : Int) + 1) (by decide) (by omega) hn1
    rw [e]
    have hz : (sizeOf (Try.prog.elem 50)).run Try.prog (w.drewN q) = .ok 4 (w.drewN q) := rfl
    rw [hz]
    show Result.ok (Value.slice (some _) (((n : Int) + 1).toNat - 1) 7) _ = _
    rw [show ((n : Int) + 1).toNat - 1 = n from by omega]
    rfl
  have hs0 := hsl 0
  have hs1 := hsl 1
  change Sem.run _ _ w = _ at hs0
  change Sem.run _ _ w.drew = _ at hs1
  clear hsl
  go_enter Try.func21, Try.ntmps21
  go_wp2_with fail
  go_region
  obtain ⟨w1, hw1⟩ : ∃ x', (w.drewN 1).setRow g (popRow x l).toArray = x' := ⟨_, rfl⟩
  rw [hw1]
  have hle : l.length < 8 := by rw [HN.out]; omega
  have hr : w1.heap[g]? = some (.cells (popRow x l).toArray 52 (0, 0)) := by rw [← hw1]; exact setRow_heap _ _ _ _ _ _ HP.out.c
  have ht : Trn (· = g) w w1 := by
    rw [← hw1]
    exact ⟨rfl, rfl, rfl, by simp [World.setRow, World.drewN], fun k _ h1 => setRow_other _ g k _ h1⟩
  have q0 : w1.cell? ⟨g, 32, none⟩ = some (.int .i64 ((n : Int) + 1)) := by
    have hc := cell_of_row w1 g 32 _ _ _ hr
    rw [List.getElem?_toArray, pop_cnt x hle, HN.out] at hc
    exact hc
  have q1 : ∀ i, w1.frozen? ⟨g, i, none⟩ = false := fun i => frozen_of_row _ _ _ _ _ hr
  have hk : ∀ i, i < 33 → ∃ u, w1.cell? ⟨g, i, none⟩ = some u := fun i hi => by
    have hc := cell_of_row w1 g i _ _ _ hr
    rw [List.getElem?_toArray, List.getElem?_eq_getElem (by rw [pop_len x hle]; exact hi)] at hc
    exact ⟨_, hc⟩
  obtain ⟨w2, hw2⟩ : ∃ x', w1.setCell ⟨g, 32, none⟩ (.int .i64 (n : Int)) = x' := ⟨_, rfl⟩
  have hlast : PO (setN w2 g (n * 4) Wt.zero.cells) g l := by
    have hp := (PO.mk HP.out.c HP.out.le : PO (w.drewN 1) g (x :: l)).pop
    rw [hw1, HN.out, hw2] at hp
    exact hp
  have ht2 : Trn (· = g) w w2 := by rw [← hw2]; exact ht.setCell rfl _
  have d0 : w2.cell? ⟨g, 32, none⟩ = some (.int .i64 (n : Int)) := by rw [← hw2]; exact World.cell?_setCell_same _ _ _ q0
  have d1 : ∀ i, w2.frozen? ⟨g, i, none⟩ = false := fun i => by rw [← hw2, World.frozen?_setCell]; exact q1 i
  have hk2 : ∀ i, i < 32 → ∃ u, w2.cell? ⟨g, i, none⟩ = some u := fun i hi => by
    obtain ⟨u, hu⟩ := hk i (by omega)
    refine ⟨u, ?_⟩
    rw [← hw2, World.cell?_setCell_other _ _ _ _ (fun e => by injection e; omega)]
    exact hu
  obtain ⟨u0, k0⟩ := hk2 (n * 4) (by omega)
  obtain ⟨u1, k1⟩ := hk2 (n * 4 + 1) (by omega)
  obtain ⟨u2, k2⟩ := hk2 (n * 4 + 2) (by omega)
  obtain ⟨u3, k3⟩ := hk2 (n * 4 + 3) (by omega)
  have HO := Lib.hid (show PO (setN w2 g (n * 4) Wt.zero.cells).drew g l from ⟨hlast.c, hlast.le⟩)
  have HT := Lib.hid (show Trn (· = g) w (setN w2 g (n * 4) Wt.zero.cells).drew from by have h1 := setN_trn (F := (· = g)) rfl Wt.zero.cells (n * 4) ht2; exact ⟨h1.os, h1.tape, h1.output, h1.size, h1.block⟩)
  have hn8 : (n : Int) < 8 := by omega
  clear hcp0 hcp1 hs0 hs1 c0 hw1 hr ht hk hk2 hlast ht2 hle
  simp only [Exit.then]
  go_wp2_with fail
  clear hw2 q0 q1
  go_region
  obtain ⟨w4, hw4⟩ : ∃ x', ((((w2.setCell ⟨g, n * 4, none⟩ (.string ⟨#[]⟩)).setCell ⟨g, n * 4 + 1, none⟩ (.string ⟨#[]⟩)).setCell ⟨g, n * 4 + 2, none⟩ (.bool false)).setCell ⟨g, n * 4 + 3, none⟩ (.int .i64 0)).drew = x' := ⟨_, rfl⟩
  rw [hw4]
  have HO4 := Lib.hid (show PO w4 g l by rw [← hw4]; exact HO.out)
  have HT4 := Lib.hid (show Trn (· = g) w w4 by rw [← hw4]; exact HT.out)
  clear hw4 k0 k1 k2 k3 d0 d1 HO HT
  go_wp2
  go_end0
  exact ⟨rfl, HO4.out, HT4.out⟩
end
end Go.Proofs.Ytimieknphedniaa
