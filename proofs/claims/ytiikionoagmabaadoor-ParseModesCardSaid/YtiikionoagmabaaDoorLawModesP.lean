/- ParseModes walked (layer 15). -/
import Derived.Test.YtiikionoagmabaaDoorParseLaw
import Derived.Test.YtiikionoagmabaaDoorParseMo
import Derived.Test.YtiikionoagmabaaDoorFrame
import Derived.Test.YtiikionoagmabaaDoorHeld
namespace Go.Proofs.YtiikionoagmabaaDoor
open Go.RowKit

theorem one_byte_atP (s : ByteArray) (k : Nat) (h : k < s.size) : s.extract k (k + 1) = ⟨[s[k]'h].toArray⟩ := by
  have hl : k < s.data.toList.length := by rw [Lib.size_eq] at h; exact h
  have e := Lib.extract_eq s k (k + 1)
  rw [List.drop_eq_getElem_cons hl, Nat.add_sub_cancel_left, List.take_succ_cons, List.take_zero] at e
  have : (s.extract k (k + 1)).data = [s[k]'h].toArray := by
    apply Array.toList_inj.1
    rw [e]
    rfl
  exact congrArg ByteArray.mk this
/-- What All tells of the two texts, as the law asks it. -/
structure MD (nm : List UInt8) (w : World) : Prop where
  h1 : ∀ wx, Below w.heap.size w wx → Calls Tryd.prog 11 #[.string ⟨(Ps.begins nm).toArray⟩] wx fun e w' => PAllP (if Ps.mode nm ≠ 0 then .ok (Ps.mode nm, [], []) else .error (5, 20)) wx e w'
  h2 : ∀ wx, Below w.heap.size w wx → Calls Tryd.prog 11 #[.string ⟨(nm ++ Ps.behindS).toArray⟩] wx fun e w' => PAllP (if nm = [] then .ok (1, [], []) else .error (if nm = Ps.wMode then 5 else 0, 20)) wx e w'
theorem md_of {nm : List UInt8} (hn : nm.length ≤ 12) (hs : ∀ c ∈ nm, Lx.small c = true) (w : World) (hS : SHP w) : MD nm w := by
  have hnm : nm = [] ∨ Lx.Name nm := by
    cases nm with
    | nil => exact .inl rfl
    | cons c l => exact .inr ⟨⟨c, l, rfl, hs c (by simp)⟩, fun d hd => by unfold Lx.inName; rw [hs d hd]; rfl, hn⟩
  refine ⟨fun wx hb => ?_, fun wx hb => ?_⟩
  · have := pall_any (Ps.begins nm) (by rw [Ps.begins_len]; omega) wx (hS.below hb)
    rw [Ps.all_begins hnm] at this
    exact this
  · have := pall_any (nm ++ Ps.behindS) (by rw [List.length_append]; simp [Ps.behindS]; omega) wx (hS.below hb)
    have h2 := Ps.all_behind hnm
    by_cases he : nm = []
    · rw [h2.1 he] at this
      rw [if_pos he]
      exact this
    · rw [h2.2 he] at this
      rw [if_neg he]
      exact this
theorem below_drewM {B : Nat} {a w : World} (h : Below B a w) : Below B a w.drew := ⟨h.os, h.tape, h.output, h.size, h.block⟩
theorem prog_cells {w : World} {B : Nat} {a b c : Value} (h : w.heap[B]? = some (.cells #[a, b, c] 27 (0, 0))) : w.cell? ⟨B, 0, none⟩ = some a ∧ w.cell? ⟨B, 1, none⟩ = some b ∧ w.cell? ⟨B, 2, none⟩ = some c :=
  ⟨(cell_of_row _ _ _ _ _ _ h).trans rfl, (cell_of_row _ _ _ _ _ _ h).trans rfl, (cell_of_row _ _ _ _ _ _ h).trans rfl⟩

set_option maxRecDepth 20000 in
set_option maxHeartbeats 8000000 in
theorem lawModesP (s : ByteArray) (hs0 : s.size ≤ maxLen) (w : World) (hS : SHP w) :
    Calls Tryd.prog 8 #[.string s] w fun e w' => e = .returned (.bool true) ∧ Below w.heap.size w w' := by
  have hs : s.size ≤ 9223372036854775807 := by unfold maxLen at hs0; omega
  have HS := Lib.hid hS
  have SW := shown_any w hS
  clear hs0 hS
  go_enter Tryd.func8, Tryd.ntmps8
  go_wp2_with fail
  refine SW.mono ?_
  rintro e wa ⟨rfl, hba⟩
  have HBA := Lib.hid hba
  clear hba SW
  go_wp2
  go_loopw [4, 5] (fun o i wr => ∃ (k m : Nat) (x : List UInt8), k ≤ s.size ∧ i = .int .i64 k ∧ o = .string ⟨x.toArray⟩ ∧ x.length = m ∧ m ≤ 12 ∧ Hid (∀ b ∈ x, Lx.small b = true) ∧ wr = wa) (fun _ i _ => s.size - (intOf i).toNat)
  case atStart => exact ⟨0, 0, [], Nat.zero_le _, rfl, rfl, rfl, Nat.zero_le _, (fun b hb => by simp at hb), rfl⟩
  case round =>
    obtain ⟨k, m, nm, hk1, rfl, rfl, hm, hmk, HX, rfl⟩ := hrel
    have hz : (⟨nm.toArray⟩ : ByteArray).size = m := hm
    by_cases hlt : k < s.size
    · by_cases h2 : m < 12
      · have hone := one_byte_atP s k hlt
        obtain ⟨c, hc⟩ : ∃ c, c = s[k]'hlt := ⟨_, rfl⟩
        rw [← hc] at hone
        have hcn : ((s[k]'hlt).toNat : Int) = (c.toNat : Int) := by rw [hc]
        by_cases h97 : 97 ≤ c.toNat
        · have q1 : ((97 : Int) ≤ ((s[k]'hlt).toNat : Int)) = True := eq_true (by omega)
          by_cases h122 : c.toNat ≤ 122
          · have q2 : (((s[k]'hlt).toNat : Int) ≤ 122) = True := eq_true (by omega)
            have HY := Lib.hid (show ∀ b ∈ nm ++ [c], Lx.small b = true by
              intro b hb
              rcases List.mem_append.1 hb with hb | hb
              · exact HX.out b hb
              · rw [List.mem_singleton.1 hb]
                unfold Lx.small
                simp [h97, h122])
            have hj : (⟨nm.toArray⟩ : ByteArray) ++ ⟨[c].toArray⟩ = ⟨(nm ++ [c]).toArray⟩ := ByteArray.mk_append_mk _ _
            have hl2 : (nm ++ [c]).length = m + 1 := by rw [List.length_append, hm]; rfl
            have hsz : (⟨[c].toArray⟩ : ByteArray).size = 1 := rfl
            obtain ⟨Y, hY⟩ : ∃ Y, nm ++ [c] = Y := ⟨_, rfl⟩
            rw [hY] at hj HY hl2
            clear hcn h97 h122 hc hY hm
            go_wp2
            go_roundw
            case rel => exact ⟨k + 1, m + 1, Y, by omega, by go_num, by first | rfl | simp only [hj], hl2, by omega, HY, by first | rfl | trivial⟩
            case measure => simp [intOf]; omega
          · have q2 : (((s[k]'hlt).toNat : Int) ≤ 122) = False := eq_false (by omega)
            clear hone hcn h97 h122 hc
            go_wp2
            go_roundw
            case rel => exact ⟨k + 1, m, nm, by omega, by go_num, rfl, hm, hmk, HX, by first | rfl | trivial⟩
            case measure => simp [intOf]; omega
        · have q1 : ((97 : Int) ≤ ((s[k]'hlt).toNat : Int)) = False := eq_false (by omega)
          clear hone hcn h97 hc
          go_wp2
          go_roundw
          case rel => exact ⟨k + 1, m, nm, by omega, by go_num, rfl, hm, hmk, HX, by first | rfl | trivial⟩
          case measure => simp [intOf]; omega
      · skip
        have HMD := Lib.hid (md_of (by omega) HX.out w HS.out)
        have HBR := HBA
        clear HX
        have hsmtp : ¬ nm = [115, 109, 116, 112] := fun e => by rw [e] at hm; simp at hm; omega
        have hpop3 : ¬ nm = [112, 111, 112, 51] := fun e => by rw [e] at hm; simp at hm; omega
        have hftp : ¬ nm = [102, 116, 112] := fun e => by rw [e] at hm; simp at hm; omega
        have hempty : ¬ nm = [] := fun e => by rw [e] at hm; simp at hm; omega
        have hmode : ¬ nm = [109, 111, 100, 101] := fun e => by rw [e] at hm; simp at hm; omega
        have qsmtp : (nm == [115, 109, 116, 112]) = false := beq_eq_false_iff_ne.2 hsmtp
        have rsmtp : (nm = [115, 109, 116, 112]) = False := eq_false hsmtp
        have qpop3 : (nm == [112, 111, 112, 51]) = false := beq_eq_false_iff_ne.2 hpop3
        have rpop3 : (nm = [112, 111, 112, 51]) = False := eq_false hpop3
        have qftp : (nm == [102, 116, 112]) = false := beq_eq_false_iff_ne.2 hftp
        have rftp : (nm = [102, 116, 112]) = False := eq_false hftp
        have qmode : (nm == [109, 111, 100, 101]) = false := beq_eq_false_iff_ne.2 hmode
        have rmode : (nm = [109, 111, 100, 101]) = False := eq_false hmode
        have qe : nm.isEmpty = false := by cases nm with | nil => exact absurd rfl hempty | cons c r => rfl
        have qe2 : (nm == []) = false := beq_eq_false_iff_ne.2 hempty
        have qe3 : (nm = []) = False := eq_false hempty
        have hm0 : Ps.mode nm = 0 := by unfold Ps.mode; rw [if_neg hsmtp, if_neg hpop3, if_neg hftp]
        have hmo : ¬ nm = Ps.wMode := hmode
        have a1 := HMD.out.h1
        have a2 := HMD.out.h2
        rw [hm0, if_neg (by decide)] at a1
        rw [if_neg hempty, if_neg hmo] at a2
        have PM := Lib.hid (fun wx => by have := pmode_any nm wx; rw [hm0] at this; exact this)
        clear hm0 hmo hsmtp hpop3 hftp hempty hmode
        unfold PAllP at a1 a2
        have j1 : (⟨#[109, 111, 100, 101, 32]⟩ : ByteArray) ++ ⟨nm.toArray⟩ = ⟨([109, 111, 100, 101, 32] ++ nm).toArray⟩ := ByteArray.mk_append_mk _ _
        obtain ⟨J, hJ⟩ : ∃ J, [109, 111, 100, 101, 32] ++ nm = J := ⟨_, rfl⟩
        rw [hJ] at j1
        have j2 : (⟨J.toArray⟩ : ByteArray) ++ ⟨#[59]⟩ = ⟨(Ps.begins nm).toArray⟩ := by rw [show Ps.begins nm = J ++ [59] by rw [← hJ]; simp [Ps.begins, Ps.wMode]]; exact ByteArray.mk_append_mk _ _
        have j3 : (⟨nm.toArray⟩ : ByteArray) ++ ⟨#[32, 109, 111, 100, 101, 32, 115, 109, 116, 112, 59]⟩ = ⟨(nm ++ Ps.behindS).toArray⟩ := ByteArray.mk_append_mk _ _
        have z1 : (⟨nm.toArray⟩ : ByteArray).size = m := hm
        have z2 : (⟨J.toArray⟩ : ByteArray).size = 5 + m := by rw [← hJ]; show ([109, 111, 100, 101, 32] ++ nm).length = _; rw [List.length_append, hm]; rfl
        have z3 : (⟨#[109, 111, 100, 101, 32]⟩ : ByteArray).size = 5 := rfl
        have z4 : (⟨#[59]⟩ : ByteArray).size = 1 := rfl
        have z5 : (⟨#[32, 109, 111, 100, 101, 32, 115, 109, 116, 112, 59]⟩ : ByteArray).size = 11 := rfl
        have s1 : (9223372036854775807 < 5 + m) = False := eq_false (by omega)
        have s2 : (9223372036854775807 < 5 + m + 1) = False := eq_false (by omega)
        have s3 : (9223372036854775807 < m + 11) = False := eq_false (by omega)
        generalize Ps.begins nm = X1 at a1 j2
        generalize nm ++ Ps.behindS = X2 at a2 j3
        clear hJ
        have A1 := Lib.hid a1
        have A2 := Lib.hid a2
        clear a1 a2
        go_wp2_with fail
        refine (A1.out _ HBR.out).mono ?_
        rintro e w1 ⟨hb1, rfl, _⟩
        have HB1 := Lib.hid (HBR.out.trans (hb1.mono HBR.out.size))
        obtain ⟨w2, hw2⟩ : ∃ w2, w1.alloc (.cells #[.int .i64 0, .slice none 0 0, .slice none 0 0] 27) = w2 := ⟨_, rfl⟩
        have hn2 : w2.heap[w1.heap.size]? = some (.cells #[.int .i64 0, .slice none 0 0, .slice none 0 0] 27 (0, 0)) := by rw [← hw2]; exact heap_alloc_new _ _
        have HB2 := Lib.hid (show Below w.heap.size w w2 by rw [← hw2]; exact HB1.out.alloc HB1.out.size _)
        have HN2 := Lib.hid hn2
        have HW2 := Lib.hid hw2
        clear hn2 hb1 hw2
        go_wp2_with fail
        rw [HW2.out]
        refine (A2.out _ HB2.out).mono ?_
        rintro e w3 ⟨hb3, rfl, _⟩
        have HB3 := Lib.hid (HB2.out.trans (hb3.mono HB2.out.size))
        have HN3 := Lib.hid ((hb3.block _ (Array.getElem?_eq_some_iff.1 HN2.out).1).trans HN2.out)
        clear hb3
        go_wp2_with (go_at_call 14; refine (PM.out _).mono ?_; rintro e w5 ⟨rfl, rfl⟩)
        have HBD := Lib.hid (show Below w.heap.size w (w3.alloc (.cells #[.int .i64 0, .slice none 0 0, .slice none 0 0] 27)).drew from below_drewM (HB3.out.alloc HB3.out.size _))
        have hs0 : True := trivial
        refine wp_region_held_drew (S := fun _ => True) (by kernel_rfl) hs0 (fun hH => ?_)
        generalize (w3.alloc (.cells #[.int .i64 0, .slice none 0 0, .slice none 0 0] 27)).drew = wd at *
        refine heldTake (i := 0) (v := ?_) rfl (by kernel_rfl) (by kernel_rfl) (fun _ _ _ h => h) (by rfl) (by assumption) (fun w hSw => ?_) ?_; rotate_left; focus ((try dsimp only at hSw); go_simp; try with_reducible rfl)
        try simp only [Act.put, List.setIfInBounds_toArray, List.set_cons_zero, List.set_cons_succ]
        refine heldTake (i := 1) (v := ?_) rfl (by kernel_rfl) (by kernel_rfl) (fun _ _ _ h => h) (by rfl) (by assumption) (fun w hSw => ?_) ?_; rotate_left; focus ((try dsimp only at hSw); go_simp; try with_reducible rfl)
        try simp only [Act.put, List.setIfInBounds_toArray, List.set_cons_zero, List.set_cons_succ]
        refine heldTake (i := 2) (v := ?_) rfl (by kernel_rfl) (by kernel_rfl) (fun _ _ _ h => h) (by rfl) (by assumption) (fun w hSw => ?_) ?_; rotate_left; focus ((try dsimp only at hSw); go_simp; try with_reducible rfl)
        try simp only [Act.put, List.setIfInBounds_toArray, List.set_cons_zero, List.set_cons_succ]
        refine heldTake (i := 3) (v := ?_) rfl (by kernel_rfl) (by kernel_rfl) (fun _ _ _ h => h) (by rfl) (by assumption) (fun w hSw => ?_) ?_; rotate_left; focus ((try dsimp only at hSw); go_simp; try with_reducible rfl)
        try simp only [Act.put, List.setIfInBounds_toArray, List.set_cons_zero, List.set_cons_succ]
        refine heldTake (i := 4) (v := ?_) rfl (by kernel_rfl) (by kernel_rfl) (fun _ _ _ h => h) (by rfl) (by assumption) (fun w hSw => ?_) ?_; rotate_left; focus ((try dsimp only at hSw); go_simp; try with_reducible rfl)
        try simp only [Act.put, List.setIfInBounds_toArray, List.set_cons_zero, List.set_cons_succ]
        refine heldTake (i := 5) (v := ?_) rfl (by kernel_rfl) (by kernel_rfl) (fun _ _ _ h => h) (by rfl) (by assumption) (fun w hSw => ?_) ?_; rotate_left; focus ((try dsimp only at hSw); go_simp; try with_reducible rfl)
        try simp only [Act.put, List.setIfInBounds_toArray, List.set_cons_zero, List.set_cons_succ]
        refine heldTake (i := 6) (v := ?_) rfl (by kernel_rfl) (by kernel_rfl) (fun _ _ _ h => h) (by rfl) (by assumption) (fun w hSw => ?_) ?_; rotate_left; focus ((try dsimp only at hSw); go_simp; try with_reducible rfl)
        try simp only [Act.put, List.setIfInBounds_toArray, List.set_cons_zero, List.set_cons_succ]
        refine heldTake (i := 7) (v := ?_) rfl (by kernel_rfl) (by kernel_rfl) (fun _ _ _ h => h) (by rfl) (by assumption) (fun w hSw => ?_) ?_; rotate_left; focus ((try dsimp only at hSw); go_simp; try with_reducible rfl)
        try simp only [Act.put, List.setIfInBounds_toArray, List.set_cons_zero, List.set_cons_succ]
        refine heldTake (i := 8) (v := ?_) rfl (by kernel_rfl) (by kernel_rfl) (fun _ _ _ h => h) (by rfl) (by assumption) (fun w hSw => ?_) ?_; rotate_left; focus ((try dsimp only at hSw); go_simp; try with_reducible rfl)
        try simp only [Act.put, List.setIfInBounds_toArray, List.set_cons_zero, List.set_cons_succ]
        refine heldTake (i := 9) (v := ?_) rfl (by kernel_rfl) (by kernel_rfl) (fun _ _ _ h => h) (by rfl) (by assumption) (fun w hSw => ?_) ?_; rotate_left; focus ((try dsimp only at hSw); go_simp; try with_reducible rfl)
        try simp only [Act.put, List.setIfInBounds_toArray, List.set_cons_zero, List.set_cons_succ]
        refine heldTake (i := 10) (v := ?_) rfl (by kernel_rfl) (by kernel_rfl) (fun _ _ _ h => h) (by rfl) (by assumption) (fun w hSw => ?_) ?_; rotate_left; focus ((try dsimp only at hSw); go_simp; try with_reducible rfl)
        try simp only [Act.put, List.setIfInBounds_toArray, List.set_cons_zero, List.set_cons_succ]
        refine heldTake (i := 11) (v := ?_) rfl (by kernel_rfl) (by kernel_rfl) (fun _ _ _ h => h) (by rfl) (by assumption) (fun w hSw => ?_) ?_; rotate_left; focus ((try dsimp only at hSw); go_simp; try with_reducible rfl)
        try simp only [Act.put, List.setIfInBounds_toArray, List.set_cons_zero, List.set_cons_succ]
        refine heldSkip (i := 12) rfl (by kernel_rfl) (by kernel_rfl) (fun _ _ _ h => h) (by rfl) (by assumption) ?_
        try simp only [Act.put, List.setIfInBounds_toArray, List.set_cons_zero, List.set_cons_succ]
        refine heldSkip (i := 13) rfl (by kernel_rfl) (by kernel_rfl) (fun _ _ _ h => h) (by rfl) (by assumption) ?_
        try simp only [Act.put, List.setIfInBounds_toArray, List.set_cons_zero, List.set_cons_succ]
        refine heldSkip (i := 14) rfl (by kernel_rfl) (by kernel_rfl) (fun _ _ _ h => h) (by rfl) (by assumption) ?_
        try simp only [Act.put, List.setIfInBounds_toArray, List.set_cons_zero, List.set_cons_succ]
        refine heldSkip (i := 15) rfl (by kernel_rfl) (by kernel_rfl) (fun _ _ _ h => h) (by rfl) (by assumption) ?_
        try simp only [Act.put, List.setIfInBounds_toArray, List.set_cons_zero, List.set_cons_succ]
        refine heldSkip (i := 16) rfl (by kernel_rfl) (by kernel_rfl) (fun _ _ _ h => h) (by rfl) (by assumption) ?_
        try simp only [Act.put, List.setIfInBounds_toArray, List.set_cons_zero, List.set_cons_succ]
        refine heldSkip (i := 17) rfl (by kernel_rfl) (by kernel_rfl) (fun _ _ _ h => h) (by rfl) (by assumption) ?_
        try simp only [Act.put, List.setIfInBounds_toArray, List.set_cons_zero, List.set_cons_succ]
        refine heldSkip (i := 18) rfl (by kernel_rfl) (by kernel_rfl) (fun _ _ _ h => h) (by rfl) (by assumption) ?_
        try simp only [Act.put, List.setIfInBounds_toArray, List.set_cons_zero, List.set_cons_succ]
        refine heldSkip (i := 19) rfl (by kernel_rfl) (by kernel_rfl) (fun _ _ _ h => h) (by rfl) (by assumption) ?_
        try simp only [Act.put, List.setIfInBounds_toArray, List.set_cons_zero, List.set_cons_succ]
        refine heldSkip (i := 20) rfl (by kernel_rfl) (by kernel_rfl) (fun _ _ _ h => h) (by rfl) (by assumption) ?_
        try simp only [Act.put, List.setIfInBounds_toArray, List.set_cons_zero, List.set_cons_succ]
        refine heldSkip (i := 21) rfl (by kernel_rfl) (by kernel_rfl) (fun _ _ _ h => h) (by rfl) (by assumption) ?_
        try simp only [Act.put, List.setIfInBounds_toArray, List.set_cons_zero, List.set_cons_succ]
        refine heldSkip (i := 22) rfl (by kernel_rfl) (by kernel_rfl) (fun _ _ _ h => h) (by rfl) (by assumption) ?_
        try simp only [Act.put, List.setIfInBounds_toArray, List.set_cons_zero, List.set_cons_succ]
        refine heldTake (i := 23) (v := ?_) rfl (by kernel_rfl) (by kernel_rfl) (fun _ _ _ h => h) (by rfl) (by assumption) (fun w hSw => ?_) ?_; rotate_left; focus ((try dsimp only at hSw); go_simp; try with_reducible rfl)
        try simp only [Act.put, List.setIfInBounds_toArray, List.set_cons_zero, List.set_cons_succ]
        refine heldTake (i := 24) (v := ?_) rfl (by kernel_rfl) (by kernel_rfl) (fun _ _ _ h => h) (by rfl) (by assumption) (fun w hSw => ?_) ?_; rotate_left; focus ((try dsimp only at hSw); go_simp; try with_reducible rfl)
        try simp only [Act.put, List.setIfInBounds_toArray, List.set_cons_zero, List.set_cons_succ]
        refine wpAnyH_done (by kernel_rfl) ?_ _
        skip

        go_wp2
        go_ret
        exact ⟨rfl, HBD.out⟩
    · skip
      have HMD := Lib.hid (md_of (by omega) HX.out w HS.out)
      have HBR := HBA
      clear HX
      by_cases hsmtp : nm = [115, 109, 116, 112]
      · subst hsmtp
        have a1 := HMD.out.h1
        have a2 := HMD.out.h2
        rw [show Ps.mode [115, 109, 116, 112] = 1 from rfl] at a1
        rw [if_pos (by decide)] at a1
        rw [if_neg (by decide), show (if ([115, 109, 116, 112] : List UInt8) = Ps.wMode then 5 else 0 : Nat) = 0 from rfl] at a2
        have PM := Lib.hid (fun wx => by have := pmode_any [115, 109, 116, 112] wx; rw [show Ps.mode [115, 109, 116, 112] = 1 from rfl] at this; exact this)
        unfold PAllP at a1 a2
        have A1 := Lib.hid a1
        have A2 := Lib.hid a2
        clear a1 a2
        go_wp2_with fail
        refine (A1.out _ HBR.out).mono ?_
        rintro e w1 ⟨hb1, sv1, tv1, rfl, hp1⟩
        obtain ⟨so1, sc1, rfl, _⟩ := hp1.at
        obtain ⟨too1, tcc1, rfl, _⟩ := hp1.top.formV
        rw [show ([] : List Ps.St).length = 0 from rfl, show (([] : List Nat).map nv).length = 0 from rfl] at *
        have hv : w1.alloc (.cells #[.int .i64 ((1 : Nat) : Int), .slice so1 0 sc1, .slice too1 0 tcc1] 27) = w1.alloc (.cells #[.int .i64 ((1 : Nat) : Int), .slice so1 0 sc1, .slice too1 0 tcc1] 27) := rfl
        have HB1 := Lib.hid (HBR.out.trans (hb1.mono HBR.out.size))
        obtain ⟨w2, hw2⟩ : ∃ w2, w1.alloc (.cells #[.int .i64 1, .slice so1 0 sc1, .slice too1 0 tcc1] 27) = w2 := ⟨_, rfl⟩
        have hn2 : w2.heap[w1.heap.size]? = some (.cells #[.int .i64 1, .slice so1 0 sc1, .slice too1 0 tcc1] 27 (0, 0)) := by rw [← hw2]; exact heap_alloc_new _ _
        have HB2 := Lib.hid (show Below w.heap.size w w2 by rw [← hw2]; exact HB1.out.alloc HB1.out.size _)
        have HN2 := Lib.hid hn2
        have HW2 := Lib.hid hw2
        clear hn2 hb1 hw2
        go_wp2_with fail
        rw [HW2.out]
        refine (A2.out _ HB2.out).mono ?_
        rintro e w3 ⟨hb3, rfl, _⟩
        have HB3 := Lib.hid (HB2.out.trans (hb3.mono HB2.out.size))
        have HN3 := Lib.hid ((hb3.block _ (Array.getElem?_eq_some_iff.1 HN2.out).1).trans HN2.out)
        clear hb3
        go_wp2_with (go_at_call 14; refine (PM.out _).mono ?_; rintro e w5 ⟨rfl, rfl⟩)
        have HBD := Lib.hid (show Below w.heap.size w (w3.alloc (.cells #[.int .i64 0, .slice none 0 0, .slice none 0 0] 27)).drew from below_drewM (HB3.out.alloc HB3.out.size _))
        have hs0 : (w3.alloc (.cells #[.int .i64 0, .slice none 0 0, .slice none 0 0] 27)).drew.cell? ⟨w1.heap.size, 0, none⟩ = some (.int .i64 1) ∧ (w3.alloc (.cells #[.int .i64 0, .slice none 0 0, .slice none 0 0] 27)).drew.cell? ⟨w1.heap.size, 1, none⟩ = some (.slice so1 0 sc1) ∧ (w3.alloc (.cells #[.int .i64 0, .slice none 0 0, .slice none 0 0] 27)).drew.cell? ⟨w1.heap.size, 2, none⟩ = some (.slice too1 0 tcc1) := prog_cells (w := (w3.alloc (.cells #[.int .i64 0, .slice none 0 0, .slice none 0 0] 27)).drew) (show (w3.alloc (.cells #[.int .i64 0, .slice none 0 0, .slice none 0 0] 27)).heap[w1.heap.size]? = _ from (Below.heap_alloc _ _ _ (Array.getElem?_eq_some_iff.1 HN3.out).1).trans HN3.out)
        refine wp_region_held_drew (S := fun w' => w'.cell? ⟨w1.heap.size, 0, none⟩ = some (.int .i64 1) ∧ w'.cell? ⟨w1.heap.size, 1, none⟩ = some (.slice so1 0 sc1) ∧ w'.cell? ⟨w1.heap.size, 2, none⟩ = some (.slice too1 0 tcc1)) (by kernel_rfl) hs0 (fun hH => ?_)
        generalize (w3.alloc (.cells #[.int .i64 0, .slice none 0 0, .slice none 0 0] 27)).drew = wd at *
        refine heldTake (i := 0) (v := ?_) rfl (by kernel_rfl) (by kernel_rfl) (fun _ _ _ h => h) (by rfl) (by assumption) (fun w hSw => ?_) ?_; rotate_left; focus ((try dsimp only at hSw); go_simp; try with_reducible rfl)
        try simp only [Act.put, List.setIfInBounds_toArray, List.set_cons_zero, List.set_cons_succ]
        refine heldTake (i := 1) (v := ?_) rfl (by kernel_rfl) (by kernel_rfl) (fun _ _ _ h => h) (by rfl) (by assumption) (fun w hSw => ?_) ?_; rotate_left; focus ((try dsimp only at hSw); go_simp; try with_reducible rfl)
        try simp only [Act.put, List.setIfInBounds_toArray, List.set_cons_zero, List.set_cons_succ]
        refine heldTake (i := 2) (v := ?_) rfl (by kernel_rfl) (by kernel_rfl) (fun _ _ _ h => h) (by rfl) (by assumption) (fun w hSw => ?_) ?_; rotate_left; focus ((try dsimp only at hSw); go_simp; try with_reducible rfl)
        try simp only [Act.put, List.setIfInBounds_toArray, List.set_cons_zero, List.set_cons_succ]
        refine heldTake (i := 3) (v := ?_) rfl (by kernel_rfl) (by kernel_rfl) (fun _ _ _ h => h) (by rfl) (by assumption) (fun w hSw => ?_) ?_; rotate_left; focus ((try dsimp only at hSw); go_simp; try with_reducible rfl)
        try simp only [Act.put, List.setIfInBounds_toArray, List.set_cons_zero, List.set_cons_succ]
        refine heldTake (i := 4) (v := ?_) rfl (by kernel_rfl) (by kernel_rfl) (fun _ _ _ h => h) (by rfl) (by assumption) (fun w hSw => ?_) ?_; rotate_left; focus ((try dsimp only at hSw); go_simp; try with_reducible rfl)
        try simp only [Act.put, List.setIfInBounds_toArray, List.set_cons_zero, List.set_cons_succ]
        refine heldTake (i := 5) (v := ?_) rfl (by kernel_rfl) (by kernel_rfl) (fun _ _ _ h => h) (by rfl) (by assumption) (fun w hSw => ?_) ?_; rotate_left; focus ((try dsimp only at hSw); go_simp; try with_reducible rfl)
        try simp only [Act.put, List.setIfInBounds_toArray, List.set_cons_zero, List.set_cons_succ]
        refine heldTake (i := 6) (v := ?_) rfl (by kernel_rfl) (by kernel_rfl) (fun _ _ _ h => h) (by rfl) (by assumption) (fun w hSw => ?_) ?_; rotate_left; focus ((try dsimp only at hSw); go_simp; try with_reducible rfl)
        try simp only [Act.put, List.setIfInBounds_toArray, List.set_cons_zero, List.set_cons_succ]
        refine heldTake (i := 7) (v := ?_) rfl (by kernel_rfl) (by kernel_rfl) (fun _ _ _ h => h) (by rfl) (by assumption) (fun w hSw => ?_) ?_; rotate_left; focus ((try dsimp only at hSw); go_simp; try with_reducible rfl)
        try simp only [Act.put, List.setIfInBounds_toArray, List.set_cons_zero, List.set_cons_succ]
        refine heldTake (i := 8) (v := ?_) rfl (by kernel_rfl) (by kernel_rfl) (fun _ _ _ h => h) (by rfl) (by assumption) (fun w hSw => ?_) ?_; rotate_left; focus ((try dsimp only at hSw); go_simp; try with_reducible rfl)
        try simp only [Act.put, List.setIfInBounds_toArray, List.set_cons_zero, List.set_cons_succ]
        refine heldTake (i := 9) (v := ?_) rfl (by kernel_rfl) (by kernel_rfl) (fun _ _ _ h => h) (by rfl) (by assumption) (fun w hSw => ?_) ?_; rotate_left; focus ((try dsimp only at hSw); go_simp; try with_reducible rfl)
        try simp only [Act.put, List.setIfInBounds_toArray, List.set_cons_zero, List.set_cons_succ]
        refine heldTake (i := 10) (v := ?_) rfl (by kernel_rfl) (by kernel_rfl) (fun _ _ _ h => h) (by rfl) (by assumption) (fun w hSw => ?_) ?_; rotate_left; focus ((try dsimp only at hSw); go_simp; try with_reducible rfl)
        try simp only [Act.put, List.setIfInBounds_toArray, List.set_cons_zero, List.set_cons_succ]
        refine heldTake (i := 11) (v := ?_) rfl (by kernel_rfl) (by kernel_rfl) (fun _ _ _ h => h) (by rfl) (by assumption) (fun w hSw => ?_) ?_; rotate_left; focus ((try dsimp only at hSw); go_simp; try with_reducible rfl)
        try simp only [Act.put, List.setIfInBounds_toArray, List.set_cons_zero, List.set_cons_succ]
        refine heldTake (i := 12) (v := ?_) rfl (by kernel_rfl) (by kernel_rfl) (fun _ _ _ h => h) (by rfl) (by assumption) (fun w hSw => ?_) ?_; rotate_left; focus ((try dsimp only at hSw); go_simp; try with_reducible rfl)
        try simp only [Act.put, List.setIfInBounds_toArray, List.set_cons_zero, List.set_cons_succ]
        refine heldTake (i := 13) (v := ?_) rfl (by kernel_rfl) (by kernel_rfl) (fun _ _ _ h => h) (by rfl) (by assumption) (fun w hSw => ?_) ?_; rotate_left; focus ((try dsimp only at hSw); go_simp; try with_reducible rfl)
        try simp only [Act.put, List.setIfInBounds_toArray, List.set_cons_zero, List.set_cons_succ]
        refine heldTake (i := 14) (v := ?_) rfl (by kernel_rfl) (by kernel_rfl) (fun _ _ _ h => h) (by rfl) (by assumption) (fun w hSw => ?_) ?_; rotate_left; focus ((try dsimp only at hSw); go_simp; try with_reducible rfl)
        try simp only [Act.put, List.setIfInBounds_toArray, List.set_cons_zero, List.set_cons_succ]
        -- NEXT 15 Op.call { callee := Callee.value (Operand.func 14), args := #[Operand.tmp 97], argTypes := #[9] }
        refine heldNext (i := 15) rfl (by kernel_rfl) (by rfl) (fun K hK => ?_)
        go_simp; go_at_call 14; refine (PM.out _).mono ?_; rintro e w5 ⟨rfl, rfl⟩; first | (refine hK.out _ _ (by assumption) ?_) | (go_wp2_with fail; refine hK.out _ _ (by assumption) ?_); clear hK K
        try simp only [Act.put, List.setIfInBounds_toArray, List.set_cons_zero, List.set_cons_succ]
        refine heldTake (i := 16) (v := ?_) rfl (by kernel_rfl) (by kernel_rfl) (fun _ _ _ h => h) (by rfl) (by assumption) (fun w hSw => ?_) ?_; rotate_left; focus ((try dsimp only at hSw); go_simp; try with_reducible rfl)
        try simp only [Act.put, List.setIfInBounds_toArray, List.set_cons_zero, List.set_cons_succ]
        refine heldTake (i := 17) (v := ?_) rfl (by kernel_rfl) (by kernel_rfl) (fun _ _ _ h => h) (by rfl) (by assumption) (fun w hSw => ?_) ?_; rotate_left; focus ((try dsimp only at hSw); go_simp; try with_reducible rfl)
        try simp only [Act.put, List.setIfInBounds_toArray, List.set_cons_zero, List.set_cons_succ]
        refine heldTake (i := 18) (v := ?_) rfl (by kernel_rfl) (by kernel_rfl) (fun _ _ _ h => h) (by rfl) (by assumption) (fun w hSw => ?_) ?_; rotate_left; focus ((try dsimp only at hSw); go_simp; try with_reducible rfl)
        try simp only [Act.put, List.setIfInBounds_toArray, List.set_cons_zero, List.set_cons_succ]
        refine heldTake (i := 19) (v := ?_) rfl (by kernel_rfl) (by kernel_rfl) (fun _ _ _ h => h) (by rfl) (by assumption) (fun w hSw => ?_) ?_; rotate_left; focus ((try dsimp only at hSw); go_simp; try with_reducible rfl)
        try simp only [Act.put, List.setIfInBounds_toArray, List.set_cons_zero, List.set_cons_succ]
        refine heldTake (i := 20) (v := ?_) rfl (by kernel_rfl) (by kernel_rfl) (fun _ _ _ h => h) (by rfl) (by assumption) (fun w hSw => ?_) ?_; rotate_left; focus ((try dsimp only at hSw); go_simp; try with_reducible rfl)
        try simp only [Act.put, List.setIfInBounds_toArray, List.set_cons_zero, List.set_cons_succ]
        refine heldTake (i := 21) (v := ?_) rfl (by kernel_rfl) (by kernel_rfl) (fun _ _ _ h => h) (by rfl) (by assumption) (fun w hSw => ?_) ?_; rotate_left; focus ((try dsimp only at hSw); go_simp; try with_reducible rfl)
        try simp only [Act.put, List.setIfInBounds_toArray, List.set_cons_zero, List.set_cons_succ]
        refine heldTake (i := 22) (v := ?_) rfl (by kernel_rfl) (by kernel_rfl) (fun _ _ _ h => h) (by rfl) (by assumption) (fun w hSw => ?_) ?_; rotate_left; focus ((try dsimp only at hSw); go_simp; try with_reducible rfl)
        try simp only [Act.put, List.setIfInBounds_toArray, List.set_cons_zero, List.set_cons_succ]
        refine heldTake (i := 23) (v := ?_) rfl (by kernel_rfl) (by kernel_rfl) (fun _ _ _ h => h) (by rfl) (by assumption) (fun w hSw => ?_) ?_; rotate_left; focus ((try dsimp only at hSw); go_simp; try with_reducible rfl)
        try simp only [Act.put, List.setIfInBounds_toArray, List.set_cons_zero, List.set_cons_succ]
        refine heldTake (i := 24) (v := ?_) rfl (by kernel_rfl) (by kernel_rfl) (fun _ _ _ h => h) (by rfl) (by assumption) (fun w hSw => ?_) ?_; rotate_left; focus ((try dsimp only at hSw); go_simp; try with_reducible rfl)
        try simp only [Act.put, List.setIfInBounds_toArray, List.set_cons_zero, List.set_cons_succ]
        refine wpAnyH_done (by kernel_rfl) ?_ _
        skip

        go_wp2
        go_ret
        exact ⟨rfl, HBD.out⟩
      by_cases hpop3 : nm = [112, 111, 112, 51]
      · subst hpop3
        have a1 := HMD.out.h1
        have a2 := HMD.out.h2
        rw [show Ps.mode [112, 111, 112, 51] = 2 from rfl] at a1
        rw [if_pos (by decide)] at a1
        rw [if_neg (by decide), show (if ([112, 111, 112, 51] : List UInt8) = Ps.wMode then 5 else 0 : Nat) = 0 from rfl] at a2
        have PM := Lib.hid (fun wx => by have := pmode_any [112, 111, 112, 51] wx; rw [show Ps.mode [112, 111, 112, 51] = 2 from rfl] at this; exact this)
        unfold PAllP at a1 a2
        have A1 := Lib.hid a1
        have A2 := Lib.hid a2
        clear a1 a2
        go_wp2_with fail
        refine (A1.out _ HBR.out).mono ?_
        rintro e w1 ⟨hb1, sv1, tv1, rfl, hp1⟩
        obtain ⟨so1, sc1, rfl, _⟩ := hp1.at
        obtain ⟨too1, tcc1, rfl, _⟩ := hp1.top.formV
        rw [show ([] : List Ps.St).length = 0 from rfl, show (([] : List Nat).map nv).length = 0 from rfl] at *
        have hv : w1.alloc (.cells #[.int .i64 ((2 : Nat) : Int), .slice so1 0 sc1, .slice too1 0 tcc1] 27) = w1.alloc (.cells #[.int .i64 ((2 : Nat) : Int), .slice so1 0 sc1, .slice too1 0 tcc1] 27) := rfl
        have HB1 := Lib.hid (HBR.out.trans (hb1.mono HBR.out.size))
        obtain ⟨w2, hw2⟩ : ∃ w2, w1.alloc (.cells #[.int .i64 2, .slice so1 0 sc1, .slice too1 0 tcc1] 27) = w2 := ⟨_, rfl⟩
        have hn2 : w2.heap[w1.heap.size]? = some (.cells #[.int .i64 2, .slice so1 0 sc1, .slice too1 0 tcc1] 27 (0, 0)) := by rw [← hw2]; exact heap_alloc_new _ _
        have HB2 := Lib.hid (show Below w.heap.size w w2 by rw [← hw2]; exact HB1.out.alloc HB1.out.size _)
        have HN2 := Lib.hid hn2
        have HW2 := Lib.hid hw2
        clear hn2 hb1 hw2
        go_wp2_with fail
        rw [HW2.out]
        refine (A2.out _ HB2.out).mono ?_
        rintro e w3 ⟨hb3, rfl, _⟩
        have HB3 := Lib.hid (HB2.out.trans (hb3.mono HB2.out.size))
        have HN3 := Lib.hid ((hb3.block _ (Array.getElem?_eq_some_iff.1 HN2.out).1).trans HN2.out)
        clear hb3
        go_wp2_with (go_at_call 14; refine (PM.out _).mono ?_; rintro e w5 ⟨rfl, rfl⟩)
        have HBD := Lib.hid (show Below w.heap.size w (w3.alloc (.cells #[.int .i64 0, .slice none 0 0, .slice none 0 0] 27)).drew from below_drewM (HB3.out.alloc HB3.out.size _))
        have hs0 : (w3.alloc (.cells #[.int .i64 0, .slice none 0 0, .slice none 0 0] 27)).drew.cell? ⟨w1.heap.size, 0, none⟩ = some (.int .i64 2) ∧ (w3.alloc (.cells #[.int .i64 0, .slice none 0 0, .slice none 0 0] 27)).drew.cell? ⟨w1.heap.size, 1, none⟩ = some (.slice so1 0 sc1) ∧ (w3.alloc (.cells #[.int .i64 0, .slice none 0 0, .slice none 0 0] 27)).drew.cell? ⟨w1.heap.size, 2, none⟩ = some (.slice too1 0 tcc1) := prog_cells (w := (w3.alloc (.cells #[.int .i64 0, .slice none 0 0, .slice none 0 0] 27)).drew) (show (w3.alloc (.cells #[.int .i64 0, .slice none 0 0, .slice none 0 0] 27)).heap[w1.heap.size]? = _ from (Below.heap_alloc _ _ _ (Array.getElem?_eq_some_iff.1 HN3.out).1).trans HN3.out)
        refine wp_region_held_drew (S := fun w' => w'.cell? ⟨w1.heap.size, 0, none⟩ = some (.int .i64 2) ∧ w'.cell? ⟨w1.heap.size, 1, none⟩ = some (.slice so1 0 sc1) ∧ w'.cell? ⟨w1.heap.size, 2, none⟩ = some (.slice too1 0 tcc1)) (by kernel_rfl) hs0 (fun hH => ?_)
        generalize (w3.alloc (.cells #[.int .i64 0, .slice none 0 0, .slice none 0 0] 27)).drew = wd at *
        refine heldTake (i := 0) (v := ?_) rfl (by kernel_rfl) (by kernel_rfl) (fun _ _ _ h => h) (by rfl) (by assumption) (fun w hSw => ?_) ?_; rotate_left; focus ((try dsimp only at hSw); go_simp; try with_reducible rfl)
        try simp only [Act.put, List.setIfInBounds_toArray, List.set_cons_zero, List.set_cons_succ]
        refine heldTake (i := 1) (v := ?_) rfl (by kernel_rfl) (by kernel_rfl) (fun _ _ _ h => h) (by rfl) (by assumption) (fun w hSw => ?_) ?_; rotate_left; focus ((try dsimp only at hSw); go_simp; try with_reducible rfl)
        try simp only [Act.put, List.setIfInBounds_toArray, List.set_cons_zero, List.set_cons_succ]
        refine heldTake (i := 2) (v := ?_) rfl (by kernel_rfl) (by kernel_rfl) (fun _ _ _ h => h) (by rfl) (by assumption) (fun w hSw => ?_) ?_; rotate_left; focus ((try dsimp only at hSw); go_simp; try with_reducible rfl)
        try simp only [Act.put, List.setIfInBounds_toArray, List.set_cons_zero, List.set_cons_succ]
        refine heldTake (i := 3) (v := ?_) rfl (by kernel_rfl) (by kernel_rfl) (fun _ _ _ h => h) (by rfl) (by assumption) (fun w hSw => ?_) ?_; rotate_left; focus ((try dsimp only at hSw); go_simp; try with_reducible rfl)
        try simp only [Act.put, List.setIfInBounds_toArray, List.set_cons_zero, List.set_cons_succ]
        refine heldTake (i := 4) (v := ?_) rfl (by kernel_rfl) (by kernel_rfl) (fun _ _ _ h => h) (by rfl) (by assumption) (fun w hSw => ?_) ?_; rotate_left; focus ((try dsimp only at hSw); go_simp; try with_reducible rfl)
        try simp only [Act.put, List.setIfInBounds_toArray, List.set_cons_zero, List.set_cons_succ]
        refine heldTake (i := 5) (v := ?_) rfl (by kernel_rfl) (by kernel_rfl) (fun _ _ _ h => h) (by rfl) (by assumption) (fun w hSw => ?_) ?_; rotate_left; focus ((try dsimp only at hSw); go_simp; try with_reducible rfl)
        try simp only [Act.put, List.setIfInBounds_toArray, List.set_cons_zero, List.set_cons_succ]
        refine heldTake (i := 6) (v := ?_) rfl (by kernel_rfl) (by kernel_rfl) (fun _ _ _ h => h) (by rfl) (by assumption) (fun w hSw => ?_) ?_; rotate_left; focus ((try dsimp only at hSw); go_simp; try with_reducible rfl)
        try simp only [Act.put, List.setIfInBounds_toArray, List.set_cons_zero, List.set_cons_succ]
        refine heldTake (i := 7) (v := ?_) rfl (by kernel_rfl) (by kernel_rfl) (fun _ _ _ h => h) (by rfl) (by assumption) (fun w hSw => ?_) ?_; rotate_left; focus ((try dsimp only at hSw); go_simp; try with_reducible rfl)
        try simp only [Act.put, List.setIfInBounds_toArray, List.set_cons_zero, List.set_cons_succ]
        refine heldTake (i := 8) (v := ?_) rfl (by kernel_rfl) (by kernel_rfl) (fun _ _ _ h => h) (by rfl) (by assumption) (fun w hSw => ?_) ?_; rotate_left; focus ((try dsimp only at hSw); go_simp; try with_reducible rfl)
        try simp only [Act.put, List.setIfInBounds_toArray, List.set_cons_zero, List.set_cons_succ]
        refine heldTake (i := 9) (v := ?_) rfl (by kernel_rfl) (by kernel_rfl) (fun _ _ _ h => h) (by rfl) (by assumption) (fun w hSw => ?_) ?_; rotate_left; focus ((try dsimp only at hSw); go_simp; try with_reducible rfl)
        try simp only [Act.put, List.setIfInBounds_toArray, List.set_cons_zero, List.set_cons_succ]
        refine heldTake (i := 10) (v := ?_) rfl (by kernel_rfl) (by kernel_rfl) (fun _ _ _ h => h) (by rfl) (by assumption) (fun w hSw => ?_) ?_; rotate_left; focus ((try dsimp only at hSw); go_simp; try with_reducible rfl)
        try simp only [Act.put, List.setIfInBounds_toArray, List.set_cons_zero, List.set_cons_succ]
        refine heldTake (i := 11) (v := ?_) rfl (by kernel_rfl) (by kernel_rfl) (fun _ _ _ h => h) (by rfl) (by assumption) (fun w hSw => ?_) ?_; rotate_left; focus ((try dsimp only at hSw); go_simp; try with_reducible rfl)
        try simp only [Act.put, List.setIfInBounds_toArray, List.set_cons_zero, List.set_cons_succ]
        refine heldTake (i := 12) (v := ?_) rfl (by kernel_rfl) (by kernel_rfl) (fun _ _ _ h => h) (by rfl) (by assumption) (fun w hSw => ?_) ?_; rotate_left; focus ((try dsimp only at hSw); go_simp; try with_reducible rfl)
        try simp only [Act.put, List.setIfInBounds_toArray, List.set_cons_zero, List.set_cons_succ]
        refine heldTake (i := 13) (v := ?_) rfl (by kernel_rfl) (by kernel_rfl) (fun _ _ _ h => h) (by rfl) (by assumption) (fun w hSw => ?_) ?_; rotate_left; focus ((try dsimp only at hSw); go_simp; try with_reducible rfl)
        try simp only [Act.put, List.setIfInBounds_toArray, List.set_cons_zero, List.set_cons_succ]
        refine heldTake (i := 14) (v := ?_) rfl (by kernel_rfl) (by kernel_rfl) (fun _ _ _ h => h) (by rfl) (by assumption) (fun w hSw => ?_) ?_; rotate_left; focus ((try dsimp only at hSw); go_simp; try with_reducible rfl)
        try simp only [Act.put, List.setIfInBounds_toArray, List.set_cons_zero, List.set_cons_succ]
        -- NEXT 15 Op.call { callee := Callee.value (Operand.func 14), args := #[Operand.tmp 97], argTypes := #[9] }
        refine heldNext (i := 15) rfl (by kernel_rfl) (by rfl) (fun K hK => ?_)
        go_simp; go_at_call 14; refine (PM.out _).mono ?_; rintro e w5 ⟨rfl, rfl⟩; first | (refine hK.out _ _ (by assumption) ?_) | (go_wp2_with fail; refine hK.out _ _ (by assumption) ?_); clear hK K
        try simp only [Act.put, List.setIfInBounds_toArray, List.set_cons_zero, List.set_cons_succ]
        refine heldTake (i := 16) (v := ?_) rfl (by kernel_rfl) (by kernel_rfl) (fun _ _ _ h => h) (by rfl) (by assumption) (fun w hSw => ?_) ?_; rotate_left; focus ((try dsimp only at hSw); go_simp; try with_reducible rfl)
        try simp only [Act.put, List.setIfInBounds_toArray, List.set_cons_zero, List.set_cons_succ]
        refine heldTake (i := 17) (v := ?_) rfl (by kernel_rfl) (by kernel_rfl) (fun _ _ _ h => h) (by rfl) (by assumption) (fun w hSw => ?_) ?_; rotate_left; focus ((try dsimp only at hSw); go_simp; try with_reducible rfl)
        try simp only [Act.put, List.setIfInBounds_toArray, List.set_cons_zero, List.set_cons_succ]
        refine heldTake (i := 18) (v := ?_) rfl (by kernel_rfl) (by kernel_rfl) (fun _ _ _ h => h) (by rfl) (by assumption) (fun w hSw => ?_) ?_; rotate_left; focus ((try dsimp only at hSw); go_simp; try with_reducible rfl)
        try simp only [Act.put, List.setIfInBounds_toArray, List.set_cons_zero, List.set_cons_succ]
        refine heldTake (i := 19) (v := ?_) rfl (by kernel_rfl) (by kernel_rfl) (fun _ _ _ h => h) (by rfl) (by assumption) (fun w hSw => ?_) ?_; rotate_left; focus ((try dsimp only at hSw); go_simp; try with_reducible rfl)
        try simp only [Act.put, List.setIfInBounds_toArray, List.set_cons_zero, List.set_cons_succ]
        refine heldTake (i := 20) (v := ?_) rfl (by kernel_rfl) (by kernel_rfl) (fun _ _ _ h => h) (by rfl) (by assumption) (fun w hSw => ?_) ?_; rotate_left; focus ((try dsimp only at hSw); go_simp; try with_reducible rfl)
        try simp only [Act.put, List.setIfInBounds_toArray, List.set_cons_zero, List.set_cons_succ]
        refine heldTake (i := 21) (v := ?_) rfl (by kernel_rfl) (by kernel_rfl) (fun _ _ _ h => h) (by rfl) (by assumption) (fun w hSw => ?_) ?_; rotate_left; focus ((try dsimp only at hSw); go_simp; try with_reducible rfl)
        try simp only [Act.put, List.setIfInBounds_toArray, List.set_cons_zero, List.set_cons_succ]
        refine heldTake (i := 22) (v := ?_) rfl (by kernel_rfl) (by kernel_rfl) (fun _ _ _ h => h) (by rfl) (by assumption) (fun w hSw => ?_) ?_; rotate_left; focus ((try dsimp only at hSw); go_simp; try with_reducible rfl)
        try simp only [Act.put, List.setIfInBounds_toArray, List.set_cons_zero, List.set_cons_succ]
        refine heldTake (i := 23) (v := ?_) rfl (by kernel_rfl) (by kernel_rfl) (fun _ _ _ h => h) (by rfl) (by assumption) (fun w hSw => ?_) ?_; rotate_left; focus ((try dsimp only at hSw); go_simp; try with_reducible rfl)
        try simp only [Act.put, List.setIfInBounds_toArray, List.set_cons_zero, List.set_cons_succ]
        refine heldTake (i := 24) (v := ?_) rfl (by kernel_rfl) (by kernel_rfl) (fun _ _ _ h => h) (by rfl) (by assumption) (fun w hSw => ?_) ?_; rotate_left; focus ((try dsimp only at hSw); go_simp; try with_reducible rfl)
        try simp only [Act.put, List.setIfInBounds_toArray, List.set_cons_zero, List.set_cons_succ]
        refine wpAnyH_done (by kernel_rfl) ?_ _
        skip

        go_wp2
        go_ret
        exact ⟨rfl, HBD.out⟩
      by_cases hftp : nm = [102, 116, 112]
      · subst hftp
        have a1 := HMD.out.h1
        have a2 := HMD.out.h2
        rw [show Ps.mode [102, 116, 112] = 3 from rfl] at a1
        rw [if_pos (by decide)] at a1
        rw [if_neg (by decide), show (if ([102, 116, 112] : List UInt8) = Ps.wMode then 5 else 0 : Nat) = 0 from rfl] at a2
        have PM := Lib.hid (fun wx => by have := pmode_any [102, 116, 112] wx; rw [show Ps.mode [102, 116, 112] = 3 from rfl] at this; exact this)
        unfold PAllP at a1 a2
        have A1 := Lib.hid a1
        have A2 := Lib.hid a2
        clear a1 a2
        go_wp2_with fail
        refine (A1.out _ HBR.out).mono ?_
        rintro e w1 ⟨hb1, sv1, tv1, rfl, hp1⟩
        obtain ⟨so1, sc1, rfl, _⟩ := hp1.at
        obtain ⟨too1, tcc1, rfl, _⟩ := hp1.top.formV
        rw [show ([] : List Ps.St).length = 0 from rfl, show (([] : List Nat).map nv).length = 0 from rfl] at *
        have hv : w1.alloc (.cells #[.int .i64 ((3 : Nat) : Int), .slice so1 0 sc1, .slice too1 0 tcc1] 27) = w1.alloc (.cells #[.int .i64 ((3 : Nat) : Int), .slice so1 0 sc1, .slice too1 0 tcc1] 27) := rfl
        have HB1 := Lib.hid (HBR.out.trans (hb1.mono HBR.out.size))
        obtain ⟨w2, hw2⟩ : ∃ w2, w1.alloc (.cells #[.int .i64 3, .slice so1 0 sc1, .slice too1 0 tcc1] 27) = w2 := ⟨_, rfl⟩
        have hn2 : w2.heap[w1.heap.size]? = some (.cells #[.int .i64 3, .slice so1 0 sc1, .slice too1 0 tcc1] 27 (0, 0)) := by rw [← hw2]; exact heap_alloc_new _ _
        have HB2 := Lib.hid (show Below w.heap.size w w2 by rw [← hw2]; exact HB1.out.alloc HB1.out.size _)
        have HN2 := Lib.hid hn2
        have HW2 := Lib.hid hw2
        clear hn2 hb1 hw2
        go_wp2_with fail
        rw [HW2.out]
        refine (A2.out _ HB2.out).mono ?_
        rintro e w3 ⟨hb3, rfl, _⟩
        have HB3 := Lib.hid (HB2.out.trans (hb3.mono HB2.out.size))
        have HN3 := Lib.hid ((hb3.block _ (Array.getElem?_eq_some_iff.1 HN2.out).1).trans HN2.out)
        clear hb3
        go_wp2_with (go_at_call 14; refine (PM.out _).mono ?_; rintro e w5 ⟨rfl, rfl⟩)
        have HBD := Lib.hid (show Below w.heap.size w (w3.alloc (.cells #[.int .i64 0, .slice none 0 0, .slice none 0 0] 27)).drew from below_drewM (HB3.out.alloc HB3.out.size _))
        have hs0 : (w3.alloc (.cells #[.int .i64 0, .slice none 0 0, .slice none 0 0] 27)).drew.cell? ⟨w1.heap.size, 0, none⟩ = some (.int .i64 3) ∧ (w3.alloc (.cells #[.int .i64 0, .slice none 0 0, .slice none 0 0] 27)).drew.cell? ⟨w1.heap.size, 1, none⟩ = some (.slice so1 0 sc1) ∧ (w3.alloc (.cells #[.int .i64 0, .slice none 0 0, .slice none 0 0] 27)).drew.cell? ⟨w1.heap.size, 2, none⟩ = some (.slice too1 0 tcc1) := prog_cells (w := (w3.alloc (.cells #[.int .i64 0, .slice none 0 0, .slice none 0 0] 27)).drew) (show (w3.alloc (.cells #[.int .i64 0, .slice none 0 0, .slice none 0 0] 27)).heap[w1.heap.size]? = _ from (Below.heap_alloc _ _ _ (Array.getElem?_eq_some_iff.1 HN3.out).1).trans HN3.out)
        refine wp_region_held_drew (S := fun w' => w'.cell? ⟨w1.heap.size, 0, none⟩ = some (.int .i64 3) ∧ w'.cell? ⟨w1.heap.size, 1, none⟩ = some (.slice so1 0 sc1) ∧ w'.cell? ⟨w1.heap.size, 2, none⟩ = some (.slice too1 0 tcc1)) (by kernel_rfl) hs0 (fun hH => ?_)
        generalize (w3.alloc (.cells #[.int .i64 0, .slice none 0 0, .slice none 0 0] 27)).drew = wd at *
        refine heldTake (i := 0) (v := ?_) rfl (by kernel_rfl) (by kernel_rfl) (fun _ _ _ h => h) (by rfl) (by assumption) (fun w hSw => ?_) ?_; rotate_left; focus ((try dsimp only at hSw); go_simp; try with_reducible rfl)
        try simp only [Act.put, List.setIfInBounds_toArray, List.set_cons_zero, List.set_cons_succ]
        refine heldTake (i := 1) (v := ?_) rfl (by kernel_rfl) (by kernel_rfl) (fun _ _ _ h => h) (by rfl) (by assumption) (fun w hSw => ?_) ?_; rotate_left; focus ((try dsimp only at hSw); go_simp; try with_reducible rfl)
        try simp only [Act.put, List.setIfInBounds_toArray, List.set_cons_zero, List.set_cons_succ]
        refine heldTake (i := 2) (v := ?_) rfl (by kernel_rfl) (by kernel_rfl) (fun _ _ _ h => h) (by rfl) (by assumption) (fun w hSw => ?_) ?_; rotate_left; focus ((try dsimp only at hSw); go_simp; try with_reducible rfl)
        try simp only [Act.put, List.setIfInBounds_toArray, List.set_cons_zero, List.set_cons_succ]
        refine heldTake (i := 3) (v := ?_) rfl (by kernel_rfl) (by kernel_rfl) (fun _ _ _ h => h) (by rfl) (by assumption) (fun w hSw => ?_) ?_; rotate_left; focus ((try dsimp only at hSw); go_simp; try with_reducible rfl)
        try simp only [Act.put, List.setIfInBounds_toArray, List.set_cons_zero, List.set_cons_succ]
        refine heldTake (i := 4) (v := ?_) rfl (by kernel_rfl) (by kernel_rfl) (fun _ _ _ h => h) (by rfl) (by assumption) (fun w hSw => ?_) ?_; rotate_left; focus ((try dsimp only at hSw); go_simp; try with_reducible rfl)
        try simp only [Act.put, List.setIfInBounds_toArray, List.set_cons_zero, List.set_cons_succ]
        refine heldTake (i := 5) (v := ?_) rfl (by kernel_rfl) (by kernel_rfl) (fun _ _ _ h => h) (by rfl) (by assumption) (fun w hSw => ?_) ?_; rotate_left; focus ((try dsimp only at hSw); go_simp; try with_reducible rfl)
        try simp only [Act.put, List.setIfInBounds_toArray, List.set_cons_zero, List.set_cons_succ]
        refine heldTake (i := 6) (v := ?_) rfl (by kernel_rfl) (by kernel_rfl) (fun _ _ _ h => h) (by rfl) (by assumption) (fun w hSw => ?_) ?_; rotate_left; focus ((try dsimp only at hSw); go_simp; try with_reducible rfl)
        try simp only [Act.put, List.setIfInBounds_toArray, List.set_cons_zero, List.set_cons_succ]
        refine heldTake (i := 7) (v := ?_) rfl (by kernel_rfl) (by kernel_rfl) (fun _ _ _ h => h) (by rfl) (by assumption) (fun w hSw => ?_) ?_; rotate_left; focus ((try dsimp only at hSw); go_simp; try with_reducible rfl)
        try simp only [Act.put, List.setIfInBounds_toArray, List.set_cons_zero, List.set_cons_succ]
        refine heldTake (i := 8) (v := ?_) rfl (by kernel_rfl) (by kernel_rfl) (fun _ _ _ h => h) (by rfl) (by assumption) (fun w hSw => ?_) ?_; rotate_left; focus ((try dsimp only at hSw); go_simp; try with_reducible rfl)
        try simp only [Act.put, List.setIfInBounds_toArray, List.set_cons_zero, List.set_cons_succ]
        refine heldTake (i := 9) (v := ?_) rfl (by kernel_rfl) (by kernel_rfl) (fun _ _ _ h => h) (by rfl) (by assumption) (fun w hSw => ?_) ?_; rotate_left; focus ((try dsimp only at hSw); go_simp; try with_reducible rfl)
        try simp only [Act.put, List.setIfInBounds_toArray, List.set_cons_zero, List.set_cons_succ]
        refine heldTake (i := 10) (v := ?_) rfl (by kernel_rfl) (by kernel_rfl) (fun _ _ _ h => h) (by rfl) (by assumption) (fun w hSw => ?_) ?_; rotate_left; focus ((try dsimp only at hSw); go_simp; try with_reducible rfl)
        try simp only [Act.put, List.setIfInBounds_toArray, List.set_cons_zero, List.set_cons_succ]
        refine heldTake (i := 11) (v := ?_) rfl (by kernel_rfl) (by kernel_rfl) (fun _ _ _ h => h) (by rfl) (by assumption) (fun w hSw => ?_) ?_; rotate_left; focus ((try dsimp only at hSw); go_simp; try with_reducible rfl)
        try simp only [Act.put, List.setIfInBounds_toArray, List.set_cons_zero, List.set_cons_succ]
        refine heldTake (i := 12) (v := ?_) rfl (by kernel_rfl) (by kernel_rfl) (fun _ _ _ h => h) (by rfl) (by assumption) (fun w hSw => ?_) ?_; rotate_left; focus ((try dsimp only at hSw); go_simp; try with_reducible rfl)
        try simp only [Act.put, List.setIfInBounds_toArray, List.set_cons_zero, List.set_cons_succ]
        refine heldTake (i := 13) (v := ?_) rfl (by kernel_rfl) (by kernel_rfl) (fun _ _ _ h => h) (by rfl) (by assumption) (fun w hSw => ?_) ?_; rotate_left; focus ((try dsimp only at hSw); go_simp; try with_reducible rfl)
        try simp only [Act.put, List.setIfInBounds_toArray, List.set_cons_zero, List.set_cons_succ]
        refine heldTake (i := 14) (v := ?_) rfl (by kernel_rfl) (by kernel_rfl) (fun _ _ _ h => h) (by rfl) (by assumption) (fun w hSw => ?_) ?_; rotate_left; focus ((try dsimp only at hSw); go_simp; try with_reducible rfl)
        try simp only [Act.put, List.setIfInBounds_toArray, List.set_cons_zero, List.set_cons_succ]
        -- NEXT 15 Op.call { callee := Callee.value (Operand.func 14), args := #[Operand.tmp 97], argTypes := #[9] }
        refine heldNext (i := 15) rfl (by kernel_rfl) (by rfl) (fun K hK => ?_)
        go_simp; go_at_call 14; refine (PM.out _).mono ?_; rintro e w5 ⟨rfl, rfl⟩; first | (refine hK.out _ _ (by assumption) ?_) | (go_wp2_with fail; refine hK.out _ _ (by assumption) ?_); clear hK K
        try simp only [Act.put, List.setIfInBounds_toArray, List.set_cons_zero, List.set_cons_succ]
        refine heldTake (i := 16) (v := ?_) rfl (by kernel_rfl) (by kernel_rfl) (fun _ _ _ h => h) (by rfl) (by assumption) (fun w hSw => ?_) ?_; rotate_left; focus ((try dsimp only at hSw); go_simp; try with_reducible rfl)
        try simp only [Act.put, List.setIfInBounds_toArray, List.set_cons_zero, List.set_cons_succ]
        refine heldTake (i := 17) (v := ?_) rfl (by kernel_rfl) (by kernel_rfl) (fun _ _ _ h => h) (by rfl) (by assumption) (fun w hSw => ?_) ?_; rotate_left; focus ((try dsimp only at hSw); go_simp; try with_reducible rfl)
        try simp only [Act.put, List.setIfInBounds_toArray, List.set_cons_zero, List.set_cons_succ]
        refine heldTake (i := 18) (v := ?_) rfl (by kernel_rfl) (by kernel_rfl) (fun _ _ _ h => h) (by rfl) (by assumption) (fun w hSw => ?_) ?_; rotate_left; focus ((try dsimp only at hSw); go_simp; try with_reducible rfl)
        try simp only [Act.put, List.setIfInBounds_toArray, List.set_cons_zero, List.set_cons_succ]
        refine heldTake (i := 19) (v := ?_) rfl (by kernel_rfl) (by kernel_rfl) (fun _ _ _ h => h) (by rfl) (by assumption) (fun w hSw => ?_) ?_; rotate_left; focus ((try dsimp only at hSw); go_simp; try with_reducible rfl)
        try simp only [Act.put, List.setIfInBounds_toArray, List.set_cons_zero, List.set_cons_succ]
        refine heldTake (i := 20) (v := ?_) rfl (by kernel_rfl) (by kernel_rfl) (fun _ _ _ h => h) (by rfl) (by assumption) (fun w hSw => ?_) ?_; rotate_left; focus ((try dsimp only at hSw); go_simp; try with_reducible rfl)
        try simp only [Act.put, List.setIfInBounds_toArray, List.set_cons_zero, List.set_cons_succ]
        refine heldTake (i := 21) (v := ?_) rfl (by kernel_rfl) (by kernel_rfl) (fun _ _ _ h => h) (by rfl) (by assumption) (fun w hSw => ?_) ?_; rotate_left; focus ((try dsimp only at hSw); go_simp; try with_reducible rfl)
        try simp only [Act.put, List.setIfInBounds_toArray, List.set_cons_zero, List.set_cons_succ]
        refine heldTake (i := 22) (v := ?_) rfl (by kernel_rfl) (by kernel_rfl) (fun _ _ _ h => h) (by rfl) (by assumption) (fun w hSw => ?_) ?_; rotate_left; focus ((try dsimp only at hSw); go_simp; try with_reducible rfl)
        try simp only [Act.put, List.setIfInBounds_toArray, List.set_cons_zero, List.set_cons_succ]
        refine heldTake (i := 23) (v := ?_) rfl (by kernel_rfl) (by kernel_rfl) (fun _ _ _ h => h) (by rfl) (by assumption) (fun w hSw => ?_) ?_; rotate_left; focus ((try dsimp only at hSw); go_simp; try with_reducible rfl)
        try simp only [Act.put, List.setIfInBounds_toArray, List.set_cons_zero, List.set_cons_succ]
        refine heldTake (i := 24) (v := ?_) rfl (by kernel_rfl) (by kernel_rfl) (fun _ _ _ h => h) (by rfl) (by assumption) (fun w hSw => ?_) ?_; rotate_left; focus ((try dsimp only at hSw); go_simp; try with_reducible rfl)
        try simp only [Act.put, List.setIfInBounds_toArray, List.set_cons_zero, List.set_cons_succ]
        refine wpAnyH_done (by kernel_rfl) ?_ _
        skip

        go_wp2
        go_ret
        exact ⟨rfl, HBD.out⟩
      by_cases hempty : nm = []
      · subst hempty
        have a1 := HMD.out.h1
        have a2 := HMD.out.h2
        rw [show Ps.mode [] = 0 from rfl] at a1
        rw [if_neg (by decide)] at a1
        rw [if_pos rfl] at a2
        have PM := Lib.hid (fun wx => by have := pmode_any [] wx; rw [show Ps.mode [] = 0 from rfl] at this; exact this)
        unfold PAllP at a1 a2
        have A1 := Lib.hid a1
        have A2 := Lib.hid a2
        clear a1 a2
        go_wp2_with fail
        refine (A1.out _ HBR.out).mono ?_
        rintro e w1 ⟨hb1, rfl, _⟩
        have HB1 := Lib.hid (HBR.out.trans (hb1.mono HBR.out.size))
        obtain ⟨w2, hw2⟩ : ∃ w2, w1.alloc (.cells #[.int .i64 0, .slice none 0 0, .slice none 0 0] 27) = w2 := ⟨_, rfl⟩
        have hn2 : w2.heap[w1.heap.size]? = some (.cells #[.int .i64 0, .slice none 0 0, .slice none 0 0] 27 (0, 0)) := by rw [← hw2]; exact heap_alloc_new _ _
        have HB2 := Lib.hid (show Below w.heap.size w w2 by rw [← hw2]; exact HB1.out.alloc HB1.out.size _)
        have HN2 := Lib.hid hn2
        have HW2 := Lib.hid hw2
        clear hn2 hb1 hw2
        go_wp2_with fail
        rw [HW2.out]
        refine (A2.out _ HB2.out).mono ?_
        rintro e w3 ⟨hb3, sv3, tv3, rfl, hp3⟩
        obtain ⟨so3, sc3, rfl, _⟩ := hp3.at
        obtain ⟨too3, tcc3, rfl, _⟩ := hp3.top.formV
        rw [show ([] : List Ps.St).length = 0 from rfl, show (([] : List Nat).map nv).length = 0 from rfl] at *
        have HB3 := Lib.hid (HB2.out.trans (hb3.mono HB2.out.size))
        have HN3 := Lib.hid ((hb3.block _ (Array.getElem?_eq_some_iff.1 HN2.out).1).trans HN2.out)
        clear hb3
        go_wp2_with (go_at_call 14; refine (PM.out _).mono ?_; rintro e w5 ⟨rfl, rfl⟩)
        have HBD := Lib.hid (show Below w.heap.size w (w3.alloc (.cells #[.int .i64 1, .slice so3 0 sc3, .slice too3 0 tcc3] 27)).drew from below_drewM (HB3.out.alloc HB3.out.size _))
        have hs0 : True := trivial
        refine wp_region_held_drew (S := fun _ => True) (by kernel_rfl) hs0 (fun hH => ?_)
        generalize (w3.alloc (.cells #[.int .i64 1, .slice so3 0 sc3, .slice too3 0 tcc3] 27)).drew = wd at *
        refine heldTake (i := 0) (v := ?_) rfl (by kernel_rfl) (by kernel_rfl) (fun _ _ _ h => h) (by rfl) (by assumption) (fun w hSw => ?_) ?_; rotate_left; focus ((try dsimp only at hSw); go_simp; try with_reducible rfl)
        try simp only [Act.put, List.setIfInBounds_toArray, List.set_cons_zero, List.set_cons_succ]
        refine heldTake (i := 1) (v := ?_) rfl (by kernel_rfl) (by kernel_rfl) (fun _ _ _ h => h) (by rfl) (by assumption) (fun w hSw => ?_) ?_; rotate_left; focus ((try dsimp only at hSw); go_simp; try with_reducible rfl)
        try simp only [Act.put, List.setIfInBounds_toArray, List.set_cons_zero, List.set_cons_succ]
        refine heldTake (i := 2) (v := ?_) rfl (by kernel_rfl) (by kernel_rfl) (fun _ _ _ h => h) (by rfl) (by assumption) (fun w hSw => ?_) ?_; rotate_left; focus ((try dsimp only at hSw); go_simp; try with_reducible rfl)
        try simp only [Act.put, List.setIfInBounds_toArray, List.set_cons_zero, List.set_cons_succ]
        refine heldTake (i := 3) (v := ?_) rfl (by kernel_rfl) (by kernel_rfl) (fun _ _ _ h => h) (by rfl) (by assumption) (fun w hSw => ?_) ?_; rotate_left; focus ((try dsimp only at hSw); go_simp; try with_reducible rfl)
        try simp only [Act.put, List.setIfInBounds_toArray, List.set_cons_zero, List.set_cons_succ]
        refine heldTake (i := 4) (v := ?_) rfl (by kernel_rfl) (by kernel_rfl) (fun _ _ _ h => h) (by rfl) (by assumption) (fun w hSw => ?_) ?_; rotate_left; focus ((try dsimp only at hSw); go_simp; try with_reducible rfl)
        try simp only [Act.put, List.setIfInBounds_toArray, List.set_cons_zero, List.set_cons_succ]
        refine heldTake (i := 5) (v := ?_) rfl (by kernel_rfl) (by kernel_rfl) (fun _ _ _ h => h) (by rfl) (by assumption) (fun w hSw => ?_) ?_; rotate_left; focus ((try dsimp only at hSw); go_simp; try with_reducible rfl)
        try simp only [Act.put, List.setIfInBounds_toArray, List.set_cons_zero, List.set_cons_succ]
        refine heldTake (i := 6) (v := ?_) rfl (by kernel_rfl) (by kernel_rfl) (fun _ _ _ h => h) (by rfl) (by assumption) (fun w hSw => ?_) ?_; rotate_left; focus ((try dsimp only at hSw); go_simp; try with_reducible rfl)
        try simp only [Act.put, List.setIfInBounds_toArray, List.set_cons_zero, List.set_cons_succ]
        refine heldTake (i := 7) (v := ?_) rfl (by kernel_rfl) (by kernel_rfl) (fun _ _ _ h => h) (by rfl) (by assumption) (fun w hSw => ?_) ?_; rotate_left; focus ((try dsimp only at hSw); go_simp; try with_reducible rfl)
        try simp only [Act.put, List.setIfInBounds_toArray, List.set_cons_zero, List.set_cons_succ]
        refine heldTake (i := 8) (v := ?_) rfl (by kernel_rfl) (by kernel_rfl) (fun _ _ _ h => h) (by rfl) (by assumption) (fun w hSw => ?_) ?_; rotate_left; focus ((try dsimp only at hSw); go_simp; try with_reducible rfl)
        try simp only [Act.put, List.setIfInBounds_toArray, List.set_cons_zero, List.set_cons_succ]
        refine heldTake (i := 9) (v := ?_) rfl (by kernel_rfl) (by kernel_rfl) (fun _ _ _ h => h) (by rfl) (by assumption) (fun w hSw => ?_) ?_; rotate_left; focus ((try dsimp only at hSw); go_simp; try with_reducible rfl)
        try simp only [Act.put, List.setIfInBounds_toArray, List.set_cons_zero, List.set_cons_succ]
        refine heldTake (i := 10) (v := ?_) rfl (by kernel_rfl) (by kernel_rfl) (fun _ _ _ h => h) (by rfl) (by assumption) (fun w hSw => ?_) ?_; rotate_left; focus ((try dsimp only at hSw); go_simp; try with_reducible rfl)
        try simp only [Act.put, List.setIfInBounds_toArray, List.set_cons_zero, List.set_cons_succ]
        refine heldTake (i := 11) (v := ?_) rfl (by kernel_rfl) (by kernel_rfl) (fun _ _ _ h => h) (by rfl) (by assumption) (fun w hSw => ?_) ?_; rotate_left; focus ((try dsimp only at hSw); go_simp; try with_reducible rfl)
        try simp only [Act.put, List.setIfInBounds_toArray, List.set_cons_zero, List.set_cons_succ]
        refine heldSkip (i := 12) rfl (by kernel_rfl) (by kernel_rfl) (fun _ _ _ h => h) (by rfl) (by assumption) ?_
        try simp only [Act.put, List.setIfInBounds_toArray, List.set_cons_zero, List.set_cons_succ]
        refine heldSkip (i := 13) rfl (by kernel_rfl) (by kernel_rfl) (fun _ _ _ h => h) (by rfl) (by assumption) ?_
        try simp only [Act.put, List.setIfInBounds_toArray, List.set_cons_zero, List.set_cons_succ]
        refine heldSkip (i := 14) rfl (by kernel_rfl) (by kernel_rfl) (fun _ _ _ h => h) (by rfl) (by assumption) ?_
        try simp only [Act.put, List.setIfInBounds_toArray, List.set_cons_zero, List.set_cons_succ]
        refine heldSkip (i := 15) rfl (by kernel_rfl) (by kernel_rfl) (fun _ _ _ h => h) (by rfl) (by assumption) ?_
        try simp only [Act.put, List.setIfInBounds_toArray, List.set_cons_zero, List.set_cons_succ]
        refine heldSkip (i := 16) rfl (by kernel_rfl) (by kernel_rfl) (fun _ _ _ h => h) (by rfl) (by assumption) ?_
        try simp only [Act.put, List.setIfInBounds_toArray, List.set_cons_zero, List.set_cons_succ]
        refine heldSkip (i := 17) rfl (by kernel_rfl) (by kernel_rfl) (fun _ _ _ h => h) (by rfl) (by assumption) ?_
        try simp only [Act.put, List.setIfInBounds_toArray, List.set_cons_zero, List.set_cons_succ]
        refine heldSkip (i := 18) rfl (by kernel_rfl) (by kernel_rfl) (fun _ _ _ h => h) (by rfl) (by assumption) ?_
        try simp only [Act.put, List.setIfInBounds_toArray, List.set_cons_zero, List.set_cons_succ]
        refine heldSkip (i := 19) rfl (by kernel_rfl) (by kernel_rfl) (fun _ _ _ h => h) (by rfl) (by assumption) ?_
        try simp only [Act.put, List.setIfInBounds_toArray, List.set_cons_zero, List.set_cons_succ]
        refine heldSkip (i := 20) rfl (by kernel_rfl) (by kernel_rfl) (fun _ _ _ h => h) (by rfl) (by assumption) ?_
        try simp only [Act.put, List.setIfInBounds_toArray, List.set_cons_zero, List.set_cons_succ]
        refine heldSkip (i := 21) rfl (by kernel_rfl) (by kernel_rfl) (fun _ _ _ h => h) (by rfl) (by assumption) ?_
        try simp only [Act.put, List.setIfInBounds_toArray, List.set_cons_zero, List.set_cons_succ]
        refine heldSkip (i := 22) rfl (by kernel_rfl) (by kernel_rfl) (fun _ _ _ h => h) (by rfl) (by assumption) ?_
        try simp only [Act.put, List.setIfInBounds_toArray, List.set_cons_zero, List.set_cons_succ]
        refine heldTake (i := 23) (v := ?_) rfl (by kernel_rfl) (by kernel_rfl) (fun _ _ _ h => h) (by rfl) (by assumption) (fun w hSw => ?_) ?_; rotate_left; focus ((try dsimp only at hSw); go_simp; try with_reducible rfl)
        try simp only [Act.put, List.setIfInBounds_toArray, List.set_cons_zero, List.set_cons_succ]
        refine heldTake (i := 24) (v := ?_) rfl (by kernel_rfl) (by kernel_rfl) (fun _ _ _ h => h) (by rfl) (by assumption) (fun w hSw => ?_) ?_; rotate_left; focus ((try dsimp only at hSw); go_simp; try with_reducible rfl)
        try simp only [Act.put, List.setIfInBounds_toArray, List.set_cons_zero, List.set_cons_succ]
        refine wpAnyH_done (by kernel_rfl) ?_ _
        skip

        go_wp2
        go_ret
        exact ⟨rfl, HBD.out⟩
      by_cases hmode : nm = [109, 111, 100, 101]
      · subst hmode
        have a1 := HMD.out.h1
        have a2 := HMD.out.h2
        rw [show Ps.mode [109, 111, 100, 101] = 0 from rfl] at a1
        rw [if_neg (by decide)] at a1
        rw [if_neg (by decide), show (if ([109, 111, 100, 101] : List UInt8) = Ps.wMode then 5 else 0 : Nat) = 5 from rfl] at a2
        have PM := Lib.hid (fun wx => by have := pmode_any [109, 111, 100, 101] wx; rw [show Ps.mode [109, 111, 100, 101] = 0 from rfl] at this; exact this)
        unfold PAllP at a1 a2
        have A1 := Lib.hid a1
        have A2 := Lib.hid a2
        clear a1 a2
        go_wp2_with fail
        refine (A1.out _ HBR.out).mono ?_
        rintro e w1 ⟨hb1, rfl, _⟩
        have HB1 := Lib.hid (HBR.out.trans (hb1.mono HBR.out.size))
        obtain ⟨w2, hw2⟩ : ∃ w2, w1.alloc (.cells #[.int .i64 0, .slice none 0 0, .slice none 0 0] 27) = w2 := ⟨_, rfl⟩
        have hn2 : w2.heap[w1.heap.size]? = some (.cells #[.int .i64 0, .slice none 0 0, .slice none 0 0] 27 (0, 0)) := by rw [← hw2]; exact heap_alloc_new _ _
        have HB2 := Lib.hid (show Below w.heap.size w w2 by rw [← hw2]; exact HB1.out.alloc HB1.out.size _)
        have HN2 := Lib.hid hn2
        have HW2 := Lib.hid hw2
        clear hn2 hb1 hw2
        go_wp2_with fail
        rw [HW2.out]
        refine (A2.out _ HB2.out).mono ?_
        rintro e w3 ⟨hb3, rfl, _⟩
        have HB3 := Lib.hid (HB2.out.trans (hb3.mono HB2.out.size))
        have HN3 := Lib.hid ((hb3.block _ (Array.getElem?_eq_some_iff.1 HN2.out).1).trans HN2.out)
        clear hb3
        go_wp2_with (go_at_call 14; refine (PM.out _).mono ?_; rintro e w5 ⟨rfl, rfl⟩)
        have HBD := Lib.hid (show Below w.heap.size w (w3.alloc (.cells #[.int .i64 0, .slice none 0 0, .slice none 0 0] 27)).drew from below_drewM (HB3.out.alloc HB3.out.size _))
        have hs0 : True := trivial
        refine wp_region_held_drew (S := fun _ => True) (by kernel_rfl) hs0 (fun hH => ?_)
        generalize (w3.alloc (.cells #[.int .i64 0, .slice none 0 0, .slice none 0 0] 27)).drew = wd at *
        refine heldTake (i := 0) (v := ?_) rfl (by kernel_rfl) (by kernel_rfl) (fun _ _ _ h => h) (by rfl) (by assumption) (fun w hSw => ?_) ?_; rotate_left; focus ((try dsimp only at hSw); go_simp; try with_reducible rfl)
        try simp only [Act.put, List.setIfInBounds_toArray, List.set_cons_zero, List.set_cons_succ]
        refine heldTake (i := 1) (v := ?_) rfl (by kernel_rfl) (by kernel_rfl) (fun _ _ _ h => h) (by rfl) (by assumption) (fun w hSw => ?_) ?_; rotate_left; focus ((try dsimp only at hSw); go_simp; try with_reducible rfl)
        try simp only [Act.put, List.setIfInBounds_toArray, List.set_cons_zero, List.set_cons_succ]
        refine heldTake (i := 2) (v := ?_) rfl (by kernel_rfl) (by kernel_rfl) (fun _ _ _ h => h) (by rfl) (by assumption) (fun w hSw => ?_) ?_; rotate_left; focus ((try dsimp only at hSw); go_simp; try with_reducible rfl)
        try simp only [Act.put, List.setIfInBounds_toArray, List.set_cons_zero, List.set_cons_succ]
        refine heldTake (i := 3) (v := ?_) rfl (by kernel_rfl) (by kernel_rfl) (fun _ _ _ h => h) (by rfl) (by assumption) (fun w hSw => ?_) ?_; rotate_left; focus ((try dsimp only at hSw); go_simp; try with_reducible rfl)
        try simp only [Act.put, List.setIfInBounds_toArray, List.set_cons_zero, List.set_cons_succ]
        refine heldTake (i := 4) (v := ?_) rfl (by kernel_rfl) (by kernel_rfl) (fun _ _ _ h => h) (by rfl) (by assumption) (fun w hSw => ?_) ?_; rotate_left; focus ((try dsimp only at hSw); go_simp; try with_reducible rfl)
        try simp only [Act.put, List.setIfInBounds_toArray, List.set_cons_zero, List.set_cons_succ]
        refine heldTake (i := 5) (v := ?_) rfl (by kernel_rfl) (by kernel_rfl) (fun _ _ _ h => h) (by rfl) (by assumption) (fun w hSw => ?_) ?_; rotate_left; focus ((try dsimp only at hSw); go_simp; try with_reducible rfl)
        try simp only [Act.put, List.setIfInBounds_toArray, List.set_cons_zero, List.set_cons_succ]
        refine heldTake (i := 6) (v := ?_) rfl (by kernel_rfl) (by kernel_rfl) (fun _ _ _ h => h) (by rfl) (by assumption) (fun w hSw => ?_) ?_; rotate_left; focus ((try dsimp only at hSw); go_simp; try with_reducible rfl)
        try simp only [Act.put, List.setIfInBounds_toArray, List.set_cons_zero, List.set_cons_succ]
        refine heldTake (i := 7) (v := ?_) rfl (by kernel_rfl) (by kernel_rfl) (fun _ _ _ h => h) (by rfl) (by assumption) (fun w hSw => ?_) ?_; rotate_left; focus ((try dsimp only at hSw); go_simp; try with_reducible rfl)
        try simp only [Act.put, List.setIfInBounds_toArray, List.set_cons_zero, List.set_cons_succ]
        refine heldTake (i := 8) (v := ?_) rfl (by kernel_rfl) (by kernel_rfl) (fun _ _ _ h => h) (by rfl) (by assumption) (fun w hSw => ?_) ?_; rotate_left; focus ((try dsimp only at hSw); go_simp; try with_reducible rfl)
        try simp only [Act.put, List.setIfInBounds_toArray, List.set_cons_zero, List.set_cons_succ]
        refine heldTake (i := 9) (v := ?_) rfl (by kernel_rfl) (by kernel_rfl) (fun _ _ _ h => h) (by rfl) (by assumption) (fun w hSw => ?_) ?_; rotate_left; focus ((try dsimp only at hSw); go_simp; try with_reducible rfl)
        try simp only [Act.put, List.setIfInBounds_toArray, List.set_cons_zero, List.set_cons_succ]
        refine heldTake (i := 10) (v := ?_) rfl (by kernel_rfl) (by kernel_rfl) (fun _ _ _ h => h) (by rfl) (by assumption) (fun w hSw => ?_) ?_; rotate_left; focus ((try dsimp only at hSw); go_simp; try with_reducible rfl)
        try simp only [Act.put, List.setIfInBounds_toArray, List.set_cons_zero, List.set_cons_succ]
        refine heldTake (i := 11) (v := ?_) rfl (by kernel_rfl) (by kernel_rfl) (fun _ _ _ h => h) (by rfl) (by assumption) (fun w hSw => ?_) ?_; rotate_left; focus ((try dsimp only at hSw); go_simp; try with_reducible rfl)
        try simp only [Act.put, List.setIfInBounds_toArray, List.set_cons_zero, List.set_cons_succ]
        refine heldSkip (i := 12) rfl (by kernel_rfl) (by kernel_rfl) (fun _ _ _ h => h) (by rfl) (by assumption) ?_
        try simp only [Act.put, List.setIfInBounds_toArray, List.set_cons_zero, List.set_cons_succ]
        refine heldSkip (i := 13) rfl (by kernel_rfl) (by kernel_rfl) (fun _ _ _ h => h) (by rfl) (by assumption) ?_
        try simp only [Act.put, List.setIfInBounds_toArray, List.set_cons_zero, List.set_cons_succ]
        refine heldSkip (i := 14) rfl (by kernel_rfl) (by kernel_rfl) (fun _ _ _ h => h) (by rfl) (by assumption) ?_
        try simp only [Act.put, List.setIfInBounds_toArray, List.set_cons_zero, List.set_cons_succ]
        refine heldSkip (i := 15) rfl (by kernel_rfl) (by kernel_rfl) (fun _ _ _ h => h) (by rfl) (by assumption) ?_
        try simp only [Act.put, List.setIfInBounds_toArray, List.set_cons_zero, List.set_cons_succ]
        refine heldSkip (i := 16) rfl (by kernel_rfl) (by kernel_rfl) (fun _ _ _ h => h) (by rfl) (by assumption) ?_
        try simp only [Act.put, List.setIfInBounds_toArray, List.set_cons_zero, List.set_cons_succ]
        refine heldSkip (i := 17) rfl (by kernel_rfl) (by kernel_rfl) (fun _ _ _ h => h) (by rfl) (by assumption) ?_
        try simp only [Act.put, List.setIfInBounds_toArray, List.set_cons_zero, List.set_cons_succ]
        refine heldSkip (i := 18) rfl (by kernel_rfl) (by kernel_rfl) (fun _ _ _ h => h) (by rfl) (by assumption) ?_
        try simp only [Act.put, List.setIfInBounds_toArray, List.set_cons_zero, List.set_cons_succ]
        refine heldSkip (i := 19) rfl (by kernel_rfl) (by kernel_rfl) (fun _ _ _ h => h) (by rfl) (by assumption) ?_
        try simp only [Act.put, List.setIfInBounds_toArray, List.set_cons_zero, List.set_cons_succ]
        refine heldSkip (i := 20) rfl (by kernel_rfl) (by kernel_rfl) (fun _ _ _ h => h) (by rfl) (by assumption) ?_
        try simp only [Act.put, List.setIfInBounds_toArray, List.set_cons_zero, List.set_cons_succ]
        refine heldSkip (i := 21) rfl (by kernel_rfl) (by kernel_rfl) (fun _ _ _ h => h) (by rfl) (by assumption) ?_
        try simp only [Act.put, List.setIfInBounds_toArray, List.set_cons_zero, List.set_cons_succ]
        refine heldSkip (i := 22) rfl (by kernel_rfl) (by kernel_rfl) (fun _ _ _ h => h) (by rfl) (by assumption) ?_
        try simp only [Act.put, List.setIfInBounds_toArray, List.set_cons_zero, List.set_cons_succ]
        refine heldTake (i := 23) (v := ?_) rfl (by kernel_rfl) (by kernel_rfl) (fun _ _ _ h => h) (by rfl) (by assumption) (fun w hSw => ?_) ?_; rotate_left; focus ((try dsimp only at hSw); go_simp; try with_reducible rfl)
        try simp only [Act.put, List.setIfInBounds_toArray, List.set_cons_zero, List.set_cons_succ]
        refine heldTake (i := 24) (v := ?_) rfl (by kernel_rfl) (by kernel_rfl) (fun _ _ _ h => h) (by rfl) (by assumption) (fun w hSw => ?_) ?_; rotate_left; focus ((try dsimp only at hSw); go_simp; try with_reducible rfl)
        try simp only [Act.put, List.setIfInBounds_toArray, List.set_cons_zero, List.set_cons_succ]
        refine wpAnyH_done (by kernel_rfl) ?_ _
        skip

        go_wp2
        go_ret
        exact ⟨rfl, HBD.out⟩
      have qsmtp : (nm == [115, 109, 116, 112]) = false := beq_eq_false_iff_ne.2 hsmtp
      have rsmtp : (nm = [115, 109, 116, 112]) = False := eq_false hsmtp
      have qpop3 : (nm == [112, 111, 112, 51]) = false := beq_eq_false_iff_ne.2 hpop3
      have rpop3 : (nm = [112, 111, 112, 51]) = False := eq_false hpop3
      have qftp : (nm == [102, 116, 112]) = false := beq_eq_false_iff_ne.2 hftp
      have rftp : (nm = [102, 116, 112]) = False := eq_false hftp
      have qmode : (nm == [109, 111, 100, 101]) = false := beq_eq_false_iff_ne.2 hmode
      have rmode : (nm = [109, 111, 100, 101]) = False := eq_false hmode
      have qe : nm.isEmpty = false := by cases nm with | nil => exact absurd rfl hempty | cons c r => rfl
      have qe2 : (nm == []) = false := beq_eq_false_iff_ne.2 hempty
      have qe3 : (nm = []) = False := eq_false hempty
      have hm0 : Ps.mode nm = 0 := by unfold Ps.mode; rw [if_neg hsmtp, if_neg hpop3, if_neg hftp]
      have hmo : ¬ nm = Ps.wMode := hmode
      have a1 := HMD.out.h1
      have a2 := HMD.out.h2
      rw [hm0, if_neg (by decide)] at a1
      rw [if_neg hempty, if_neg hmo] at a2
      have PM := Lib.hid (fun wx => by have := pmode_any nm wx; rw [hm0] at this; exact this)
      clear hm0 hmo hsmtp hpop3 hftp hempty hmode
      unfold PAllP at a1 a2
      have j1 : (⟨#[109, 111, 100, 101, 32]⟩ : ByteArray) ++ ⟨nm.toArray⟩ = ⟨([109, 111, 100, 101, 32] ++ nm).toArray⟩ := ByteArray.mk_append_mk _ _
      obtain ⟨J, hJ⟩ : ∃ J, [109, 111, 100, 101, 32] ++ nm = J := ⟨_, rfl⟩
      rw [hJ] at j1
      have j2 : (⟨J.toArray⟩ : ByteArray) ++ ⟨#[59]⟩ = ⟨(Ps.begins nm).toArray⟩ := by rw [show Ps.begins nm = J ++ [59] by rw [← hJ]; simp [Ps.begins, Ps.wMode]]; exact ByteArray.mk_append_mk _ _
      have j3 : (⟨nm.toArray⟩ : ByteArray) ++ ⟨#[32, 109, 111, 100, 101, 32, 115, 109, 116, 112, 59]⟩ = ⟨(nm ++ Ps.behindS).toArray⟩ := ByteArray.mk_append_mk _ _
      have z1 : (⟨nm.toArray⟩ : ByteArray).size = m := hm
      have z2 : (⟨J.toArray⟩ : ByteArray).size = 5 + m := by rw [← hJ]; show ([109, 111, 100, 101, 32] ++ nm).length = _; rw [List.length_append, hm]; rfl
      have z3 : (⟨#[109, 111, 100, 101, 32]⟩ : ByteArray).size = 5 := rfl
      have z4 : (⟨#[59]⟩ : ByteArray).size = 1 := rfl
      have z5 : (⟨#[32, 109, 111, 100, 101, 32, 115, 109, 116, 112, 59]⟩ : ByteArray).size = 11 := rfl
      have s1 : (9223372036854775807 < 5 + m) = False := eq_false (by omega)
      have s2 : (9223372036854775807 < 5 + m + 1) = False := eq_false (by omega)
      have s3 : (9223372036854775807 < m + 11) = False := eq_false (by omega)
      generalize Ps.begins nm = X1 at a1 j2
      generalize nm ++ Ps.behindS = X2 at a2 j3
      clear hJ
      have A1 := Lib.hid a1
      have A2 := Lib.hid a2
      clear a1 a2
      go_wp2_with fail
      refine (A1.out _ HBR.out).mono ?_
      rintro e w1 ⟨hb1, rfl, _⟩
      have HB1 := Lib.hid (HBR.out.trans (hb1.mono HBR.out.size))
      obtain ⟨w2, hw2⟩ : ∃ w2, w1.alloc (.cells #[.int .i64 0, .slice none 0 0, .slice none 0 0] 27) = w2 := ⟨_, rfl⟩
      have hn2 : w2.heap[w1.heap.size]? = some (.cells #[.int .i64 0, .slice none 0 0, .slice none 0 0] 27 (0, 0)) := by rw [← hw2]; exact heap_alloc_new _ _
      have HB2 := Lib.hid (show Below w.heap.size w w2 by rw [← hw2]; exact HB1.out.alloc HB1.out.size _)
      have HN2 := Lib.hid hn2
      have HW2 := Lib.hid hw2
      clear hn2 hb1 hw2
      go_wp2_with fail
      rw [HW2.out]
      refine (A2.out _ HB2.out).mono ?_
      rintro e w3 ⟨hb3, rfl, _⟩
      have HB3 := Lib.hid (HB2.out.trans (hb3.mono HB2.out.size))
      have HN3 := Lib.hid ((hb3.block _ (Array.getElem?_eq_some_iff.1 HN2.out).1).trans HN2.out)
      clear hb3
      go_wp2_with (go_at_call 14; refine (PM.out _).mono ?_; rintro e w5 ⟨rfl, rfl⟩)
      have HBD := Lib.hid (show Below w.heap.size w (w3.alloc (.cells #[.int .i64 0, .slice none 0 0, .slice none 0 0] 27)).drew from below_drewM (HB3.out.alloc HB3.out.size _))
      have hs0 : True := trivial
      refine wp_region_held_drew (S := fun _ => True) (by kernel_rfl) hs0 (fun hH => ?_)
      generalize (w3.alloc (.cells #[.int .i64 0, .slice none 0 0, .slice none 0 0] 27)).drew = wd at *
      refine heldTake (i := 0) (v := ?_) rfl (by kernel_rfl) (by kernel_rfl) (fun _ _ _ h => h) (by rfl) (by assumption) (fun w hSw => ?_) ?_; rotate_left; focus ((try dsimp only at hSw); go_simp; try with_reducible rfl)
      try simp only [Act.put, List.setIfInBounds_toArray, List.set_cons_zero, List.set_cons_succ]
      refine heldTake (i := 1) (v := ?_) rfl (by kernel_rfl) (by kernel_rfl) (fun _ _ _ h => h) (by rfl) (by assumption) (fun w hSw => ?_) ?_; rotate_left; focus ((try dsimp only at hSw); go_simp; try with_reducible rfl)
      try simp only [Act.put, List.setIfInBounds_toArray, List.set_cons_zero, List.set_cons_succ]
      refine heldTake (i := 2) (v := ?_) rfl (by kernel_rfl) (by kernel_rfl) (fun _ _ _ h => h) (by rfl) (by assumption) (fun w hSw => ?_) ?_; rotate_left; focus ((try dsimp only at hSw); go_simp; try with_reducible rfl)
      try simp only [Act.put, List.setIfInBounds_toArray, List.set_cons_zero, List.set_cons_succ]
      refine heldTake (i := 3) (v := ?_) rfl (by kernel_rfl) (by kernel_rfl) (fun _ _ _ h => h) (by rfl) (by assumption) (fun w hSw => ?_) ?_; rotate_left; focus ((try dsimp only at hSw); go_simp; try with_reducible rfl)
      try simp only [Act.put, List.setIfInBounds_toArray, List.set_cons_zero, List.set_cons_succ]
      refine heldTake (i := 4) (v := ?_) rfl (by kernel_rfl) (by kernel_rfl) (fun _ _ _ h => h) (by rfl) (by assumption) (fun w hSw => ?_) ?_; rotate_left; focus ((try dsimp only at hSw); go_simp; try with_reducible rfl)
      try simp only [Act.put, List.setIfInBounds_toArray, List.set_cons_zero, List.set_cons_succ]
      refine heldTake (i := 5) (v := ?_) rfl (by kernel_rfl) (by kernel_rfl) (fun _ _ _ h => h) (by rfl) (by assumption) (fun w hSw => ?_) ?_; rotate_left; focus ((try dsimp only at hSw); go_simp; try with_reducible rfl)
      try simp only [Act.put, List.setIfInBounds_toArray, List.set_cons_zero, List.set_cons_succ]
      refine heldTake (i := 6) (v := ?_) rfl (by kernel_rfl) (by kernel_rfl) (fun _ _ _ h => h) (by rfl) (by assumption) (fun w hSw => ?_) ?_; rotate_left; focus ((try dsimp only at hSw); go_simp; try with_reducible rfl)
      try simp only [Act.put, List.setIfInBounds_toArray, List.set_cons_zero, List.set_cons_succ]
      refine heldTake (i := 7) (v := ?_) rfl (by kernel_rfl) (by kernel_rfl) (fun _ _ _ h => h) (by rfl) (by assumption) (fun w hSw => ?_) ?_; rotate_left; focus ((try dsimp only at hSw); go_simp; try with_reducible rfl)
      try simp only [Act.put, List.setIfInBounds_toArray, List.set_cons_zero, List.set_cons_succ]
      refine heldTake (i := 8) (v := ?_) rfl (by kernel_rfl) (by kernel_rfl) (fun _ _ _ h => h) (by rfl) (by assumption) (fun w hSw => ?_) ?_; rotate_left; focus ((try dsimp only at hSw); go_simp; try with_reducible rfl)
      try simp only [Act.put, List.setIfInBounds_toArray, List.set_cons_zero, List.set_cons_succ]
      refine heldTake (i := 9) (v := ?_) rfl (by kernel_rfl) (by kernel_rfl) (fun _ _ _ h => h) (by rfl) (by assumption) (fun w hSw => ?_) ?_; rotate_left; focus ((try dsimp only at hSw); go_simp; try with_reducible rfl)
      try simp only [Act.put, List.setIfInBounds_toArray, List.set_cons_zero, List.set_cons_succ]
      refine heldTake (i := 10) (v := ?_) rfl (by kernel_rfl) (by kernel_rfl) (fun _ _ _ h => h) (by rfl) (by assumption) (fun w hSw => ?_) ?_; rotate_left; focus ((try dsimp only at hSw); go_simp; try with_reducible rfl)
      try simp only [Act.put, List.setIfInBounds_toArray, List.set_cons_zero, List.set_cons_succ]
      refine heldTake (i := 11) (v := ?_) rfl (by kernel_rfl) (by kernel_rfl) (fun _ _ _ h => h) (by rfl) (by assumption) (fun w hSw => ?_) ?_; rotate_left; focus ((try dsimp only at hSw); go_simp; try with_reducible rfl)
      try simp only [Act.put, List.setIfInBounds_toArray, List.set_cons_zero, List.set_cons_succ]
      refine heldSkip (i := 12) rfl (by kernel_rfl) (by kernel_rfl) (fun _ _ _ h => h) (by rfl) (by assumption) ?_
      try simp only [Act.put, List.setIfInBounds_toArray, List.set_cons_zero, List.set_cons_succ]
      refine heldSkip (i := 13) rfl (by kernel_rfl) (by kernel_rfl) (fun _ _ _ h => h) (by rfl) (by assumption) ?_
      try simp only [Act.put, List.setIfInBounds_toArray, List.set_cons_zero, List.set_cons_succ]
      refine heldSkip (i := 14) rfl (by kernel_rfl) (by kernel_rfl) (fun _ _ _ h => h) (by rfl) (by assumption) ?_
      try simp only [Act.put, List.setIfInBounds_toArray, List.set_cons_zero, List.set_cons_succ]
      refine heldSkip (i := 15) rfl (by kernel_rfl) (by kernel_rfl) (fun _ _ _ h => h) (by rfl) (by assumption) ?_
      try simp only [Act.put, List.setIfInBounds_toArray, List.set_cons_zero, List.set_cons_succ]
      refine heldSkip (i := 16) rfl (by kernel_rfl) (by kernel_rfl) (fun _ _ _ h => h) (by rfl) (by assumption) ?_
      try simp only [Act.put, List.setIfInBounds_toArray, List.set_cons_zero, List.set_cons_succ]
      refine heldSkip (i := 17) rfl (by kernel_rfl) (by kernel_rfl) (fun _ _ _ h => h) (by rfl) (by assumption) ?_
      try simp only [Act.put, List.setIfInBounds_toArray, List.set_cons_zero, List.set_cons_succ]
      refine heldSkip (i := 18) rfl (by kernel_rfl) (by kernel_rfl) (fun _ _ _ h => h) (by rfl) (by assumption) ?_
      try simp only [Act.put, List.setIfInBounds_toArray, List.set_cons_zero, List.set_cons_succ]
      refine heldSkip (i := 19) rfl (by kernel_rfl) (by kernel_rfl) (fun _ _ _ h => h) (by rfl) (by assumption) ?_
      try simp only [Act.put, List.setIfInBounds_toArray, List.set_cons_zero, List.set_cons_succ]
      refine heldSkip (i := 20) rfl (by kernel_rfl) (by kernel_rfl) (fun _ _ _ h => h) (by rfl) (by assumption) ?_
      try simp only [Act.put, List.setIfInBounds_toArray, List.set_cons_zero, List.set_cons_succ]
      refine heldSkip (i := 21) rfl (by kernel_rfl) (by kernel_rfl) (fun _ _ _ h => h) (by rfl) (by assumption) ?_
      try simp only [Act.put, List.setIfInBounds_toArray, List.set_cons_zero, List.set_cons_succ]
      refine heldSkip (i := 22) rfl (by kernel_rfl) (by kernel_rfl) (fun _ _ _ h => h) (by rfl) (by assumption) ?_
      try simp only [Act.put, List.setIfInBounds_toArray, List.set_cons_zero, List.set_cons_succ]
      refine heldTake (i := 23) (v := ?_) rfl (by kernel_rfl) (by kernel_rfl) (fun _ _ _ h => h) (by rfl) (by assumption) (fun w hSw => ?_) ?_; rotate_left; focus ((try dsimp only at hSw); go_simp; try with_reducible rfl)
      try simp only [Act.put, List.setIfInBounds_toArray, List.set_cons_zero, List.set_cons_succ]
      refine heldTake (i := 24) (v := ?_) rfl (by kernel_rfl) (by kernel_rfl) (fun _ _ _ h => h) (by rfl) (by assumption) (fun w hSw => ?_) ?_; rotate_left; focus ((try dsimp only at hSw); go_simp; try with_reducible rfl)
      try simp only [Act.put, List.setIfInBounds_toArray, List.set_cons_zero, List.set_cons_succ]
      refine wpAnyH_done (by kernel_rfl) ?_ _
      skip

      go_wp2
      go_ret
      exact ⟨rfl, HBD.out⟩
end Go.Proofs.YtiikionoagmabaaDoor
