/- lex.passed walked (layer 14). -/
import Derived.Test.YtiikionoagmabaaDoorPA
import Derived.Test.YtiikionoagmabaaDoorIndex1
import Derived.Scope
namespace Go.Proofs.YtiikionoagmabaaDoor
open Go.RowKit

namespace Lx
theorem skip_true_free : ∀ (l : List UInt8), (∀ x ∈ l, x ≠ 10) → skip true l = []
  | [], _ => rfl
  | c :: l, h => by
    rw [skip, if_neg (h c (by simp))]
    exact skip_true_free l (fun x hx => h x (by simp [hx]))
/-- A remark is passed over up to its end. -/
theorem skip_cut (r : List UInt8) : ∃ m, ((cut1 10 (35 :: r)).1).length = m + 1 ∧ m ≤ r.length ∧ skip false ((35 :: r).drop (m + 1)) = skip false (35 :: r) := by
  have h0 : skip false (35 :: r) = skip true r := by rw [skip, if_pos rfl]
  rcases cut1_at 10 (35 :: r) with ⟨h1, h2⟩ | ⟨k, h1, h2, h3, h4⟩
  · refine ⟨r.length, by rw [h2]; rfl, Nat.le_refl _, ?_⟩
    rw [h0, skip_true_free r (fun x hx => h1 x (by simp [hx]))]
    rw [List.drop_of_length_le (by simp)]
    rfl
  · cases k with
    | zero => simp at h3
    | succ m =>
      simp only [List.length_cons] at h1
      refine ⟨m, by rw [h4]; simp; omega, by omega, ?_⟩
      rw [h0]
      simp only [List.take_succ_cons, List.drop_succ_cons, List.cons_append, List.cons.injEq, true_and] at h2 h3
      rw [List.drop_succ_cons]
      have e := skip_remark (r.take m) (fun x hx => h2 x (by simp [hx])) (r.drop (m + 1))
      rw [← h3] at e
      rw [e]
      have e2 : r.drop m = 10 :: r.drop (m + 1) := by
        conv => lhs; rw [h3]
        rw [List.drop_append_of_le_length (by simp; omega)]
        rw [List.drop_of_length_le (by simp; omega)]
        rfl
      rw [e2, skip, if_neg (by decide), if_pos (by decide)]
theorem drop_cons {l : List UInt8} {k : Nat} (h : k < l.length) : ∃ c r, l.drop k = c :: r ∧ l.getD k 0 = c ∧ r = l.drop (k + 1) ∧ r.length + k + 1 = l.length := by
  refine ⟨l[k], l.drop (k + 1), List.drop_eq_getElem_cons h, by simp [List.getD, List.getElem?_eq_getElem h], rfl, by rw [List.length_drop]; omega⟩
end Lx

theorem take_snoc {l : List UInt8} {k : Nat} {c : UInt8} {r : List UInt8} (h : l.drop k = c :: r) : l.take (k + 1) = l.take k ++ [c] := by
  have hk : k < l.length := by
    have := congrArg List.length h
    rw [List.length_drop, List.length_cons] at this
    omega
  have e := List.drop_eq_getElem_cons hk
  rw [h] at e
  rw [List.take_succ_eq_append_getElem hk]
  cases e
  rfl

theorem below_dn {B : Nat} {a w : World} (h : Below B a w) (q : Nat) : Below B a (w.drewN q) := ⟨h.os, h.tape, h.output, h.size, h.block⟩
set_option maxHeartbeats 2000000 in
theorem passed_any (l : List UInt8) (hl : l.length ≤ 16777216) (w : World) :
    Calls Tryd.prog 35 #[.string ⟨l.toArray⟩] w fun e w' => e = .returned (.int .i64 ((l.length - (Lx.skip false l).length : Nat) : Int)) ∧ Below w.heap.size w w' := by
  have hz : (⟨l.toArray⟩ : ByteArray).size = l.length := rfl
  have CU := Lib.hid (fun (s : List UInt8) (hs : s.length ≤ 16777216) wx => sCut_any s 10 hs wx)
  obtain ⟨L, hL⟩ : ∃ L, l.length = L := ⟨_, rfl⟩
  have HL := Lib.hid hL
  rw [hL] at hl hz ⊢
  clear hL
  go_enter Tryd.func35, Tryd.ntmps35
  go_wp2
  refine wp_scope_straight ?_
  go_wp2
  refine wp_label ?_
  go_wp2
  go_loopw [3, 4, 5, 6] (fun s3 s4 s5 s6 wr => ∃ k : Nat, k ≤ L ∧ s3 = .int .i64 k ∧ Hid (Lx.skip false (l.drop k) = Lx.skip false l ∧ Below w.heap.size w wr)) (fun s3 s4 s5 s6 _ => L - (intOf s3).toNat)
  case atStart => exact ⟨0, by omega, rfl, Lib.hid ⟨rfl, Below.refl _ _⟩⟩
  case round =>
    obtain ⟨k, hk, rfl, HR⟩ := hrel
    by_cases hlt : k < L
    · obtain ⟨c, r, hd, hgc, hr, hrl⟩ := Lx.drop_cons (l := l) (k := k) (by rw [HL.out]; exact hlt)
      rw [HL.out] at hrl
      have hx : ∀ h, (⟨l.toArray⟩ : ByteArray)[k]'h = c := fun h => by rw [byte_at]; exact hgc
      have hE : (⟨l.toArray⟩ : ByteArray).extract k L = ⟨(c :: r).toArray⟩ := by rw [ba_extract, List.take_of_length_le (by rw [HL.out]; exact Nat.le_refl _), hd]
      have HD := Lib.hid hd
      have HRR := Lib.hid hr
      have hk1 : (k : Int) < (L : Int) := by omega
      clear hgc hd hr
      by_cases hb : Lx.blank c = true
      · have hcs : c = 32 ∨ c = 9 ∨ c = 10 ∨ c = 13 := by simpa [Lx.blank, or_assoc] using hb
        have h35 : ¬ c = 35 := fun e => by rw [e] at hb; cases hb
        have HN : Hid (Lx.skip false (l.drop (k + 1)) = Lx.skip false l ∧ Below w.heap.size w wr) := Lib.hid ⟨by
          have h := HR.out.1
          rw [HD.out, Lx.skip, if_neg h35, if_pos hb] at h
          rw [← HRR.out]
          exact h, HR.out.2⟩
        clear hb h35 HR HD HRR
        rcases hcs with rfl | rfl | rfl | rfl
        all_goals
          go_wp2
          go_roundw
          case rel => exact ⟨k + 1, by omega, by first | rfl | go_num, HN⟩
          case measure => simp [intOf]; omega
      · by_cases h35 : c = 35
        · subst h35
          obtain ⟨m, hm1, hm2, hm3⟩ := Lx.skip_cut r
          have hcu := CU.out (35 :: r) (by simp; omega)
          obtain ⟨ct, hct⟩ : ∃ ct, cut1 10 (35 :: r) = ct := ⟨_, rfl⟩
          rw [hct] at hcu hm1
          obtain ⟨c1, c2, c3⟩ := ct
          dsimp only [sv] at hcu hm1
          have hz1 : (⟨c1.toArray⟩ : ByteArray).size = m + 1 := hm1
          have HN : Hid (Lx.skip false (l.drop (k + (m + 1))) = Lx.skip false l ∧ Below w.heap.size w wr) := Lib.hid ⟨by
            have h := HR.out.1
            rw [HD.out, ← hm3, ← HD.out, List.drop_drop] at h
            exact h, HR.out.2⟩
          have hm4 : k + (m + 1) ≤ L := by omega
          clear hm1 hm2 hm3 hct hb HR HD HRR hrl
          go_wp2_with (go_at_call 50; refine (hcu _).mono ?_; rintro e w' ⟨rfl, q, hw⟩; rw [hw])
          go_roundw
          case rel => exact ⟨k + (m + 1), hm4, by first | rfl | go_num, Lib.hid ⟨HN.out.1, below_dn HN.out.2 q⟩⟩
          case measure => simp [intOf]; omega
        · have e1 : ¬ ((c.toNat : Int) = 32) := fun e => hb (by rw [UInt8.toNat_inj.1 (show c.toNat = (32 : UInt8).toNat by show c.toNat = 32; omega)]; rfl)
          have e2 : ¬ ((c.toNat : Int) = 9) := fun e => hb (by rw [UInt8.toNat_inj.1 (show c.toNat = (9 : UInt8).toNat by show c.toNat = 9; omega)]; rfl)
          have e3 : ¬ ((c.toNat : Int) = 10) := fun e => hb (by rw [UInt8.toNat_inj.1 (show c.toNat = (10 : UInt8).toNat by show c.toNat = 10; omega)]; rfl)
          have e4 : ¬ ((c.toNat : Int) = 13) := fun e => hb (by rw [UInt8.toNat_inj.1 (show c.toNat = (13 : UInt8).toNat by show c.toNat = 13; omega)]; rfl)
          have e5 : ¬ ((c.toNat : Int) = 35) := fun e => h35 (UInt8.toNat_inj.1 (show c.toNat = (35 : UInt8).toNat by show c.toNat = 35; omega))
          have f1 : ((c.toNat : Int) == 32) = false := beq_eq_false_iff_ne.2 e1
          have f2 : ((c.toNat : Int) == 9) = false := beq_eq_false_iff_ne.2 e2
          have f3 : ((c.toNat : Int) == 10) = false := beq_eq_false_iff_ne.2 e3
          have f4 : ((c.toNat : Int) == 13) = false := beq_eq_false_iff_ne.2 e4
          have f5 : ((c.toNat : Int) == 35) = false := beq_eq_false_iff_ne.2 e5
          have HN : Hid (L - (Lx.skip false l).length = k ∧ Below w.heap.size w wr) := Lib.hid ⟨by
            rw [← HR.out.1, HD.out, Lx.skip, if_neg h35, if_neg hb, List.length_cons]; omega, HR.out.2⟩
          clear hb h35 HR HD HRR hrl
          go_wp2
          simp only [Exit.noGoto]
          go_ret
          exact ⟨by rw [HN.out.1]; rfl, HN.out.2⟩
    · have hkL : k = L := by omega
      subst hkL
      have HN : Hid (k - (Lx.skip false l).length = k ∧ Below w.heap.size w wr) := Lib.hid ⟨by
        rw [← HR.out.1, List.drop_of_length_le (by rw [HL.out]; exact Nat.le_refl _)]; rfl, HR.out.2⟩
      clear HR
      go_wp2
      simp only [Exit.noGoto]
      go_ret
      exact ⟨by rw [HN.out.1]; rfl, HN.out.2⟩
end Go.Proofs.YtiikionoagmabaaDoor
