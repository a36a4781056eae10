/- The reference's lines of a body walked. -/
import Derived.Test.YtomeoploojjacaaDoorCapsLines
import Derived.Test.YtomeoploojjacaaDoorRdCut
import Derived.Test.YtomeoploojjacaaDoorStrs
import Derived.Test.YtomeoploojjacaaDoorOwnSet
namespace Go.Proofs.YtomeoploojjacaaDoor
open Go.RowKit
namespace Cp
theorem splitGo_end (cur l : List UInt8) (h : l.length ≤ 1) : splitGo cur l = [cur ++ l] := by
  match l, h with
  | [], _ => rw [List.append_nil]; rfl
  | [c], _ => rfl
  | _ :: _ :: _, h => simp at h
/-- What holds at the head of a round: 'from', and where the next byte is looked at. -/
structure LR (xs : List UInt8) (F i : Nat) (out : List (List UInt8)) : Prop where
  sum : linesOf xs = out ++ splitGo ((xs.drop F).take (max F (i - 1) - F)) (xs.drop (max F (i - 1)))
  h0 : 1 ≤ i
  h1 : F ≤ i
  h2 : F ≤ xs.length
  few : 2 * out.length ≤ F
theorem LR.start (xs : List UInt8) : LR xs 0 1 [] := ⟨by simp [linesOf], Nat.le_refl _, by omega, Nat.zero_le _, Nat.le_refl _⟩
theorem getD_drop {xs : List UInt8} {k : Nat} (h : k < xs.length) : xs.drop k = xs.getD k 0 :: xs.drop (k + 1) := by
  rw [List.drop_eq_getElem_cons h, List.getD_eq_getElem?_getD, List.getElem?_eq_getElem h]
  rfl
theorem take_snoc {xs : List UInt8} {F k : Nat} (hF : F ≤ k) (h : k < xs.length) : (xs.drop F).take (k + 1 - F) = (xs.drop F).take (k - F) ++ [xs.getD k 0] := by
  rw [show k + 1 - F = (k - F) + 1 from by omega, List.take_add, List.drop_drop, show F + (k - F) = k from by omega, getD_drop h]
  rfl
/-- No end of a line here. -/
theorem LR.skip {xs : List UInt8} {F i : Nat} {out : List (List UInt8)} (h : LR xs F i out) (hi : i < xs.length) (hn : F < i → ¬ (xs.getD (i - 1) 0 = 13 ∧ xs.getD i 0 = 10)) : LR xs F (i + 1) out := by
  refine ⟨?_, by omega, by have := h.h1; omega, h.h2, h.few⟩
  have hs := h.sum
  have h1 := h.h1
  have h0 := h.h0
  by_cases hF : F < i
  · rw [show max F (i - 1) = i - 1 from by omega] at hs
    rw [show max F (i + 1 - 1) = i from by omega, hs]
    have e := getD_drop (xs := xs) (k := i - 1) (by omega)
    rw [show i - 1 + 1 = i from by omega] at e
    rw [e, splitGo_step _ _ _ (fun e2 => hn hF ⟨e2.1, by
      have := e2.2
      rw [getD_drop hi, List.head?_cons] at this
      simpa using this⟩)]
    have e3 := take_snoc (xs := xs) (F := F) (k := i - 1) (by omega) (by omega)
    rw [show i - 1 + 1 = i from by omega] at e3
    rw [e3]
  · obtain rfl : F = i := by omega
    rw [show max F (F + 1 - 1) = F from by omega]
    rwa [show max F (F - 1) = F from by omega] at hs
/-- An end of a line. -/
theorem LR.cut {xs : List UInt8} {F i : Nat} {out : List (List UInt8)} (h : LR xs F i out) (hi : i < xs.length) (hF : F < i) (h13 : xs.getD (i - 1) 0 = 13) (h10 : xs.getD i 0 = 10) : LR xs (i + 1) (i + 1) (out ++ [(xs.drop F).take (i - 1 - F)]) := by
  have hs := h.sum
  have h0 := h.h0
  refine ⟨?_, by omega, Nat.le_refl _, by omega, by have := h.few; rw [List.length_append]; simp only [List.length_cons, List.length_nil]; omega⟩
  rw [show max F (i - 1) = i - 1 from by omega] at hs
  have e := getD_drop (xs := xs) (k := i - 1) (by omega)
  rw [show i - 1 + 1 = i from by omega, getD_drop hi, h13, h10] at e
  rw [e, splitGo_crlf] at hs
  rw [hs, show max (i + 1) (i + 1 - 1) = i + 1 from by omega, Nat.sub_self, List.take_zero, List.append_assoc]
  rfl
theorem LR.fin {xs : List UInt8} {F i : Nat} {out : List (List UInt8)} (h : LR xs F i out) (hi : xs.length ≤ i) : linesOf xs = out ++ [xs.drop F] := by
  have hs := h.sum
  have h1 := h.h2
  rw [splitGo_end _ _ (by rw [List.length_drop]; omega)] at hs
  rw [hs]
  congr 2
  rw [show xs.drop (max F (i - 1)) = (xs.drop F).drop (max F (i - 1) - F) from by rw [List.drop_drop]; congr 1; omega, List.take_append_drop]
end Cp

set_option maxHeartbeats 1000000 in
theorem rlines_any (v : Value) (xs : List UInt8) (w : World) (h : Rd w v (xs.map bv)) (hl : xs.length ≤ 1000000) :
    Calls Tryd.prog 22 #[v] w fun e w' => ∃ v', e = .returned v' ∧ Rd w' v' ((Cp.linesOf xs).map sv) ∧ Below w.heap.size w w' := by
  obtain ⟨ao, cap, rfl, hcap, hc⟩ := h.form
  have HRD := Lib.hid h
  obtain ⟨L, hL⟩ : ∃ L, L = xs.length := ⟨_, rfl⟩
  rw [← hL] at hl hcap hc HRD ⊢
  have HL := Lib.hid hL
  have HC := Lib.hid hc
  have hmade := Lib.hid (World.ownsRow_made (base := w.heap.size) (e := 9) (size := 1) w #[] 0 (Nat.le_refl _) (Nat.zero_le _) rfl)
  have hal := Lib.hid ((Below.refl w.heap.size w).alloc (Nat.le_refl _) (.cells #[] 9))
  clear hL h hc
  go_enter Tryd.func22, Tryd.ntmps22
  go_wp2
  go_loopw [3, 4, 5] (fun o f i wr => ∃ (F k : Nat) (out : List (List UInt8)), f = .int .i64 F ∧ i = .int .i64 k ∧ k ≤ L + 1 ∧ Hid (Cp.LR xs F k out) ∧ Hid (wr.ownsRow w.heap.size 9 1 o out.length (out.map sv)) ∧ Hid (Below w.heap.size w wr)) (fun _ _ i _ => L + 1 - (intOf i).toNat)
  case atStart => exact ⟨0, 1, [], rfl, rfl, by omega, Cp.LR.start xs, hmade.out, hal.out⟩
  case round =>
    obtain ⟨F, i, out, rfl, rfl, hi1, HR, HO, HB⟩ := hrel
    obtain ⟨oo, oc, rfl⟩ := own_form HO.out
    have g0 := HR.out.h0
    have g1 := HR.out.h1
    have g2 := HR.out.h2
    rw [← HL.out] at g2
    have g3 := HR.out.few
    by_cases hlt : i < L
    · obtain ⟨b, o, rfl, hm, hcell⟩ := HC.out (by omega)
      unfold maxLen at hm
      have t1 : (i : Int) < (L : Int) := by omega
      by_cases hF : F < i
      · have t2 : (F : Int) < (i : Int) := by omega
        obtain ⟨I1, hI⟩ : ∃ I1, I1 = i - 1 := ⟨_, rfl⟩
        have t3 : (i : Int) - 1 = (I1 : Int) := by omega
        have t4 : I1 < L := by omega
        have e1 := (HB.out.cell (World.block_lt_of_cell? w _ (hcell I1 t4))).trans (hcell I1 t4)
        have e2 := (HB.out.cell (World.block_lt_of_cell? w _ (hcell i hlt))).trans (hcell i hlt)
        obtain ⟨c1, hc1⟩ : ∃ c1, c1 = xs.getD I1 0 := ⟨_, rfl⟩
        obtain ⟨c2, hc2⟩ : ∃ c2, c2 = xs.getD i 0 := ⟨_, rfl⟩
        rw [← hc1, bv] at e1
        rw [← hc2, bv] at e2
        have HC1 := Lib.hid hc1
        have HC2 := Lib.hid hc2
        have HI := Lib.hid hI
        clear hcell hc1 hc2 hI
        by_cases h13 : c1 = 13
        · have q1 : ((c1.toNat : Int) == 13) = true := by rw [h13]; rfl
          by_cases h10 : c2 = 10
          · have q2 : ((c2.toNat : Int) == 10) = true := by rw [h10]; rfl
            have RS := Lib.hid (HR.out.cut (by rw [← HL.out]; exact hlt) hF (by rw [← HI.out, ← HC1.out]; exact h13) (by rw [← HC2.out]; exact h10))
            rw [← HI.out] at RS
            have hrd := ((HRD.out.below HB.out).rest (m := F) HL.out (by omega)).cut (m := I1 - F) (by rw [List.length_drop, HL.out]) (by omega)
            have hcv := bytes_string hrd
            unfold sv at hcv
            have t5 : (F : Int) ≤ (I1 : Int) := by omega
            have t6 : (I1 : Int) ≤ (cap : Int) := by omega
            have t7 : (cap = F) = False := eq_false (by omega)
            obtain ⟨T, hT⟩ : ∃ T, T = (xs.drop F).take (I1 - F) := ⟨_, rfl⟩
            rw [← hT] at hcv RS
            have HT := Lib.hid hT
            clear hrd h13 h10 hT
            go_wp2_with (at_builtin; refine append_str rfl (.tmp 31) (.tmp 38) rfl rfl HO.out rfl rfl rfl ?ca HB.out.size ?_)
            case ca => omega
            intro v2 w2 ho2 hg2
            have HO2 := Lib.hid (show w2.ownsRow w.heap.size 9 1 v2 (out ++ [T]).length ((out ++ [T]).map sv) by rw [List.map_append, List.length_append]; exact ho2)
            have HB2 := Lib.hid (HB.out.grown hg2 HB.out.size (fun j hj => (HO.out.lt j hj).1))
            clear ho2 hg2 hcv
            go_wp2
            go_roundw
            case rel => exact ⟨i + 1, i + 1, out ++ [T], by go_num, by go_num, by omega, RS.out, HO2.out, HB2.out⟩
            case measure => simp [intOf]; omega
          · have q2 : ((c2.toNat : Int) == 10) = false := beq_eq_false_iff_ne.2 fun e => h10 (UInt8.toNat_inj.1 (by have : (c2.toNat : Int) = 10 := e; show c2.toNat = 10; omega))
            have RS := Lib.hid (HR.out.skip (by rw [← HL.out]; exact hlt) (fun _ e => h10 (HC2.out.trans e.2)))
            go_wp2
            go_roundw
            case rel => exact ⟨F, i + 1, out, by go_num, by go_num, by omega, RS.out, HO.out, HB.out⟩
            case measure => simp [intOf]; omega
        · have q1 : ((c1.toNat : Int) == 13) = false := beq_eq_false_iff_ne.2 fun e => h13 (UInt8.toNat_inj.1 (by have : (c1.toNat : Int) = 13 := e; show c1.toNat = 13; omega))
          have RS := Lib.hid (HR.out.skip (by rw [← HL.out]; exact hlt) (fun _ e => h13 (HC1.out.trans (by rw [HI.out]; exact e.1))))
          go_wp2
          go_roundw
          case rel => exact ⟨F, i + 1, out, by go_num, by go_num, by omega, RS.out, HO.out, HB.out⟩
          case measure => simp [intOf]; omega
      · have t2 : ((F : Int) < (i : Int)) = False := eq_false (by omega)
        have RS := Lib.hid (HR.out.skip (by rw [← HL.out]; exact hlt) (fun e => absurd e hF))
        go_wp2
        go_roundw
        case rel => exact ⟨F, i + 1, out, by go_num, by go_num, by omega, RS.out, HO.out, HB.out⟩
        case measure => simp [intOf]; omega
    · have t1 : ((i : Int) < (L : Int)) = False := eq_false (by omega)
      have RF := HR.out.fin (by rw [← HL.out]; omega)
      obtain ⟨T, hT⟩ : ∃ T, T = xs.drop F := ⟨_, rfl⟩
      rw [← hT] at RF
      have hrd := (HRD.out.below HB.out).tailAny (m := F) HL.out (by omega)
      rw [← hT] at hrd
      have HRF := Lib.hid RF
      clear hT RF
      have hfin : ∀ v2 w2, w2.ownsRow w.heap.size 9 1 v2 (out.length + 1) (out.map sv ++ [.string ⟨T.toArray⟩]) → wr.grownBy w2 (Value.slice oo out.length oc).ownBlock → Rd w2 v2 ((Cp.linesOf xs).map sv) ∧ Below w.heap.size w w2 := by
        intro v2 w2 ho2 hg2
        refine ⟨?_, HB.out.grown hg2 HB.out.size (fun j hj => (HO.out.lt j hj).1)⟩
        rw [HRF.out, List.map_append]
        exact Rd.of_own ho2
      have HF := Lib.hid hfin
      have t6 : (F : Int) ≤ (L : Int) := by omega
      clear hfin
      by_cases hcF : cap = F
      · rw [if_pos hcF, show L - F = 0 by omega, show cap - F = 0 by omega] at hrd
        have hcv := bytes_string hrd
        unfold sv at hcv
        subst hcF
        clear hrd
        go_wp2_with (at_builtin; refine append_str rfl (.tmp 42) (.tmp 47) rfl rfl HO.out rfl rfl rfl ?cb HB.out.size ?_)
        case cb => omega
        intro v2 w2 ho2 hg2
        have HX := Lib.hid (HF.out v2 w2 ho2 hg2)
        clear ho2 hg2 hcv
        go_wp2
        go_ret
        exact ⟨_, rfl, HX.out⟩
      · rw [if_neg hcF] at hrd
        have hcv := bytes_string hrd
        unfold sv at hcv
        clear hrd
        go_wp2_with (at_builtin; refine append_str rfl (.tmp 42) (.tmp 47) rfl rfl HO.out rfl rfl rfl ?cc HB.out.size ?_)
        case cc => omega
        intro v2 w2 ho2 hg2
        have HX := Lib.hid (HF.out v2 w2 ho2 hg2)
        clear ho2 hg2 hcv
        go_wp2
        go_ret
        exact ⟨_, rfl, HX.out⟩
end Go.Proofs.YtomeoploojjacaaDoor
