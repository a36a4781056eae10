/- The law VarsPlain walked (layer 16). -/
import Derived.Test.YtkpahkcamgmlnaaDoorVarsLaw
import Derived.Test.YtkpahkcamgmlnaaDoorFrame
import Derived.ProofKit
import Derived.OpenShut
namespace Go.Proofs.YtkpahkcamgmlnaaDoor
open Go.RowKit

namespace Va
def bare (t : List UInt8) : List UInt8 := t.filter (fun c => c != 36)
theorem bare_no (t : List UInt8) : ∀ c ∈ bare t, c ≠ 36 := fun c hc => by
  have := (List.mem_filter.1 hc).2
  simpa using this
theorem expand_dbl (σ : Env) (t : List UInt8) : expand σ (t.flatMap dbl) = some t := by
  unfold expand
  rw [parts_dbl]
  show fill σ (t.map Pt.b) = some t
  have f := fill_bytes σ t []
  simpa [fill] using f
theorem names_dbl (t : List UInt8) : (parts (t.flatMap dbl)).map names = some [] := by
  rw [parts_dbl]
  show some (names (t.map Pt.b)) = some []
  congr 1
  induction t with
  | nil => rfl
  | cons c t ih => exact ih
theorem parts_tail (t : List UInt8) : parts (bare t ++ [36]) = none := by
  rw [parts_bare _ _ (bare_no t), parts_end]; rfl
theorem dbl_snoc (t : List UInt8) (c : UInt8) : (t ++ [c]).flatMap dbl = t.flatMap dbl ++ dbl c := by simp
theorem bare_snoc (t : List UInt8) (c : UInt8) : bare (t ++ [c]) = bare t ++ if c = 36 then [] else [c] := by
  unfold bare
  rw [List.filter_append]
  by_cases h : c = 36
  · subst h; rfl
  · rw [if_neg h]; simp [h]
theorem dbl_len (t : List UInt8) : (t.flatMap dbl).length ≤ 2 * t.length := by
  induction t with
  | nil => exact Nat.le_refl _
  | cons c t ih =>
    rw [List.flatMap_cons, List.length_append, List.length_cons]
    have : (dbl c).length ≤ 2 := by unfold dbl; split <;> simp
    omega
theorem bare_len (t : List UInt8) : (bare t).length ≤ t.length := List.length_filter_le _ _
end Va
theorem take_snoc_at {l : List UInt8} {k : Nat} (h : k < l.length) : l.take (k + 1) = l.take k ++ [l.getD k 0] := by
  rw [List.take_succ_eq_append_getElem h, List.getD_eq_getElem?_getD, List.getElem?_eq_getElem h]
  rfl
theorem ext_one (l : List UInt8) (k : Nat) (h : k < l.length) : (⟨l.toArray⟩ : ByteArray).extract k (k + 1) = ⟨#[l.getD k 0]⟩ := by
  rw [ba_extract, List.drop_take, List.drop_eq_getElem_cons h, show k + 1 - k = 1 by omega, List.getD_eq_getElem?_getD, List.getElem?_eq_getElem h]
  rfl

set_option maxRecDepth 20000 in
set_option maxHeartbeats 4000000 in
theorem lawPlainV (s : ByteArray) (hs : s.size ≤ maxLen) (w : World) :
    Calls Tryd.prog 4 #[.string s] w fun e w' => e = .returned (.bool true) ∧ Below w.heap.size w w' := by
  have hsh := short_any s hs 300 (by decide)
  obtain ⟨t, ht⟩ : ∃ t, t = s.data.toList.take 300 := ⟨_, rfl⟩
  rw [← ht] at hsh
  obtain ⟨L, hL⟩ : ∃ L, L = t.length := ⟨_, rfl⟩
  have hL300 : L ≤ 300 := by rw [hL, ht, List.length_take]; omega
  have hz : (⟨t.toArray⟩ : ByteArray).size = L := hL.symm
  have HL := Lib.hid hL
  have HSH := Lib.hid hsh
  clear hsh ht hL hs
  go_enter Tryd.func4, Tryd.ntmps4
  go_wp2_with fail
  refine (shown_any w).mono ?_
  rintro e wa ⟨rfl, hba⟩
  have HBA := Lib.hid hba
  clear hba
  go_wp2_with fail
  refine (HSH.out _).mono ?_
  rintro e wb ⟨rfl, rfl⟩
  go_wp2_with fail
  refine (vnew_own wa).mono ?_
  rintro e w1 ⟨b, rfl, h1, _⟩
  have H1 := Lib.hid h1
  clear h1
  go_wp2
  go_loopw [5, 6, 7] (fun s5 s6 s7 wr => ∃ (k : Nat) (X Y : List UInt8), s5 = .string ⟨X.toArray⟩ ∧ s6 = .string ⟨Y.toArray⟩ ∧ s7 = .int .i64 k ∧ k ≤ L ∧ X.length ≤ 2 * k ∧ Y.length ≤ k ∧ wr = w1 ∧ Hid (X = (t.take k).flatMap Va.dbl ∧ Y = Va.bare (t.take k))) (fun _ _ s7 _ => L - (intOf s7).toNat)
  case atStart => exact ⟨0, [], [], rfl, rfl, rfl, Nat.zero_le _, Nat.zero_le _, Nat.zero_le _, rfl, Lib.hid ⟨rfl, rfl⟩⟩
  case round =>
    obtain ⟨k, X, Y, rfl, rfl, rfl, hk, hX, hY, rfl, HXY⟩ := hrel
    have hzX : (⟨X.toArray⟩ : ByteArray).size = X.length := rfl
    have hzY : (⟨Y.toArray⟩ : ByteArray).size = Y.length := rfl
    by_cases hlt : k < L
    · have hkt : k < t.length := by rw [← HL.out]; exact hlt
      have hx1 := ext_one t k hkt
      have hck : ∀ h, (⟨t.toArray⟩ : ByteArray)[k]'h = t.getD k 0 := fun h => byte_at _ _ _
      have hsn := take_snoc_at hkt
      generalize t.getD k 0 = c at hx1 hck hsn
      have hki : ((k : Int) < (L : Int)) := by omega
      have hk1 : (k : Int) + 1 ≤ (L : Int) := by omega
      have hcat : (⟨X.toArray⟩ : ByteArray) ++ ⟨#[c]⟩ = ⟨(X ++ [c]).toArray⟩ := ByteArray.mk_append_mk X [c]
      have hcatY : (⟨Y.toArray⟩ : ByteArray) ++ ⟨#[c]⟩ = ⟨(Y ++ [c]).toArray⟩ := ByteArray.mk_append_mk Y [c]
      have hz1 : (⟨#[c]⟩ : ByteArray).size = 1 := rfl
      have hov : (9223372036854775807 < X.length + 1) = False := eq_false (by omega)
      have hovY : (9223372036854775807 < Y.length + 1) = False := eq_false (by omega)
      have HSN := Lib.hid hsn
      clear hsn hkt
      by_cases hc : c = 36
      · subst hc
        have h36 : ((36 : UInt8).toNat : Int) = 36 := rfl
        have hz2 : (⟨(X ++ [36]).toArray⟩ : ByteArray).size = X.length + 1 := by show (X ++ [36]).toArray.size = _; simp
        have hcat2 : (⟨(X ++ [36]).toArray⟩ : ByteArray) ++ ⟨#[36]⟩ = ⟨((X ++ [36]) ++ [36]).toArray⟩ := ByteArray.mk_append_mk (X ++ [36]) [36]
        have hov2 : (9223372036854775807 < X.length + 1 + 1) = False := eq_false (by omega)
        obtain ⟨X1, hX1⟩ : ∃ X1, X1 = X ++ [36] := ⟨_, rfl⟩
        rw [← hX1] at hcat hz2 hcat2
        have HX1 := Lib.hid hX1
        have HN : Hid (X1 ++ [36] = (t.take (k + 1)).flatMap Va.dbl ∧ Y = Va.bare (t.take (k + 1))) := Lib.hid ⟨by
          rw [HSN.out, Va.dbl_snoc, ← HXY.out.1, hX1, List.append_assoc]; rfl, by rw [HSN.out, Va.bare_snoc, if_pos rfl, List.append_nil]; exact HXY.out.2⟩
        clear hX1
        go_wp2
        go_roundw
        case rel => exact ⟨k + 1, X1 ++ [36], Y, by first | rfl | simp only [hcat2], rfl, by go_num, by omega, by rw [HX1.out]; simp; omega, by omega, trivial, HN⟩
        case measure => simp [intOf]; omega
      · have hc1 : ((c.toNat : Int) == 36) = false := beq_eq_false_iff_ne.2 (fun e => hc (UInt8.toNat_inj.1 (by show c.toNat = 36; omega)))
        have hc2 : ((c.toNat : Int) = 36) = False := eq_false (fun e => hc (UInt8.toNat_inj.1 (by show c.toNat = 36; omega)))
        have HN : Hid (X ++ [c] = (t.take (k + 1)).flatMap Va.dbl ∧ Y ++ [c] = Va.bare (t.take (k + 1))) := Lib.hid ⟨by
          rw [HSN.out, Va.dbl_snoc, ← HXY.out.1]; unfold Va.dbl; rw [if_neg hc], by rw [HSN.out, Va.bare_snoc, if_neg hc, ← HXY.out.2]⟩
        clear hc
        go_wp2
        go_roundw
        case rel => exact ⟨k + 1, X ++ [c], Y ++ [c], by first | rfl | simp only [hcat], by first | rfl | simp only [hcatY], by go_num, by omega, by simp; omega, by simp; omega, trivial, HN⟩
        case measure => simp [intOf]; omega
    · obtain rfl : k = L := by omega
      have hXY := HXY.out
      rw [List.take_of_length_le (by rw [← HL.out]; exact Nat.le_refl _)] at hXY
      have hpt : Va.parts (Y ++ [36]) = none := by rw [hXY.2]; exact Va.parts_tail t
      have hex : Va.expand [] X = some t := by rw [hXY.1]; exact Va.expand_dbl _ _
      have hey : Va.expand [] Y = some Y := Va.expand_bare _ (by rw [hXY.2]; exact Va.bare_no t)
      have hnx : (Va.parts X).map Va.names = some [] := by rw [hXY.1]; exact Va.names_dbl t
      have hpx : (Va.parts X).isSome = true := by
        cases h : Va.parts X with
        | none => rw [h] at hnx; cases hnx
        | some p => rfl
      have hez : Va.expand [] (Y ++ [36]) = none := by unfold Va.expand; rw [hpt]; rfl
      have e1 : ∀ w', Below wr.heap.size wr w' → Calls Tryd.prog 18 #[.pointer (some ⟨b, 0, none⟩), .string ⟨X.toArray⟩] w' fun e w'' => e = .returned (.tuple #[.string ⟨t.toArray⟩, .bool true]) ∧ Below w'.heap.size w' w'' := fun w' h => by
        have h9 := vexpand_any (H1.out.later h).vo X (by omega)
        rw [hex] at h9
        exact h9
      have e2 : ∀ w', Below wr.heap.size wr w' → Calls Tryd.prog 18 #[.pointer (some ⟨b, 0, none⟩), .string ⟨Y.toArray⟩] w' fun e w'' => e = .returned (.tuple #[.string ⟨Y.toArray⟩, .bool true]) ∧ Below w'.heap.size w' w'' := fun w' h => by
        have h9 := vexpand_any (H1.out.later h).vo Y (by omega)
        rw [hey] at h9
        exact h9
      have e5 : ∀ w', Below wr.heap.size wr w' → Calls Tryd.prog 18 #[.pointer (some ⟨b, 0, none⟩), .string ⟨(Y ++ [36]).toArray⟩] w' fun e w'' => e = .returned (.tuple #[.string ⟨#[]⟩, .bool false]) ∧ Below w'.heap.size w' w'' := fun w' h => by
        have h9 := vexpand_any (H1.out.later h).vo (Y ++ [36]) (by simp; omega)
        rw [hez] at h9
        exact h9
      have e3 : ∀ w', Calls Tryd.prog 11 #[.string ⟨X.toArray⟩] w' fun e w'' => ∃ v, e = .returned (.tuple #[v, .bool true]) ∧ Rd w'' v [] ∧ Below w'.heap.size w' w'' := fun w' => by
        have h9 := vnames_any w' X (by omega)
        rw [hnx, hpx] at h9
        exact h9
      have e4 : ∀ w', Calls Tryd.prog 11 #[.string ⟨(Y ++ [36]).toArray⟩] w' fun e w'' => ∃ v, e = .returned (.tuple #[v, .bool false]) ∧ Rd w'' v [] ∧ Below w'.heap.size w' w'' := fun w' => by
        have h9 := vnames_any w' (Y ++ [36]) (by simp; omega)
        rw [hpt] at h9
        exact h9
      have E1 := Lib.hid e1
      have E2 := Lib.hid e2
      have E3 := Lib.hid e3
      have E4 := Lib.hid e4
      have E5 := Lib.hid e5
      have hcat : (⟨Y.toArray⟩ : ByteArray) ++ ⟨#[36]⟩ = ⟨(Y ++ [36]).toArray⟩ := ByteArray.mk_append_mk Y [36]
      have hov : (9223372036854775807 < Y.length + 1) = False := eq_false (by omega)
      have hz1 : (⟨#[36]⟩ : ByteArray).size = 1 := rfl
      have ht1 : ((⟨t.toArray⟩ : ByteArray).toList == (⟨t.toArray⟩ : ByteArray).toList) = true := beq_self_eq_true _
      have ht2 : ((⟨Y.toArray⟩ : ByteArray).toList == (⟨Y.toArray⟩ : ByteArray).toList) = true := beq_self_eq_true _
      obtain ⟨Z, hZ⟩ : ∃ Z, Z = Y ++ [36] := ⟨_, rfl⟩
      rw [← hZ] at E4 E5 hcat
      clear hXY e1 e2 e3 e4 e5 hpt hex hey hnx hpx hez hZ HXY hlt
      go_wp2_with fail
      refine (E1.out _ (Below.refl _ _)).mono ?_
      rintro e w2 ⟨rfl, hb2⟩
      have HB2 := Lib.hid hb2
      clear hb2
      go_wp2_with fail
      refine (E2.out _ HB2.out).mono ?_
      rintro e w3 ⟨rfl, hb3⟩
      have HB3 := Lib.hid (HB2.out.trans (hb3.mono HB2.out.size))
      clear hb3
      go_wp2_with fail
      refine (E3.out _).mono ?_
      rintro e w4 ⟨v, rfl, hv, hb4⟩
      obtain ⟨ao, cap, rfl, _⟩ := hv.formV
      have HB4 := Lib.hid (HB3.out.trans (hb4.mono HB3.out.size))
      clear hb4 hv
      go_wp2_with fail
      refine (E4.out _).mono ?_
      rintro e w5 ⟨v5, rfl, _, hb5⟩
      have HB5 := Lib.hid (HB4.out.trans (hb5.mono HB4.out.size))
      clear hb5
      go_wp2_with fail
      refine (E5.out _ HB5.out).mono ?_
      rintro e w6 ⟨rfl, hb6⟩
      have HB6 := Lib.hid (HBA.out.trans ((H1.out.below.trans ((HB5.out.trans (hb6.mono HB5.out.size)).mono H1.out.below.size)).mono HBA.out.size))
      clear hb6
      go_wp2
      go_ret
      exact ⟨rfl, HB6.out⟩
end Go.Proofs.YtkpahkcamgmlnaaDoor
