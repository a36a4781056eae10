/- The law VarsParts walked (layer 16). -/
import Derived.Test.YtkpahkcamgmlnaaDoorVarsLaw
import Derived.Test.YtkpahkcamgmlnaaDoorVarsPl
import Derived.Test.YtkpahkcamgmlnaaDoorStrsSame
import Derived.Test.YtkpahkcamgmlnaaDoorRefSet
import Derived.Test.YtkpahkcamgmlnaaDoorFrame
import Derived.ProofKit
import Derived.OpenShut
namespace Go.Proofs.YtkpahkcamgmlnaaDoor
open Go.RowKit

namespace Va
theorem fill_len {σ : Env} (h : ∀ p ∈ σ, p.2.length ≤ 1000) : ∀ (ps : List Pt) (o : List UInt8), fill σ ps = some o → o.length ≤ 1000 * ps.length
  | [], o, e => by cases e; exact Nat.zero_le _
  | .b c :: ps, o, e => by
    rw [fill] at e
    cases hh : fill σ ps with
    | none => rw [hh] at e; cases e
    | some q =>
      rw [hh] at e
      cases e
      have := fill_len h ps q hh
      rw [List.length_cons, List.length_cons]
      omega
  | .n x :: ps, o, e => by
    rw [fill] at e
    have hv : ∀ v, look σ x = some v → v.length ≤ 1000 := by
      have key : ∀ σ : Env, (∀ p ∈ σ, p.2.length ≤ 1000) → ∀ v, look σ x = some v → v.length ≤ 1000 := fun σ => by
        induction σ with
        | nil => intro _ v e; cases e
        | cons p σ ih =>
          obtain ⟨y, u⟩ := p
          intro hp v e
          rw [look] at e
          by_cases he : y = x
          · rw [if_pos he] at e; cases e; exact hp _ (List.mem_cons_self ..)
          · rw [if_neg he] at e; exact ih (fun q hq => hp q (List.mem_cons_of_mem _ hq)) v e
      exact key σ h
    cases hl : look σ x with
    | none => rw [hl] at e; cases e
    | some v =>
      rw [hl] at e
      have e : (fill σ ps).map (v ++ ·) = some o := e
      cases hh : fill σ ps with
      | none => rw [hh] at e; cases e
      | some q =>
        rw [hh] at e
        cases e
        have h1 := fill_len h ps q hh
        have h2 := hv v hl
        show (v ++ q).length ≤ _
        rw [List.length_append, List.length_cons]
        omega
theorem expand_len {σ : Env} (h : ∀ p ∈ σ, p.2.length ≤ 1000) (t : List UInt8) : ((expand σ t).getD []).length ≤ 1000 * t.length := by
  unfold expand
  cases hp : parts t with
  | none => exact Nat.zero_le _
  | some ps =>
    show ((fill σ ps).getD []).length ≤ _
    cases hf : fill σ ps with
    | none => exact Nat.zero_le _
    | some o =>
      have h1 := fill_len h ps o hf
      have h2 := (parts_few hp).1
      show o.length ≤ _
      exact Nat.le_trans h1 (Nat.mul_le_mul_left _ h2)
theorem names_few (t : List UInt8) : (((parts t).map names).getD []).length ≤ t.length := by
  cases hp : parts t with
  | none => exact Nat.zero_le _
  | some ps => exact Nat.le_trans (List.length_filterMap_le _ _) (parts_few hp).1
/-- What the law asks of two texts and both. -/
theorem parts_law (σ : Env) (s t : List UInt8) : ∃ (O1 O2 O4 O5 : Bool), (expand σ s).isSome = O1 ∧ (expand σ t).isSome = O2 ∧ (parts s).isSome = O4 ∧ (parts t).isSome = O5 ∧ (O1 = true → O4 = true) ∧ (O2 = true → O5 = true) ∧
    (expand σ (s ++ 32 :: t)).isSome = (O1 && O2) ∧ (parts (s ++ 32 :: t)).isSome = (O4 && O5) ∧
    (O1 = true → O2 = true → (expand σ (s ++ 32 :: t)).getD [] = (expand σ s).getD [] ++ 32 :: (expand σ t).getD []) ∧
    (O4 = true → O5 = true → ((parts (s ++ 32 :: t)).map names).getD [] = ((parts s).map names).getD [] ++ ((parts t).map names).getD []) := by
  refine ⟨_, _, _, _, rfl, rfl, rfl, rfl, ?_, ?_, ?_, ?_, ?_, ?_⟩
  · unfold expand; cases parts s <;> simp
  · unfold expand; cases parts t <;> simp
  · rw [expand_blank]; cases expand σ s <;> cases expand σ t <;> rfl
  · rw [parts_blank t s.length s (Nat.le_refl _)]; cases parts s <;> cases parts t <;> rfl
  · rw [expand_blank]; cases expand σ s <;> cases expand σ t <;> simp
  · rw [names_blank]; cases parts s <;> cases parts t <;> simp
end Va

set_option maxRecDepth 20000 in
set_option maxHeartbeats 8000000 in
theorem lawPartsV (s0 s1 s2 : ByteArray) (hs0 : s0.size ≤ maxLen) (hs1 : s1.size ≤ maxLen) (hs2 : s2.size ≤ maxLen) (w : World) :
    Calls Tryd.prog 7 #[.string s0, .string s1, .string s2] w fun e w' => e = .returned (.bool true) ∧ Below w.heap.size w w' := by
  have hsh0 := short_any s0 hs0 100 (by decide)
  have hsh1 := short_any s1 hs1 100 (by decide)
  have hsh2 := short_any s2 hs2 100 (by decide)
  obtain ⟨S, hS⟩ : ∃ S, S = s0.data.toList.take 100 := ⟨_, rfl⟩
  obtain ⟨T, hT⟩ : ∃ T, T = s1.data.toList.take 100 := ⟨_, rfl⟩
  obtain ⟨V, hV⟩ : ∃ V, V = s2.data.toList.take 100 := ⟨_, rfl⟩
  rw [← hS] at hsh0
  rw [← hT] at hsh1
  rw [← hV] at hsh2
  have hSl : S.length ≤ 100 := by rw [hS, List.length_take]; omega
  have hTl : T.length ≤ 100 := by rw [hT, List.length_take]; omega
  have hVl : V.length ≤ 100 := by rw [hV, List.length_take]; omega
  have hset : Va.set [] [97] V = ([([97], V)], 0) := by unfold Va.set; rw [if_neg (by omega)]; rfl
  obtain ⟨σ, hσ⟩ : ∃ σ : Va.Env, σ = [([97], V)] := ⟨_, rfl⟩
  rw [← hσ] at hset
  have hσv : ∀ p ∈ σ, p.2.length ≤ 1000 := by
    intro p hp
    rw [hσ, List.mem_singleton] at hp
    rw [hp]
    show V.length ≤ 1000
    omega
  obtain ⟨O1, O2, O4, O5, p1, p2, p4, p5, q1, q2, p3, p6, hz, hn⟩ := Va.parts_law σ S T
  have hXl := Va.expand_len hσv S
  have hYl := Va.expand_len hσv T
  obtain ⟨U, hU⟩ : ∃ U, U = S ++ 32 :: T := ⟨_, rfl⟩
  have hUl : U.length ≤ 201 := by rw [hU, List.length_append, List.length_cons]; omega
  obtain ⟨S1, hS1⟩ : ∃ S1, S1 = S ++ [32] := ⟨_, rfl⟩
  have hc1 : (⟨S.toArray⟩ : ByteArray) ++ ⟨#[32]⟩ = ⟨S1.toArray⟩ := by rw [hS1]; exact ByteArray.mk_append_mk S [32]
  have hc2 : (⟨S1.toArray⟩ : ByteArray) ++ ⟨T.toArray⟩ = ⟨U.toArray⟩ := by rw [hS1, hU]; exact (ByteArray.mk_append_mk (S ++ [32]) T).trans (by rw [List.append_assoc]; rfl)
  have hzS : (⟨S.toArray⟩ : ByteArray).size = S.length := rfl
  have hzT : (⟨T.toArray⟩ : ByteArray).size = T.length := rfl
  have hzS1 : (⟨S1.toArray⟩ : ByteArray).size = S.length + 1 := by show S1.length = _; rw [hS1]; simp
  have hz1 : (⟨#[32]⟩ : ByteArray).size = 1 := rfl
  have hov1 : (9223372036854775807 < S.length + 1) = False := eq_false (by omega)
  have hov2 : (9223372036854775807 < S.length + 1 + T.length) = False := eq_false (by omega)
  rw [← hU] at p3 p6 hz hn
  have EX : ∀ (A : List UInt8) (hA : A.length ≤ 10000) (w0 wr : World) (b : Nat) (x : Option Nat) (h : VN w0 wr b x σ), Calls Tryd.prog 18 #[.pointer (some ⟨b, 0, none⟩), .string ⟨A.toArray⟩] wr fun e w' => e = .returned (.tuple #[.string ⟨((Va.expand σ A).getD []).toArray⟩, .bool (Va.expand σ A).isSome]) ∧ Below wr.heap.size wr w' := fun A hA w0 wr b x h => vexpand_any h.vo A hA
  have ES := EX S (by omega)
  have ET := EX T (by omega)
  have EU := EX U (by omega)
  have NS := fun wr => vnames_any wr S (by omega)
  have NT := fun wr => vnames_any wr T (by omega)
  have NU := fun wr => vnames_any wr U (by omega)
  simp only [p1] at ES
  simp only [p2] at ET
  simp only [p3] at EU
  simp only [p4] at NS
  simp only [p5] at NT
  simp only [p6] at NU
  have hAl := Va.names_few S
  have hBl := Va.names_few T
  generalize (Va.expand σ S).getD [] = X at *
  generalize (Va.expand σ T).getD [] = Y at *
  generalize (Va.expand σ U).getD [] = Z at *
  generalize ((Va.parts S).map Va.names).getD [] = A at *
  generalize ((Va.parts T).map Va.names).getD [] = B at *
  generalize ((Va.parts U).map Va.names).getD [] = C at *
  have hXl2 : X.length ≤ 100000 := by omega
  have hYl2 : Y.length ≤ 100000 := by omega
  have hAl2 : A.length ≤ 100 := by omega
  have hBl2 : B.length ≤ 100 := by omega
  have HES := Lib.hid ES
  have HET := Lib.hid ET
  have HEU := Lib.hid EU
  have HNS := Lib.hid NS
  have HNT := Lib.hid NT
  have HNU := Lib.hid NU
  have HSH0 := Lib.hid hsh0
  have HSH1 := Lib.hid hsh1
  have HSH2 := Lib.hid hsh2
  have HSET := Lib.hid hset
  have HZ := Lib.hid hz
  have HNN := Lib.hid hn
  have HQ1 := Lib.hid q1
  have HQ2 := Lib.hid q2
  clear ES ET EU NS NT NU hsh0 hsh1 hsh2 hset hz hn q1 q2 EX hS hT hV hσ hσv hXl hYl hAl hBl hU hS1 p1 p2 p3 p4 p5 p6 hs0 hs1 hs2
  go_enter Tryd.func7, Tryd.ntmps7
  go_wp2_with fail
  refine (shown_any w).mono ?_
  rintro e wa ⟨rfl, hba⟩
  have HBA := Lib.hid hba
  clear hba
  go_wp2_with fail
  refine (HSH0.out _).mono ?_
  rintro e wb ⟨rfl, rfl⟩
  go_wp2_with fail
  refine (HSH1.out _).mono ?_
  rintro e wb ⟨rfl, rfl⟩
  go_wp2_with fail
  refine (vnew_own wa).mono ?_
  rintro e w1 ⟨b, rfl, h1, _⟩
  have H1 := Lib.hid h1
  clear h1
  go_wp2_with fail
  refine (HSH2.out _).mono ?_
  rintro e wb ⟨rfl, rfl⟩
  go_wp2_with fail
  refine (vset_own H1.out [97] V (by decide) (by omega)).mono ?_
  rintro e w2 ⟨x2, rfl, h2⟩
  rw [HSET.out] at h2 ⊢
  have H2 := Lib.hid (show VN wa w2 b x2 σ from h2)
  clear h2 H1
  go_wp2_with fail
  refine (HES.out _ _ _ _ H2.out).mono ?_
  rintro e w3 ⟨rfl, hb3⟩
  have H3 := Lib.hid (H2.out.later hb3)
  clear hb3 H2
  go_wp2_with fail
  refine (HET.out _ _ _ _ H3.out).mono ?_
  rintro e w4 ⟨rfl, hb4⟩
  have H4 := Lib.hid (H3.out.later hb4)
  clear hb4 H3
  go_wp2_with fail
  refine (HEU.out _ _ _ _ H4.out).mono ?_
  rintro e w5 ⟨rfl, hb5⟩
  have H5 := Lib.hid (HBA.out.trans ((H4.out.later hb5).below.mono HBA.out.size))
  clear hb5 H4
  go_wp2_with fail
  refine (HNS.out _).mono ?_
  rintro e w6 ⟨va, rfl, hva, hb6⟩
  obtain ⟨aa, ac, rfl, _⟩ := hva.formV
  have H6 := Lib.hid (H5.out.trans (hb6.mono H5.out.size))
  have HVA := Lib.hid hva
  clear hb6 hva H5
  go_wp2_with fail
  refine (HNT.out _).mono ?_
  rintro e w7 ⟨vb, rfl, hvb, hb7⟩
  obtain ⟨bb, bc, rfl, _⟩ := hvb.formV
  have H7 := Lib.hid (H6.out.trans (hb7.mono H6.out.size))
  have HVA7 := Lib.hid (HVA.out.below hb7)
  have HVB := Lib.hid hvb
  clear hb7 hvb H6 HVA
  go_wp2_with fail
  refine (HNU.out _).mono ?_
  rintro e w8 ⟨vc, rfl, hvc, hb8⟩
  obtain ⟨cc, cp, rfl, _⟩ := hvc.formV
  have H8 := Lib.hid (H7.out.trans (hb8.mono H7.out.size))
  have HVA8 := Lib.hid (HVA7.out.below hb8)
  have HVB8 := Lib.hid (HVB.out.below hb8)
  have HVC := Lib.hid hvc
  clear hb8 hvc H7 HVA7 HVB
  have hzX : (⟨X.toArray⟩ : ByteArray).size = X.length := rfl
  have hzY : (⟨Y.toArray⟩ : ByteArray).size = Y.length := rfl
  obtain ⟨X1, hX1⟩ : ∃ X1, X1 = X ++ [32] := ⟨_, rfl⟩
  have hd1 : (⟨X.toArray⟩ : ByteArray) ++ ⟨#[32]⟩ = ⟨X1.toArray⟩ := by rw [hX1]; exact ByteArray.mk_append_mk X [32]
  have hzX1 : (⟨X1.toArray⟩ : ByteArray).size = X.length + 1 := by show X1.length = _; rw [hX1]; simp
  have hov3 : (9223372036854775807 < X.length + 1) = False := eq_false (by omega)
  have hov4 : (9223372036854775807 < X.length + 1 + Y.length) = False := eq_false (by omega)
  have hd2 : O1 = true → O2 = true → (⟨X1.toArray⟩ : ByteArray) ++ ⟨Y.toArray⟩ = ⟨Z.toArray⟩ := fun h1 h2 => by
    rw [HZ.out h1 h2, hX1]
    exact (ByteArray.mk_append_mk (X ++ [32]) Y).trans (by rw [List.append_assoc]; rfl)
  have heq : ((⟨Z.toArray⟩ : ByteArray).toList == (⟨Z.toArray⟩ : ByteArray).toList) = true := beq_self_eq_true _
  have HD2 := Lib.hid hd2
  clear hd2 hX1
  have hkey : ∀ w9, Below w8.heap.size w8 w9 → ∀ v9, Rd w9 v9 ((A ++ B).map sv) → Calls Tryd.prog 13 #[.slice cc C.length cp, v9] w9 fun e w' => (∃ E : Bool, (O4 = true → O5 = true → E = true) ∧ e = .returned (.bool E)) ∧ Below w.heap.size w w' := fun w9 h9 v9 hv9 => by
    have hC := HVC.out.below h9
    rw [List.length_map] at hC
    refine (same_any C (A ++ B) _ _ w9 hC hv9).mono ?_
    rintro e w' ⟨rfl, hb⟩
    exact ⟨⟨_, fun h4 h5 => by rw [HNN.out h4 h5]; exact beq_self_eq_true _, rfl⟩, H8.out.trans ((h9.trans (hb.mono h9.size)).mono H8.out.size)⟩
  have HKEY := Lib.hid hkey
  clear hkey
  cases O1 <;> cases O2 <;> cases O4 <;> cases O5 <;> first | exact absurd (HQ1.out rfl) (by decide) | exact absurd (HQ2.out rfl) (by decide) | skip
  all_goals
    try have hcat := HD2.out rfl rfl
    go_wp2_with (at_builtin; refine append_strs rfl (.tmp 99) (.tmp 100) rfl rfl (own_empty w8 w8.heap.size (Nat.le_refl _)) (A.map sv) (by have := HVA8.out.below ((Below.refl w8.heap.size w8).alloc (Nat.le_refl _) (.cells #[] 9)); rw [List.length_map] at this; exact this) (sv_cell _) ?ca ?cb ?_)
    case ca => rw [List.length_map]; omega
    case cb => simp
    intro v9 w9 ho9 hg9
    have hb9 : Below w8.heap.size w8 w9 := ((Below.refl _ _).alloc (Nat.le_refl _) _).grown hg9 (by simp) (fun k hk => by cases hk; exact Nat.le_refl _)
    have HO9 := Lib.hid ho9
    have HB9 := Lib.hid hb9
    clear ho9 hg9 hb9
    go_wp2_with (at_builtin; refine append_strs rfl (.tmp 101) (.tmp 102) rfl rfl HO9.out (B.map sv) (by have := HVB8.out.below HB9.out; rw [List.length_map] at this; exact this) (sv_cell _) ?cc HB9.out.size ?_)
    case cc => rw [List.length_map]; omega
    intro v10 w10 ho10 hg10
    have hb10 : Below w8.heap.size w8 w10 := HB9.out.grown hg10 HB9.out.size (fun k hk => (HO9.out.lt k hk).1)
    have HR10 := Lib.hid (show Rd w10 v10 ((A ++ B).map sv) from by rw [List.map_append]; exact Rd.of_own ho10)
    have HB10 := Lib.hid hb10
    clear ho10 hg10 hb10
    go_wp2_with fail
    refine (HKEY.out w10 HB10.out v10 HR10.out).mono ?_
    rintro e w11 ⟨⟨E, hE, rfl⟩, hb11⟩
    have HB11 := Lib.hid hb11
    clear hb11
    try (have hE2 : E = true := (by simpa using hE); subst hE2)
    clear hE
    go_wp2
    go_ret
    exact ⟨rfl, HB11.out⟩
end Go.Proofs.YtkpahkcamgmlnaaDoor
