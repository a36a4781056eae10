/- The law LexJoins walked (layer 14). -/
import Derived.Test.YtdeocejjneghjaaDoorLawPassedX
import Derived.Deep.CutRange
namespace Go.Proofs.YtdeocejjneghjaaDoor
open Go.RowKit

namespace Lx
theorem go_big0 (n : Nat) : ∀ (f k : Nat) (l : List UInt8) {p : Nat}, go n f k l = .error (p, 4) → p = 0
  | 0, k, l, p, h => by cases h
  | f + 1, k, [], p, h => by cases h
  | f + 1, k, c :: l, p, h => by
    rw [go] at h
    cases hx : next c l with
    | error x => rw [hx] at h; cases h; exact absurd rfl (next_err hx)
    | ok x =>
      obtain ⟨kd, t, r⟩ := x
      rw [hx] at h
      dsimp only at h
      split at h
      · cases h; rfl
      · split at h
        · next hg => cases h; exact go_big0 n f (k + 1) _ hg
        · cases h
theorem all_big0 {l : List UInt8} {p : Nat} (h : all l = .error (p, 4)) : p = 0 := by
  unfold all at h
  split at h
  · cases h; rfl
  · exact go_big0 _ _ _ _ h
end Lx
theorem AllP.any {r : Except (Nat × Nat) (List Lx.Tok)} {w w' : World} {e : Ending} (h : AllP r w e w') : Below w.heap.size w w' ∧ ∃ (v : Value) (p f : Nat), e = .returned (.tuple #[v, .int .i64 (p : Int), .int .i64 (f : Int)]) := by
  obtain ⟨h1, h2⟩ := h
  cases r with
  | error x => obtain ⟨p, f⟩ := x; exact ⟨h1, _, p, f, h2⟩
  | ok ts => obtain ⟨v, h2, _⟩ := h2; exact ⟨h1, v, 0, 0, h2⟩

set_option maxRecDepth 20000 in
set_option maxHeartbeats 40000000 in
theorem lawJoinsX (s0 t0 : ByteArray) (hs0 : s0.size ≤ maxLen) (ht0 : t0.size ≤ maxLen) (w : World) :
    Calls Tryd.prog 4 #[.string s0, .string t0] w fun e w' => e = .returned (.bool true) ∧ Below w.heap.size w w' := by
  obtain ⟨S, hSl, hx1, hx2⟩ := cut_to s0 900
  obtain ⟨T, hTl, hy1, hy2⟩ := cut_to t0 900
  obtain ⟨S0, hS0⟩ : ∃ S, s0.size = S := ⟨_, rfl⟩
  obtain ⟨T0, hT0⟩ : ∃ S, t0.size = S := ⟨_, rfl⟩
  rw [hS0] at hs0 hx1 hx2
  rw [hT0] at ht0 hy1 hy2
  unfold maxLen at hs0 ht0
  have hcaseS : (900 < S0 ∧ s0.extract 0 900 = ⟨S.toArray⟩) ∨ (¬ 900 < S0 ∧ s0 = ⟨S.toArray⟩) := by
    by_cases h : 900 < S0
    · exact .inl ⟨h, hx1 h⟩
    · exact .inr ⟨h, hx2 h⟩
  have hcaseT : (900 < T0 ∧ t0.extract 0 900 = ⟨T.toArray⟩) ∨ (¬ 900 < T0 ∧ t0 = ⟨T.toArray⟩) := by
    by_cases h : 900 < T0
    · exact .inl ⟨h, hy1 h⟩
    · exact .inr ⟨h, hy2 h⟩
  obtain ⟨L, hL⟩ : ∃ L, S.length = L := ⟨_, rfl⟩
  obtain ⟨M, hM⟩ : ∃ M, T.length = M := ⟨_, rfl⟩
  have hzS : (⟨S.toArray⟩ : ByteArray).size = L := hL
  have hzT : (⟨T.toArray⟩ : ByteArray).size = M := hM
  rw [hL] at hSl
  rw [hM] at hTl
  have AS := Lib.hid (fun wx => all_any S (by rw [hL]; omega) wx)
  have AT := Lib.hid (fun wx => all_any T (by rw [hM]; omega) wx)
  obtain ⟨Z, hZ, hZl, hZ3⟩ := ba_snoc S 10
  obtain ⟨V, hV⟩ : ∃ V : List UInt8, (⟨Z.toArray⟩ : ByteArray) ++ ⟨T.toArray⟩ = ⟨V.toArray⟩ := ⟨_, ByteArray.mk_append_mk Z T⟩
  rw [hL] at hZl
  have hzZ : (⟨Z.toArray⟩ : ByteArray).size = L + 1 := hZl
  have hz1 : (⟨#[10]⟩ : ByteArray).size = 1 := rfl
  have hV2 : V = S ++ 10 :: T := by
    refine ba_inj (hV.symm.trans ?_)
    rw [hZ3]
    exact (ByteArray.mk_append_mk _ _).trans (by simp)
  have hVl : (S ++ 10 :: T).length ≤ 2000 := by rw [List.length_append, List.length_cons, hL, hM]; omega
  have AV := Lib.hid (fun wx => all_any V (by rw [hV2]; omega) wx)
  have hsm1 : (9223372036854775807 < L + 1) = False := eq_false (by omega)
  have hsm2 : (9223372036854775807 < L + 1 + M) = False := eq_false (by omega)
  have HL := Lib.hid hL
  have HM := Lib.hid hM
  have HV2 := Lib.hid hV2
  have HVL := Lib.hid hVl
  have HSB := Lib.hid (show ∀ x : Nat × Nat, Lx.all S = .error x → Lx.all V = .error x from fun _ h => by rw [hV2]; exact Lx.all_bad hVl h)
  have HBO := Lib.hid (show ∀ a b : List Lx.Tok, Lx.all S = .ok a → Lx.all T = .ok b → Lx.all V = if 400 < a.length + b.length - 2 then .error (0, 4) else .ok (a.dropLast ++ b.map (Lx.shift (L + 1))) from fun _ _ h h2 => by rw [hV2, Lx.all_both hVl h h2, hL])
  have HSE := Lib.hid (show ∀ (a : List Lx.Tok) (q f : Nat), Lx.all S = .ok a → Lx.all T = .error (q, f) → Lx.all V = .error (if f = 4 then q else q + (L + 1), f) ∨ (Lx.all V = .error (0, 4) ∧ 1 < a.length) from fun _ _ _ h h2 => by rw [hV2, ← hL]; exact Lx.all_second hVl h h2)
  clear hx1 hx2 hy1 hy2 hL hM hZ3 hV2 hVl hZl HV2 HVL
  go_enter Tryd.func4, Tryd.ntmps4
  go_wp2_with fail
  refine (shown_any w).mono ?_
  rintro e wa ⟨rfl, hba⟩
  have HBA := Lib.hid hba
  clear hba
  rcases hcaseS with ⟨hbS, hxS⟩ | ⟨hbS, hxS⟩
  · rcases hcaseT with ⟨hbT, hxT⟩ | ⟨hbT, hxT⟩
    · have hbS1 : ((900 : Int) < (S0 : Int)) = True := eq_true (by omega)
      have hbS2 : (900 : Int) ≤ (S0 : Int) := by omega
      have hbT1 : ((900 : Int) < (T0 : Int)) = True := eq_true (by omega)
      have hbT2 : (900 : Int) ≤ (T0 : Int) := by omega
      clear hbS hbT
      go_upto_region 6 with fail
      try rw [hxS]
      clear hxS hbS2
      try rw [hxT]
      clear hxT hbT2
      clear hbS1 hbT1

      cases hA : Lx.all S with
      | error x =>
        obtain ⟨p, e⟩ := x
        obtain ⟨he0, hpl⟩ := Lx.all_err hA
        rw [HL.out] at hpl
        rw [HSB.out _ hA] at AV
        rw [hA] at AS
        have g1 : ((e : Int) == 0) = false := beq_eq_false_iff_ne.2 (by omega)
        have g2 : ((e : Int) = 0) = False := eq_false (by omega)
        have g5 : (e = 0) = False := eq_false he0
        clear hA he0 HSB HBO HSE
        go_wp2_with fail
        refine (AS.out _).mono ?_
        rintro e w1 ⟨hb1, rfl⟩
        have HB1 := Lib.hid (HBA.out.trans (hb1.mono HBA.out.size))
        go_wp2_with fail
        refine (AT.out _).mono ?_
        rintro e w2 h2
        obtain ⟨hb2, v, q, f, rfl⟩ := h2.any
        have HB2 := Lib.hid (HB1.out.trans (hb2.mono HB1.out.size))
        clear h2
        go_wp2_with fail
        refine (AV.out _).mono ?_
        rintro e w3 ⟨hb3, rfl⟩
        have HB3 := Lib.hid (HB2.out.trans (hb3.mono HB2.out.size))
        clear hb1 hb2 hb3 HB1 HB2 AS AT AV
        go_wp2
        go_ret
        exact ⟨rfl, HB3.out⟩
      | ok a =>
        have hafew := Lx.all_few hA
        have hane := Lx.all_ne hA
        rw [hA] at AS
        obtain ⟨na, hna⟩ : ∃ n, a.length = n := ⟨_, rfl⟩
        rw [hna] at hafew hane
        have HNA := Lib.hid hna
        clear hna
        cases hB : Lx.all T with
        | error x =>
          obtain ⟨q, f⟩ := x
          obtain ⟨hf0, hql⟩ := Lx.all_err hB
          rw [HM.out] at hql
          rw [hB] at AT
          have hse := HSE.out _ _ _ hA hB
          have hq0 := fun h : f = 4 => Lx.all_big0 (l := T) (p := q) (by rw [hB, h])
          have g1 : ((f : Int) == 0) = false := beq_eq_false_iff_ne.2 (by omega)
          have g2 : ((f : Int) = 0) = False := eq_false (by omega)
          have g5 : (f = 0) = False := eq_false hf0
          clear hA hB hf0 HSB HBO HSE
          by_cases h4 : f = 4
          · have hAV : Lx.all V = .error (0, 4) := by
              rcases hse with h | h
              · rw [h, if_pos h4, hq0 h4, h4]
              · exact h.1
            have hqq := hq0 h4
            subst h4
            subst hqq
            rw [hAV] at AV
            have g7 : ((0 : Int) == (L : Int) + 1) = false := beq_eq_false_iff_ne.2 (by omega)
            have g8 : ((0 : Int) = (L : Int) + 1) = False := eq_false (by omega)
            clear hse hq0 hAV g1 g2 g5
            go_wp2_with fail
            refine (AS.out _).mono ?_
            rintro e w1 ⟨hb1, va, rfl, hva⟩
            have HB1 := Lib.hid (HBA.out.trans (hb1.mono HBA.out.size))
            obtain ⟨ao, acap, rfl, _⟩ := hva.form
            rw [HNA.out]
            clear hva
            go_wp2_with fail
            refine (AT.out _).mono ?_
            rintro e w2 ⟨hb2, rfl⟩
            have HB2 := Lib.hid (HB1.out.trans (hb2.mono HB1.out.size))
            go_wp2_with fail
            refine (AV.out _).mono ?_
            rintro e w3 ⟨hb3, rfl⟩
            have HB3 := Lib.hid (HB2.out.trans (hb3.mono HB2.out.size))
            clear hb1 hb2 hb3 HB1 HB2 AS AT AV
            go_wp2
            go_ret
            exact ⟨rfl, HB3.out⟩
          · have g3 : ((f : Int) == 4) = false := beq_eq_false_iff_ne.2 (by omega)
            have g4 : ((f : Int) = 4) = False := eq_false (by omega)
            have g6 : (f = 4) = False := eq_false h4
            have g9 : ((4 : Int) == (f : Int)) = false := beq_eq_false_iff_ne.2 (by omega)
            have g10 : ((4 : Int) = (f : Int)) = False := eq_false (by omega)
            have g11 : (4 = f) = False := eq_false (by omega)
            clear hq0
            rcases hse with hse | ⟨hse, h1a⟩
            · rw [if_neg h4] at hse
              rw [hse] at AV
              clear hse h4
              go_wp2_with fail
              refine (AS.out _).mono ?_
              rintro e w1 ⟨hb1, va, rfl, hva⟩
              have HB1 := Lib.hid (HBA.out.trans (hb1.mono HBA.out.size))
              obtain ⟨ao, acap, rfl, _⟩ := hva.form
              rw [HNA.out]
              clear hva
              go_wp2_with fail
              refine (AT.out _).mono ?_
              rintro e w2 ⟨hb2, rfl⟩
              have HB2 := Lib.hid (HB1.out.trans (hb2.mono HB1.out.size))
              go_wp2_with fail
              refine (AV.out _).mono ?_
              rintro e w3 ⟨hb3, rfl⟩
              have HB3 := Lib.hid (HB2.out.trans (hb3.mono HB2.out.size))
              clear hb1 hb2 hb3 HB1 HB2 AS AT AV
              rw [show ((q + (L + 1) : Nat) : Int) = (q : Int) + (L : Int) + 1 by omega]
              go_wp2
              go_ret
              exact ⟨rfl, HB3.out⟩
            · rw [hse] at AV
              rw [HNA.out] at h1a
              have g12 : ((1 : Int) < (na : Int)) = True := eq_true (by omega)
              clear hse h4 h1a
              go_wp2_with fail
              refine (AS.out _).mono ?_
              rintro e w1 ⟨hb1, va, rfl, hva⟩
              have HB1 := Lib.hid (HBA.out.trans (hb1.mono HBA.out.size))
              obtain ⟨ao, acap, rfl, _⟩ := hva.form
              rw [HNA.out]
              clear hva
              go_wp2_with fail
              refine (AT.out _).mono ?_
              rintro e w2 ⟨hb2, rfl⟩
              have HB2 := Lib.hid (HB1.out.trans (hb2.mono HB1.out.size))
              go_wp2_with fail
              refine (AV.out _).mono ?_
              rintro e w3 ⟨hb3, rfl⟩
              have HB3 := Lib.hid (HB2.out.trans (hb3.mono HB2.out.size))
              clear hb1 hb2 hb3 HB1 HB2 AS AT AV
              go_wp2
              go_ret
              exact ⟨rfl, HB3.out⟩
        | ok b =>
          have hbfew := Lx.all_few hB
          have hbne := Lx.all_ne hB
          rw [hB] at AT
          obtain ⟨nb, hnb⟩ : ∃ n, b.length = n := ⟨_, rfl⟩
          rw [hnb] at hbfew hbne
          have hbo := HBO.out _ _ hA hB
          rw [HNA.out, hnb] at hbo
          have HNB := Lib.hid hnb
          have HPA := Lib.hid (Lx.all_place hA)
          have HPB := Lib.hid (Lx.all_place hB)
          rw [HL.out] at HPA
          rw [HM.out] at HPB
          clear hA hB hnb HSB HBO HSE
          have hnab : ((na : Int) + (nb : Int)) = ((na + nb : Nat) : Int) := by omega
          clear hnab
          by_cases h400 : 400 < na + nb - 2
          · rw [if_pos h400] at hbo
            rw [hbo] at AV
            have g1 : ((400 : Int) < (na : Int) + (nb : Int) - 2) = True := eq_true (by omega)
            clear hbo h400
            go_wp2_with fail
            refine (AS.out _).mono ?_
            rintro e w1 ⟨hb1, va, rfl, hva⟩
            have HB1 := Lib.hid (HBA.out.trans (hb1.mono HBA.out.size))
            obtain ⟨ao, acap, rfl, _⟩ := hva.form
            rw [HNA.out]
            clear hva
            go_wp2_with fail
            refine (AT.out _).mono ?_
            rintro e w2 ⟨hb2, vb, rfl, hvb⟩
            have HB2 := Lib.hid (HB1.out.trans (hb2.mono HB1.out.size))
            obtain ⟨bo, bcap, rfl, _⟩ := hvb.form
            rw [HNB.out]
            clear hvb
            go_wp2_with fail
            refine (AV.out _).mono ?_
            rintro e w3 ⟨hb3, rfl⟩
            have HB3 := Lib.hid (HB2.out.trans (hb3.mono HB2.out.size))
            clear hb1 hb2 hb3 HB1 HB2 AS AT AV
            go_wp2
            go_ret
            exact ⟨rfl, HB3.out⟩
          · rw [if_neg h400] at hbo
            rw [hbo] at AV
            obtain ⟨nc, hnc⟩ : ∃ n, na + nb - 1 = n := ⟨_, rfl⟩
            have hlen : (a.dropLast ++ b.map (Lx.shift (L + 1))).length = nc := by
              rw [List.length_append, List.length_dropLast, List.length_map, HNA.out, HNB.out]; omega
            have HLEN := Lib.hid hlen
            have g1 : ((400 : Int) < (na : Int) + (nb : Int) - 2) = False := eq_false (by omega)
            have g2 : ((na : Int) + (nb : Int) - 1) = (nc : Int) := by omega
            have g3 : na + nb = nc + 1 := by omega
            clear hbo h400 hlen hnc
            go_wp2_with fail
            refine (AS.out _).mono ?_
            rintro e w1 ⟨hb1, va, rfl, hva⟩
            have HB1 := Lib.hid (HBA.out.trans (hb1.mono HBA.out.size))
            obtain ⟨ao, acap, rfl, _⟩ := hva.form
            have HVA := Lib.hid hva
            rw [HNA.out] at HVA ⊢
            clear hva
            go_wp2_with fail
            refine (AT.out _).mono ?_
            rintro e w2 ⟨hb2, vb, rfl, hvb⟩
            have HB2 := Lib.hid (HB1.out.trans (hb2.mono HB1.out.size))
            obtain ⟨bo, bcap, rfl, _⟩ := hvb.form
            have HVB := Lib.hid hvb
            rw [HNB.out] at HVB ⊢
            clear hvb
            go_wp2_with fail
            refine (AV.out _).mono ?_
            rintro e w3 ⟨hb3, vc, rfl, hvc⟩
            have HB3 := Lib.hid (HB2.out.trans (hb3.mono HB2.out.size))
            obtain ⟨co, ccap, rfl, _⟩ := hvc.form
            have HVC := Lib.hid hvc
            rw [HLEN.out] at HVC ⊢
            have HVA3 := Lib.hid ((HVA.out.below hb2).below hb3)
            have HVB3 := Lib.hid (HVB.out.below hb3)
            generalize wa.heap.size = ba at HVA3
            generalize w1.heap.size = bb at HVB3
            generalize w2.heap.size = bc at HVC
            have HNAB := Lib.hid g3
            have HRA : Hid (∀ k, k + 1 < na → ∃ u, a[k]? = some u ∧ (a.dropLast ++ b.map (Lx.shift (L + 1)))[k]? = some u ∧ u.place ≤ L) := Lib.hid fun k hk => by
              have hka : k < a.length := by rw [HNA.out]; omega
              refine ⟨a[k], List.getElem?_eq_getElem hka, ?_, HPA.out _ (List.getElem_mem _)⟩
              rw [List.getElem?_append_left (by rw [List.length_dropLast, HNA.out]; omega), List.getElem?_eq_getElem (by rw [List.length_dropLast, HNA.out]; omega), List.getElem_dropLast]
            have HRB : Hid (∀ k m, m + na = k + 1 → m < nb → ∃ u, b[m]? = some u ∧ (a.dropLast ++ b.map (Lx.shift (L + 1)))[k]? = some (Lx.shift (L + 1) u) ∧ u.place ≤ M) := Lib.hid fun k m hk hm => by
              have hmb : m < b.length := by rw [HNB.out]; omega
              refine ⟨b[m], List.getElem?_eq_getElem hmb, ?_, HPB.out _ (List.getElem_mem _)⟩
              rw [List.getElem?_append_right (by rw [List.length_dropLast, HNA.out]; omega), List.length_dropLast, HNA.out, show k - (na - 1) = m by omega, List.getElem?_map, List.getElem?_eq_getElem hmb]
              rfl
            generalize a.dropLast ++ b.map (Lx.shift (L + 1)) = c at HVC HLEN HRA HRB
            clear hb1 hb2 hb3 HB1 HB2 AS AT AV HVA HVB HPA HPB hvc
            go_wp2
            clear g1
            go_loopw [15, 16] (fun s15 s16 wx => ∃ k : Nat, k ≤ nc ∧ s15 = .int .i64 k ∧ Hid (Below w.heap.size w wx) ∧ Hid (TO wx ba 31 (.slice ao na acap) a) ∧ Hid (TO wx bb 31 (.slice bo nb bcap) b) ∧ Hid (TO wx bc 31 (.slice co nc ccap) c)) (fun i _ _ => nc - (intOf i).toNat)
            case atStart => exact ⟨0, Nat.zero_le _, rfl, HB3, HVA3, HVB3, HVC⟩
            case round =>
              obtain ⟨k, hk, rfl, HB, HA, HBB, HC⟩ := hrel
              clear HVA3 HVB3 HVC HB3
              by_cases hlt : k < nc
              · have hsz := HB.out.size
                have hk1 : (k : Int) < (nc : Int) := by omega
                have q2 := tokHeld
                have q3 := tokGuard
                by_cases hka : k + 1 < na
                · obtain ⟨u, hu, hcu, hup⟩ := HRA.out k hka
                  obtain ⟨ao', cap', hfe, hca⟩ := HA.out.form
                  rw [HNA.out] at hfe
                  cases hfe
                  obtain ⟨g, rfl, c0, c1, c2⟩ := hca k u hu
                  obtain ⟨ao', cap', hfe, hcc⟩ := HC.out.form
                  rw [HLEN.out] at hfe
                  cases hfe
                  obtain ⟨g', rfl, d0, d1, d2⟩ := hcc k u hcu
                  clear hca hcc
                  obtain ⟨kd, tx, pl⟩ := u
                  dsimp only at c0 c1 c2 d0 d1 d2 hup
                  have h1 : ((k : Int) < (na : Int) - 1) = True := eq_true (by omega)
                  have hkna : (k : Int) < (na : Int) := by omega
                  have hsz2 := hsz
                  obtain ⟨w5, hw5⟩ : ∃ w5, w5 = wr.alloc (.cells #[.int .i64 (kd : Int), .string ⟨tx.toArray⟩, .int .i64 ((pl : Int))] 31) := ⟨_, rfl⟩
                  have hbw : Below wr.heap.size wr w5 := by rw [hw5]; exact (Below.refl _ _).alloc (Nat.le_refl _) _
                  have hnw : w5.heap[wr.heap.size]? = some (.cells #[.int .i64 (kd : Int), .string ⟨tx.toArray⟩, .int .i64 ((pl : Int))] 31 (0, 0)) := by rw [hw5]; exact heap_alloc_new _ _
                  have far : ∀ a v, wr.cell? a = some v → ∀ q, (w5.drewN q).cell? a = some v := fun a v h q => (hbw.cell (World.block_lt_of_cell? wr _ h)).trans h
                  have k0 := far _ _ d0
                  have k1 := far _ _ d1
                  have k2 := far _ _ d2
                  have e0 : ∀ q, (w5.drewN q).cell? ⟨wr.heap.size, 0, none⟩ = some (.int .i64 (kd : Int)) := fun q => by show w5.cell? _ = _; simp [World.cell?, hnw]
                  have e1 : ∀ q, (w5.drewN q).cell? ⟨wr.heap.size, 1, none⟩ = some (.string ⟨tx.toArray⟩) := fun q => by show w5.cell? _ = _; simp [World.cell?, hnw]
                  have e2 : ∀ q, (w5.drewN q).cell? ⟨wr.heap.size, 2, none⟩ = some (.int .i64 ((pl : Int))) := fun q => by show w5.cell? _ = _; simp [World.cell?, hnw]
                  have q4 := fun wx => tok_same (kd : Int) ⟨tx.toArray⟩ ((pl : Int)) wx
                  have HN5 : Hid (∀ q, Below w.heap.size w (w5.drewN q) ∧ TO (w5.drewN q) ba 31 (.slice (some ⟨g, 0, none⟩) na acap) a ∧ TO (w5.drewN q) bb 31 (.slice bo nb bcap) b ∧ TO (w5.drewN q) bc 31 (.slice (some ⟨g', 0, none⟩) nc ccap) c) := Lib.hid fun q =>
                    have hq := below_dn hbw q
                    ⟨HB.out.trans (hq.mono hsz), HA.out.below hq, HBB.out.below hq, HC.out.below hq⟩
                  have far0 : ∀ ad v, wr.cell? ad = some v → ∀ o, (wr.alloc o).cell? ad = some v := fun ad v h o => (((Below.refl wr.heap.size wr).alloc (Nat.le_refl _) o).cell (World.block_lt_of_cell? wr _ h)).trans h
                  have x0 := far0 _ _ c0
                  have x1 := far0 _ _ c1
                  have x2 := far0 _ _ c2
                  clear far0 c0 c1 c2 d0 d1 d2 far hbw hnw HA HBB HC HB hu hcu hsz2
                  have HW5 := Lib.hid hw5
                  clear hw5
                  go_upto_region 25 with fail
                  rw [← HW5.out]
                  clear HW5
                  generalize wr.heap.size = b3 at *
                  clear x0 x1 x2
                  go_quiet (fail)
                  simp only [Exit.then]
                  go_wp2
                  go_roundw
                  case rel => exact ⟨k + 1, by omega, by first | rfl | go_num, (HN5.out _).1, (HN5.out _).2.1, (HN5.out _).2.2.1, (HN5.out _).2.2.2⟩
                  case measure => simp [intOf]; omega
                · obtain ⟨m, hm⟩ : ∃ m, m + na = k + 1 := ⟨k + 1 - na, by omega⟩
                  have hmb : m < nb := by have := HNAB.out; omega
                  obtain ⟨u, hu, hcu, hup⟩ := HRB.out k m hm hmb
                  obtain ⟨ao', cap', hfe, hca⟩ := HBB.out.form
                  rw [HNB.out] at hfe
                  cases hfe
                  obtain ⟨g, rfl, c0, c1, c2⟩ := hca m u hu
                  obtain ⟨ao', cap', hfe, hcc⟩ := HC.out.form
                  rw [HLEN.out] at hfe
                  cases hfe
                  obtain ⟨g', rfl, d0, d1, d2⟩ := hcc k _ hcu
                  clear hca hcc
                  obtain ⟨kd, tx, pl⟩ := u
                  dsimp only [Lx.shift] at c0 c1 c2 d0 d1 d2 hup
                  rw [show ((pl + (L + 1) : Nat) : Int) = (pl : Int) + (L : Int) + 1 by omega] at d2
                  have h1 : ((k : Int) < (na : Int) - 1) = False := eq_false (by omega)
                  have h2 : (k : Int) - (na : Int) + 1 = (m : Int) := by omega
                  have h3 : (m : Int) < (nb : Int) := by omega
                  have h4 : (0 : Int) ≤ (m : Int) := by omega
                  clear hm
                  have hsz2 := hsz
                  obtain ⟨w5, hw5⟩ : ∃ w5, w5 = wr.alloc (.cells #[.int .i64 (kd : Int), .string ⟨tx.toArray⟩, .int .i64 ((pl : Int) + (L : Int) + 1)] 31) := ⟨_, rfl⟩
                  have hbw : Below wr.heap.size wr w5 := by rw [hw5]; exact (Below.refl _ _).alloc (Nat.le_refl _) _
                  have hnw : w5.heap[wr.heap.size]? = some (.cells #[.int .i64 (kd : Int), .string ⟨tx.toArray⟩, .int .i64 ((pl : Int) + (L : Int) + 1)] 31 (0, 0)) := by rw [hw5]; exact heap_alloc_new _ _
                  have far : ∀ a v, wr.cell? a = some v → ∀ q, (w5.drewN q).cell? a = some v := fun a v h q => (hbw.cell (World.block_lt_of_cell? wr _ h)).trans h
                  have k0 := far _ _ d0
                  have k1 := far _ _ d1
                  have k2 := far _ _ d2
                  have e0 : ∀ q, (w5.drewN q).cell? ⟨wr.heap.size, 0, none⟩ = some (.int .i64 (kd : Int)) := fun q => by show w5.cell? _ = _; simp [World.cell?, hnw]
                  have e1 : ∀ q, (w5.drewN q).cell? ⟨wr.heap.size, 1, none⟩ = some (.string ⟨tx.toArray⟩) := fun q => by show w5.cell? _ = _; simp [World.cell?, hnw]
                  have e2 : ∀ q, (w5.drewN q).cell? ⟨wr.heap.size, 2, none⟩ = some (.int .i64 ((pl : Int) + (L : Int) + 1)) := fun q => by show w5.cell? _ = _; simp [World.cell?, hnw]
                  have q4 := fun wx => tok_same (kd : Int) ⟨tx.toArray⟩ ((pl : Int) + (L : Int) + 1) wx
                  have HN5 : Hid (∀ q, Below w.heap.size w (w5.drewN q) ∧ TO (w5.drewN q) ba 31 (.slice ao na acap) a ∧ TO (w5.drewN q) bb 31 (.slice (some ⟨g, 0, none⟩) nb bcap) b ∧ TO (w5.drewN q) bc 31 (.slice (some ⟨g', 0, none⟩) nc ccap) c) := Lib.hid fun q =>
                    have hq := below_dn hbw q
                    ⟨HB.out.trans (hq.mono hsz), HA.out.below hq, HBB.out.below hq, HC.out.below hq⟩
                  have far0 : ∀ ad v, wr.cell? ad = some v → ∀ o, (wr.alloc o).cell? ad = some v := fun ad v h o => (((Below.refl wr.heap.size wr).alloc (Nat.le_refl _) o).cell (World.block_lt_of_cell? wr _ h)).trans h
                  have x0 := far0 _ _ c0
                  have x1 := far0 _ _ c1
                  have x2 := far0 _ _ c2
                  clear far0 c0 c1 c2 d0 d1 d2 far hbw hnw HA HBB HC HB hu hcu hsz2
                  have HW5 := Lib.hid hw5
                  clear hw5
                  go_upto_region 25 with fail
                  rw [← HW5.out]
                  clear HW5
                  generalize wr.heap.size = b3 at *
                  clear x0 x1 x2
                  go_quiet (fail)
                  simp only [Exit.then]
                  go_wp2
                  go_roundw
                  case rel => exact ⟨k + 1, by omega, by first | rfl | go_num, (HN5.out _).1, (HN5.out _).2.1, (HN5.out _).2.2.1, (HN5.out _).2.2.2⟩
                  case measure => simp [intOf]; omega
              · have hkn : k = nc := by omega
                subst hkn
                go_wp2
                go_ret
                exact ⟨rfl, HB.out⟩
    · have hbS1 : ((900 : Int) < (S0 : Int)) = True := eq_true (by omega)
      have hbS2 : (900 : Int) ≤ (S0 : Int) := by omega
      subst hxT
      have hMT : M = T0 := hzT.symm.trans hT0
      subst hMT
      have hbT1 : ((900 : Int) < (M : Int)) = False := eq_false (by omega)
      clear hbS hbT
      go_upto_region 6 with fail
      try rw [hxS]
      clear hxS hbS2
      clear hbS1 hbT1

      cases hA : Lx.all S with
      | error x =>
        obtain ⟨p, e⟩ := x
        obtain ⟨he0, hpl⟩ := Lx.all_err hA
        rw [HL.out] at hpl
        rw [HSB.out _ hA] at AV
        rw [hA] at AS
        have g1 : ((e : Int) == 0) = false := beq_eq_false_iff_ne.2 (by omega)
        have g2 : ((e : Int) = 0) = False := eq_false (by omega)
        have g5 : (e = 0) = False := eq_false he0
        clear hA he0 HSB HBO HSE
        go_wp2_with fail
        refine (AS.out _).mono ?_
        rintro e w1 ⟨hb1, rfl⟩
        have HB1 := Lib.hid (HBA.out.trans (hb1.mono HBA.out.size))
        go_wp2_with fail
        refine (AT.out _).mono ?_
        rintro e w2 h2
        obtain ⟨hb2, v, q, f, rfl⟩ := h2.any
        have HB2 := Lib.hid (HB1.out.trans (hb2.mono HB1.out.size))
        clear h2
        go_wp2_with fail
        refine (AV.out _).mono ?_
        rintro e w3 ⟨hb3, rfl⟩
        have HB3 := Lib.hid (HB2.out.trans (hb3.mono HB2.out.size))
        clear hb1 hb2 hb3 HB1 HB2 AS AT AV
        go_wp2
        go_ret
        exact ⟨rfl, HB3.out⟩
      | ok a =>
        have hafew := Lx.all_few hA
        have hane := Lx.all_ne hA
        rw [hA] at AS
        obtain ⟨na, hna⟩ : ∃ n, a.length = n := ⟨_, rfl⟩
        rw [hna] at hafew hane
        have HNA := Lib.hid hna
        clear hna
        cases hB : Lx.all T with
        | error x =>
          obtain ⟨q, f⟩ := x
          obtain ⟨hf0, hql⟩ := Lx.all_err hB
          rw [HM.out] at hql
          rw [hB] at AT
          have hse := HSE.out _ _ _ hA hB
          have hq0 := fun h : f = 4 => Lx.all_big0 (l := T) (p := q) (by rw [hB, h])
          have g1 : ((f : Int) == 0) = false := beq_eq_false_iff_ne.2 (by omega)
          have g2 : ((f : Int) = 0) = False := eq_false (by omega)
          have g5 : (f = 0) = False := eq_false hf0
          clear hA hB hf0 HSB HBO HSE
          by_cases h4 : f = 4
          · have hAV : Lx.all V = .error (0, 4) := by
              rcases hse with h | h
              · rw [h, if_pos h4, hq0 h4, h4]
              · exact h.1
            have hqq := hq0 h4
            subst h4
            subst hqq
            rw [hAV] at AV
            have g7 : ((0 : Int) == (L : Int) + 1) = false := beq_eq_false_iff_ne.2 (by omega)
            have g8 : ((0 : Int) = (L : Int) + 1) = False := eq_false (by omega)
            clear hse hq0 hAV g1 g2 g5
            go_wp2_with fail
            refine (AS.out _).mono ?_
            rintro e w1 ⟨hb1, va, rfl, hva⟩
            have HB1 := Lib.hid (HBA.out.trans (hb1.mono HBA.out.size))
            obtain ⟨ao, acap, rfl, _⟩ := hva.form
            rw [HNA.out]
            clear hva
            go_wp2_with fail
            refine (AT.out _).mono ?_
            rintro e w2 ⟨hb2, rfl⟩
            have HB2 := Lib.hid (HB1.out.trans (hb2.mono HB1.out.size))
            go_wp2_with fail
            refine (AV.out _).mono ?_
            rintro e w3 ⟨hb3, rfl⟩
            have HB3 := Lib.hid (HB2.out.trans (hb3.mono HB2.out.size))
            clear hb1 hb2 hb3 HB1 HB2 AS AT AV
            go_wp2
            go_ret
            exact ⟨rfl, HB3.out⟩
          · have g3 : ((f : Int) == 4) = false := beq_eq_false_iff_ne.2 (by omega)
            have g4 : ((f : Int) = 4) = False := eq_false (by omega)
            have g6 : (f = 4) = False := eq_false h4
            have g9 : ((4 : Int) == (f : Int)) = false := beq_eq_false_iff_ne.2 (by omega)
            have g10 : ((4 : Int) = (f : Int)) = False := eq_false (by omega)
            have g11 : (4 = f) = False := eq_false (by omega)
            clear hq0
            rcases hse with hse | ⟨hse, h1a⟩
            · rw [if_neg h4] at hse
              rw [hse] at AV
              clear hse h4
              go_wp2_with fail
              refine (AS.out _).mono ?_
              rintro e w1 ⟨hb1, va, rfl, hva⟩
              have HB1 := Lib.hid (HBA.out.trans (hb1.mono HBA.out.size))
              obtain ⟨ao, acap, rfl, _⟩ := hva.form
              rw [HNA.out]
              clear hva
              go_wp2_with fail
              refine (AT.out _).mono ?_
              rintro e w2 ⟨hb2, rfl⟩
              have HB2 := Lib.hid (HB1.out.trans (hb2.mono HB1.out.size))
              go_wp2_with fail
              refine (AV.out _).mono ?_
              rintro e w3 ⟨hb3, rfl⟩
              have HB3 := Lib.hid (HB2.out.trans (hb3.mono HB2.out.size))
              clear hb1 hb2 hb3 HB1 HB2 AS AT AV
              rw [show ((q + (L + 1) : Nat) : Int) = (q : Int) + (L : Int) + 1 by omega]
              go_wp2
              go_ret
              exact ⟨rfl, HB3.out⟩
            · rw [hse] at AV
              rw [HNA.out] at h1a
              have g12 : ((1 : Int) < (na : Int)) = True := eq_true (by omega)
              clear hse h4 h1a
              go_wp2_with fail
              refine (AS.out _).mono ?_
              rintro e w1 ⟨hb1, va, rfl, hva⟩
              have HB1 := Lib.hid (HBA.out.trans (hb1.mono HBA.out.size))
              obtain ⟨ao, acap, rfl, _⟩ := hva.form
              rw [HNA.out]
              clear hva
              go_wp2_with fail
              refine (AT.out _).mono ?_
              rintro e w2 ⟨hb2, rfl⟩
              have HB2 := Lib.hid (HB1.out.trans (hb2.mono HB1.out.size))
              go_wp2_with fail
              refine (AV.out _).mono ?_
              rintro e w3 ⟨hb3, rfl⟩
              have HB3 := Lib.hid (HB2.out.trans (hb3.mono HB2.out.size))
              clear hb1 hb2 hb3 HB1 HB2 AS AT AV
              go_wp2
              go_ret
              exact ⟨rfl, HB3.out⟩
        | ok b =>
          have hbfew := Lx.all_few hB
          have hbne := Lx.all_ne hB
          rw [hB] at AT
          obtain ⟨nb, hnb⟩ : ∃ n, b.length = n := ⟨_, rfl⟩
          rw [hnb] at hbfew hbne
          have hbo := HBO.out _ _ hA hB
          rw [HNA.out, hnb] at hbo
          have HNB := Lib.hid hnb
          have HPA := Lib.hid (Lx.all_place hA)
          have HPB := Lib.hid (Lx.all_place hB)
          rw [HL.out] at HPA
          rw [HM.out] at HPB
          clear hA hB hnb HSB HBO HSE
          have hnab : ((na : Int) + (nb : Int)) = ((na + nb : Nat) : Int) := by omega
          clear hnab
          by_cases h400 : 400 < na + nb - 2
          · rw [if_pos h400] at hbo
            rw [hbo] at AV
            have g1 : ((400 : Int) < (na : Int) + (nb : Int) - 2) = True := eq_true (by omega)
            clear hbo h400
            go_wp2_with fail
            refine (AS.out _).mono ?_
            rintro e w1 ⟨hb1, va, rfl, hva⟩
            have HB1 := Lib.hid (HBA.out.trans (hb1.mono HBA.out.size))
            obtain ⟨ao, acap, rfl, _⟩ := hva.form
            rw [HNA.out]
            clear hva
            go_wp2_with fail
            refine (AT.out _).mono ?_
            rintro e w2 ⟨hb2, vb, rfl, hvb⟩
            have HB2 := Lib.hid (HB1.out.trans (hb2.mono HB1.out.size))
            obtain ⟨bo, bcap, rfl, _⟩ := hvb.form
            rw [HNB.out]
            clear hvb
            go_wp2_with fail
            refine (AV.out _).mono ?_
            rintro e w3 ⟨hb3, rfl⟩
            have HB3 := Lib.hid (HB2.out.trans (hb3.mono HB2.out.size))
            clear hb1 hb2 hb3 HB1 HB2 AS AT AV
            go_wp2
            go_ret
            exact ⟨rfl, HB3.out⟩
          · rw [if_neg h400] at hbo
            rw [hbo] at AV
            obtain ⟨nc, hnc⟩ : ∃ n, na + nb - 1 = n := ⟨_, rfl⟩
            have hlen : (a.dropLast ++ b.map (Lx.shift (L + 1))).length = nc := by
              rw [List.length_append, List.length_dropLast, List.length_map, HNA.out, HNB.out]; omega
            have HLEN := Lib.hid hlen
            have g1 : ((400 : Int) < (na : Int) + (nb : Int) - 2) = False := eq_false (by omega)
            have g2 : ((na : Int) + (nb : Int) - 1) = (nc : Int) := by omega
            have g3 : na + nb = nc + 1 := by omega
            clear hbo h400 hlen hnc
            go_wp2_with fail
            refine (AS.out _).mono ?_
            rintro e w1 ⟨hb1, va, rfl, hva⟩
            have HB1 := Lib.hid (HBA.out.trans (hb1.mono HBA.out.size))
            obtain ⟨ao, acap, rfl, _⟩ := hva.form
            have HVA := Lib.hid hva
            rw [HNA.out] at HVA ⊢
            clear hva
            go_wp2_with fail
            refine (AT.out _).mono ?_
            rintro e w2 ⟨hb2, vb, rfl, hvb⟩
            have HB2 := Lib.hid (HB1.out.trans (hb2.mono HB1.out.size))
            obtain ⟨bo, bcap, rfl, _⟩ := hvb.form
            have HVB := Lib.hid hvb
            rw [HNB.out] at HVB ⊢
            clear hvb
            go_wp2_with fail
            refine (AV.out _).mono ?_
            rintro e w3 ⟨hb3, vc, rfl, hvc⟩
            have HB3 := Lib.hid (HB2.out.trans (hb3.mono HB2.out.size))
            obtain ⟨co, ccap, rfl, _⟩ := hvc.form
            have HVC := Lib.hid hvc
            rw [HLEN.out] at HVC ⊢
            have HVA3 := Lib.hid ((HVA.out.below hb2).below hb3)
            have HVB3 := Lib.hid (HVB.out.below hb3)
            generalize wa.heap.size = ba at HVA3
            generalize w1.heap.size = bb at HVB3
            generalize w2.heap.size = bc at HVC
            have HNAB := Lib.hid g3
            have HRA : Hid (∀ k, k + 1 < na → ∃ u, a[k]? = some u ∧ (a.dropLast ++ b.map (Lx.shift (L + 1)))[k]? = some u ∧ u.place ≤ L) := Lib.hid fun k hk => by
              have hka : k < a.length := by rw [HNA.out]; omega
              refine ⟨a[k], List.getElem?_eq_getElem hka, ?_, HPA.out _ (List.getElem_mem _)⟩
              rw [List.getElem?_append_left (by rw [List.length_dropLast, HNA.out]; omega), List.getElem?_eq_getElem (by rw [List.length_dropLast, HNA.out]; omega), List.getElem_dropLast]
            have HRB : Hid (∀ k m, m + na = k + 1 → m < nb → ∃ u, b[m]? = some u ∧ (a.dropLast ++ b.map (Lx.shift (L + 1)))[k]? = some (Lx.shift (L + 1) u) ∧ u.place ≤ M) := Lib.hid fun k m hk hm => by
              have hmb : m < b.length := by rw [HNB.out]; omega
              refine ⟨b[m], List.getElem?_eq_getElem hmb, ?_, HPB.out _ (List.getElem_mem _)⟩
              rw [List.getElem?_append_right (by rw [List.length_dropLast, HNA.out]; omega), List.length_dropLast, HNA.out, show k - (na - 1) = m by omega, List.getElem?_map, List.getElem?_eq_getElem hmb]
              rfl
            generalize a.dropLast ++ b.map (Lx.shift (L + 1)) = c at HVC HLEN HRA HRB
            clear hb1 hb2 hb3 HB1 HB2 AS AT AV HVA HVB HPA HPB hvc
            go_wp2
            clear g1
            go_loopw [15, 16] (fun s15 s16 wx => ∃ k : Nat, k ≤ nc ∧ s15 = .int .i64 k ∧ Hid (Below w.heap.size w wx) ∧ Hid (TO wx ba 31 (.slice ao na acap) a) ∧ Hid (TO wx bb 31 (.slice bo nb bcap) b) ∧ Hid (TO wx bc 31 (.slice co nc ccap) c)) (fun i _ _ => nc - (intOf i).toNat)
            case atStart => exact ⟨0, Nat.zero_le _, rfl, HB3, HVA3, HVB3, HVC⟩
            case round =>
              obtain ⟨k, hk, rfl, HB, HA, HBB, HC⟩ := hrel
              clear HVA3 HVB3 HVC HB3
              by_cases hlt : k < nc
              · have hsz := HB.out.size
                have hk1 : (k : Int) < (nc : Int) := by omega
                have q2 := tokHeld
                have q3 := tokGuard
                by_cases hka : k + 1 < na
                · obtain ⟨u, hu, hcu, hup⟩ := HRA.out k hka
                  obtain ⟨ao', cap', hfe, hca⟩ := HA.out.form
                  rw [HNA.out] at hfe
                  cases hfe
                  obtain ⟨g, rfl, c0, c1, c2⟩ := hca k u hu
                  obtain ⟨ao', cap', hfe, hcc⟩ := HC.out.form
                  rw [HLEN.out] at hfe
                  cases hfe
                  obtain ⟨g', rfl, d0, d1, d2⟩ := hcc k u hcu
                  clear hca hcc
                  obtain ⟨kd, tx, pl⟩ := u
                  dsimp only at c0 c1 c2 d0 d1 d2 hup
                  have h1 : ((k : Int) < (na : Int) - 1) = True := eq_true (by omega)
                  have hkna : (k : Int) < (na : Int) := by omega
                  have hsz2 := hsz
                  obtain ⟨w5, hw5⟩ : ∃ w5, w5 = wr.alloc (.cells #[.int .i64 (kd : Int), .string ⟨tx.toArray⟩, .int .i64 ((pl : Int))] 31) := ⟨_, rfl⟩
                  have hbw : Below wr.heap.size wr w5 := by rw [hw5]; exact (Below.refl _ _).alloc (Nat.le_refl _) _
                  have hnw : w5.heap[wr.heap.size]? = some (.cells #[.int .i64 (kd : Int), .string ⟨tx.toArray⟩, .int .i64 ((pl : Int))] 31 (0, 0)) := by rw [hw5]; exact heap_alloc_new _ _
                  have far : ∀ a v, wr.cell? a = some v → ∀ q, (w5.drewN q).cell? a = some v := fun a v h q => (hbw.cell (World.block_lt_of_cell? wr _ h)).trans h
                  have k0 := far _ _ d0
                  have k1 := far _ _ d1
                  have k2 := far _ _ d2
                  have e0 : ∀ q, (w5.drewN q).cell? ⟨wr.heap.size, 0, none⟩ = some (.int .i64 (kd : Int)) := fun q => by show w5.cell? _ = _; simp [World.cell?, hnw]
                  have e1 : ∀ q, (w5.drewN q).cell? ⟨wr.heap.size, 1, none⟩ = some (.string ⟨tx.toArray⟩) := fun q => by show w5.cell? _ = _; simp [World.cell?, hnw]
                  have e2 : ∀ q, (w5.drewN q).cell? ⟨wr.heap.size, 2, none⟩ = some (.int .i64 ((pl : Int))) := fun q => by show w5.cell? _ = _; simp [World.cell?, hnw]
                  have q4 := fun wx => tok_same (kd : Int) ⟨tx.toArray⟩ ((pl : Int)) wx
                  have HN5 : Hid (∀ q, Below w.heap.size w (w5.drewN q) ∧ TO (w5.drewN q) ba 31 (.slice (some ⟨g, 0, none⟩) na acap) a ∧ TO (w5.drewN q) bb 31 (.slice bo nb bcap) b ∧ TO (w5.drewN q) bc 31 (.slice (some ⟨g', 0, none⟩) nc ccap) c) := Lib.hid fun q =>
                    have hq := below_dn hbw q
                    ⟨HB.out.trans (hq.mono hsz), HA.out.below hq, HBB.out.below hq, HC.out.below hq⟩
                  have far0 : ∀ ad v, wr.cell? ad = some v → ∀ o, (wr.alloc o).cell? ad = some v := fun ad v h o => (((Below.refl wr.heap.size wr).alloc (Nat.le_refl _) o).cell (World.block_lt_of_cell? wr _ h)).trans h
                  have x0 := far0 _ _ c0
                  have x1 := far0 _ _ c1
                  have x2 := far0 _ _ c2
                  clear far0 c0 c1 c2 d0 d1 d2 far hbw hnw HA HBB HC HB hu hcu hsz2
                  have HW5 := Lib.hid hw5
                  clear hw5
                  go_upto_region 25 with fail
                  rw [← HW5.out]
                  clear HW5
                  generalize wr.heap.size = b3 at *
                  clear x0 x1 x2
                  go_quiet (fail)
                  simp only [Exit.then]
                  go_wp2
                  go_roundw
                  case rel => exact ⟨k + 1, by omega, by first | rfl | go_num, (HN5.out _).1, (HN5.out _).2.1, (HN5.out _).2.2.1, (HN5.out _).2.2.2⟩
                  case measure => simp [intOf]; omega
                · obtain ⟨m, hm⟩ : ∃ m, m + na = k + 1 := ⟨k + 1 - na, by omega⟩
                  have hmb : m < nb := by have := HNAB.out; omega
                  obtain ⟨u, hu, hcu, hup⟩ := HRB.out k m hm hmb
                  obtain ⟨ao', cap', hfe, hca⟩ := HBB.out.form
                  rw [HNB.out] at hfe
                  cases hfe
                  obtain ⟨g, rfl, c0, c1, c2⟩ := hca m u hu
                  obtain ⟨ao', cap', hfe, hcc⟩ := HC.out.form
                  rw [HLEN.out] at hfe
                  cases hfe
                  obtain ⟨g', rfl, d0, d1, d2⟩ := hcc k _ hcu
                  clear hca hcc
                  obtain ⟨kd, tx, pl⟩ := u
                  dsimp only [Lx.shift] at c0 c1 c2 d0 d1 d2 hup
                  rw [show ((pl + (L + 1) : Nat) : Int) = (pl : Int) + (L : Int) + 1 by omega] at d2
                  have h1 : ((k : Int) < (na : Int) - 1) = False := eq_false (by omega)
                  have h2 : (k : Int) - (na : Int) + 1 = (m : Int) := by omega
                  have h3 : (m : Int) < (nb : Int) := by omega
                  have h4 : (0 : Int) ≤ (m : Int) := by omega
                  clear hm
                  have hsz2 := hsz
                  obtain ⟨w5, hw5⟩ : ∃ w5, w5 = wr.alloc (.cells #[.int .i64 (kd : Int), .string ⟨tx.toArray⟩, .int .i64 ((pl : Int) + (L : Int) + 1)] 31) := ⟨_, rfl⟩
                  have hbw : Below wr.heap.size wr w5 := by rw [hw5]; exact (Below.refl _ _).alloc (Nat.le_refl _) _
                  have hnw : w5.heap[wr.heap.size]? = some (.cells #[.int .i64 (kd : Int), .string ⟨tx.toArray⟩, .int .i64 ((pl : Int) + (L : Int) + 1)] 31 (0, 0)) := by rw [hw5]; exact heap_alloc_new _ _
                  have far : ∀ a v, wr.cell? a = some v → ∀ q, (w5.drewN q).cell? a = some v := fun a v h q => (hbw.cell (World.block_lt_of_cell? wr _ h)).trans h
                  have k0 := far _ _ d0
                  have k1 := far _ _ d1
                  have k2 := far _ _ d2
                  have e0 : ∀ q, (w5.drewN q).cell? ⟨wr.heap.size, 0, none⟩ = some (.int .i64 (kd : Int)) := fun q => by show w5.cell? _ = _; simp [World.cell?, hnw]
                  have e1 : ∀ q, (w5.drewN q).cell? ⟨wr.heap.size, 1, none⟩ = some (.string ⟨tx.toArray⟩) := fun q => by show w5.cell? _ = _; simp [World.cell?, hnw]
                  have e2 : ∀ q, (w5.drewN q).cell? ⟨wr.heap.size, 2, none⟩ = some (.int .i64 ((pl : Int) + (L : Int) + 1)) := fun q => by show w5.cell? _ = _; simp [World.cell?, hnw]
                  have q4 := fun wx => tok_same (kd : Int) ⟨tx.toArray⟩ ((pl : Int) + (L : Int) + 1) wx
                  have HN5 : Hid (∀ q, Below w.heap.size w (w5.drewN q) ∧ TO (w5.drewN q) ba 31 (.slice ao na acap) a ∧ TO (w5.drewN q) bb 31 (.slice (some ⟨g, 0, none⟩) nb bcap) b ∧ TO (w5.drewN q) bc 31 (.slice (some ⟨g', 0, none⟩) nc ccap) c) := Lib.hid fun q =>
                    have hq := below_dn hbw q
                    ⟨HB.out.trans (hq.mono hsz), HA.out.below hq, HBB.out.below hq, HC.out.below hq⟩
                  have far0 : ∀ ad v, wr.cell? ad = some v → ∀ o, (wr.alloc o).cell? ad = some v := fun ad v h o => (((Below.refl wr.heap.size wr).alloc (Nat.le_refl _) o).cell (World.block_lt_of_cell? wr _ h)).trans h
                  have x0 := far0 _ _ c0
                  have x1 := far0 _ _ c1
                  have x2 := far0 _ _ c2
                  clear far0 c0 c1 c2 d0 d1 d2 far hbw hnw HA HBB HC HB hu hcu hsz2
                  have HW5 := Lib.hid hw5
                  clear hw5
                  go_upto_region 25 with fail
                  rw [← HW5.out]
                  clear HW5
                  generalize wr.heap.size = b3 at *
                  clear x0 x1 x2
                  go_quiet (fail)
                  simp only [Exit.then]
                  go_wp2
                  go_roundw
                  case rel => exact ⟨k + 1, by omega, by first | rfl | go_num, (HN5.out _).1, (HN5.out _).2.1, (HN5.out _).2.2.1, (HN5.out _).2.2.2⟩
                  case measure => simp [intOf]; omega
              · have hkn : k = nc := by omega
                subst hkn
                go_wp2
                go_ret
                exact ⟨rfl, HB.out⟩
  · rcases hcaseT with ⟨hbT, hxT⟩ | ⟨hbT, hxT⟩
    · subst hxS
      have hLS : L = S0 := hzS.symm.trans hS0
      subst hLS
      have hbS1 : ((900 : Int) < (L : Int)) = False := eq_false (by omega)
      have hbT1 : ((900 : Int) < (T0 : Int)) = True := eq_true (by omega)
      have hbT2 : (900 : Int) ≤ (T0 : Int) := by omega
      clear hbS hbT
      go_upto_region 6 with fail
      try rw [hxT]
      clear hxT hbT2
      clear hbS1 hbT1

      cases hA : Lx.all S with
      | error x =>
        obtain ⟨p, e⟩ := x
        obtain ⟨he0, hpl⟩ := Lx.all_err hA
        rw [HL.out] at hpl
        rw [HSB.out _ hA] at AV
        rw [hA] at AS
        have g1 : ((e : Int) == 0) = false := beq_eq_false_iff_ne.2 (by omega)
        have g2 : ((e : Int) = 0) = False := eq_false (by omega)
        have g5 : (e = 0) = False := eq_false he0
        clear hA he0 HSB HBO HSE
        go_wp2_with fail
        refine (AS.out _).mono ?_
        rintro e w1 ⟨hb1, rfl⟩
        have HB1 := Lib.hid (HBA.out.trans (hb1.mono HBA.out.size))
        go_wp2_with fail
        refine (AT.out _).mono ?_
        rintro e w2 h2
        obtain ⟨hb2, v, q, f, rfl⟩ := h2.any
        have HB2 := Lib.hid (HB1.out.trans (hb2.mono HB1.out.size))
        clear h2
        go_wp2_with fail
        refine (AV.out _).mono ?_
        rintro e w3 ⟨hb3, rfl⟩
        have HB3 := Lib.hid (HB2.out.trans (hb3.mono HB2.out.size))
        clear hb1 hb2 hb3 HB1 HB2 AS AT AV
        go_wp2
        go_ret
        exact ⟨rfl, HB3.out⟩
      | ok a =>
        have hafew := Lx.all_few hA
        have hane := Lx.all_ne hA
        rw [hA] at AS
        obtain ⟨na, hna⟩ : ∃ n, a.length = n := ⟨_, rfl⟩
        rw [hna] at hafew hane
        have HNA := Lib.hid hna
        clear hna
        cases hB : Lx.all T with
        | error x =>
          obtain ⟨q, f⟩ := x
          obtain ⟨hf0, hql⟩ := Lx.all_err hB
          rw [HM.out] at hql
          rw [hB] at AT
          have hse := HSE.out _ _ _ hA hB
          have hq0 := fun h : f = 4 => Lx.all_big0 (l := T) (p := q) (by rw [hB, h])
          have g1 : ((f : Int) == 0) = false := beq_eq_false_iff_ne.2 (by omega)
          have g2 : ((f : Int) = 0) = False := eq_false (by omega)
          have g5 : (f = 0) = False := eq_false hf0
          clear hA hB hf0 HSB HBO HSE
          by_cases h4 : f = 4
          · have hAV : Lx.all V = .error (0, 4) := by
              rcases hse with h | h
              · rw [h, if_pos h4, hq0 h4, h4]
              · exact h.1
            have hqq := hq0 h4
            subst h4
            subst hqq
            rw [hAV] at AV
            have g7 : ((0 : Int) == (L : Int) + 1) = false := beq_eq_false_iff_ne.2 (by omega)
            have g8 : ((0 : Int) = (L : Int) + 1) = False := eq_false (by omega)
            clear hse hq0 hAV g1 g2 g5
            go_wp2_with fail
            refine (AS.out _).mono ?_
            rintro e w1 ⟨hb1, va, rfl, hva⟩
            have HB1 := Lib.hid (HBA.out.trans (hb1.mono HBA.out.size))
            obtain ⟨ao, acap, rfl, _⟩ := hva.form
            rw [HNA.out]
            clear hva
            go_wp2_with fail
            refine (AT.out _).mono ?_
            rintro e w2 ⟨hb2, rfl⟩
            have HB2 := Lib.hid (HB1.out.trans (hb2.mono HB1.out.size))
            go_wp2_with fail
            refine (AV.out _).mono ?_
            rintro e w3 ⟨hb3, rfl⟩
            have HB3 := Lib.hid (HB2.out.trans (hb3.mono HB2.out.size))
            clear hb1 hb2 hb3 HB1 HB2 AS AT AV
            go_wp2
            go_ret
            exact ⟨rfl, HB3.out⟩
          · have g3 : ((f : Int) == 4) = false := beq_eq_false_iff_ne.2 (by omega)
            have g4 : ((f : Int) = 4) = False := eq_false (by omega)
            have g6 : (f = 4) = False := eq_false h4
            have g9 : ((4 : Int) == (f : Int)) = false := beq_eq_false_iff_ne.2 (by omega)
            have g10 : ((4 : Int) = (f : Int)) = False := eq_false (by omega)
            have g11 : (4 = f) = False := eq_false (by omega)
            clear hq0
            rcases hse with hse | ⟨hse, h1a⟩
            · rw [if_neg h4] at hse
              rw [hse] at AV
              clear hse h4
              go_wp2_with fail
              refine (AS.out _).mono ?_
              rintro e w1 ⟨hb1, va, rfl, hva⟩
              have HB1 := Lib.hid (HBA.out.trans (hb1.mono HBA.out.size))
              obtain ⟨ao, acap, rfl, _⟩ := hva.form
              rw [HNA.out]
              clear hva
              go_wp2_with fail
              refine (AT.out _).mono ?_
              rintro e w2 ⟨hb2, rfl⟩
              have HB2 := Lib.hid (HB1.out.trans (hb2.mono HB1.out.size))
              go_wp2_with fail
              refine (AV.out _).mono ?_
              rintro e w3 ⟨hb3, rfl⟩
              have HB3 := Lib.hid (HB2.out.trans (hb3.mono HB2.out.size))
              clear hb1 hb2 hb3 HB1 HB2 AS AT AV
              rw [show ((q + (L + 1) : Nat) : Int) = (q : Int) + (L : Int) + 1 by omega]
              go_wp2
              go_ret
              exact ⟨rfl, HB3.out⟩
            · rw [hse] at AV
              rw [HNA.out] at h1a
              have g12 : ((1 : Int) < (na : Int)) = True := eq_true (by omega)
              clear hse h4 h1a
              go_wp2_with fail
              refine (AS.out _).mono ?_
              rintro e w1 ⟨hb1, va, rfl, hva⟩
              have HB1 := Lib.hid (HBA.out.trans (hb1.mono HBA.out.size))
              obtain ⟨ao, acap, rfl, _⟩ := hva.form
              rw [HNA.out]
              clear hva
              go_wp2_with fail
              refine (AT.out _).mono ?_
              rintro e w2 ⟨hb2, rfl⟩
              have HB2 := Lib.hid (HB1.out.trans (hb2.mono HB1.out.size))
              go_wp2_with fail
              refine (AV.out _).mono ?_
              rintro e w3 ⟨hb3, rfl⟩
              have HB3 := Lib.hid (HB2.out.trans (hb3.mono HB2.out.size))
              clear hb1 hb2 hb3 HB1 HB2 AS AT AV
              go_wp2
              go_ret
              exact ⟨rfl, HB3.out⟩
        | ok b =>
          have hbfew := Lx.all_few hB
          have hbne := Lx.all_ne hB
          rw [hB] at AT
          obtain ⟨nb, hnb⟩ : ∃ n, b.length = n := ⟨_, rfl⟩
          rw [hnb] at hbfew hbne
          have hbo := HBO.out _ _ hA hB
          rw [HNA.out, hnb] at hbo
          have HNB := Lib.hid hnb
          have HPA := Lib.hid (Lx.all_place hA)
          have HPB := Lib.hid (Lx.all_place hB)
          rw [HL.out] at HPA
          rw [HM.out] at HPB
          clear hA hB hnb HSB HBO HSE
          have hnab : ((na : Int) + (nb : Int)) = ((na + nb : Nat) : Int) := by omega
          clear hnab
          by_cases h400 : 400 < na + nb - 2
          · rw [if_pos h400] at hbo
            rw [hbo] at AV
            have g1 : ((400 : Int) < (na : Int) + (nb : Int) - 2) = True := eq_true (by omega)
            clear hbo h400
            go_wp2_with fail
            refine (AS.out _).mono ?_
            rintro e w1 ⟨hb1, va, rfl, hva⟩
            have HB1 := Lib.hid (HBA.out.trans (hb1.mono HBA.out.size))
            obtain ⟨ao, acap, rfl, _⟩ := hva.form
            rw [HNA.out]
            clear hva
            go_wp2_with fail
            refine (AT.out _).mono ?_
            rintro e w2 ⟨hb2, vb, rfl, hvb⟩
            have HB2 := Lib.hid (HB1.out.trans (hb2.mono HB1.out.size))
            obtain ⟨bo, bcap, rfl, _⟩ := hvb.form
            rw [HNB.out]
            clear hvb
            go_wp2_with fail
            refine (AV.out _).mono ?_
            rintro e w3 ⟨hb3, rfl⟩
            have HB3 := Lib.hid (HB2.out.trans (hb3.mono HB2.out.size))
            clear hb1 hb2 hb3 HB1 HB2 AS AT AV
            go_wp2
            go_ret
            exact ⟨rfl, HB3.out⟩
          · rw [if_neg h400] at hbo
            rw [hbo] at AV
            obtain ⟨nc, hnc⟩ : ∃ n, na + nb - 1 = n := ⟨_, rfl⟩
            have hlen : (a.dropLast ++ b.map (Lx.shift (L + 1))).length = nc := by
              rw [List.length_append, List.length_dropLast, List.length_map, HNA.out, HNB.out]; omega
            have HLEN := Lib.hid hlen
            have g1 : ((400 : Int) < (na : Int) + (nb : Int) - 2) = False := eq_false (by omega)
            have g2 : ((na : Int) + (nb : Int) - 1) = (nc : Int) := by omega
            have g3 : na + nb = nc + 1 := by omega
            clear hbo h400 hlen hnc
            go_wp2_with fail
            refine (AS.out _).mono ?_
            rintro e w1 ⟨hb1, va, rfl, hva⟩
            have HB1 := Lib.hid (HBA.out.trans (hb1.mono HBA.out.size))
            obtain ⟨ao, acap, rfl, _⟩ := hva.form
            have HVA := Lib.hid hva
            rw [HNA.out] at HVA ⊢
            clear hva
            go_wp2_with fail
            refine (AT.out _).mono ?_
            rintro e w2 ⟨hb2, vb, rfl, hvb⟩
            have HB2 := Lib.hid (HB1.out.trans (hb2.mono HB1.out.size))
            obtain ⟨bo, bcap, rfl, _⟩ := hvb.form
            have HVB := Lib.hid hvb
            rw [HNB.out] at HVB ⊢
            clear hvb
            go_wp2_with fail
            refine (AV.out _).mono ?_
            rintro e w3 ⟨hb3, vc, rfl, hvc⟩
            have HB3 := Lib.hid (HB2.out.trans (hb3.mono HB2.out.size))
            obtain ⟨co, ccap, rfl, _⟩ := hvc.form
            have HVC := Lib.hid hvc
            rw [HLEN.out] at HVC ⊢
            have HVA3 := Lib.hid ((HVA.out.below hb2).below hb3)
            have HVB3 := Lib.hid (HVB.out.below hb3)
            generalize wa.heap.size = ba at HVA3
            generalize w1.heap.size = bb at HVB3
            generalize w2.heap.size = bc at HVC
            have HNAB := Lib.hid g3
            have HRA : Hid (∀ k, k + 1 < na → ∃ u, a[k]? = some u ∧ (a.dropLast ++ b.map (Lx.shift (L + 1)))[k]? = some u ∧ u.place ≤ L) := Lib.hid fun k hk => by
              have hka : k < a.length := by rw [HNA.out]; omega
              refine ⟨a[k], List.getElem?_eq_getElem hka, ?_, HPA.out _ (List.getElem_mem _)⟩
              rw [List.getElem?_append_left (by rw [List.length_dropLast, HNA.out]; omega), List.getElem?_eq_getElem (by rw [List.length_dropLast, HNA.out]; omega), List.getElem_dropLast]
            have HRB : Hid (∀ k m, m + na = k + 1 → m < nb → ∃ u, b[m]? = some u ∧ (a.dropLast ++ b.map (Lx.shift (L + 1)))[k]? = some (Lx.shift (L + 1) u) ∧ u.place ≤ M) := Lib.hid fun k m hk hm => by
              have hmb : m < b.length := by rw [HNB.out]; omega
              refine ⟨b[m], List.getElem?_eq_getElem hmb, ?_, HPB.out _ (List.getElem_mem _)⟩
              rw [List.getElem?_append_right (by rw [List.length_dropLast, HNA.out]; omega), List.length_dropLast, HNA.out, show k - (na - 1) = m by omega, List.getElem?_map, List.getElem?_eq_getElem hmb]
              rfl
            generalize a.dropLast ++ b.map (Lx.shift (L + 1)) = c at HVC HLEN HRA HRB
            clear hb1 hb2 hb3 HB1 HB2 AS AT AV HVA HVB HPA HPB hvc
            go_wp2
            clear g1
            go_loopw [15, 16] (fun s15 s16 wx => ∃ k : Nat, k ≤ nc ∧ s15 = .int .i64 k ∧ Hid (Below w.heap.size w wx) ∧ Hid (TO wx ba 31 (.slice ao na acap) a) ∧ Hid (TO wx bb 31 (.slice bo nb bcap) b) ∧ Hid (TO wx bc 31 (.slice co nc ccap) c)) (fun i _ _ => nc - (intOf i).toNat)
            case atStart => exact ⟨0, Nat.zero_le _, rfl, HB3, HVA3, HVB3, HVC⟩
            case round =>
              obtain ⟨k, hk, rfl, HB, HA, HBB, HC⟩ := hrel
              clear HVA3 HVB3 HVC HB3
              by_cases hlt : k < nc
              · have hsz := HB.out.size
                have hk1 : (k : Int) < (nc : Int) := by omega
                have q2 := tokHeld
                have q3 := tokGuard
                by_cases hka : k + 1 < na
                · obtain ⟨u, hu, hcu, hup⟩ := HRA.out k hka
                  obtain ⟨ao', cap', hfe, hca⟩ := HA.out.form
                  rw [HNA.out] at hfe
                  cases hfe
                  obtain ⟨g, rfl, c0, c1, c2⟩ := hca k u hu
                  obtain ⟨ao', cap', hfe, hcc⟩ := HC.out.form
                  rw [HLEN.out] at hfe
                  cases hfe
                  obtain ⟨g', rfl, d0, d1, d2⟩ := hcc k u hcu
                  clear hca hcc
                  obtain ⟨kd, tx, pl⟩ := u
                  dsimp only at c0 c1 c2 d0 d1 d2 hup
                  have h1 : ((k : Int) < (na : Int) - 1) = True := eq_true (by omega)
                  have hkna : (k : Int) < (na : Int) := by omega
                  have hsz2 := hsz
                  obtain ⟨w5, hw5⟩ : ∃ w5, w5 = wr.alloc (.cells #[.int .i64 (kd : Int), .string ⟨tx.toArray⟩, .int .i64 ((pl : Int))] 31) := ⟨_, rfl⟩
                  have hbw : Below wr.heap.size wr w5 := by rw [hw5]; exact (Below.refl _ _).alloc (Nat.le_refl _) _
                  have hnw : w5.heap[wr.heap.size]? = some (.cells #[.int .i64 (kd : Int), .string ⟨tx.toArray⟩, .int .i64 ((pl : Int))] 31 (0, 0)) := by rw [hw5]; exact heap_alloc_new _ _
                  have far : ∀ a v, wr.cell? a = some v → ∀ q, (w5.drewN q).cell? a = some v := fun a v h q => (hbw.cell (World.block_lt_of_cell? wr _ h)).trans h
                  have k0 := far _ _ d0
                  have k1 := far _ _ d1
                  have k2 := far _ _ d2
                  have e0 : ∀ q, (w5.drewN q).cell? ⟨wr.heap.size, 0, none⟩ = some (.int .i64 (kd : Int)) := fun q => by show w5.cell? _ = _; simp [World.cell?, hnw]
                  have e1 : ∀ q, (w5.drewN q).cell? ⟨wr.heap.size, 1, none⟩ = some (.string ⟨tx.toArray⟩) := fun q => by show w5.cell? _ = _; simp [World.cell?, hnw]
                  have e2 : ∀ q, (w5.drewN q).cell? ⟨wr.heap.size, 2, none⟩ = some (.int .i64 ((pl : Int))) := fun q => by show w5.cell? _ = _; simp [World.cell?, hnw]
                  have q4 := fun wx => tok_same (kd : Int) ⟨tx.toArray⟩ ((pl : Int)) wx
                  have HN5 : Hid (∀ q, Below w.heap.size w (w5.drewN q) ∧ TO (w5.drewN q) ba 31 (.slice (some ⟨g, 0, none⟩) na acap) a ∧ TO (w5.drewN q) bb 31 (.slice bo nb bcap) b ∧ TO (w5.drewN q) bc 31 (.slice (some ⟨g', 0, none⟩) nc ccap) c) := Lib.hid fun q =>
                    have hq := below_dn hbw q
                    ⟨HB.out.trans (hq.mono hsz), HA.out.below hq, HBB.out.below hq, HC.out.below hq⟩
                  have far0 : ∀ ad v, wr.cell? ad = some v → ∀ o, (wr.alloc o).cell? ad = some v := fun ad v h o => (((Below.refl wr.heap.size wr).alloc (Nat.le_refl _) o).cell (World.block_lt_of_cell? wr _ h)).trans h
                  have x0 := far0 _ _ c0
                  have x1 := far0 _ _ c1
                  have x2 := far0 _ _ c2
                  clear far0 c0 c1 c2 d0 d1 d2 far hbw hnw HA HBB HC HB hu hcu hsz2
                  have HW5 := Lib.hid hw5
                  clear hw5
                  go_upto_region 25 with fail
                  rw [← HW5.out]
                  clear HW5
                  generalize wr.heap.size = b3 at *
                  clear x0 x1 x2
                  go_quiet (fail)
                  simp only [Exit.then]
                  go_wp2
                  go_roundw
                  case rel => exact ⟨k + 1, by omega, by first | rfl | go_num, (HN5.out _).1, (HN5.out _).2.1, (HN5.out _).2.2.1, (HN5.out _).2.2.2⟩
                  case measure => simp [intOf]; omega
                · obtain ⟨m, hm⟩ : ∃ m, m + na = k + 1 := ⟨k + 1 - na, by omega⟩
                  have hmb : m < nb := by have := HNAB.out; omega
                  obtain ⟨u, hu, hcu, hup⟩ := HRB.out k m hm hmb
                  obtain ⟨ao', cap', hfe, hca⟩ := HBB.out.form
                  rw [HNB.out] at hfe
                  cases hfe
                  obtain ⟨g, rfl, c0, c1, c2⟩ := hca m u hu
                  obtain ⟨ao', cap', hfe, hcc⟩ := HC.out.form
                  rw [HLEN.out] at hfe
                  cases hfe
                  obtain ⟨g', rfl, d0, d1, d2⟩ := hcc k _ hcu
                  clear hca hcc
                  obtain ⟨kd, tx, pl⟩ := u
                  dsimp only [Lx.shift] at c0 c1 c2 d0 d1 d2 hup
                  rw [show ((pl + (L + 1) : Nat) : Int) = (pl : Int) + (L : Int) + 1 by omega] at d2
                  have h1 : ((k : Int) < (na : Int) - 1) = False := eq_false (by omega)
                  have h2 : (k : Int) - (na : Int) + 1 = (m : Int) := by omega
                  have h3 : (m : Int) < (nb : Int) := by omega
                  have h4 : (0 : Int) ≤ (m : Int) := by omega
                  clear hm
                  have hsz2 := hsz
                  obtain ⟨w5, hw5⟩ : ∃ w5, w5 = wr.alloc (.cells #[.int .i64 (kd : Int), .string ⟨tx.toArray⟩, .int .i64 ((pl : Int) + (L : Int) + 1)] 31) := ⟨_, rfl⟩
                  have hbw : Below wr.heap.size wr w5 := by rw [hw5]; exact (Below.refl _ _).alloc (Nat.le_refl _) _
                  have hnw : w5.heap[wr.heap.size]? = some (.cells #[.int .i64 (kd : Int), .string ⟨tx.toArray⟩, .int .i64 ((pl : Int) + (L : Int) + 1)] 31 (0, 0)) := by rw [hw5]; exact heap_alloc_new _ _
                  have far : ∀ a v, wr.cell? a = some v → ∀ q, (w5.drewN q).cell? a = some v := fun a v h q => (hbw.cell (World.block_lt_of_cell? wr _ h)).trans h
                  have k0 := far _ _ d0
                  have k1 := far _ _ d1
                  have k2 := far _ _ d2
                  have e0 : ∀ q, (w5.drewN q).cell? ⟨wr.heap.size, 0, none⟩ = some (.int .i64 (kd : Int)) := fun q => by show w5.cell? _ = _; simp [World.cell?, hnw]
                  have e1 : ∀ q, (w5.drewN q).cell? ⟨wr.heap.size, 1, none⟩ = some (.string ⟨tx.toArray⟩) := fun q => by show w5.cell? _ = _; simp [World.cell?, hnw]
                  have e2 : ∀ q, (w5.drewN q).cell? ⟨wr.heap.size, 2, none⟩ = some (.int .i64 ((pl : Int) + (L : Int) + 1)) := fun q => by show w5.cell? _ = _; simp [World.cell?, hnw]
                  have q4 := fun wx => tok_same (kd : Int) ⟨tx.toArray⟩ ((pl : Int) + (L : Int) + 1) wx
                  have HN5 : Hid (∀ q, Below w.heap.size w (w5.drewN q) ∧ TO (w5.drewN q) ba 31 (.slice ao na acap) a ∧ TO (w5.drewN q) bb 31 (.slice (some ⟨g, 0, none⟩) nb bcap) b ∧ TO (w5.drewN q) bc 31 (.slice (some ⟨g', 0, none⟩) nc ccap) c) := Lib.hid fun q =>
                    have hq := below_dn hbw q
                    ⟨HB.out.trans (hq.mono hsz), HA.out.below hq, HBB.out.below hq, HC.out.below hq⟩
                  have far0 : ∀ ad v, wr.cell? ad = some v → ∀ o, (wr.alloc o).cell? ad = some v := fun ad v h o => (((Below.refl wr.heap.size wr).alloc (Nat.le_refl _) o).cell (World.block_lt_of_cell? wr _ h)).trans h
                  have x0 := far0 _ _ c0
                  have x1 := far0 _ _ c1
                  have x2 := far0 _ _ c2
                  clear far0 c0 c1 c2 d0 d1 d2 far hbw hnw HA HBB HC HB hu hcu hsz2
                  have HW5 := Lib.hid hw5
                  clear hw5
                  go_upto_region 25 with fail
                  rw [← HW5.out]
                  clear HW5
                  generalize wr.heap.size = b3 at *
                  clear x0 x1 x2
                  go_quiet (fail)
                  simp only [Exit.then]
                  go_wp2
                  go_roundw
                  case rel => exact ⟨k + 1, by omega, by first | rfl | go_num, (HN5.out _).1, (HN5.out _).2.1, (HN5.out _).2.2.1, (HN5.out _).2.2.2⟩
                  case measure => simp [intOf]; omega
              · have hkn : k = nc := by omega
                subst hkn
                go_wp2
                go_ret
                exact ⟨rfl, HB.out⟩
    · subst hxS
      have hLS : L = S0 := hzS.symm.trans hS0
      subst hLS
      have hbS1 : ((900 : Int) < (L : Int)) = False := eq_false (by omega)
      subst hxT
      have hMT : M = T0 := hzT.symm.trans hT0
      subst hMT
      have hbT1 : ((900 : Int) < (M : Int)) = False := eq_false (by omega)
      clear hbS hbT
      go_upto_region 6 with fail
      clear hbS1 hbT1

      cases hA : Lx.all S with
      | error x =>
        obtain ⟨p, e⟩ := x
        obtain ⟨he0, hpl⟩ := Lx.all_err hA
        rw [HL.out] at hpl
        rw [HSB.out _ hA] at AV
        rw [hA] at AS
        have g1 : ((e : Int) == 0) = false := beq_eq_false_iff_ne.2 (by omega)
        have g2 : ((e : Int) = 0) = False := eq_false (by omega)
        have g5 : (e = 0) = False := eq_false he0
        clear hA he0 HSB HBO HSE
        go_wp2_with fail
        refine (AS.out _).mono ?_
        rintro e w1 ⟨hb1, rfl⟩
        have HB1 := Lib.hid (HBA.out.trans (hb1.mono HBA.out.size))
        go_wp2_with fail
        refine (AT.out _).mono ?_
        rintro e w2 h2
        obtain ⟨hb2, v, q, f, rfl⟩ := h2.any
        have HB2 := Lib.hid (HB1.out.trans (hb2.mono HB1.out.size))
        clear h2
        go_wp2_with fail
        refine (AV.out _).mono ?_
        rintro e w3 ⟨hb3, rfl⟩
        have HB3 := Lib.hid (HB2.out.trans (hb3.mono HB2.out.size))
        clear hb1 hb2 hb3 HB1 HB2 AS AT AV
        go_wp2
        go_ret
        exact ⟨rfl, HB3.out⟩
      | ok a =>
        have hafew := Lx.all_few hA
        have hane := Lx.all_ne hA
        rw [hA] at AS
        obtain ⟨na, hna⟩ : ∃ n, a.length = n := ⟨_, rfl⟩
        rw [hna] at hafew hane
        have HNA := Lib.hid hna
        clear hna
        cases hB : Lx.all T with
        | error x =>
          obtain ⟨q, f⟩ := x
          obtain ⟨hf0, hql⟩ := Lx.all_err hB
          rw [HM.out] at hql
          rw [hB] at AT
          have hse := HSE.out _ _ _ hA hB
          have hq0 := fun h : f = 4 => Lx.all_big0 (l := T) (p := q) (by rw [hB, h])
          have g1 : ((f : Int) == 0) = false := beq_eq_false_iff_ne.2 (by omega)
          have g2 : ((f : Int) = 0) = False := eq_false (by omega)
          have g5 : (f = 0) = False := eq_false hf0
          clear hA hB hf0 HSB HBO HSE
          by_cases h4 : f = 4
          · have hAV : Lx.all V = .error (0, 4) := by
              rcases hse with h | h
              · rw [h, if_pos h4, hq0 h4, h4]
              · exact h.1
            have hqq := hq0 h4
            subst h4
            subst hqq
            rw [hAV] at AV
            have g7 : ((0 : Int) == (L : Int) + 1) = false := beq_eq_false_iff_ne.2 (by omega)
            have g8 : ((0 : Int) = (L : Int) + 1) = False := eq_false (by omega)
            clear hse hq0 hAV g1 g2 g5
            go_wp2_with fail
            refine (AS.out _).mono ?_
            rintro e w1 ⟨hb1, va, rfl, hva⟩
            have HB1 := Lib.hid (HBA.out.trans (hb1.mono HBA.out.size))
            obtain ⟨ao, acap, rfl, _⟩ := hva.form
            rw [HNA.out]
            clear hva
            go_wp2_with fail
            refine (AT.out _).mono ?_
            rintro e w2 ⟨hb2, rfl⟩
            have HB2 := Lib.hid (HB1.out.trans (hb2.mono HB1.out.size))
            go_wp2_with fail
            refine (AV.out _).mono ?_
            rintro e w3 ⟨hb3, rfl⟩
            have HB3 := Lib.hid (HB2.out.trans (hb3.mono HB2.out.size))
            clear hb1 hb2 hb3 HB1 HB2 AS AT AV
            go_wp2
            go_ret
            exact ⟨rfl, HB3.out⟩
          · have g3 : ((f : Int) == 4) = false := beq_eq_false_iff_ne.2 (by omega)
            have g4 : ((f : Int) = 4) = False := eq_false (by omega)
            have g6 : (f = 4) = False := eq_false h4
            have g9 : ((4 : Int) == (f : Int)) = false := beq_eq_false_iff_ne.2 (by omega)
            have g10 : ((4 : Int) = (f : Int)) = False := eq_false (by omega)
            have g11 : (4 = f) = False := eq_false (by omega)
            clear hq0
            rcases hse with hse | ⟨hse, h1a⟩
            · rw [if_neg h4] at hse
              rw [hse] at AV
              clear hse h4
              go_wp2_with fail
              refine (AS.out _).mono ?_
              rintro e w1 ⟨hb1, va, rfl, hva⟩
              have HB1 := Lib.hid (HBA.out.trans (hb1.mono HBA.out.size))
              obtain ⟨ao, acap, rfl, _⟩ := hva.form
              rw [HNA.out]
              clear hva
              go_wp2_with fail
              refine (AT.out _).mono ?_
              rintro e w2 ⟨hb2, rfl⟩
              have HB2 := Lib.hid (HB1.out.trans (hb2.mono HB1.out.size))
              go_wp2_with fail
              refine (AV.out _).mono ?_
              rintro e w3 ⟨hb3, rfl⟩
              have HB3 := Lib.hid (HB2.out.trans (hb3.mono HB2.out.size))
              clear hb1 hb2 hb3 HB1 HB2 AS AT AV
              rw [show ((q + (L + 1) : Nat) : Int) = (q : Int) + (L : Int) + 1 by omega]
              go_wp2
              go_ret
              exact ⟨rfl, HB3.out⟩
            · rw [hse] at AV
              rw [HNA.out] at h1a
              have g12 : ((1 : Int) < (na : Int)) = True := eq_true (by omega)
              clear hse h4 h1a
              go_wp2_with fail
              refine (AS.out _).mono ?_
              rintro e w1 ⟨hb1, va, rfl, hva⟩
              have HB1 := Lib.hid (HBA.out.trans (hb1.mono HBA.out.size))
              obtain ⟨ao, acap, rfl, _⟩ := hva.form
              rw [HNA.out]
              clear hva
              go_wp2_with fail
              refine (AT.out _).mono ?_
              rintro e w2 ⟨hb2, rfl⟩
              have HB2 := Lib.hid (HB1.out.trans (hb2.mono HB1.out.size))
              go_wp2_with fail
              refine (AV.out _).mono ?_
              rintro e w3 ⟨hb3, rfl⟩
              have HB3 := Lib.hid (HB2.out.trans (hb3.mono HB2.out.size))
              clear hb1 hb2 hb3 HB1 HB2 AS AT AV
              go_wp2
              go_ret
              exact ⟨rfl, HB3.out⟩
        | ok b =>
          have hbfew := Lx.all_few hB
          have hbne := Lx.all_ne hB
          rw [hB] at AT
          obtain ⟨nb, hnb⟩ : ∃ n, b.length = n := ⟨_, rfl⟩
          rw [hnb] at hbfew hbne
          have hbo := HBO.out _ _ hA hB
          rw [HNA.out, hnb] at hbo
          have HNB := Lib.hid hnb
          have HPA := Lib.hid (Lx.all_place hA)
          have HPB := Lib.hid (Lx.all_place hB)
          rw [HL.out] at HPA
          rw [HM.out] at HPB
          clear hA hB hnb HSB HBO HSE
          have hnab : ((na : Int) + (nb : Int)) = ((na + nb : Nat) : Int) := by omega
          clear hnab
          by_cases h400 : 400 < na + nb - 2
          · rw [if_pos h400] at hbo
            rw [hbo] at AV
            have g1 : ((400 : Int) < (na : Int) + (nb : Int) - 2) = True := eq_true (by omega)
            clear hbo h400
            go_wp2_with fail
            refine (AS.out _).mono ?_
            rintro e w1 ⟨hb1, va, rfl, hva⟩
            have HB1 := Lib.hid (HBA.out.trans (hb1.mono HBA.out.size))
            obtain ⟨ao, acap, rfl, _⟩ := hva.form
            rw [HNA.out]
            clear hva
            go_wp2_with fail
            refine (AT.out _).mono ?_
            rintro e w2 ⟨hb2, vb, rfl, hvb⟩
            have HB2 := Lib.hid (HB1.out.trans (hb2.mono HB1.out.size))
            obtain ⟨bo, bcap, rfl, _⟩ := hvb.form
            rw [HNB.out]
            clear hvb
            go_wp2_with fail
            refine (AV.out _).mono ?_
            rintro e w3 ⟨hb3, rfl⟩
            have HB3 := Lib.hid (HB2.out.trans (hb3.mono HB2.out.size))
            clear hb1 hb2 hb3 HB1 HB2 AS AT AV
            go_wp2
            go_ret
            exact ⟨rfl, HB3.out⟩
          · rw [if_neg h400] at hbo
            rw [hbo] at AV
            obtain ⟨nc, hnc⟩ : ∃ n, na + nb - 1 = n := ⟨_, rfl⟩
            have hlen : (a.dropLast ++ b.map (Lx.shift (L + 1))).length = nc := by
              rw [List.length_append, List.length_dropLast, List.length_map, HNA.out, HNB.out]; omega
            have HLEN := Lib.hid hlen
            have g1 : ((400 : Int) < (na : Int) + (nb : Int) - 2) = False := eq_false (by omega)
            have g2 : ((na : Int) + (nb : Int) - 1) = (nc : Int) := by omega
            have g3 : na + nb = nc + 1 := by omega
            clear hbo h400 hlen hnc
            go_wp2_with fail
            refine (AS.out _).mono ?_
            rintro e w1 ⟨hb1, va, rfl, hva⟩
            have HB1 := Lib.hid (HBA.out.trans (hb1.mono HBA.out.size))
            obtain ⟨ao, acap, rfl, _⟩ := hva.form
            have HVA := Lib.hid hva
            rw [HNA.out] at HVA ⊢
            clear hva
            go_wp2_with fail
            refine (AT.out _).mono ?_
            rintro e w2 ⟨hb2, vb, rfl, hvb⟩
            have HB2 := Lib.hid (HB1.out.trans (hb2.mono HB1.out.size))
            obtain ⟨bo, bcap, rfl, _⟩ := hvb.form
            have HVB := Lib.hid hvb
            rw [HNB.out] at HVB ⊢
            clear hvb
            go_wp2_with fail
            refine (AV.out _).mono ?_
            rintro e w3 ⟨hb3, vc, rfl, hvc⟩
            have HB3 := Lib.hid (HB2.out.trans (hb3.mono HB2.out.size))
            obtain ⟨co, ccap, rfl, _⟩ := hvc.form
            have HVC := Lib.hid hvc
            rw [HLEN.out] at HVC ⊢
            have HVA3 := Lib.hid ((HVA.out.below hb2).below hb3)
            have HVB3 := Lib.hid (HVB.out.below hb3)
            generalize wa.heap.size = ba at HVA3
            generalize w1.heap.size = bb at HVB3
            generalize w2.heap.size = bc at HVC
            have HNAB := Lib.hid g3
            have HRA : Hid (∀ k, k + 1 < na → ∃ u, a[k]? = some u ∧ (a.dropLast ++ b.map (Lx.shift (L + 1)))[k]? = some u ∧ u.place ≤ L) := Lib.hid fun k hk => by
              have hka : k < a.length := by rw [HNA.out]; omega
              refine ⟨a[k], List.getElem?_eq_getElem hka, ?_, HPA.out _ (List.getElem_mem _)⟩
              rw [List.getElem?_append_left (by rw [List.length_dropLast, HNA.out]; omega), List.getElem?_eq_getElem (by rw [List.length_dropLast, HNA.out]; omega), List.getElem_dropLast]
            have HRB : Hid (∀ k m, m + na = k + 1 → m < nb → ∃ u, b[m]? = some u ∧ (a.dropLast ++ b.map (Lx.shift (L + 1)))[k]? = some (Lx.shift (L + 1) u) ∧ u.place ≤ M) := Lib.hid fun k m hk hm => by
              have hmb : m < b.length := by rw [HNB.out]; omega
              refine ⟨b[m], List.getElem?_eq_getElem hmb, ?_, HPB.out _ (List.getElem_mem _)⟩
              rw [List.getElem?_append_right (by rw [List.length_dropLast, HNA.out]; omega), List.length_dropLast, HNA.out, show k - (na - 1) = m by omega, List.getElem?_map, List.getElem?_eq_getElem hmb]
              rfl
            generalize a.dropLast ++ b.map (Lx.shift (L + 1)) = c at HVC HLEN HRA HRB
            clear hb1 hb2 hb3 HB1 HB2 AS AT AV HVA HVB HPA HPB hvc
            go_wp2
            clear g1
            go_loopw [15, 16] (fun s15 s16 wx => ∃ k : Nat, k ≤ nc ∧ s15 = .int .i64 k ∧ Hid (Below w.heap.size w wx) ∧ Hid (TO wx ba 31 (.slice ao na acap) a) ∧ Hid (TO wx bb 31 (.slice bo nb bcap) b) ∧ Hid (TO wx bc 31 (.slice co nc ccap) c)) (fun i _ _ => nc - (intOf i).toNat)
            case atStart => exact ⟨0, Nat.zero_le _, rfl, HB3, HVA3, HVB3, HVC⟩
            case round =>
              obtain ⟨k, hk, rfl, HB, HA, HBB, HC⟩ := hrel
              clear HVA3 HVB3 HVC HB3
              by_cases hlt : k < nc
              · have hsz := HB.out.size
                have hk1 : (k : Int) < (nc : Int) := by omega
                have q2 := tokHeld
                have q3 := tokGuard
                by_cases hka : k + 1 < na
                · obtain ⟨u, hu, hcu, hup⟩ := HRA.out k hka
                  obtain ⟨ao', cap', hfe, hca⟩ := HA.out.form
                  rw [HNA.out] at hfe
                  cases hfe
                  obtain ⟨g, rfl, c0, c1, c2⟩ := hca k u hu
                  obtain ⟨ao', cap', hfe, hcc⟩ := HC.out.form
                  rw [HLEN.out] at hfe
                  cases hfe
                  obtain ⟨g', rfl, d0, d1, d2⟩ := hcc k u hcu
                  clear hca hcc
                  obtain ⟨kd, tx, pl⟩ := u
                  dsimp only at c0 c1 c2 d0 d1 d2 hup
                  have h1 : ((k : Int) < (na : Int) - 1) = True := eq_true (by omega)
                  have hkna : (k : Int) < (na : Int) := by omega
                  have hsz2 := hsz
                  obtain ⟨w5, hw5⟩ : ∃ w5, w5 = wr.alloc (.cells #[.int .i64 (kd : Int), .string ⟨tx.toArray⟩, .int .i64 ((pl : Int))] 31) := ⟨_, rfl⟩
                  have hbw : Below wr.heap.size wr w5 := by rw [hw5]; exact (Below.refl _ _).alloc (Nat.le_refl _) _
                  have hnw : w5.heap[wr.heap.size]? = some (.cells #[.int .i64 (kd : Int), .string ⟨tx.toArray⟩, .int .i64 ((pl : Int))] 31 (0, 0)) := by rw [hw5]; exact heap_alloc_new _ _
                  have far : ∀ a v, wr.cell? a = some v → ∀ q, (w5.drewN q).cell? a = some v := fun a v h q => (hbw.cell (World.block_lt_of_cell? wr _ h)).trans h
                  have k0 := far _ _ d0
                  have k1 := far _ _ d1
                  have k2 := far _ _ d2
                  have e0 : ∀ q, (w5.drewN q).cell? ⟨wr.heap.size, 0, none⟩ = some (.int .i64 (kd : Int)) := fun q => by show w5.cell? _ = _; simp [World.cell?, hnw]
                  have e1 : ∀ q, (w5.drewN q).cell? ⟨wr.heap.size, 1, none⟩ = some (.string ⟨tx.toArray⟩) := fun q => by show w5.cell? _ = _; simp [World.cell?, hnw]
                  have e2 : ∀ q, (w5.drewN q).cell? ⟨wr.heap.size, 2, none⟩ = some (.int .i64 ((pl : Int))) := fun q => by show w5.cell? _ = _; simp [World.cell?, hnw]
                  have q4 := fun wx => tok_same (kd : Int) ⟨tx.toArray⟩ ((pl : Int)) wx
                  have HN5 : Hid (∀ q, Below w.heap.size w (w5.drewN q) ∧ TO (w5.drewN q) ba 31 (.slice (some ⟨g, 0, none⟩) na acap) a ∧ TO (w5.drewN q) bb 31 (.slice bo nb bcap) b ∧ TO (w5.drewN q) bc 31 (.slice (some ⟨g', 0, none⟩) nc ccap) c) := Lib.hid fun q =>
                    have hq := below_dn hbw q
                    ⟨HB.out.trans (hq.mono hsz), HA.out.below hq, HBB.out.below hq, HC.out.below hq⟩
                  have far0 : ∀ ad v, wr.cell? ad = some v → ∀ o, (wr.alloc o).cell? ad = some v := fun ad v h o => (((Below.refl wr.heap.size wr).alloc (Nat.le_refl _) o).cell (World.block_lt_of_cell? wr _ h)).trans h
                  have x0 := far0 _ _ c0
                  have x1 := far0 _ _ c1
                  have x2 := far0 _ _ c2
                  clear far0 c0 c1 c2 d0 d1 d2 far hbw hnw HA HBB HC HB hu hcu hsz2
                  have HW5 := Lib.hid hw5
                  clear hw5
                  go_upto_region 25 with fail
                  rw [← HW5.out]
                  clear HW5
                  generalize wr.heap.size = b3 at *
                  clear x0 x1 x2
                  go_quiet (fail)
                  simp only [Exit.then]
                  go_wp2
                  go_roundw
                  case rel => exact ⟨k + 1, by omega, by first | rfl | go_num, (HN5.out _).1, (HN5.out _).2.1, (HN5.out _).2.2.1, (HN5.out _).2.2.2⟩
                  case measure => simp [intOf]; omega
                · obtain ⟨m, hm⟩ : ∃ m, m + na = k + 1 := ⟨k + 1 - na, by omega⟩
                  have hmb : m < nb := by have := HNAB.out; omega
                  obtain ⟨u, hu, hcu, hup⟩ := HRB.out k m hm hmb
                  obtain ⟨ao', cap', hfe, hca⟩ := HBB.out.form
                  rw [HNB.out] at hfe
                  cases hfe
                  obtain ⟨g, rfl, c0, c1, c2⟩ := hca m u hu
                  obtain ⟨ao', cap', hfe, hcc⟩ := HC.out.form
                  rw [HLEN.out] at hfe
                  cases hfe
                  obtain ⟨g', rfl, d0, d1, d2⟩ := hcc k _ hcu
                  clear hca hcc
                  obtain ⟨kd, tx, pl⟩ := u
                  dsimp only [Lx.shift] at c0 c1 c2 d0 d1 d2 hup
                  rw [show ((pl + (L + 1) : Nat) : Int) = (pl : Int) + (L : Int) + 1 by omega] at d2
                  have h1 : ((k : Int) < (na : Int) - 1) = False := eq_false (by omega)
                  have h2 : (k : Int) - (na : Int) + 1 = (m : Int) := by omega
                  have h3 : (m : Int) < (nb : Int) := by omega
                  have h4 : (0 : Int) ≤ (m : Int) := by omega
                  clear hm
                  have hsz2 := hsz
                  obtain ⟨w5, hw5⟩ : ∃ w5, w5 = wr.alloc (.cells #[.int .i64 (kd : Int), .string ⟨tx.toArray⟩, .int .i64 ((pl : Int) + (L : Int) + 1)] 31) := ⟨_, rfl⟩
                  have hbw : Below wr.heap.size wr w5 := by rw [hw5]; exact (Below.refl _ _).alloc (Nat.le_refl _) _
                  have hnw : w5.heap[wr.heap.size]? = some (.cells #[.int .i64 (kd : Int), .string ⟨tx.toArray⟩, .int .i64 ((pl : Int) + (L : Int) + 1)] 31 (0, 0)) := by rw [hw5]; exact heap_alloc_new _ _
                  have far : ∀ a v, wr.cell? a = some v → ∀ q, (w5.drewN q).cell? a = some v := fun a v h q => (hbw.cell (World.block_lt_of_cell? wr _ h)).trans h
                  have k0 := far _ _ d0
                  have k1 := far _ _ d1
                  have k2 := far _ _ d2
                  have e0 : ∀ q, (w5.drewN q).cell? ⟨wr.heap.size, 0, none⟩ = some (.int .i64 (kd : Int)) := fun q => by show w5.cell? _ = _; simp [World.cell?, hnw]
                  have e1 : ∀ q, (w5.drewN q).cell? ⟨wr.heap.size, 1, none⟩ = some (.string ⟨tx.toArray⟩) := fun q => by show w5.cell? _ = _; simp [World.cell?, hnw]
                  have e2 : ∀ q, (w5.drewN q).cell? ⟨wr.heap.size, 2, none⟩ = some (.int .i64 ((pl : Int) + (L : Int) + 1)) := fun q => by show w5.cell? _ = _; simp [World.cell?, hnw]
                  have q4 := fun wx => tok_same (kd : Int) ⟨tx.toArray⟩ ((pl : Int) + (L : Int) + 1) wx
                  have HN5 : Hid (∀ q, Below w.heap.size w (w5.drewN q) ∧ TO (w5.drewN q) ba 31 (.slice ao na acap) a ∧ TO (w5.drewN q) bb 31 (.slice (some ⟨g, 0, none⟩) nb bcap) b ∧ TO (w5.drewN q) bc 31 (.slice (some ⟨g', 0, none⟩) nc ccap) c) := Lib.hid fun q =>
                    have hq := below_dn hbw q
                    ⟨HB.out.trans (hq.mono hsz), HA.out.below hq, HBB.out.below hq, HC.out.below hq⟩
                  have far0 : ∀ ad v, wr.cell? ad = some v → ∀ o, (wr.alloc o).cell? ad = some v := fun ad v h o => (((Below.refl wr.heap.size wr).alloc (Nat.le_refl _) o).cell (World.block_lt_of_cell? wr _ h)).trans h
                  have x0 := far0 _ _ c0
                  have x1 := far0 _ _ c1
                  have x2 := far0 _ _ c2
                  clear far0 c0 c1 c2 d0 d1 d2 far hbw hnw HA HBB HC HB hu hcu hsz2
                  have HW5 := Lib.hid hw5
                  clear hw5
                  go_upto_region 25 with fail
                  rw [← HW5.out]
                  clear HW5
                  generalize wr.heap.size = b3 at *
                  clear x0 x1 x2
                  go_quiet (fail)
                  simp only [Exit.then]
                  go_wp2
                  go_roundw
                  case rel => exact ⟨k + 1, by omega, by first | rfl | go_num, (HN5.out _).1, (HN5.out _).2.1, (HN5.out _).2.2.1, (HN5.out _).2.2.2⟩
                  case measure => simp [intOf]; omega
              · have hkn : k = nc := by omega
                subst hkn
                go_wp2
                go_ret
                exact ⟨rfl, HB.out⟩
end Go.Proofs.YtdeocejjneghjaaDoor
