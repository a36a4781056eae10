/- The law VarsPlays walked (layer 16). Laid by wip/tools/gen_vplays.py. -/
import Derived.Test.YtkpahkcamgmlnaaDoorVarsVP
import Derived.Test.YtkpahkcamgmlnaaDoorStrsSame
import Derived.Test.YtkpahkcamgmlnaaDoorOpenSops
import Derived.ProofKit
import Derived.OpenShut
namespace Go.Proofs.YtkpahkcamgmlnaaDoor
open Go.RowKit

set_option maxRecDepth 20000 in
set_option maxHeartbeats 8000000 in
theorem lawPlaysV (v0 : Value) (os : List SOp) (h1 : os.length ≤ maxLen) (w : World) (r1 : RdN 3 w v0 (os.map SOp.cells)) (m1 : ∀ o ∈ os, o.Ok) :
    Calls Tryd.prog 3 #[v0] w fun e w' => e = .returned (.bool true) ∧ Below w.heap.size w w' := by
  obtain ⟨lo, cl, rfl, hcl, hll⟩ := r1.form
  rw [List.length_map] at hcl hll ⊢
  obtain ⟨L, hL⟩ : ∃ L, L = os.length := ⟨_, rfl⟩
  rw [← hL] at h1 hcl hll ⊢
  have HLL := Lib.hid hll
  have HM1 := Lib.hid m1
  have HL := Lib.hid hL
  unfold maxLen at h1
  clear hll m1 hL r1
  go_enter Tryd.func3, Tryd.ntmps3
  go_wp2_with fail
  refine (shown_any w).mono ?_
  rintro e wa ⟨rfl, hba⟩
  have HBA := Lib.hid hba
  clear hba
  go_wp2_with fail
  refine (vnew_own wa).mono ?_
  rintro e wb ⟨b0, rfl, hv, hb0⟩
  have hal : Below wb.heap.size wb (wb.alloc (.cells #[.slice none 0 0, .slice none 0 0] 29)) := (Below.refl _ _).alloc (Nat.le_refl _) _
  have hP0 : VP w (wb.alloc (.cells #[.slice none 0 0, .slice none 0 0] 29)) b0 none wb.heap.size (.slice none 0 0) (.slice none 0 0) [] := by
    have hv2 := hv.later hal
    refine ⟨⟨hv2.vo, fun k hk => Nat.le_trans HBA.out.size (hv2.own k hk), HBA.out.trans (hv2.below.mono HBA.out.size)⟩, ⟨heap_alloc_new _ _, .inl ⟨rfl, none, 0, fun _ => rfl, rfl⟩, .inl ⟨rfl, none, 0, fun _ => rfl, rfl⟩, fun p hp => (by cases hp), Nat.zero_le _⟩, Nat.le_trans HBA.out.size hv.below.size, ?_⟩
    rintro (e | e)
    · have := hv.vo.c.lt; omega
    · cases e
  obtain ⟨g, hg⟩ : ∃ g, g = wb.heap.size := ⟨_, rfl⟩
  have HP0 := Lib.hid hP0
  rw [← hg] at HP0
  have HG := Lib.hid hg
  clear hal hP0 hv hb0
  go_wp2
  rw [← HG.out]
  go_loopw [4, 6] (fun s4 s6 wr => ∃ (k b : Nat) (x : Option Nat) (nv vv : Value) (σ : Va.Env), s4 = .pointer (some ⟨b, 0, none⟩) ∧ s6 = .int .i64 k ∧ k ≤ L ∧ Hid (VP w wr b x g nv vv σ)) (fun _ s6 _ => L - (intOf s6).toNat)
  case atStart => exact ⟨0, b0, none, _, _, [], rfl, rfl, Nat.zero_le _, HP0⟩
  case round =>
    obtain ⟨k, b, x, nv, vv, σ, rfl, rfl, hk, HP⟩ := hrel
    clear HP0 HG hg
    by_cases hgo : k < L ∧ k < 60
    · obtain ⟨hlt, hlt60⟩ := hgo
      obtain ⟨lb, o, rfl, hmc, hcell⟩ := HLL.out (by omega)
      obtain ⟨op, hop⟩ : ∃ op, os[k]? = some op := ⟨_, List.getElem?_eq_getElem (by rw [← HL.out]; exact hlt)⟩
      obtain ⟨kind, nmb, vlb⟩ := op
      have ok := HM1.out _ (List.mem_of_getElem? hop)
      have hkb := bounds_u8 ok.kind
      have hnb := ok.name
      have hvb := ok.value
      simp only at hkb hnb hvb
      obtain ⟨kd, rfl⟩ := Int.eq_ofNat_of_zero_le hkb.1
      have cells : ∀ wx, Below w.heap.size w wx → wx.cell? ⟨lb, o + k * 3, none⟩ = some (.int .u8 (kd : Int)) ∧ wx.cell? ⟨lb, o + k * 3 + 1, none⟩ = some (.string nmb) ∧ wx.cell? ⟨lb, o + k * 3 + 2, none⟩ = some (.string vlb) := fun wx hb => by
        have key : ∀ i u, (SOp.cells ⟨(kd : Int), nmb, vlb⟩)[i]? = some u → wx.cell? ⟨lb, o + (k * 3 + i), none⟩ = some u := fun i u hu => by
          have hc := hcell k _ (by rw [List.getElem?_map, hop]; rfl) i u hu
          exact (hb.cell (World.block_lt_of_cell? w _ hc)).trans hc
        exact ⟨key 0 _ rfl, by rw [Nat.add_assoc]; exact key 1 _ rfl, by rw [Nat.add_assoc]; exact key 2 _ rfl⟩
      unfold maxLen at hmc
      obtain ⟨r, hr⟩ : ∃ r, r = kd % 4 := ⟨_, rfl⟩
      have hr4 : r < 4 := by omega
      have e1 : bits .and .u8 (kd : Int) 3 = (r : Int) := by
        have := mask_u8 2 (by decide) (x := (kd : Int)) (by omega) (by omega)
        rw [show ((2 : Int) ^ 2 - 1) = 3 by decide, show ((2 : Int) ^ 2) = 4 by decide] at this
        rw [this]
        omega
      have hsn := short_any nmb hnb 100 (by decide)
      have hsv := short_any vlb hvb 1100 (by decide)
      obtain ⟨N, hN⟩ : ∃ N, N = nmb.data.toList.take 100 := ⟨_, rfl⟩
      obtain ⟨V, hV⟩ : ∃ V, V = vlb.data.toList.take 1100 := ⟨_, rfl⟩
      rw [← hN] at hsn
      rw [← hV] at hsv
      have hNl : N.length ≤ 100 := by rw [hN, List.length_take]; omega
      have hVl : V.length ≤ 1100 := by rw [hV, List.length_take]; omega
      obtain ⟨k0, k1, k2⟩ := cells wr HP.out.v.below
      have HCS := Lib.hid cells
      have HSN := Lib.hid hsn
      have HSV := Lib.hid hsv
      have hki : ((k : Int) < (L : Int)) := by omega
      have hki2 : ((k : Int) < 60) := by omega
      clear hN hV hsn hsv cells hop hcell ok hr hkb hnb hvb
      go_wp2_with fail
      refine (HSN.out _).mono ?_
      rintro e w1 ⟨rfl, rfl⟩
      go_wp2_with fail
      refine (HSV.out _).mono ?_
      rintro e w1 ⟨rfl, rfl⟩
      obtain ⟨D, hD⟩ : ∃ D, D = (Va.parts V).isSome := ⟨_, rfl⟩
      have hnA := vnames_any wr V (by omega)
      rw [← hD] at hnA
      go_wp2_with fail
      refine hnA.mono ?_
      rintro e w2 ⟨va, rfl, hva, hb2⟩
      have HP2 := Lib.hid (HP.out.later hb2)
      have hnB := rnames_any w2 V (by omega)
      rw [← hD] at hnB
      have HVA := Lib.hid hva
      have HNB := Lib.hid hnB
      clear hb2 hva hnA hnB HP k0 k1 k2 hD
      go_wp2_with fail
      refine HNB.out.mono ?_
      rintro e w3 ⟨vb, rfl, hvb, hb3⟩
      have HP3 := Lib.hid (HP2.out.later hb3)
      have hsm := same_any _ _ _ _ w3 (HVA.out.below hb3) hvb
      rw [beq_self_eq_true] at hsm
      have HSM := Lib.hid hsm
      clear hb3 hvb hsm HNB HVA HP2
      go_wp2_with fail
      refine HSM.out.mono ?_
      rintro e w4 ⟨rfl, hb4⟩
      have HP4 := Lib.hid (HP3.out.later hb4)
      obtain ⟨k0, k1, k2⟩ := HCS.out w4 HP4.out.v.below
      have hrc : r = 0 ∨ r = 1 ∨ r = 2 ∨ r = 3 := by omega
      clear hb4 HSM HP3 hr4
      cases D
      all_goals
        rcases hrc with rfl | rfl | rfl | rfl
        · have hst := HP4.out.set N V (by omega) (by omega)
          have HST := Lib.hid hst
          obtain ⟨cd, hcd⟩ : ∃ cd, cd = (Va.set σ N V).2 := ⟨_, rfl⟩
          rw [← hcd] at HST
          clear hst HP4 hcd
          go_wp2_with fail
          refine HST.out.mono ?_
          rintro e w5 ⟨rfl, hst2⟩
          have HST2 := Lib.hid hst2
          clear hst2 HST
          go_wp2_with fail
          refine HST2.out.mono ?_
          rintro e w6 ⟨rfl, x', nv', vv', hp⟩
          have HPz := Lib.hid hp
          clear hp HST2
          have hln := fun q => (vlen_any (HPz.out.later (w' := (w6).drewN q) ⟨rfl, rfl, rfl, Nat.le_refl _, fun _ _ => rfl⟩).v.vo).mono fun e w' h => (⟨h.1, h.2.symm⟩ : _ ∧ w' = (w6).drewN q)
          have hrn := HPz.out.y.n
          obtain ⟨na, nc, hnv, _, _⟩ := hrn.formV
          have hc0 := fun q => (HPz.out.later (w' := (w6).drewN q) ⟨rfl, rfl, rfl, Nat.le_refl _, fun _ _ => rfl⟩).y.c0
          simp only [hnv, List.length_map, keys_len] at hc0
          have hc1 := hc0 0
          have hM16 := HPz.out.v.vo.len
          generalize hM : ((Va.set σ N V).1).length = M at hln hc0 hc1 hM16
          have HLN := Lib.hid hln
          have HPe := Lib.hid (fun q => HPz.out.later (w' := (w6).drewN q) ⟨rfl, rfl, rfl, Nat.le_refl _, fun _ _ => rfl⟩)
          clear hrn HPz hM hln hnv
          go_wp2
          refine wp_region_quiet_lit (by kernel_rfl) (by kernel_rfl) ?_
          repeat (quiet_step (exact Calls.quiet_of_same (HLN.out _)))
          refine wpQuiet_nil ?_
          rintro _ ⟨nq, rfl⟩
          have HPf := Lib.hid (HPe.out nq)
          clear HPe HLN
          go_wp2
          go_roundw
          case rel => exact ⟨k + 1, _, _, _, _, _, rfl, by go_num, by omega, HPf⟩
          case measure => simp [intOf]; omega
        · have hga := vget_any HP4.out.v.vo N (by omega)
          have hgb := fun w' (hb : Below w4.heap.size w4 w') => rget_any (HP4.out.later hb).y N
          unfold sv at hga hgb
          generalize (Va.look σ N).getD [] = U at hga hgb
          generalize (Va.look σ N).isSome = O at hga hgb
          have hU : ((⟨U.toArray⟩ : ByteArray).toList == (⟨U.toArray⟩ : ByteArray).toList) = true := beq_self_eq_true _
          have HGA := Lib.hid hga
          have HGB := Lib.hid hgb
          clear hga hgb
          cases O
          all_goals
            go_wp2_with fail
            refine HGA.out.mono ?_
            rintro e w5 ⟨rfl, hb5⟩
            have HPz := Lib.hid (HP4.out.later hb5)
            have HG5 := Lib.hid (HGB.out w5 hb5)
            clear hb5 HGA HGB HP4
            go_wp2_with fail
            refine HG5.out.mono ?_
            rintro e w6 ⟨rfl, hw6⟩
            obtain rfl := hw6
            clear HG5
            have hln := fun q => (vlen_any (HPz.out.later (w' := (w5).drewN q) ⟨rfl, rfl, rfl, Nat.le_refl _, fun _ _ => rfl⟩).v.vo).mono fun e w' h => (⟨h.1, h.2.symm⟩ : _ ∧ w' = (w5).drewN q)
            have hrn := HPz.out.y.n
            obtain ⟨na, nc, hnv, _, _⟩ := hrn.formV
            have hc0 := fun q => (HPz.out.later (w' := (w5).drewN q) ⟨rfl, rfl, rfl, Nat.le_refl _, fun _ _ => rfl⟩).y.c0
            simp only [hnv, List.length_map, keys_len] at hc0
            have hc1 := hc0 0
            have hM16 := HPz.out.v.vo.len
            generalize hM : (σ).length = M at hln hc0 hc1 hM16
            have HLN := Lib.hid hln
            have HPe := Lib.hid (fun q => HPz.out.later (w' := (w5).drewN q) ⟨rfl, rfl, rfl, Nat.le_refl _, fun _ _ => rfl⟩)
            clear hrn HPz hM hln hnv
            go_wp2
            refine wp_region_quiet_lit (by kernel_rfl) (by kernel_rfl) ?_
            repeat (quiet_step (exact Calls.quiet_of_same (HLN.out _)))
            refine wpQuiet_nil ?_
            rintro _ ⟨nq, rfl⟩
            have HPf := Lib.hid (HPe.out nq)
            clear HPe HLN
            go_wp2
            go_roundw
            case rel => exact ⟨k + 1, _, _, _, _, _, rfl, by go_num, by omega, HPf⟩
            case measure => simp [intOf]; omega
        · have hsh : ∀ wx, Calls Tryd.prog 10 #[.string ⟨V.toArray⟩, .int .i64 100] wx fun e w' => e = .returned (.string ⟨(V.take 100).toArray⟩) ∧ wx = w' := fun wx => short_any ⟨V.toArray⟩ (by show V.length ≤ maxLen; unfold maxLen; omega) 100 (by decide) wx
          obtain ⟨V2, hV2⟩ : ∃ V2, V2 = V.take 100 := ⟨_, rfl⟩
          rw [← hV2] at hsh
          have hV2l : V2.length ≤ 100 := by rw [hV2, List.length_take]; omega
          have hga := vexpand_any HP4.out.v.vo V2 (by omega)
          have hgb := fun w' (hb : Below w4.heap.size w4 w') => rexpand_any (HP4.out.later hb).y V2 (by omega)
          unfold sv at hga hgb
          generalize (Va.expand σ V2).getD [] = U at hga hgb
          generalize (Va.expand σ V2).isSome = O at hga hgb
          have hU : ((⟨U.toArray⟩ : ByteArray).toList == (⟨U.toArray⟩ : ByteArray).toList) = true := beq_self_eq_true _
          have HSH2 := Lib.hid hsh
          have HGA := Lib.hid hga
          have HGB := Lib.hid hgb
          clear hga hgb hsh hV2
          cases O
          all_goals
            go_wp2_with fail
            refine (HSH2.out _).mono ?_
            rintro e w5 ⟨rfl, rfl⟩
            go_wp2_with fail
            refine HGA.out.mono ?_
            rintro e w5 ⟨rfl, hb5⟩
            have HP5 := Lib.hid (HP4.out.later hb5)
            have HG5 := Lib.hid (HGB.out w5 hb5)
            clear hb5 HGA HGB HSH2 HP4
            go_wp2_with fail
            refine HG5.out.mono ?_
            rintro e w6 ⟨rfl, hb6⟩
            have HPz := Lib.hid (HP5.out.later hb6)
            clear hb6 HG5 HP5
            have hln := fun q => (vlen_any (HPz.out.later (w' := (w6).drewN q) ⟨rfl, rfl, rfl, Nat.le_refl _, fun _ _ => rfl⟩).v.vo).mono fun e w' h => (⟨h.1, h.2.symm⟩ : _ ∧ w' = (w6).drewN q)
            have hrn := HPz.out.y.n
            obtain ⟨na, nc, hnv, _, _⟩ := hrn.formV
            have hc0 := fun q => (HPz.out.later (w' := (w6).drewN q) ⟨rfl, rfl, rfl, Nat.le_refl _, fun _ _ => rfl⟩).y.c0
            simp only [hnv, List.length_map, keys_len] at hc0
            have hc1 := hc0 0
            have hM16 := HPz.out.v.vo.len
            generalize hM : (σ).length = M at hln hc0 hc1 hM16
            have HLN := Lib.hid hln
            have HPe := Lib.hid (fun q => HPz.out.later (w' := (w6).drewN q) ⟨rfl, rfl, rfl, Nat.le_refl _, fun _ _ => rfl⟩)
            clear hrn HPz hM hln hnv
            go_wp2
            refine wp_region_quiet_lit (by kernel_rfl) (by kernel_rfl) ?_
            repeat (quiet_step (exact Calls.quiet_of_same (HLN.out _)))
            refine wpQuiet_nil ?_
            rintro _ ⟨nq, rfl⟩
            have HPf := Lib.hid (HPe.out nq)
            clear HPe HLN
            go_wp2
            go_roundw
            case rel => exact ⟨k + 1, _, _, _, _, _, rfl, by go_num, by omega, HPf⟩
            case measure => simp [intOf]; omega
        · have hcn := HP4.out.clone [97] [111, 116, 104, 101, 114] [122, 122] [109, 111, 114, 101] (by decide) (by decide) (by decide) (by decide)
          have HCN := Lib.hid hcn
          clear hcn HP4
          go_wp2_with fail
          refine HCN.out.mono ?_
          rintro e w5 ⟨b', rfl, hn5⟩
          have HN5 := Lib.hid hn5
          clear hn5 HCN
          go_wp2_with fail
          refine HN5.out.mono ?_
          rintro e w6 ⟨c6, rfl, hn6⟩
          have HN6 := Lib.hid hn6
          clear hn6 HN5
          go_wp2_with fail
          refine HN6.out.mono ?_
          rintro e w7 ⟨c7, x', rfl, hp⟩
          have HPz := Lib.hid hp
          clear hp HN6
          have hln := fun q => (vlen_any (HPz.out.later (w' := (w7).drewN q) ⟨rfl, rfl, rfl, Nat.le_refl _, fun _ _ => rfl⟩).v.vo).mono fun e w' h => (⟨h.1, h.2.symm⟩ : _ ∧ w' = (w7).drewN q)
          have hrn := HPz.out.y.n
          obtain ⟨na, nc, hnv, _, _⟩ := hrn.formV
          have hc0 := fun q => (HPz.out.later (w' := (w7).drewN q) ⟨rfl, rfl, rfl, Nat.le_refl _, fun _ _ => rfl⟩).y.c0
          simp only [hnv, List.length_map, keys_len] at hc0
          have hc1 := hc0 0
          have hM16 := HPz.out.v.vo.len
          generalize hM : (σ).length = M at hln hc0 hc1 hM16
          have HLN := Lib.hid hln
          have HPe := Lib.hid (fun q => HPz.out.later (w' := (w7).drewN q) ⟨rfl, rfl, rfl, Nat.le_refl _, fun _ _ => rfl⟩)
          clear hrn HPz hM hln hnv
          go_wp2
          refine wp_region_quiet_lit (by kernel_rfl) (by kernel_rfl) ?_
          repeat (quiet_step (exact Calls.quiet_of_same (HLN.out _)))
          refine wpQuiet_nil ?_
          rintro _ ⟨nq, rfl⟩
          have HPf := Lib.hid (HPe.out nq)
          clear HPe HLN
          go_wp2
          go_roundw
          case rel => exact ⟨k + 1, _, _, _, _, _, rfl, by go_num, by omega, HPf⟩
          case measure => simp [intOf]; omega
    · have HB := Lib.hid HP.out.v.below
      have HEND : Hid ((k < L ∧ (k < 60) = False) ∨ (k < L) = False) := Lib.hid (by
        by_cases h1 : k < L
        · exact .inl ⟨h1, eq_false (fun h2 => hgo ⟨h1, h2⟩)⟩
        · exact .inr (eq_false h1))
      clear hgo
      rcases HEND.out with ⟨hend1, hend2⟩ | hend
      case inl =>
        have hend1i : ((k : Int) < (L : Int)) = True := eq_true (by omega)
        have hend2i : ((k : Int) < 60) = False := eq_false (by rw [eq_iff_iff, iff_false] at hend2; omega)
        clear hend1 hend2 HEND
        go_wp2
        go_ret
        exact ⟨rfl, HB.out⟩
      case inr =>
        have hend2i : ((k : Int) < (L : Int)) = False := eq_false (by rw [eq_iff_iff, iff_false] at hend; omega)
        clear hend HEND
        go_wp2
        go_ret
        exact ⟨rfl, HB.out⟩
end Go.Proofs.YtkpahkcamgmlnaaDoor
