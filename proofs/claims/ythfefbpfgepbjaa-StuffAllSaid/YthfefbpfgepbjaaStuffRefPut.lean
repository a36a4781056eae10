/- The reference's Put walked. -/
import Derived.Test.YthfefbpfgepbjaaStuffRef
namespace Go.Proofs.Ythfefbpfgepbjaa
open Go.RowKit

/-- What holds at the head of a round. -/
structure RP (w wr : World) (ws : List UInt8) (k : Nat) (s : Value) : Prop where
  o : wr.ownsRow w.heap.size 5 1 s (St.dots [] (ws.take k)).length ((St.dots [] (ws.take k)).map bv)
  b : Below w.heap.size w wr
theorem RP.next {w wr w' : World} {ws : List UInt8} {k : Nat} {s : Value} (h : RP w wr ws k s) (hb : Below wr.heap.size wr w') : RP w w' ws k s := ⟨own_below h.o hb, h.b.trans (hb.mono h.b.size)⟩
theorem dots_at {ws : List UInt8} {k : Nat} {x : UInt8} (h : ws[k]? = some x) : St.dots [] (ws.take (k + 1)) = St.dots [] (ws.take k) ++ ((if x = 46 ∧ (k = 0 ∨ St.ends (ws.take k) = true) then [46] else []) ++ [x]) := by
  obtain ⟨hk, he⟩ := List.getElem?_eq_some_iff.1 h
  rw [List.take_succ_eq_append_getElem hk, he, St.dots_snoc]
  congr 2
  have e : (((ws.take k).isEmpty || St.ends (ws.take k)) = true) ↔ (k = 0 ∨ St.ends (ws.take k) = true) := by
    rw [Bool.or_eq_true, List.isEmpty_iff, List.take_eq_nil_iff]
    constructor
    · rintro ((h | h) | h)
      · exact .inl h
      · subst h; simp at hk
      · exact .inr h
    · rintro (h | h)
      · exact .inl (.inl h)
      · exact .inr h
  simp only [e]

set_option maxHeartbeats 4000000 in
theorem rput_any (v : Value) (xs : List UInt8) (w : World) (h : Rd w v (xs.map bv)) (hs : xs.length ≤ 100000) :
    Calls Try.prog 12 #[v] w fun e w' => ∃ ao c, e = .returned (.slice ao (St.put xs).length c) ∧ Rd w' (.slice ao (St.put xs).length c) ((St.put xs).map bv) ∧ Below w.heap.size w w' := by
  have hwh := rwhole_any v xs w h (by omega)
  have hwl := St.whole_len xs
  obtain ⟨P, hP⟩ : ∃ P, P = (St.put xs).length := ⟨_, rfl⟩
  have hP2 : (St.dots [] (St.whole xs)).length + 3 = P := by rw [hP]; unfold St.put; rw [List.length_append]; rfl
  have hP3 : (St.dots [] (St.whole xs)).map bv ++ [46, 13, 10].map bv = (St.put xs).map bv := by unfold St.put; rw [List.map_append]
  rw [← hP]
  generalize (St.put xs).map bv = pv at hP3 ⊢
  obtain ⟨ws, hws⟩ : ∃ ws, ws = St.whole xs := ⟨_, rfl⟩
  rw [← hws] at hwh hwl hP2 hP3
  obtain ⟨L, hL⟩ : ∃ L, L = ws.length := ⟨_, rfl⟩
  rw [← hL] at hwh hwl
  have hLb : L ≤ 100002 := by omega
  have HW := Lib.hid hwh
  have HL := Lib.hid hL
  have HP2 := Lib.hid hP2
  have HP3 := Lib.hid hP3
  clear hwh hwl hP hP2 hP3 hws hL h hs
  go_enter Try.func12, Try.ntmps12
  go_wp2_with fail
  refine HW.out.mono ?_
  rintro e w1 ⟨ao, cap, rfl, hr, hb⟩
  have hal : Below w1.heap.size w1 (w1.alloc (.cells #[] 5)) := (Below.refl _ _).alloc (Nat.le_refl _) _
  have hst : RP w1 (w1.alloc (.cells #[] 5)) ws 0 (.slice (some ⟨w1.heap.size, 0, none⟩) 0 0) := ⟨World.ownsRow_made (base := w1.heap.size) w1 #[] 0 (Nat.le_refl _) (Nat.zero_le _) rfl, hal⟩
  have HST := Lib.hid hst
  have HR := Lib.hid hr
  have HB := Lib.hid hb
  clear hal hst hr hb HW
  go_wp2
  go_loopw [4, 5, 6] (fun s i _ wr => ∃ k : Nat, k ≤ L ∧ i = .int .i64 k ∧ Hid (RP w1 wr ws k s)) (fun _ i _ _ => L - (intOf i).toNat)
  case atStart => exact ⟨0, Nat.zero_le _, rfl, HST⟩
  case round =>
    obtain ⟨k, hk, rfl, hR⟩ := hrel
    by_cases hlt : k < L
    · obtain ⟨x, hx⟩ : ∃ x, ws[k]? = some x := ⟨_, List.getElem?_eq_getElem (by rw [← HL.out]; exact hlt)⟩
      obtain ⟨ao', cap', e, hcap, hc⟩ := HR.out.form
      simp only [Value.slice.injEq] at e
      obtain ⟨rfl, hz, rfl⟩ := e
      clear hz
      obtain ⟨b, o, rfl, hcm, hcell⟩ := hc (by rw [← HL.out]; omega)
      have hce : w1.cell? ⟨b, o + k, none⟩ = some (bv x) := by
        rw [hcell k (by rw [← HL.out]; exact hlt), List.getD_eq_getElem?_getD, hx]; rfl
      have HCE := Lib.hid hce
      have hce2 : wr.cell? ⟨b, o + k, none⟩ = some (bv x) := (hR.out.b.cell (World.block_lt_of_cell? w1 _ hce)).trans hce
      have hre := rends_any _ (ws.take k) wr ((HR.out.below hR.out.b).cut (m := k) HL.out hk) (by rw [List.length_take, ← HL.out]; omega)
      have hda := dots_at hx
      have hdl := (St.dots_len (ws.take k) []).2
      rw [List.length_take, ← HL.out, Nat.min_eq_left hk] at hdl
      rw [← HL.out] at hcap
      have hkc : (k : Int) ≤ (cap : Int) := by omega
      have hx256 := x.toNat_lt
      unfold bv at hce2
      obtain ⟨ds, hds⟩ : ∃ ds, ds = St.dots [] (ws.take k) := ⟨_, rfl⟩
      have hown := hR.out.o
      have hbel := hR.out.b
      rw [← hds] at hda hdl hown
      obtain ⟨s', sc, rfl⟩ := own_form hown
      obtain ⟨D, hD⟩ : ∃ D, D = ds.length := ⟨_, rfl⟩
      rw [← hD] at hown hdl ⊢
      have HE := Lib.hid hre
      have HDA := Lib.hid hda
      have HD := Lib.hid hD
      have HO := Lib.hid hown
      have HBL := Lib.hid hbel
      clear hre hda hD hce hcell hc hx hcm hds hown hbel hR
      generalize hq : St.ends (ws.take k) = q at HE HDA
      clear hq
      by_cases hd : x = 46 ∧ (k = 0 ∨ q = true)
      · rw [if_pos hd] at HDA
        obtain ⟨rfl, hd⟩ := hd
        have hd2 : k = 0 ∨ (k ≠ 0 ∧ q = true) := by
          rcases hd with hd | hd
          · exact .inl hd
          · by_cases h0 : k = 0
            · exact .inl h0
            · exact .inr ⟨h0, hd⟩
        clear hd
        rcases hd2 with rfl | ⟨hk0, rfl⟩
        rotate_left
        · have hkz : ((k : Int) == 0) = false := beq_eq_false_iff_ne.2 (by omega)
          have hkz2 : ((k : Int) = 0) = False := eq_false (by omega)
          clear hk0
          go_wp2_with fail
          refine HE.out.mono ?_
          rintro e w2 ⟨rfl, hw⟩
          rw [← hw]
          clear hw HE
          have hal : Below wr.heap.size wr (wr.alloc (.cells ([46].map bv).toArray 5)) := (Below.refl _ _).alloc (Nat.le_refl _) _
          have HA := Lib.hid (own_below HO.out hal)
          have HRA := Lib.hid (Rd.made wr [46] 5 (0, 0) 1 rfl (by decide))
          have HBA := Lib.hid (HBL.out.trans (hal.mono HBL.out.size))
          clear hal
          go_wp2_with (at_builtin; refine append_u8s rfl (.tmp 32) (.tmp 33) rfl rfl HA.out ([46].map bv) HRA.out (bv_cell _) ?ca HBA.out.size ?_)
          case ca => show D + 1 ≤ _; omega
          intro v3 w3 ho3 hg3
          obtain ⟨co, cc, rfl⟩ := own_form ho3
          have hb3 := HBA.out.grown hg3 HBA.out.size (fun k hk => (HA.out.lt k hk).1)
          have hce3 : w3.cell? ⟨b, o + k, none⟩ = some (.int .u8 46) := (hb3.cell (World.block_lt_of_cell? w1 _ HCE.out)).trans HCE.out
          have hal : Below w3.heap.size w3 (w3.alloc (.cells ([46].map bv).toArray 5)) := (Below.refl _ _).alloc (Nat.le_refl _) _
          have HA3 := Lib.hid (own_below ho3 hal)
          have HRA3 := Lib.hid (Rd.made w3 [46] 5 (0, 0) 1 rfl (by decide))
          have HBA3 := Lib.hid (hb3.trans (hal.mono hb3.size))
          clear hal ho3 hg3 hb3 HA HRA HBA
          go_wp2_with (at_builtin; refine append_u8s rfl (.tmp 35) (.tmp 40) rfl rfl HA3.out ([46].map bv) HRA3.out (bv_cell _) ?cc HBA3.out.size ?_)
          case cc => show D + 1 + 1 ≤ _; omega
          intro v4 w4 ho4 hg4
          obtain ⟨fo, fc, rfl⟩ := own_form ho4
          have hnx : RP w1 w4 ws (k + 1) (.slice fo (D + 1 + 1) fc) := ⟨by rw [HDA.out]; simpa [HD.out] using ho4, HBA3.out.grown hg4 HBA3.out.size (fun k hk => (HA3.out.lt k hk).1)⟩
          have HN := Lib.hid hnx
          clear ho4 hg4 hnx HA3 HRA3 HBA3 HDA HD HO HBL
          go_wp2
          go_roundw
          case rel => exact ⟨k + 1, by omega, by go_num, HN⟩
          case measure => simp [intOf]; omega
        · simp only [Nat.add_zero] at hce2 HCE
          simp only [Nat.zero_add] at HDA
          go_wp2_with fail
          refine HE.out.mono ?_
          rintro e w2 ⟨rfl, hw⟩
          rw [← hw]
          clear hw HE
          have hal : Below wr.heap.size wr (wr.alloc (.cells ([46].map bv).toArray 5)) := (Below.refl _ _).alloc (Nat.le_refl _) _
          have HA := Lib.hid (own_below HO.out hal)
          have HRA := Lib.hid (Rd.made wr [46] 5 (0, 0) 1 rfl (by decide))
          have HBA := Lib.hid (HBL.out.trans (hal.mono HBL.out.size))
          clear hal
          go_wp2_with (at_builtin; refine append_u8s rfl (.tmp 32) (.tmp 33) rfl rfl HA.out ([46].map bv) HRA.out (bv_cell _) ?ca HBA.out.size ?_)
          case ca => show D + 1 ≤ _; omega
          intro v3 w3 ho3 hg3
          obtain ⟨co, cc, rfl⟩ := own_form ho3
          have hb3 := HBA.out.grown hg3 HBA.out.size (fun k hk => (HA.out.lt k hk).1)
          have hce3 : w3.cell? ⟨b, o, none⟩ = some (.int .u8 46) := (hb3.cell (World.block_lt_of_cell? w1 _ HCE.out)).trans HCE.out
          have hal : Below w3.heap.size w3 (w3.alloc (.cells ([46].map bv).toArray 5)) := (Below.refl _ _).alloc (Nat.le_refl _) _
          have HA3 := Lib.hid (own_below ho3 hal)
          have HRA3 := Lib.hid (Rd.made w3 [46] 5 (0, 0) 1 rfl (by decide))
          have HBA3 := Lib.hid (hb3.trans (hal.mono hb3.size))
          clear hal ho3 hg3 hb3 HA HRA HBA
          go_wp2_with (at_builtin; refine append_u8s rfl (.tmp 35) (.tmp 40) rfl rfl HA3.out ([46].map bv) HRA3.out (bv_cell _) ?cc HBA3.out.size ?_)
          case cc => show D + 1 + 1 ≤ _; omega
          intro v4 w4 ho4 hg4
          obtain ⟨fo, fc, rfl⟩ := own_form ho4
          have hnx : RP w1 w4 ws 1 (.slice fo (D + 1 + 1) fc) := ⟨by rw [HDA.out]; simpa [HD.out] using ho4, HBA3.out.grown hg4 HBA3.out.size (fun k hk => (HA3.out.lt k hk).1)⟩
          have HN := Lib.hid hnx
          clear ho4 hg4 hnx HA3 HRA3 HBA3 HDA HD HO HBL
          go_wp2
          go_roundw
          case rel => exact ⟨1, by omega, by go_num, HN⟩
          case measure => simp [intOf]; omega
      · rw [if_neg hd, List.nil_append] at HDA
        by_cases hx46 : x = 46
        · subst hx46
          have hd2 : k ≠ 0 ∧ q = false := ⟨fun e => hd ⟨rfl, .inl e⟩, by cases hq : q; rfl; exact absurd ⟨rfl, .inr hq⟩ hd⟩
          obtain ⟨hk0, rfl⟩ := hd2
          have hkz : ((k : Int) == 0) = false := beq_eq_false_iff_ne.2 (by omega)
          have hkz2 : ((k : Int) = 0) = False := eq_false (by omega)
          clear hk0 hd
          go_wp2_with fail
          refine HE.out.mono ?_
          rintro e w2 ⟨rfl, hw⟩
          rw [← hw]
          clear hw HE
          have hal : Below wr.heap.size wr (wr.alloc (.cells ([46].map bv).toArray 5)) := (Below.refl _ _).alloc (Nat.le_refl _) _
          have HA := Lib.hid (own_below HO.out hal)
          have HRA := Lib.hid (Rd.made wr [46] 5 (0, 0) 1 rfl (by decide))
          have HBA := Lib.hid (HBL.out.trans (hal.mono HBL.out.size))
          clear hal
          go_wp2_with (at_builtin; refine append_u8s rfl (.tmp 35) (.tmp 40) rfl rfl HA.out ([46].map bv) HRA.out (bv_cell _) ?ca HBA.out.size ?_)
          case ca => show D + 1 ≤ _; omega
          intro v3 w3 ho3 hg3
          obtain ⟨co, cc, rfl⟩ := own_form ho3
          have hnx : RP w1 w3 ws (k + 1) (.slice co (D + 1) cc) := ⟨by rw [HDA.out]; simpa [HD.out] using ho3, HBA.out.grown hg3 HBA.out.size (fun k hk => (HA.out.lt k hk).1)⟩
          have HN := Lib.hid hnx
          clear ho3 hg3 hnx HA HRA HBA HDA HD HO HBL
          go_wp2
          go_roundw
          case rel => exact ⟨k + 1, by omega, by go_num, HN⟩
          case measure => simp [intOf]; omega
        · have hxn : x.toNat ≠ 46 := fun e => hx46 (UInt8.toNat_inj.1 e)
          have hxz : ((x.toNat : Int) == 46) = false := beq_eq_false_iff_ne.2 (by omega)
          have hxz2 : ((x.toNat : Int) = 46) = False := eq_false (by omega)
          clear hx46 hd hxn
          go_wp2_with fail
          refine HE.out.mono ?_
          rintro e w2 ⟨rfl, hw⟩
          rw [← hw]
          clear hw HE
          have hal : Below wr.heap.size wr (wr.alloc (.cells ([x].map bv).toArray 5)) := (Below.refl _ _).alloc (Nat.le_refl _) _
          have HA := Lib.hid (own_below HO.out hal)
          have HRA := Lib.hid (Rd.made wr [x] 5 (0, 0) 1 rfl (by decide))
          have HBA := Lib.hid (HBL.out.trans (hal.mono HBL.out.size))
          clear hal
          go_wp2_with (at_builtin; refine append_u8s rfl (.tmp 35) (.tmp 40) rfl rfl HA.out ([x].map bv) HRA.out (bv_cell _) ?ca HBA.out.size ?_)
          case ca => show D + 1 ≤ _; omega
          intro v3 w3 ho3 hg3
          obtain ⟨co, cc, rfl⟩ := own_form ho3
          have hnx : RP w1 w3 ws (k + 1) (.slice co (D + 1) cc) := ⟨by rw [HDA.out]; simpa [HD.out] using ho3, HBA.out.grown hg3 HBA.out.size (fun k hk => (HA.out.lt k hk).1)⟩
          have HN := Lib.hid hnx
          clear ho3 hg3 hnx HA HRA HBA HDA HD HO HBL
          go_wp2
          go_roundw
          case rel => exact ⟨k + 1, by omega, by go_num, HN⟩
          case measure => simp [intOf]; omega
    · obtain rfl : k = L := by omega
      have hown := hR.out.o
      rw [HL.out, List.take_length] at hown
      have hbel := hR.out.b
      have hal : Below wr.heap.size wr (wr.alloc (.cells ([46, 13, 10].map bv).toArray 5)) := (Below.refl _ _).alloc (Nat.le_refl _) _
      have HA := Lib.hid (own_below hown hal)
      have HRA := Lib.hid (Rd.made wr [46, 13, 10] 5 (0, 0) 3 rfl (by decide))
      have HBA := Lib.hid (hbel.trans (hal.mono hbel.size))
      obtain ⟨bo, bc, rfl⟩ := own_form hown
      obtain ⟨D, hD⟩ : ∃ D, D = (St.dots [] ws).length := ⟨_, rfl⟩
      rw [← hD] at HA ⊢
      have hdl := (St.dots_len ws []).2
      rw [← HL.out, ← hD] at hdl
      have hDP : D + 3 = P := by rw [hD]; exact HP2.out
      have HDP := Lib.hid hDP
      clear hown hbel hal hR hD hDP
      go_wp2_with (at_builtin; refine append_u8s rfl (.tmp 42) (.tmp 43) rfl rfl HA.out ([46, 13, 10].map bv) HRA.out (bv_cell _) ?ca HBA.out.size ?_)
      case ca => show D + 3 ≤ _; omega
      intro v3 w3 ho3 hg3
      obtain ⟨co, cc, rfl⟩ := own_form ho3
      have hb3 := Lib.hid (HB.out.trans ((HBA.out.grown hg3 HBA.out.size (fun k hk => (HA.out.lt k hk).1)).mono HB.out.size))
      have hrd := Lib.hid (Rd.of_own ho3)
      clear ho3 hg3 HA HRA HBA
      go_wp2
      go_ret
      exact ⟨co, cc, by rw [← HDP.out]; rfl, by rw [← HDP.out, ← HP3.out]; exact hrd.out, hb3.out⟩
end Go.Proofs.Ythfefbpfgepbjaa
