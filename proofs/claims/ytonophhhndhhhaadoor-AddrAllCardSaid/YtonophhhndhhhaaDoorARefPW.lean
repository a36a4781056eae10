/- The reference's Pasv walked: memory (layer 13; by gen_arefp.py). -/
import Derived.Test.YtonophhhndhhhaaDoorARefP
import Derived.Test.YtonophhhndhhhaaDoorHeld
namespace Go.Proofs.YtonophhhndhhhaaDoor
open Go.RowKit

set_option maxHeartbeats 8000000 in
theorem rpasv_any (l : List UInt8) (hl : l.length ≤ 1048576) (w : World) :
    Calls Tryd.prog 11 #[.string ⟨l.toArray⟩] w fun e w' => e = .returned (adr (Ad.pasv l)) ∧ Below w.heap.size w w' := by
  have hz : (⟨l.toArray⟩ : ByteArray).size = l.length := rfl
  obtain ⟨j0, hj0, hlow, hdrop, hat⟩ := Ad.untilDig l
  have HBY := Lib.hid (show ∀ (i : Nat) c, l[i]? = some c → ∀ h, ((⟨l.toArray⟩ : ByteArray)[i]'h).toNat = c.toNat by
    intro i c hc h
    rw [byte_at]
    simp [hc])
  have HLOW := Lib.hid hlow
  have HAT := Lib.hid hat
  have HSIX := Lib.hid (show Ad.six l = Ad.rem 6 (l.drop j0) by unfold Ad.six Ad.rem; rw [hdrop, if_pos rfl]; rfl)
  have DI := Lib.hid (fun i wx => rdigit_any l i hl wx)
  have NB := Lib.hid (fun a ha wx => rnumber_any l a hl ha wx)
  have RN := Lib.hid (fun (s : ByteArray) hs wx => ref_number s 255 wx hs)
  have HA0 := Lib.hid (show AB (w.alloc (.cells #[.int .i64 0, .int .i64 0, .int .i64 0, .int .i64 0, .int .i64 0] 24)) w.heap.size ad0 from ⟨heap_alloc_new _ _⟩)
  have HB0 := Lib.hid (show Below w.heap.size w (w.alloc (.cells #[.int .i64 0, .int .i64 0, .int .i64 0, .int .i64 0, .int .i64 0] 24)) from (Below.refl _ _).alloc (Nat.le_refl _) _)
  clear hlow hat hdrop
  go_enter Tryd.func11, Tryd.ntmps11
  go_wp2_with fail
  go_loop [4] (fun s4 => ∃ j : Nat, j ≤ j0 ∧ s4 = .int .i64 j) (fun s4 => j0 - (intOf s4).toNat)
  case atStart => exact ⟨0, by omega, rfl⟩
  case round =>
    obtain ⟨j, hj, rfl⟩ := hrel
    by_cases hjk : j < j0
    · have hd := DI.out j
      rw [HLOW.out j hjk] at hd
      have hlt : (j : Int) < (l.length : Int) := by omega
      go_wp2_with fail
      refine (hd _).mono ?_
      rintro e w' ⟨rfl, rfl⟩
      clear hd
      go_wp2
      go_round
      case rel => exact ⟨j + 1, by omega, by go_num⟩
      case measure => simp [intOf]; omega
    · obtain rfl : j = j0 := by omega
      clear hj hjk
      have HQ0 := Lib.hid (show QR w.heap.size w ((w.alloc (.cells #[.int .i64 0, .int .i64 0, .int .i64 0, .int .i64 0, .int .i64 0] 24)).alloc (.cells #[] 3)) l j 0 (.slice (some ⟨w.heap.size + 1, 0, none⟩) 0 0) [] from
        { below := HB0.out.alloc (by simp) _
          res := ⟨(heap_alloc_old _ _ (by simp)).trans HA0.out.blk⟩
          own := by
            have := World.ownsRow_made (base := w.heap.size + 1) (e := 3) (size := 1) (w.alloc (.cells #[.int .i64 0, .int .i64 0, .int .i64 0, .int .i64 0, .int .i64 0] 24)) #[] 0 (by simp) (Nat.zero_le _) rfl
            simpa using this
          small := by intro x hx; cases hx
          hk := by omega
          ha := hj0
          eq := by rw [HSIX.out]; simp })
      by_cases hjl : j < l.length
      rotate_left
      · have hlt : ¬ (j : Int) < (l.length : Int) := by omega
        clear hjl
        go_wp2_with fail
        go_loopw [4, 5, 6] (fun s4 s5 s6 wr => ∃ (a k : Nat) (ns : List Nat), k ≤ 6 ∧ a ≤ l.length ∧ s4 = .int .i64 a ∧ s6 = .int .i64 k ∧ Hid (QR w.heap.size w wr l a k s5 ns)) (fun _ _ s6 _ => 6 - (intOf s6).toNat)
        case atStart => exact ⟨j, 0, [], by omega, hj0, by first | rfl | simp, rfl, HQ0.out⟩
        case round =>
          obtain ⟨a, k, ns, hk, ha, rfl, rfl, HR⟩ := hrel
          by_cases h6 : k < 6
          · by_cases h0 : k = 0
            · subst h0
              obtain ⟨k, hk0⟩ : ∃ k, k = 0 := ⟨_, rfl⟩
              have hk0i : (k : Int) = 0 := by omega
              have hstop : Ad.num 255 3 (l.drop a) = none → Ad.rem (6 - k) (l.drop a) = none := by rw [hk0]; exact fun h => Ad.rem_no6 h
              have hstep : ∀ n, Ad.num 255 3 (l.drop a) = some (n, Ad.past (l.drop a)) → Ad.rem (6 - k) (l.drop a) = (Ad.rem (6 - (k + 1)) (Ad.past (l.drop a))).map (n :: ·) := by rw [hk0]; exact fun n h => Ad.rem_first h
              have ha1 := ha
              rw [← hk0] at HR h6
              obtain ⟨RM, hRM⟩ : ∃ RM, Ad.rem (6 - k) (l.drop a) = RM := ⟨_, rfl⟩
              rw [hRM] at hstop hstep
              have HRMM := Lib.hid hRM
              clear hRM
              have hnx := fun wx => NB.out a ha wx
              obtain ⟨r, hr⟩ : ∃ r, l.drop a = r := ⟨_, rfl⟩
              rw [hr] at hnx hstep hstop
              have hrr := Ad.run_past r
              obtain ⟨R, hR⟩ : ∃ R, Ad.run r = R := ⟨_, rfl⟩
              obtain ⟨P, hP⟩ : ∃ P, Ad.past r = P := ⟨_, rfl⟩
              unfold Ad.num at hstep hstop
              rw [hR] at hnx hrr hstep hstop
              rw [hP] at hrr hstep hstop
              have hrl : R.length + P.length = l.length - a := by rw [← List.length_append, hrr, ← hr, List.length_drop]
              have hdr : l.drop (a + R.length) = P := by rw [← List.drop_drop, hr, ← hrr, List.drop_left]
              have hrn := fun wx => RN.out ⟨R.toArray⟩ (by show R.length ≤ _; omega) wx
              rw [show (⟨R.toArray⟩ : ByteArray).data.toList = R from rfl] at hrn
              have hRz : (⟨R.toArray⟩ : ByteArray).size = R.length := rfl
              have hok := fun h => Ad.number_ok (l := R) (m := 255) h
              obtain ⟨nm, hnm⟩ : ∃ nm, Tx.number R 255 = nm := ⟨_, rfl⟩
              rw [show (((255 : Nat) : Int)) = 255 from rfl] at hok
              rw [hnm] at hrn hstep hstop hok
              obtain ⟨n, ok⟩ := nm
              unfold two at hrn
              dsimp only at hrn hstep hstop hok
              obtain ⟨rl, hrl2⟩ : ∃ n, R.length = n := ⟨_, rfl⟩
              rw [hrl2] at hnx hstep hstop hrl hdr hRz
              have HDR := Lib.hid hdr
              have ha2 : a + rl ≤ l.length := by omega
              have HSTEP := Lib.hid hstep
              have HSTOP := Lib.hid hstop
              have HOK := Lib.hid hok
              clear hrr hR hP hrl2 hnm hr hdr hrl hstep hstop hok
              cases ok
              · have hfl := HRMM.out.trans (HSTOP.out (if_neg (by simp)))
                have HF := Lib.hid (HR.out.fail hfl)
                have HA := HR.out.res
                have HB := Lib.hid HR.out.below
                have r0 := HA.c0
                have r1 := HA.c1
                have r2 := HA.c2
                have r3 := HA.c3
                have r4 := HA.c4
                have rf := HA.froz
                have HZ := Lib.hid (HA.put ⟨0, 0, 0, 0, 0⟩)
                have HBZ := Lib.hid (below_set5 HB.out (Nat.le_refl _) (.int .i64 0) (.int .i64 0) (.int .i64 0) (.int .i64 0) (.int .i64 0))
                clear HA hfl
                go_wp2_with fail
                refine (hnx _).mono ?_
                rintro e w' ⟨rfl, rfl⟩
                clear hnx
                go_wp2_with fail
                refine (hrn _).mono ?_
                rintro e w' ⟨rfl, rfl⟩
                clear hrn
                go_wp2
                generalize ((((wr.setCell ⟨w.heap.size, 0, none⟩ (.int .i64 0)).setCell ⟨w.heap.size, 1, none⟩ (.int .i64 0)).setCell ⟨w.heap.size, 2, none⟩ (.int .i64 0)).setCell ⟨w.heap.size, 3, none⟩ (.int .i64 0)).setCell ⟨w.heap.size, 4, none⟩ (.int .i64 0) = wz at *
                have HA := HZ.out
                clear r0 r1 r2 r3 r4
                refine bodyPost_ret (v := .tuple #[.agg #[.int .i64 0, .int .i64 0, .int .i64 0, .int .i64 0, .int .i64 0], .bool false]) (by have d0 := HA.c0; have d1 := HA.c1; have d2 := HA.c2; have d3 := HA.c3; have d4 := HA.c4; simp [results, Tryd.results11, go_sem, d0, d1, d2, d3, d4]) rfl ⟨by rw [HF.out], HBZ.out⟩
              · by_cases c3 : rl ≤ 3
                · have c3f : ((3 : Int) < (rl : Int)) = False := eq_false (by omega)
                  obtain ⟨m, hm1, hm2⟩ := HOK.out rfl
                  subst hm1
                  have hrm := HSTEP.out _ (if_pos ⟨rfl, c3⟩)
                  rw [← HDR.out] at hrm
                  have HRM := Lib.hid (HRMM.out.trans hrm)
                  have hs1 := HR.out.lt
                  clear hrm
                  go_wp2_with fail
                  refine (hnx _).mono ?_
                  rintro e w' ⟨rfl, rfl⟩
                  clear hnx
                  go_wp2_with fail
                  refine (hrn _).mono ?_
                  rintro e w' ⟨rfl, rfl⟩
                  clear hrn
                  go_wp2_with (at_builtin; refine append_int rfl (.tmp 63) (.tmp 65) rfl rfl HR.out.own rfl rfl ?ca ?cb ?_)
                  case ca => omega
                  case cb => omega
                  intro v' w' ho hg
                  have HR2 := Lib.hid (HR.out.step h6 hm2 ha2 HRM.out (by first | exact ho | (rw [hk0]; exact ho)) hg)
                  clear ho hg
                  go_wp2
                  go_roundw
                  case rel => exact ⟨a + rl, k + 1, ns ++ [m], by omega, by omega, by go_num, by go_num, HR2.out⟩
                  case measure => first | (simp [intOf]; done) | (simp [intOf]; omega)
                · have c3f : ((3 : Int) < (rl : Int)) = True := eq_true (by omega)
                  have hfl := HRMM.out.trans (HSTOP.out (if_neg (fun q => c3 q.2)))
                  have HF := Lib.hid (HR.out.fail hfl)
                  have HA := HR.out.res
                  have HB := Lib.hid HR.out.below
                  have r0 := HA.c0
                  have r1 := HA.c1
                  have r2 := HA.c2
                  have r3 := HA.c3
                  have r4 := HA.c4
                  have rf := HA.froz
                  have HZ := Lib.hid (HA.put ⟨0, 0, 0, 0, 0⟩)
                  have HBZ := Lib.hid (below_set5 HB.out (Nat.le_refl _) (.int .i64 0) (.int .i64 0) (.int .i64 0) (.int .i64 0) (.int .i64 0))
                  clear HA hfl
                  go_wp2_with fail
                  refine (hnx _).mono ?_
                  rintro e w' ⟨rfl, rfl⟩
                  clear hnx
                  go_wp2_with fail
                  refine (hrn _).mono ?_
                  rintro e w' ⟨rfl, rfl⟩
                  clear hrn
                  go_wp2
                  generalize ((((wr.setCell ⟨w.heap.size, 0, none⟩ (.int .i64 0)).setCell ⟨w.heap.size, 1, none⟩ (.int .i64 0)).setCell ⟨w.heap.size, 2, none⟩ (.int .i64 0)).setCell ⟨w.heap.size, 3, none⟩ (.int .i64 0)).setCell ⟨w.heap.size, 4, none⟩ (.int .i64 0) = wz at *
                  have HA := HZ.out
                  clear r0 r1 r2 r3 r4
                  refine bodyPost_ret (v := .tuple #[.agg #[.int .i64 0, .int .i64 0, .int .i64 0, .int .i64 0, .int .i64 0], .bool false]) (by have d0 := HA.c0; have d1 := HA.c1; have d2 := HA.c2; have d3 := HA.c3; have d4 := HA.c4; simp [results, Tryd.results11, go_sem, d0, d1, d2, d3, d4]) rfl ⟨by rw [HF.out], HBZ.out⟩
            · have hk1 : ((0 : Int) < (k : Int)) = True := eq_true (by omega)
              by_cases hal : a < l.length
              · obtain ⟨c, hc⟩ : ∃ c, l[a]? = some c := ⟨_, List.getElem?_eq_getElem hal⟩
                have hx := HBY.out a c hc
                have hdc : l.drop a = c :: l.drop (a + 1) := by
                  rw [List.drop_eq_getElem_cons hal]
                  rw [List.getElem?_eq_getElem hal] at hc
                  cases hc
                  rfl
                have hb1 : ((l.length : Int) ≤ (a : Int)) = False := eq_false (by omega)
                have hb2 : (a : Int) < (l.length : Int) := by omega
                obtain ⟨cn, hcn⟩ : ∃ n, c.toNat = n := ⟨_, rfl⟩
                rw [hcn] at hx
                by_cases h44 : cn = 44
                · subst h44
                  have hc44 : c = 44 := UInt8.toNat_inj.1 hcn
                  have hstop : Ad.num 255 3 (l.drop (a + 1)) = none → Ad.rem (6 - k) (l.drop a) = none := by rw [show 6 - k = 6 - (k + 1) + 1 by omega, hdc, hc44]; exact fun h => Ad.rem_no (by omega) h
                  have hstep : ∀ n, Ad.num 255 3 (l.drop (a + 1)) = some (n, Ad.past (l.drop (a + 1))) → Ad.rem (6 - k) (l.drop a) = (Ad.rem (6 - (k + 1)) (Ad.past (l.drop (a + 1)))).map (n :: ·) := by
                    rw [show 6 - k = 6 - (k + 1) + 1 by omega, hdc, hc44]
                    exact fun n h => Ad.rem_next (by omega) h
                  obtain ⟨a1, ha1e⟩ : ∃ a1, a1 = a + 1 := ⟨_, rfl⟩
                  have ha1 : a1 ≤ l.length := by omega
                  have ha1i : ((a1 : Nat) : Int) = (a : Int) + 1 := by omega
                  rw [← ha1e] at hstop hstep
                  clear hc hdc hcn hc44
                  obtain ⟨RM, hRM⟩ : ∃ RM, Ad.rem (6 - k) (l.drop a) = RM := ⟨_, rfl⟩
                  rw [hRM] at hstop hstep
                  have HRMM := Lib.hid hRM
                  clear hRM
                  have hnx := fun wx => NB.out a1 ha1 wx
                  obtain ⟨r, hr⟩ : ∃ r, l.drop a1 = r := ⟨_, rfl⟩
                  rw [hr] at hnx hstep hstop
                  have hrr := Ad.run_past r
                  obtain ⟨R, hR⟩ : ∃ R, Ad.run r = R := ⟨_, rfl⟩
                  obtain ⟨P, hP⟩ : ∃ P, Ad.past r = P := ⟨_, rfl⟩
                  unfold Ad.num at hstep hstop
                  rw [hR] at hnx hrr hstep hstop
                  rw [hP] at hrr hstep hstop
                  have hrl : R.length + P.length = l.length - a1 := by rw [← List.length_append, hrr, ← hr, List.length_drop]
                  have hdr : l.drop (a1 + R.length) = P := by rw [← List.drop_drop, hr, ← hrr, List.drop_left]
                  have hrn := fun wx => RN.out ⟨R.toArray⟩ (by show R.length ≤ _; omega) wx
                  rw [show (⟨R.toArray⟩ : ByteArray).data.toList = R from rfl] at hrn
                  have hRz : (⟨R.toArray⟩ : ByteArray).size = R.length := rfl
                  have hok := fun h => Ad.number_ok (l := R) (m := 255) h
                  obtain ⟨nm, hnm⟩ : ∃ nm, Tx.number R 255 = nm := ⟨_, rfl⟩
                  rw [show (((255 : Nat) : Int)) = 255 from rfl] at hok
                  rw [hnm] at hrn hstep hstop hok
                  obtain ⟨n, ok⟩ := nm
                  unfold two at hrn
                  simp only [ha1i] at hnx
                  clear ha1i
                  dsimp only at hrn hstep hstop hok
                  obtain ⟨rl, hrl2⟩ : ∃ n, R.length = n := ⟨_, rfl⟩
                  rw [hrl2] at hnx hstep hstop hrl hdr hRz
                  have HDR := Lib.hid hdr
                  have ha2 : a1 + rl ≤ l.length := by omega
                  have HSTEP := Lib.hid hstep
                  have HSTOP := Lib.hid hstop
                  have HOK := Lib.hid hok
                  clear hrr hR hP hrl2 hnm hr hdr hrl hstep hstop hok
                  cases ok
                  · have hfl := HRMM.out.trans (HSTOP.out (if_neg (by simp)))
                    have HF := Lib.hid (HR.out.fail hfl)
                    have HA := HR.out.res
                    have HB := Lib.hid HR.out.below
                    have r0 := HA.c0
                    have r1 := HA.c1
                    have r2 := HA.c2
                    have r3 := HA.c3
                    have r4 := HA.c4
                    have rf := HA.froz
                    have HZ := Lib.hid (HA.put ⟨0, 0, 0, 0, 0⟩)
                    have HBZ := Lib.hid (below_set5 HB.out (Nat.le_refl _) (.int .i64 0) (.int .i64 0) (.int .i64 0) (.int .i64 0) (.int .i64 0))
                    clear HA hfl
                    go_wp2_with fail
                    refine (hnx _).mono ?_
                    rintro e w' ⟨rfl, rfl⟩
                    clear hnx
                    go_wp2_with fail
                    refine (hrn _).mono ?_
                    rintro e w' ⟨rfl, rfl⟩
                    clear hrn
                    go_wp2
                    generalize ((((wr.setCell ⟨w.heap.size, 0, none⟩ (.int .i64 0)).setCell ⟨w.heap.size, 1, none⟩ (.int .i64 0)).setCell ⟨w.heap.size, 2, none⟩ (.int .i64 0)).setCell ⟨w.heap.size, 3, none⟩ (.int .i64 0)).setCell ⟨w.heap.size, 4, none⟩ (.int .i64 0) = wz at *
                    have HA := HZ.out
                    clear r0 r1 r2 r3 r4
                    refine bodyPost_ret (v := .tuple #[.agg #[.int .i64 0, .int .i64 0, .int .i64 0, .int .i64 0, .int .i64 0], .bool false]) (by have d0 := HA.c0; have d1 := HA.c1; have d2 := HA.c2; have d3 := HA.c3; have d4 := HA.c4; simp [results, Tryd.results11, go_sem, d0, d1, d2, d3, d4]) rfl ⟨by rw [HF.out], HBZ.out⟩
                  · by_cases c3 : rl ≤ 3
                    · have c3f : ((3 : Int) < (rl : Int)) = False := eq_false (by omega)
                      obtain ⟨m, hm1, hm2⟩ := HOK.out rfl
                      subst hm1
                      have hrm := HSTEP.out _ (if_pos ⟨rfl, c3⟩)
                      rw [← HDR.out] at hrm
                      have HRM := Lib.hid (HRMM.out.trans hrm)
                      have hs1 := HR.out.lt
                      clear hrm
                      go_wp2_with fail
                      refine (hnx _).mono ?_
                      rintro e w' ⟨rfl, rfl⟩
                      clear hnx
                      go_wp2_with fail
                      refine (hrn _).mono ?_
                      rintro e w' ⟨rfl, rfl⟩
                      clear hrn
                      go_wp2_with (at_builtin; refine append_int rfl (.tmp 63) (.tmp 65) rfl rfl HR.out.own rfl rfl ?ca ?cb ?_)
                      case ca => omega
                      case cb => omega
                      intro v' w' ho hg
                      have HR2 := Lib.hid (HR.out.step h6 hm2 ha2 HRM.out (by first | exact ho | (rw [hk0]; exact ho)) hg)
                      clear ho hg
                      go_wp2
                      go_roundw
                      case rel => exact ⟨a1 + rl, k + 1, ns ++ [m], by omega, by omega, by go_num, by go_num, HR2.out⟩
                      case measure => first | (simp [intOf]; done) | (simp [intOf]; omega)
                    · have c3f : ((3 : Int) < (rl : Int)) = True := eq_true (by omega)
                      have hfl := HRMM.out.trans (HSTOP.out (if_neg (fun q => c3 q.2)))
                      have HF := Lib.hid (HR.out.fail hfl)
                      have HA := HR.out.res
                      have HB := Lib.hid HR.out.below
                      have r0 := HA.c0
                      have r1 := HA.c1
                      have r2 := HA.c2
                      have r3 := HA.c3
                      have r4 := HA.c4
                      have rf := HA.froz
                      have HZ := Lib.hid (HA.put ⟨0, 0, 0, 0, 0⟩)
                      have HBZ := Lib.hid (below_set5 HB.out (Nat.le_refl _) (.int .i64 0) (.int .i64 0) (.int .i64 0) (.int .i64 0) (.int .i64 0))
                      clear HA hfl
                      go_wp2_with fail
                      refine (hnx _).mono ?_
                      rintro e w' ⟨rfl, rfl⟩
                      clear hnx
                      go_wp2_with fail
                      refine (hrn _).mono ?_
                      rintro e w' ⟨rfl, rfl⟩
                      clear hrn
                      go_wp2
                      generalize ((((wr.setCell ⟨w.heap.size, 0, none⟩ (.int .i64 0)).setCell ⟨w.heap.size, 1, none⟩ (.int .i64 0)).setCell ⟨w.heap.size, 2, none⟩ (.int .i64 0)).setCell ⟨w.heap.size, 3, none⟩ (.int .i64 0)).setCell ⟨w.heap.size, 4, none⟩ (.int .i64 0) = wz at *
                      have HA := HZ.out
                      clear r0 r1 r2 r3 r4
                      refine bodyPost_ret (v := .tuple #[.agg #[.int .i64 0, .int .i64 0, .int .i64 0, .int .i64 0, .int .i64 0], .bool false]) (by have d0 := HA.c0; have d1 := HA.c1; have d2 := HA.c2; have d3 := HA.c3; have d4 := HA.c4; simp [results, Tryd.results11, go_sem, d0, d1, d2, d3, d4]) rfl ⟨by rw [HF.out], HBZ.out⟩
                · have h44f : ((cn : Int) != 44) = true := bne_iff_ne.2 (by omega)
                  have h44g : ((cn : Int) = 44) = False := eq_false (by omega)
                  have hfl : Ad.rem (6 - k) (l.drop a) = none := by
                    rw [show 6 - k = 6 - (k + 1) + 1 by omega, hdc]
                    exact Ad.rem_other (by omega) (fun e => h44 (by rw [← hcn, e]; rfl))
                  clear hc hdc hcn h44
                  have HF := Lib.hid (HR.out.fail hfl)
                  have HA := HR.out.res
                  have HB := Lib.hid HR.out.below
                  have r0 := HA.c0
                  have r1 := HA.c1
                  have r2 := HA.c2
                  have r3 := HA.c3
                  have r4 := HA.c4
                  have rf := HA.froz
                  have HZ := Lib.hid (HA.put ⟨0, 0, 0, 0, 0⟩)
                  have HBZ := Lib.hid (below_set5 HB.out (Nat.le_refl _) (.int .i64 0) (.int .i64 0) (.int .i64 0) (.int .i64 0) (.int .i64 0))
                  clear HA hfl
                  go_wp2
                  generalize ((((wr.setCell ⟨w.heap.size, 0, none⟩ (.int .i64 0)).setCell ⟨w.heap.size, 1, none⟩ (.int .i64 0)).setCell ⟨w.heap.size, 2, none⟩ (.int .i64 0)).setCell ⟨w.heap.size, 3, none⟩ (.int .i64 0)).setCell ⟨w.heap.size, 4, none⟩ (.int .i64 0) = wz at *
                  have HA := HZ.out
                  clear r0 r1 r2 r3 r4
                  refine bodyPost_ret (v := .tuple #[.agg #[.int .i64 0, .int .i64 0, .int .i64 0, .int .i64 0, .int .i64 0], .bool false]) (by have d0 := HA.c0; have d1 := HA.c1; have d2 := HA.c2; have d3 := HA.c3; have d4 := HA.c4; simp [results, Tryd.results11, go_sem, d0, d1, d2, d3, d4]) rfl ⟨by rw [HF.out], HBZ.out⟩
              · have hb1 : ((l.length : Int) ≤ (a : Int)) = True := eq_true (by omega)
                have hfl : Ad.rem (6 - k) (l.drop a) = none := by
                  rw [show 6 - k = 6 - (k + 1) + 1 by omega, List.drop_eq_nil_of_le (by omega)]
                  exact Ad.rem_nil (by omega)
                have HF := Lib.hid (HR.out.fail hfl)
                have HA := HR.out.res
                have HB := Lib.hid HR.out.below
                have r0 := HA.c0
                have r1 := HA.c1
                have r2 := HA.c2
                have r3 := HA.c3
                have r4 := HA.c4
                have rf := HA.froz
                have HZ := Lib.hid (HA.put ⟨0, 0, 0, 0, 0⟩)
                have HBZ := Lib.hid (below_set5 HB.out (Nat.le_refl _) (.int .i64 0) (.int .i64 0) (.int .i64 0) (.int .i64 0) (.int .i64 0))
                clear HA hfl
                go_wp2
                generalize ((((wr.setCell ⟨w.heap.size, 0, none⟩ (.int .i64 0)).setCell ⟨w.heap.size, 1, none⟩ (.int .i64 0)).setCell ⟨w.heap.size, 2, none⟩ (.int .i64 0)).setCell ⟨w.heap.size, 3, none⟩ (.int .i64 0)).setCell ⟨w.heap.size, 4, none⟩ (.int .i64 0) = wz at *
                have HA := HZ.out
                clear r0 r1 r2 r3 r4
                refine bodyPost_ret (v := .tuple #[.agg #[.int .i64 0, .int .i64 0, .int .i64 0, .int .i64 0, .int .i64 0], .bool false]) (by have d0 := HA.c0; have d1 := HA.c1; have d2 := HA.c2; have d3 := HA.c3; have d4 := HA.c4; simp [results, Tryd.results11, go_sem, d0, d1, d2, d3, d4]) rfl ⟨by rw [HF.out], HBZ.out⟩
          · obtain rfl : k = 6 := by omega
            obtain ⟨n0, n1, n2, n3, n4, n5, rfl, h4, h5, hp⟩ := HR.out.done
            have HBW := Lib.hid HR.out.below
            have HRES := Lib.hid HR.out.res
            have hltB := HR.out.lt
            obtain ⟨gb, cap, cur, rfl, hgb, hg, hcap, hcm, hcs, hct⟩ : ∃ g cap cur, u5 = .slice (some ⟨g, 0, none⟩) 6 cap ∧ w.heap.size + 1 ≤ g ∧ wr.heap[g]? = some (.cells cur 3 (0, 0)) ∧ 6 ≤ cap ∧ cap ≤ maxLen ∧ cur.size = cap * 1 ∧ cur.toList.take (6 * 1) = [n0, n1, n2, n3, n4, n5].map iv := by
              rcases HR.out.own.2 with ⟨_, h⟩ | h
              · cases h
              · exact h
            have hcell : ∀ (i : Nat) (n : Nat), [n0, n1, n2, n3, n4, n5][i]? = some n → wr.cell? ⟨gb, i, none⟩ = some (.int .i64 (n : Int)) := by
              intro i n hi
              have hi6 : i < 6 := (List.getElem?_eq_some_iff.1 hi).1
              rw [cell_of_row _ _ _ _ _ _ hg, ← Array.getElem?_toList]
              have := congrArg (fun l => l[i]?) hct
              simp only [List.getElem?_map, hi, Option.map_some] at this
              rw [List.getElem?_take_of_lt (by omega)] at this
              exact this
            have c0 := hcell 0 n0 rfl
            have c1 := hcell 1 n1 rfl
            have c2 := hcell 2 n2 rfl
            have c3 := hcell 3 n3 rfl
            have c4 := hcell 4 n4 rfl
            have c5 := hcell 5 n5 rfl
            have hs45 : n4 * 256 ≤ 65280 := by omega
            obtain ⟨p, hpp⟩ : ∃ p, n4 * 256 + n5 = p := ⟨_, rfl⟩
            have hpi : (n4 : Int) * 256 + (n5 : Int) = (p : Int) := by omega
            have w1 : IntKind.i64.wrap ((n4 : Int) * 256) = (n4 : Int) * 256 := IntWalk.i64_in _ ⟨by omega, by omega⟩
            have w2 : IntKind.i64.wrap ((n4 : Int) * 256 + (n5 : Int)) = (p : Int) := by rw [hpi]; exact IntWalk.i64_in _ ⟨by omega, by omega⟩
            rw [hpp] at hp
            have hp65 : p ≤ 65535 := by omega
            have w3 : IntKind.i64.wrap (p : Int) = (p : Int) := IntWalk.i64_in _ ⟨by omega, by omega⟩
            have hgb2 : gb < wr.heap.size := (Array.getElem?_eq_some_iff.1 hg).1
            have hgb3 : (gb = wr.heap.size) = False := eq_false (by omega)
            clear hcell hg hcs hct HR
            have hCS : ∀ wx : World, wx.heap = wr.heap → wx.cell? ⟨gb, 0, none⟩ = some (.int .i64 (n0 : Int)) ∧ wx.cell? ⟨gb, 1, none⟩ = some (.int .i64 (n1 : Int)) ∧ wx.cell? ⟨gb, 2, none⟩ = some (.int .i64 (n2 : Int)) ∧ wx.cell? ⟨gb, 3, none⟩ = some (.int .i64 (n3 : Int)) ∧ wx.cell? ⟨gb, 4, none⟩ = some (.int .i64 (n4 : Int)) ∧ wx.cell? ⟨gb, 5, none⟩ = some (.int .i64 (n5 : Int)) := by
              intro wx hwx
              have : ∀ p, wx.cell? p = wr.cell? p := fun p => by simp only [World.cell?, hwx]
              exact ⟨(this _).trans c0, (this _).trans c1, (this _).trans c2, (this _).trans c3, (this _).trans c4, (this _).trans c5⟩
            have s0 := hCS wr.drew rfl
            have hDR : wr.drew.heap.size = wr.heap.size := rfl
            have HRD := Lib.hid (show AB wr.drew w.heap.size ad0 from ⟨HRES.out.blk⟩)
            have HBD := Lib.hid (show Below w.heap.size w wr.drew from HBW.out.drew)
            clear c0 c1 c2 c3 c4 c5 hCS
            go_wp2_with fail
            refine wp_region_held_drew (S := fun wx => wx.cell? ⟨gb, 0, none⟩ = some (.int .i64 (n0 : Int)) ∧ wx.cell? ⟨gb, 1, none⟩ = some (.int .i64 (n1 : Int)) ∧ wx.cell? ⟨gb, 2, none⟩ = some (.int .i64 (n2 : Int)) ∧ wx.cell? ⟨gb, 3, none⟩ = some (.int .i64 (n3 : Int)) ∧ wx.cell? ⟨gb, 4, none⟩ = some (.int .i64 (n4 : Int)) ∧ wx.cell? ⟨gb, 5, none⟩ = some (.int .i64 (n5 : Int))) (by kernel_rfl) s0 (fun hH => ?_)
            rw [← hDR] at hltB hgb2 hgb3
            generalize wr.drew = wd at *
            have s22 : ∀ o : Obj, (wd.alloc o).cell? ⟨gb, 0, none⟩ = some (.int .i64 (n0 : Int)) ∧ (wd.alloc o).cell? ⟨gb, 1, none⟩ = some (.int .i64 (n1 : Int)) ∧ (wd.alloc o).cell? ⟨gb, 2, none⟩ = some (.int .i64 (n2 : Int)) ∧ (wd.alloc o).cell? ⟨gb, 3, none⟩ = some (.int .i64 (n3 : Int)) ∧ (wd.alloc o).cell? ⟨gb, 4, none⟩ = some (.int .i64 (n4 : Int)) ∧ (wd.alloc o).cell? ⟨gb, 5, none⟩ = some (.int .i64 (n5 : Int)) := by
              intro o
              have : ∀ i, (wd.alloc o).cell? ⟨gb, i, none⟩ = wd.cell? ⟨gb, i, none⟩ := fun i => by simp only [World.cell?]; rw [heap_alloc_old _ _ hgb2]
              rw [this, this, this, this, this, this]
              exact s0
            refine heldTake (i := 0) (v := ?_) rfl (by kernel_rfl) (by kernel_rfl) (fun _ _ _ h => h) (by rfl) (by assumption) (fun w hSw => ?_) ?_; rotate_left; focus ((try dsimp only at hSw); go_simp; try with_reducible rfl)
            try simp only [Act.put, List.setIfInBounds_toArray, List.set_cons_zero, List.set_cons_succ]
            refine heldTake (i := 1) (v := ?_) rfl (by kernel_rfl) (by kernel_rfl) (fun _ _ _ h => h) (by rfl) (by assumption) (fun w hSw => ?_) ?_; rotate_left; focus ((try dsimp only at hSw); go_simp; try with_reducible rfl)
            try simp only [Act.put, List.setIfInBounds_toArray, List.set_cons_zero, List.set_cons_succ]
            refine heldTake (i := 2) (v := ?_) rfl (by kernel_rfl) (by kernel_rfl) (fun _ _ _ h => h) (by rfl) (by assumption) (fun w hSw => ?_) ?_; rotate_left; focus ((try dsimp only at hSw); go_simp; try with_reducible rfl)
            try simp only [Act.put, List.setIfInBounds_toArray, List.set_cons_zero, List.set_cons_succ]
            refine heldTake (i := 3) (v := ?_) rfl (by kernel_rfl) (by kernel_rfl) (fun _ _ _ h => h) (by rfl) (by assumption) (fun w hSw => ?_) ?_; rotate_left; focus ((try dsimp only at hSw); go_simp; try with_reducible rfl)
            try simp only [Act.put, List.setIfInBounds_toArray, List.set_cons_zero, List.set_cons_succ]
            refine heldTake (i := 4) (v := ?_) rfl (by kernel_rfl) (by kernel_rfl) (fun _ _ _ h => h) (by rfl) (by assumption) (fun w hSw => ?_) ?_; rotate_left; focus ((try dsimp only at hSw); go_simp; try with_reducible rfl)
            try simp only [Act.put, List.setIfInBounds_toArray, List.set_cons_zero, List.set_cons_succ]
            refine heldTake (i := 5) (v := ?_) rfl (by kernel_rfl) (by kernel_rfl) (fun _ _ _ h => h) (by rfl) (by assumption) (fun w hSw => ?_) ?_; rotate_left; focus ((try dsimp only at hSw); go_simp; try with_reducible rfl)
            try simp only [Act.put, List.setIfInBounds_toArray, List.set_cons_zero, List.set_cons_succ]
            refine heldTake (i := 6) (v := ?_) rfl (by kernel_rfl) (by kernel_rfl) (fun _ _ _ h => h) (by rfl) (by assumption) (fun w hSw => ?_) ?_; rotate_left; focus ((try dsimp only at hSw); go_simp; try with_reducible rfl)
            try simp only [Act.put, List.setIfInBounds_toArray, List.set_cons_zero, List.set_cons_succ]
            refine heldTake (i := 7) (v := ?_) rfl (by kernel_rfl) (by kernel_rfl) (fun _ _ _ h => h) (by rfl) (by assumption) (fun w hSw => ?_) ?_; rotate_left; focus ((try dsimp only at hSw); go_simp; try with_reducible rfl)
            try simp only [Act.put, List.setIfInBounds_toArray, List.set_cons_zero, List.set_cons_succ]
            refine heldTake (i := 8) (v := ?_) rfl (by kernel_rfl) (by kernel_rfl) (fun _ _ _ h => h) (by rfl) (by assumption) (fun w hSw => ?_) ?_; rotate_left; focus ((try dsimp only at hSw); go_simp; try with_reducible rfl)
            try simp only [Act.put, List.setIfInBounds_toArray, List.set_cons_zero, List.set_cons_succ]
            refine heldTake (i := 9) (v := ?_) rfl (by kernel_rfl) (by kernel_rfl) (fun _ _ _ h => h) (by rfl) (by assumption) (fun w hSw => ?_) ?_; rotate_left; focus ((try dsimp only at hSw); go_simp; try with_reducible rfl)
            try simp only [Act.put, List.setIfInBounds_toArray, List.set_cons_zero, List.set_cons_succ]
            refine heldTake (i := 10) (v := ?_) rfl (by kernel_rfl) (by kernel_rfl) (fun _ _ _ h => h) (by rfl) (by assumption) (fun w hSw => ?_) ?_; rotate_left; focus ((try dsimp only at hSw); go_simp; try with_reducible rfl)
            try simp only [Act.put, List.setIfInBounds_toArray, List.set_cons_zero, List.set_cons_succ]
            refine heldTake (i := 11) (v := ?_) rfl (by kernel_rfl) (by kernel_rfl) (fun _ _ _ h => h) (by rfl) (by assumption) (fun w hSw => ?_) ?_; rotate_left; focus ((try dsimp only at hSw); go_simp; try with_reducible rfl)
            try simp only [Act.put, List.setIfInBounds_toArray, List.set_cons_zero, List.set_cons_succ]
            refine heldTake (i := 12) (v := ?_) rfl (by kernel_rfl) (by kernel_rfl) (fun _ _ _ h => h) (by rfl) (by assumption) (fun w hSw => ?_) ?_; rotate_left; focus ((try dsimp only at hSw); go_simp; try with_reducible rfl)
            try simp only [Act.put, List.setIfInBounds_toArray, List.set_cons_zero, List.set_cons_succ]
            refine heldTake (i := 13) (v := ?_) rfl (by kernel_rfl) (by kernel_rfl) (fun _ _ _ h => h) (by rfl) (by assumption) (fun w hSw => ?_) ?_; rotate_left; focus ((try dsimp only at hSw); go_simp; try with_reducible rfl)
            try simp only [Act.put, List.setIfInBounds_toArray, List.set_cons_zero, List.set_cons_succ]
            refine heldTake (i := 14) (v := ?_) rfl (by kernel_rfl) (by kernel_rfl) (fun _ _ _ h => h) (by rfl) (by assumption) (fun w hSw => ?_) ?_; rotate_left; focus ((try dsimp only at hSw); go_simp; try with_reducible rfl)
            try simp only [Act.put, List.setIfInBounds_toArray, List.set_cons_zero, List.set_cons_succ]
            refine heldTake (i := 15) (v := ?_) rfl (by kernel_rfl) (by kernel_rfl) (fun _ _ _ h => h) (by rfl) (by assumption) (fun w hSw => ?_) ?_; rotate_left; focus ((try dsimp only at hSw); go_simp; try with_reducible rfl)
            try simp only [Act.put, List.setIfInBounds_toArray, List.set_cons_zero, List.set_cons_succ]
            refine heldTake (i := 16) (v := ?_) rfl (by kernel_rfl) (by kernel_rfl) (fun _ _ _ h => h) (by rfl) (by assumption) (fun w hSw => ?_) ?_; rotate_left; focus ((try dsimp only at hSw); go_simp; try with_reducible rfl)
            try simp only [Act.put, List.setIfInBounds_toArray, List.set_cons_zero, List.set_cons_succ]
            refine heldTake (i := 17) (v := ?_) rfl (by kernel_rfl) (by kernel_rfl) (fun _ _ _ h => h) (by rfl) (by assumption) (fun w hSw => ?_) ?_; rotate_left; focus ((try dsimp only at hSw); go_simp; try with_reducible rfl)
            try simp only [Act.put, List.setIfInBounds_toArray, List.set_cons_zero, List.set_cons_succ]
            refine heldTake (i := 18) (v := ?_) rfl (by kernel_rfl) (by kernel_rfl) (fun _ _ _ h => h) (by rfl) (by assumption) (fun w hSw => ?_) ?_; rotate_left; focus ((try dsimp only at hSw); go_simp; try with_reducible rfl)
            try simp only [Act.put, List.setIfInBounds_toArray, List.set_cons_zero, List.set_cons_succ]
            refine heldTake (i := 19) (v := ?_) rfl (by kernel_rfl) (by kernel_rfl) (fun _ _ _ h => h) (by rfl) (by assumption) (fun w hSw => ?_) ?_; rotate_left; focus ((try dsimp only at hSw); go_simp; try with_reducible rfl)
            try simp only [Act.put, List.setIfInBounds_toArray, List.set_cons_zero, List.set_cons_succ]
            refine heldTake (i := 20) (v := ?_) rfl (by kernel_rfl) (by kernel_rfl) (fun _ _ _ h => h) (by rfl) (by assumption) (fun w hSw => ?_) ?_; rotate_left; focus ((try dsimp only at hSw); go_simp; try with_reducible rfl)
            try simp only [Act.put, List.setIfInBounds_toArray, List.set_cons_zero, List.set_cons_succ]
            refine heldTake (i := 21) (v := ?_) rfl (by kernel_rfl) (by kernel_rfl) (fun _ _ _ h => h) (by rfl) (by assumption) (fun w hSw => ?_) ?_; rotate_left; focus ((try dsimp only at hSw); go_simp; try with_reducible rfl)
            try simp only [Act.put, List.setIfInBounds_toArray, List.set_cons_zero, List.set_cons_succ]
            -- NEXT 22 Op.alloc 24
            refine heldNext (i := 22) rfl (by kernel_rfl) (by rfl) (fun K hK => ?_)
            go_simp; refine hK.out _ _ (s22 _) ?_; clear hK K
            try simp only [Act.put, List.setIfInBounds_toArray, List.set_cons_zero, List.set_cons_succ]
            -- NEXT 23 Op.store 24 (Operand.tmp 11) (Operand.tmp 89)
            refine heldNext (i := 23) rfl (by kernel_rfl) (by rfl) (fun K hK => ?_)
            go_simp; refine hK.out _ _ (s22 _) ?_; clear hK K
            try simp only [Act.put, List.setIfInBounds_toArray, List.set_cons_zero, List.set_cons_succ]
            refine wpAnyH_done (by kernel_rfl) ?_ _
            have k4 : AB (wd.alloc (.cells #[.int .i64 (n0 : Int), .int .i64 (n1 : Int), .int .i64 (n2 : Int), .int .i64 (n3 : Int), .int .i64 (p : Int)] 24)) wr.heap.size ⟨n0, n1, n2, n3, p⟩ := by rw [← hDR]; exact ⟨heap_alloc_new _ _⟩
            have k5 : AB (wd.alloc (.cells #[.int .i64 (n0 : Int), .int .i64 (n1 : Int), .int .i64 (n2 : Int), .int .i64 (n3 : Int), .int .i64 (p : Int)] 24)) w.heap.size ad0 := ⟨(heap_alloc_old _ _ hltB).trans HRD.out.blk⟩
            have k6 : Below w.heap.size w (wd.alloc (.cells #[.int .i64 (n0 : Int), .int .i64 (n1 : Int), .int .i64 (n2 : Int), .int .i64 (n3 : Int), .int .i64 (p : Int)] 24)) := HBD.out.alloc (by omega) _
            clear s22 s0 hH hDR
            generalize wd.alloc (.cells #[.int .i64 (n0 : Int), .int .i64 (n1 : Int), .int .i64 (n2 : Int), .int .i64 (n3 : Int), .int .i64 (p : Int)] 24) = w7 at *
            have q0 := k4.c0
            have q1 := k4.c1
            have q2 := k4.c2
            have q3 := k4.c3
            have q4 := k4.c4
            dsimp only at q0 q1 q2 q3 q4
            by_cases hp0 : p = 0
            · rw [if_pos hp0] at hp
              have HP := Lib.hid (show adr (Ad.pasv l) = .tuple #[.agg #[.int .i64 0, .int .i64 0, .int .i64 0, .int .i64 0, .int .i64 0], .bool false] by rw [hp]; rfl)
              have hpz : (p : Int) = 0 := by omega
              clear hp
              subst hp0
              have r0 := k5.c0
              have r1 := k5.c1
              have r2 := k5.c2
              have r3 := k5.c3
              have r4 := k5.c4
              have rf := k5.froz
              have HZ := Lib.hid (k5.put ⟨0, 0, 0, 0, 0⟩)
              have HBZ := Lib.hid (below_set5 k6 (Nat.le_refl _) (.int .i64 0) (.int .i64 0) (.int .i64 0) (.int .i64 0) (.int .i64 0))
              clear k4 k5 k6
              go_wp2
              try dsimp only at HZ
              generalize ((((w7.setCell ⟨w.heap.size, 0, none⟩ (.int .i64 0)).setCell ⟨w.heap.size, 1, none⟩ (.int .i64 0)).setCell ⟨w.heap.size, 2, none⟩ (.int .i64 0)).setCell ⟨w.heap.size, 3, none⟩ (.int .i64 0)).setCell ⟨w.heap.size, 4, none⟩ (.int .i64 0) = wz at *
              have HA := HZ.out
              clear r0 r1 r2 r3 r4
              refine bodyPost_ret (v := .tuple #[.agg #[(.int .i64 0), (.int .i64 0), (.int .i64 0), (.int .i64 0), (.int .i64 0)], .bool false]) (by have d0 := HA.c0; have d1 := HA.c1; have d2 := HA.c2; have d3 := HA.c3; have d4 := HA.c4; simp [results, Tryd.results11, go_sem, d0, d1, d2, d3, d4]) rfl ⟨by rw [HP.out], HBZ.out⟩
            · rw [if_neg hp0] at hp
              have HP := Lib.hid (show adr (Ad.pasv l) = .tuple #[.agg #[.int .i64 (n0 : Int), .int .i64 (n1 : Int), .int .i64 (n2 : Int), .int .i64 (n3 : Int), .int .i64 (p : Int)], .bool true] by rw [hp]; rfl)
              have e1 : ((p : Int) == 0) = false := beq_eq_false_iff_ne.2 (by omega)
              have e2 : ((p : Int) = 0) = False := eq_false (by omega)
              clear hp
              have r0 := k5.c0
              have r1 := k5.c1
              have r2 := k5.c2
              have r3 := k5.c3
              have r4 := k5.c4
              have rf := k5.froz
              have HZ := Lib.hid (k5.put ⟨n0, n1, n2, n3, p⟩)
              have HBZ := Lib.hid (below_set5 k6 (Nat.le_refl _) (.int .i64 (n0 : Int)) (.int .i64 (n1 : Int)) (.int .i64 (n2 : Int)) (.int .i64 (n3 : Int)) (.int .i64 (p : Int)))
              clear k4 k5 k6
              go_wp2
              try dsimp only at HZ
              generalize ((((w7.setCell ⟨w.heap.size, 0, none⟩ (.int .i64 (n0 : Int))).setCell ⟨w.heap.size, 1, none⟩ (.int .i64 (n1 : Int))).setCell ⟨w.heap.size, 2, none⟩ (.int .i64 (n2 : Int))).setCell ⟨w.heap.size, 3, none⟩ (.int .i64 (n3 : Int))).setCell ⟨w.heap.size, 4, none⟩ (.int .i64 (p : Int)) = wz at *
              have HA := HZ.out
              clear r0 r1 r2 r3 r4
              refine bodyPost_ret (v := .tuple #[.agg #[(.int .i64 (n0 : Int)), (.int .i64 (n1 : Int)), (.int .i64 (n2 : Int)), (.int .i64 (n3 : Int)), (.int .i64 (p : Int))], .bool true]) (by have d0 := HA.c0; have d1 := HA.c1; have d2 := HA.c2; have d3 := HA.c3; have d4 := HA.c4; simp [results, Tryd.results11, go_sem, d0, d1, d2, d3, d4]) rfl ⟨by rw [HP.out], HBZ.out⟩
      · have hlt : (j : Int) < (l.length : Int) := by omega
        have hd := DI.out j
        rw [HAT.out hjl] at hd
        clear hjl
        go_wp2_with fail
        refine (hd _).mono ?_
        rintro e w' ⟨rfl, rfl⟩
        clear hd
        go_wp2_with fail
        go_loopw [4, 5, 6] (fun s4 s5 s6 wr => ∃ (a k : Nat) (ns : List Nat), k ≤ 6 ∧ a ≤ l.length ∧ s4 = .int .i64 a ∧ s6 = .int .i64 k ∧ Hid (QR w.heap.size w wr l a k s5 ns)) (fun _ _ s6 _ => 6 - (intOf s6).toNat)
        case atStart => exact ⟨j, 0, [], by omega, hj0, by first | rfl | simp, rfl, HQ0.out⟩
        case round =>
          obtain ⟨a, k, ns, hk, ha, rfl, rfl, HR⟩ := hrel
          by_cases h6 : k < 6
          · by_cases h0 : k = 0
            · subst h0
              obtain ⟨k, hk0⟩ : ∃ k, k = 0 := ⟨_, rfl⟩
              have hk0i : (k : Int) = 0 := by omega
              have hstop : Ad.num 255 3 (l.drop a) = none → Ad.rem (6 - k) (l.drop a) = none := by rw [hk0]; exact fun h => Ad.rem_no6 h
              have hstep : ∀ n, Ad.num 255 3 (l.drop a) = some (n, Ad.past (l.drop a)) → Ad.rem (6 - k) (l.drop a) = (Ad.rem (6 - (k + 1)) (Ad.past (l.drop a))).map (n :: ·) := by rw [hk0]; exact fun n h => Ad.rem_first h
              have ha1 := ha
              rw [← hk0] at HR h6
              obtain ⟨RM, hRM⟩ : ∃ RM, Ad.rem (6 - k) (l.drop a) = RM := ⟨_, rfl⟩
              rw [hRM] at hstop hstep
              have HRMM := Lib.hid hRM
              clear hRM
              have hnx := fun wx => NB.out a ha wx
              obtain ⟨r, hr⟩ : ∃ r, l.drop a = r := ⟨_, rfl⟩
              rw [hr] at hnx hstep hstop
              have hrr := Ad.run_past r
              obtain ⟨R, hR⟩ : ∃ R, Ad.run r = R := ⟨_, rfl⟩
              obtain ⟨P, hP⟩ : ∃ P, Ad.past r = P := ⟨_, rfl⟩
              unfold Ad.num at hstep hstop
              rw [hR] at hnx hrr hstep hstop
              rw [hP] at hrr hstep hstop
              have hrl : R.length + P.length = l.length - a := by rw [← List.length_append, hrr, ← hr, List.length_drop]
              have hdr : l.drop (a + R.length) = P := by rw [← List.drop_drop, hr, ← hrr, List.drop_left]
              have hrn := fun wx => RN.out ⟨R.toArray⟩ (by show R.length ≤ _; omega) wx
              rw [show (⟨R.toArray⟩ : ByteArray).data.toList = R from rfl] at hrn
              have hRz : (⟨R.toArray⟩ : ByteArray).size = R.length := rfl
              have hok := fun h => Ad.number_ok (l := R) (m := 255) h
              obtain ⟨nm, hnm⟩ : ∃ nm, Tx.number R 255 = nm := ⟨_, rfl⟩
              rw [show (((255 : Nat) : Int)) = 255 from rfl] at hok
              rw [hnm] at hrn hstep hstop hok
              obtain ⟨n, ok⟩ := nm
              unfold two at hrn
              dsimp only at hrn hstep hstop hok
              obtain ⟨rl, hrl2⟩ : ∃ n, R.length = n := ⟨_, rfl⟩
              rw [hrl2] at hnx hstep hstop hrl hdr hRz
              have HDR := Lib.hid hdr
              have ha2 : a + rl ≤ l.length := by omega
              have HSTEP := Lib.hid hstep
              have HSTOP := Lib.hid hstop
              have HOK := Lib.hid hok
              clear hrr hR hP hrl2 hnm hr hdr hrl hstep hstop hok
              cases ok
              · have hfl := HRMM.out.trans (HSTOP.out (if_neg (by simp)))
                have HF := Lib.hid (HR.out.fail hfl)
                have HA := HR.out.res
                have HB := Lib.hid HR.out.below
                have r0 := HA.c0
                have r1 := HA.c1
                have r2 := HA.c2
                have r3 := HA.c3
                have r4 := HA.c4
                have rf := HA.froz
                have HZ := Lib.hid (HA.put ⟨0, 0, 0, 0, 0⟩)
                have HBZ := Lib.hid (below_set5 HB.out (Nat.le_refl _) (.int .i64 0) (.int .i64 0) (.int .i64 0) (.int .i64 0) (.int .i64 0))
                clear HA hfl
                go_wp2_with fail
                refine (hnx _).mono ?_
                rintro e w' ⟨rfl, rfl⟩
                clear hnx
                go_wp2_with fail
                refine (hrn _).mono ?_
                rintro e w' ⟨rfl, rfl⟩
                clear hrn
                go_wp2
                generalize ((((wr.setCell ⟨w.heap.size, 0, none⟩ (.int .i64 0)).setCell ⟨w.heap.size, 1, none⟩ (.int .i64 0)).setCell ⟨w.heap.size, 2, none⟩ (.int .i64 0)).setCell ⟨w.heap.size, 3, none⟩ (.int .i64 0)).setCell ⟨w.heap.size, 4, none⟩ (.int .i64 0) = wz at *
                have HA := HZ.out
                clear r0 r1 r2 r3 r4
                refine bodyPost_ret (v := .tuple #[.agg #[.int .i64 0, .int .i64 0, .int .i64 0, .int .i64 0, .int .i64 0], .bool false]) (by have d0 := HA.c0; have d1 := HA.c1; have d2 := HA.c2; have d3 := HA.c3; have d4 := HA.c4; simp [results, Tryd.results11, go_sem, d0, d1, d2, d3, d4]) rfl ⟨by rw [HF.out], HBZ.out⟩
              · by_cases c3 : rl ≤ 3
                · have c3f : ((3 : Int) < (rl : Int)) = False := eq_false (by omega)
                  obtain ⟨m, hm1, hm2⟩ := HOK.out rfl
                  subst hm1
                  have hrm := HSTEP.out _ (if_pos ⟨rfl, c3⟩)
                  rw [← HDR.out] at hrm
                  have HRM := Lib.hid (HRMM.out.trans hrm)
                  have hs1 := HR.out.lt
                  clear hrm
                  go_wp2_with fail
                  refine (hnx _).mono ?_
                  rintro e w' ⟨rfl, rfl⟩
                  clear hnx
                  go_wp2_with fail
                  refine (hrn _).mono ?_
                  rintro e w' ⟨rfl, rfl⟩
                  clear hrn
                  go_wp2_with (at_builtin; refine append_int rfl (.tmp 63) (.tmp 65) rfl rfl HR.out.own rfl rfl ?ca ?cb ?_)
                  case ca => omega
                  case cb => omega
                  intro v' w' ho hg
                  have HR2 := Lib.hid (HR.out.step h6 hm2 ha2 HRM.out (by first | exact ho | (rw [hk0]; exact ho)) hg)
                  clear ho hg
                  go_wp2
                  go_roundw
                  case rel => exact ⟨a + rl, k + 1, ns ++ [m], by omega, by omega, by go_num, by go_num, HR2.out⟩
                  case measure => first | (simp [intOf]; done) | (simp [intOf]; omega)
                · have c3f : ((3 : Int) < (rl : Int)) = True := eq_true (by omega)
                  have hfl := HRMM.out.trans (HSTOP.out (if_neg (fun q => c3 q.2)))
                  have HF := Lib.hid (HR.out.fail hfl)
                  have HA := HR.out.res
                  have HB := Lib.hid HR.out.below
                  have r0 := HA.c0
                  have r1 := HA.c1
                  have r2 := HA.c2
                  have r3 := HA.c3
                  have r4 := HA.c4
                  have rf := HA.froz
                  have HZ := Lib.hid (HA.put ⟨0, 0, 0, 0, 0⟩)
                  have HBZ := Lib.hid (below_set5 HB.out (Nat.le_refl _) (.int .i64 0) (.int .i64 0) (.int .i64 0) (.int .i64 0) (.int .i64 0))
                  clear HA hfl
                  go_wp2_with fail
                  refine (hnx _).mono ?_
                  rintro e w' ⟨rfl, rfl⟩
                  clear hnx
                  go_wp2_with fail
                  refine (hrn _).mono ?_
                  rintro e w' ⟨rfl, rfl⟩
                  clear hrn
                  go_wp2
                  generalize ((((wr.setCell ⟨w.heap.size, 0, none⟩ (.int .i64 0)).setCell ⟨w.heap.size, 1, none⟩ (.int .i64 0)).setCell ⟨w.heap.size, 2, none⟩ (.int .i64 0)).setCell ⟨w.heap.size, 3, none⟩ (.int .i64 0)).setCell ⟨w.heap.size, 4, none⟩ (.int .i64 0) = wz at *
                  have HA := HZ.out
                  clear r0 r1 r2 r3 r4
                  refine bodyPost_ret (v := .tuple #[.agg #[.int .i64 0, .int .i64 0, .int .i64 0, .int .i64 0, .int .i64 0], .bool false]) (by have d0 := HA.c0; have d1 := HA.c1; have d2 := HA.c2; have d3 := HA.c3; have d4 := HA.c4; simp [results, Tryd.results11, go_sem, d0, d1, d2, d3, d4]) rfl ⟨by rw [HF.out], HBZ.out⟩
            · have hk1 : ((0 : Int) < (k : Int)) = True := eq_true (by omega)
              by_cases hal : a < l.length
              · obtain ⟨c, hc⟩ : ∃ c, l[a]? = some c := ⟨_, List.getElem?_eq_getElem hal⟩
                have hx := HBY.out a c hc
                have hdc : l.drop a = c :: l.drop (a + 1) := by
                  rw [List.drop_eq_getElem_cons hal]
                  rw [List.getElem?_eq_getElem hal] at hc
                  cases hc
                  rfl
                have hb1 : ((l.length : Int) ≤ (a : Int)) = False := eq_false (by omega)
                have hb2 : (a : Int) < (l.length : Int) := by omega
                obtain ⟨cn, hcn⟩ : ∃ n, c.toNat = n := ⟨_, rfl⟩
                rw [hcn] at hx
                by_cases h44 : cn = 44
                · subst h44
                  have hc44 : c = 44 := UInt8.toNat_inj.1 hcn
                  have hstop : Ad.num 255 3 (l.drop (a + 1)) = none → Ad.rem (6 - k) (l.drop a) = none := by rw [show 6 - k = 6 - (k + 1) + 1 by omega, hdc, hc44]; exact fun h => Ad.rem_no (by omega) h
                  have hstep : ∀ n, Ad.num 255 3 (l.drop (a + 1)) = some (n, Ad.past (l.drop (a + 1))) → Ad.rem (6 - k) (l.drop a) = (Ad.rem (6 - (k + 1)) (Ad.past (l.drop (a + 1)))).map (n :: ·) := by
                    rw [show 6 - k = 6 - (k + 1) + 1 by omega, hdc, hc44]
                    exact fun n h => Ad.rem_next (by omega) h
                  obtain ⟨a1, ha1e⟩ : ∃ a1, a1 = a + 1 := ⟨_, rfl⟩
                  have ha1 : a1 ≤ l.length := by omega
                  have ha1i : ((a1 : Nat) : Int) = (a : Int) + 1 := by omega
                  rw [← ha1e] at hstop hstep
                  clear hc hdc hcn hc44
                  obtain ⟨RM, hRM⟩ : ∃ RM, Ad.rem (6 - k) (l.drop a) = RM := ⟨_, rfl⟩
                  rw [hRM] at hstop hstep
                  have HRMM := Lib.hid hRM
                  clear hRM
                  have hnx := fun wx => NB.out a1 ha1 wx
                  obtain ⟨r, hr⟩ : ∃ r, l.drop a1 = r := ⟨_, rfl⟩
                  rw [hr] at hnx hstep hstop
                  have hrr := Ad.run_past r
                  obtain ⟨R, hR⟩ : ∃ R, Ad.run r = R := ⟨_, rfl⟩
                  obtain ⟨P, hP⟩ : ∃ P, Ad.past r = P := ⟨_, rfl⟩
                  unfold Ad.num at hstep hstop
                  rw [hR] at hnx hrr hstep hstop
                  rw [hP] at hrr hstep hstop
                  have hrl : R.length + P.length = l.length - a1 := by rw [← List.length_append, hrr, ← hr, List.length_drop]
                  have hdr : l.drop (a1 + R.length) = P := by rw [← List.drop_drop, hr, ← hrr, List.drop_left]
                  have hrn := fun wx => RN.out ⟨R.toArray⟩ (by show R.length ≤ _; omega) wx
                  rw [show (⟨R.toArray⟩ : ByteArray).data.toList = R from rfl] at hrn
                  have hRz : (⟨R.toArray⟩ : ByteArray).size = R.length := rfl
                  have hok := fun h => Ad.number_ok (l := R) (m := 255) h
                  obtain ⟨nm, hnm⟩ : ∃ nm, Tx.number R 255 = nm := ⟨_, rfl⟩
                  rw [show (((255 : Nat) : Int)) = 255 from rfl] at hok
                  rw [hnm] at hrn hstep hstop hok
                  obtain ⟨n, ok⟩ := nm
                  unfold two at hrn
                  simp only [ha1i] at hnx
                  clear ha1i
                  dsimp only at hrn hstep hstop hok
                  obtain ⟨rl, hrl2⟩ : ∃ n, R.length = n := ⟨_, rfl⟩
                  rw [hrl2] at hnx hstep hstop hrl hdr hRz
                  have HDR := Lib.hid hdr
                  have ha2 : a1 + rl ≤ l.length := by omega
                  have HSTEP := Lib.hid hstep
                  have HSTOP := Lib.hid hstop
                  have HOK := Lib.hid hok
                  clear hrr hR hP hrl2 hnm hr hdr hrl hstep hstop hok
                  cases ok
                  · have hfl := HRMM.out.trans (HSTOP.out (if_neg (by simp)))
                    have HF := Lib.hid (HR.out.fail hfl)
                    have HA := HR.out.res
                    have HB := Lib.hid HR.out.below
                    have r0 := HA.c0
                    have r1 := HA.c1
                    have r2 := HA.c2
                    have r3 := HA.c3
                    have r4 := HA.c4
                    have rf := HA.froz
                    have HZ := Lib.hid (HA.put ⟨0, 0, 0, 0, 0⟩)
                    have HBZ := Lib.hid (below_set5 HB.out (Nat.le_refl _) (.int .i64 0) (.int .i64 0) (.int .i64 0) (.int .i64 0) (.int .i64 0))
                    clear HA hfl
                    go_wp2_with fail
                    refine (hnx _).mono ?_
                    rintro e w' ⟨rfl, rfl⟩
                    clear hnx
                    go_wp2_with fail
                    refine (hrn _).mono ?_
                    rintro e w' ⟨rfl, rfl⟩
                    clear hrn
                    go_wp2
                    generalize ((((wr.setCell ⟨w.heap.size, 0, none⟩ (.int .i64 0)).setCell ⟨w.heap.size, 1, none⟩ (.int .i64 0)).setCell ⟨w.heap.size, 2, none⟩ (.int .i64 0)).setCell ⟨w.heap.size, 3, none⟩ (.int .i64 0)).setCell ⟨w.heap.size, 4, none⟩ (.int .i64 0) = wz at *
                    have HA := HZ.out
                    clear r0 r1 r2 r3 r4
                    refine bodyPost_ret (v := .tuple #[.agg #[.int .i64 0, .int .i64 0, .int .i64 0, .int .i64 0, .int .i64 0], .bool false]) (by have d0 := HA.c0; have d1 := HA.c1; have d2 := HA.c2; have d3 := HA.c3; have d4 := HA.c4; simp [results, Tryd.results11, go_sem, d0, d1, d2, d3, d4]) rfl ⟨by rw [HF.out], HBZ.out⟩
                  · by_cases c3 : rl ≤ 3
                    · have c3f : ((3 : Int) < (rl : Int)) = False := eq_false (by omega)
                      obtain ⟨m, hm1, hm2⟩ := HOK.out rfl
                      subst hm1
                      have hrm := HSTEP.out _ (if_pos ⟨rfl, c3⟩)
                      rw [← HDR.out] at hrm
                      have HRM := Lib.hid (HRMM.out.trans hrm)
                      have hs1 := HR.out.lt
                      clear hrm
                      go_wp2_with fail
                      refine (hnx _).mono ?_
                      rintro e w' ⟨rfl, rfl⟩
                      clear hnx
                      go_wp2_with fail
                      refine (hrn _).mono ?_
                      rintro e w' ⟨rfl, rfl⟩
                      clear hrn
                      go_wp2_with (at_builtin; refine append_int rfl (.tmp 63) (.tmp 65) rfl rfl HR.out.own rfl rfl ?ca ?cb ?_)
                      case ca => omega
                      case cb => omega
                      intro v' w' ho hg
                      have HR2 := Lib.hid (HR.out.step h6 hm2 ha2 HRM.out (by first | exact ho | (rw [hk0]; exact ho)) hg)
                      clear ho hg
                      go_wp2
                      go_roundw
                      case rel => exact ⟨a1 + rl, k + 1, ns ++ [m], by omega, by omega, by go_num, by go_num, HR2.out⟩
                      case measure => first | (simp [intOf]; done) | (simp [intOf]; omega)
                    · have c3f : ((3 : Int) < (rl : Int)) = True := eq_true (by omega)
                      have hfl := HRMM.out.trans (HSTOP.out (if_neg (fun q => c3 q.2)))
                      have HF := Lib.hid (HR.out.fail hfl)
                      have HA := HR.out.res
                      have HB := Lib.hid HR.out.below
                      have r0 := HA.c0
                      have r1 := HA.c1
                      have r2 := HA.c2
                      have r3 := HA.c3
                      have r4 := HA.c4
                      have rf := HA.froz
                      have HZ := Lib.hid (HA.put ⟨0, 0, 0, 0, 0⟩)
                      have HBZ := Lib.hid (below_set5 HB.out (Nat.le_refl _) (.int .i64 0) (.int .i64 0) (.int .i64 0) (.int .i64 0) (.int .i64 0))
                      clear HA hfl
                      go_wp2_with fail
                      refine (hnx _).mono ?_
                      rintro e w' ⟨rfl, rfl⟩
                      clear hnx
                      go_wp2_with fail
                      refine (hrn _).mono ?_
                      rintro e w' ⟨rfl, rfl⟩
                      clear hrn
                      go_wp2
                      generalize ((((wr.setCell ⟨w.heap.size, 0, none⟩ (.int .i64 0)).setCell ⟨w.heap.size, 1, none⟩ (.int .i64 0)).setCell ⟨w.heap.size, 2, none⟩ (.int .i64 0)).setCell ⟨w.heap.size, 3, none⟩ (.int .i64 0)).setCell ⟨w.heap.size, 4, none⟩ (.int .i64 0) = wz at *
                      have HA := HZ.out
                      clear r0 r1 r2 r3 r4
                      refine bodyPost_ret (v := .tuple #[.agg #[.int .i64 0, .int .i64 0, .int .i64 0, .int .i64 0, .int .i64 0], .bool false]) (by have d0 := HA.c0; have d1 := HA.c1; have d2 := HA.c2; have d3 := HA.c3; have d4 := HA.c4; simp [results, Tryd.results11, go_sem, d0, d1, d2, d3, d4]) rfl ⟨by rw [HF.out], HBZ.out⟩
                · have h44f : ((cn : Int) != 44) = true := bne_iff_ne.2 (by omega)
                  have h44g : ((cn : Int) = 44) = False := eq_false (by omega)
                  have hfl : Ad.rem (6 - k) (l.drop a) = none := by
                    rw [show 6 - k = 6 - (k + 1) + 1 by omega, hdc]
                    exact Ad.rem_other (by omega) (fun e => h44 (by rw [← hcn, e]; rfl))
                  clear hc hdc hcn h44
                  have HF := Lib.hid (HR.out.fail hfl)
                  have HA := HR.out.res
                  have HB := Lib.hid HR.out.below
                  have r0 := HA.c0
                  have r1 := HA.c1
                  have r2 := HA.c2
                  have r3 := HA.c3
                  have r4 := HA.c4
                  have rf := HA.froz
                  have HZ := Lib.hid (HA.put ⟨0, 0, 0, 0, 0⟩)
                  have HBZ := Lib.hid (below_set5 HB.out (Nat.le_refl _) (.int .i64 0) (.int .i64 0) (.int .i64 0) (.int .i64 0) (.int .i64 0))
                  clear HA hfl
                  go_wp2
                  generalize ((((wr.setCell ⟨w.heap.size, 0, none⟩ (.int .i64 0)).setCell ⟨w.heap.size, 1, none⟩ (.int .i64 0)).setCell ⟨w.heap.size, 2, none⟩ (.int .i64 0)).setCell ⟨w.heap.size, 3, none⟩ (.int .i64 0)).setCell ⟨w.heap.size, 4, none⟩ (.int .i64 0) = wz at *
                  have HA := HZ.out
                  clear r0 r1 r2 r3 r4
                  refine bodyPost_ret (v := .tuple #[.agg #[.int .i64 0, .int .i64 0, .int .i64 0, .int .i64 0, .int .i64 0], .bool false]) (by have d0 := HA.c0; have d1 := HA.c1; have d2 := HA.c2; have d3 := HA.c3; have d4 := HA.c4; simp [results, Tryd.results11, go_sem, d0, d1, d2, d3, d4]) rfl ⟨by rw [HF.out], HBZ.out⟩
              · have hb1 : ((l.length : Int) ≤ (a : Int)) = True := eq_true (by omega)
                have hfl : Ad.rem (6 - k) (l.drop a) = none := by
                  rw [show 6 - k = 6 - (k + 1) + 1 by omega, List.drop_eq_nil_of_le (by omega)]
                  exact Ad.rem_nil (by omega)
                have HF := Lib.hid (HR.out.fail hfl)
                have HA := HR.out.res
                have HB := Lib.hid HR.out.below
                have r0 := HA.c0
                have r1 := HA.c1
                have r2 := HA.c2
                have r3 := HA.c3
                have r4 := HA.c4
                have rf := HA.froz
                have HZ := Lib.hid (HA.put ⟨0, 0, 0, 0, 0⟩)
                have HBZ := Lib.hid (below_set5 HB.out (Nat.le_refl _) (.int .i64 0) (.int .i64 0) (.int .i64 0) (.int .i64 0) (.int .i64 0))
                clear HA hfl
                go_wp2
                generalize ((((wr.setCell ⟨w.heap.size, 0, none⟩ (.int .i64 0)).setCell ⟨w.heap.size, 1, none⟩ (.int .i64 0)).setCell ⟨w.heap.size, 2, none⟩ (.int .i64 0)).setCell ⟨w.heap.size, 3, none⟩ (.int .i64 0)).setCell ⟨w.heap.size, 4, none⟩ (.int .i64 0) = wz at *
                have HA := HZ.out
                clear r0 r1 r2 r3 r4
                refine bodyPost_ret (v := .tuple #[.agg #[.int .i64 0, .int .i64 0, .int .i64 0, .int .i64 0, .int .i64 0], .bool false]) (by have d0 := HA.c0; have d1 := HA.c1; have d2 := HA.c2; have d3 := HA.c3; have d4 := HA.c4; simp [results, Tryd.results11, go_sem, d0, d1, d2, d3, d4]) rfl ⟨by rw [HF.out], HBZ.out⟩
          · obtain rfl : k = 6 := by omega
            obtain ⟨n0, n1, n2, n3, n4, n5, rfl, h4, h5, hp⟩ := HR.out.done
            have HBW := Lib.hid HR.out.below
            have HRES := Lib.hid HR.out.res
            have hltB := HR.out.lt
            obtain ⟨gb, cap, cur, rfl, hgb, hg, hcap, hcm, hcs, hct⟩ : ∃ g cap cur, u5 = .slice (some ⟨g, 0, none⟩) 6 cap ∧ w.heap.size + 1 ≤ g ∧ wr.heap[g]? = some (.cells cur 3 (0, 0)) ∧ 6 ≤ cap ∧ cap ≤ maxLen ∧ cur.size = cap * 1 ∧ cur.toList.take (6 * 1) = [n0, n1, n2, n3, n4, n5].map iv := by
              rcases HR.out.own.2 with ⟨_, h⟩ | h
              · cases h
              · exact h
            have hcell : ∀ (i : Nat) (n : Nat), [n0, n1, n2, n3, n4, n5][i]? = some n → wr.cell? ⟨gb, i, none⟩ = some (.int .i64 (n : Int)) := by
              intro i n hi
              have hi6 : i < 6 := (List.getElem?_eq_some_iff.1 hi).1
              rw [cell_of_row _ _ _ _ _ _ hg, ← Array.getElem?_toList]
              have := congrArg (fun l => l[i]?) hct
              simp only [List.getElem?_map, hi, Option.map_some] at this
              rw [List.getElem?_take_of_lt (by omega)] at this
              exact this
            have c0 := hcell 0 n0 rfl
            have c1 := hcell 1 n1 rfl
            have c2 := hcell 2 n2 rfl
            have c3 := hcell 3 n3 rfl
            have c4 := hcell 4 n4 rfl
            have c5 := hcell 5 n5 rfl
            have hs45 : n4 * 256 ≤ 65280 := by omega
            obtain ⟨p, hpp⟩ : ∃ p, n4 * 256 + n5 = p := ⟨_, rfl⟩
            have hpi : (n4 : Int) * 256 + (n5 : Int) = (p : Int) := by omega
            have w1 : IntKind.i64.wrap ((n4 : Int) * 256) = (n4 : Int) * 256 := IntWalk.i64_in _ ⟨by omega, by omega⟩
            have w2 : IntKind.i64.wrap ((n4 : Int) * 256 + (n5 : Int)) = (p : Int) := by rw [hpi]; exact IntWalk.i64_in _ ⟨by omega, by omega⟩
            rw [hpp] at hp
            have hp65 : p ≤ 65535 := by omega
            have w3 : IntKind.i64.wrap (p : Int) = (p : Int) := IntWalk.i64_in _ ⟨by omega, by omega⟩
            have hgb2 : gb < wr.heap.size := (Array.getElem?_eq_some_iff.1 hg).1
            have hgb3 : (gb = wr.heap.size) = False := eq_false (by omega)
            clear hcell hg hcs hct HR
            have hCS : ∀ wx : World, wx.heap = wr.heap → wx.cell? ⟨gb, 0, none⟩ = some (.int .i64 (n0 : Int)) ∧ wx.cell? ⟨gb, 1, none⟩ = some (.int .i64 (n1 : Int)) ∧ wx.cell? ⟨gb, 2, none⟩ = some (.int .i64 (n2 : Int)) ∧ wx.cell? ⟨gb, 3, none⟩ = some (.int .i64 (n3 : Int)) ∧ wx.cell? ⟨gb, 4, none⟩ = some (.int .i64 (n4 : Int)) ∧ wx.cell? ⟨gb, 5, none⟩ = some (.int .i64 (n5 : Int)) := by
              intro wx hwx
              have : ∀ p, wx.cell? p = wr.cell? p := fun p => by simp only [World.cell?, hwx]
              exact ⟨(this _).trans c0, (this _).trans c1, (this _).trans c2, (this _).trans c3, (this _).trans c4, (this _).trans c5⟩
            have s0 := hCS wr.drew rfl
            have hDR : wr.drew.heap.size = wr.heap.size := rfl
            have HRD := Lib.hid (show AB wr.drew w.heap.size ad0 from ⟨HRES.out.blk⟩)
            have HBD := Lib.hid (show Below w.heap.size w wr.drew from HBW.out.drew)
            clear c0 c1 c2 c3 c4 c5 hCS
            go_wp2_with fail
            refine wp_region_held_drew (S := fun wx => wx.cell? ⟨gb, 0, none⟩ = some (.int .i64 (n0 : Int)) ∧ wx.cell? ⟨gb, 1, none⟩ = some (.int .i64 (n1 : Int)) ∧ wx.cell? ⟨gb, 2, none⟩ = some (.int .i64 (n2 : Int)) ∧ wx.cell? ⟨gb, 3, none⟩ = some (.int .i64 (n3 : Int)) ∧ wx.cell? ⟨gb, 4, none⟩ = some (.int .i64 (n4 : Int)) ∧ wx.cell? ⟨gb, 5, none⟩ = some (.int .i64 (n5 : Int))) (by kernel_rfl) s0 (fun hH => ?_)
            rw [← hDR] at hltB hgb2 hgb3
            generalize wr.drew = wd at *
            have s22 : ∀ o : Obj, (wd.alloc o).cell? ⟨gb, 0, none⟩ = some (.int .i64 (n0 : Int)) ∧ (wd.alloc o).cell? ⟨gb, 1, none⟩ = some (.int .i64 (n1 : Int)) ∧ (wd.alloc o).cell? ⟨gb, 2, none⟩ = some (.int .i64 (n2 : Int)) ∧ (wd.alloc o).cell? ⟨gb, 3, none⟩ = some (.int .i64 (n3 : Int)) ∧ (wd.alloc o).cell? ⟨gb, 4, none⟩ = some (.int .i64 (n4 : Int)) ∧ (wd.alloc o).cell? ⟨gb, 5, none⟩ = some (.int .i64 (n5 : Int)) := by
              intro o
              have : ∀ i, (wd.alloc o).cell? ⟨gb, i, none⟩ = wd.cell? ⟨gb, i, none⟩ := fun i => by simp only [World.cell?]; rw [heap_alloc_old _ _ hgb2]
              rw [this, this, this, this, this, this]
              exact s0
            refine heldTake (i := 0) (v := ?_) rfl (by kernel_rfl) (by kernel_rfl) (fun _ _ _ h => h) (by rfl) (by assumption) (fun w hSw => ?_) ?_; rotate_left; focus ((try dsimp only at hSw); go_simp; try with_reducible rfl)
            try simp only [Act.put, List.setIfInBounds_toArray, List.set_cons_zero, List.set_cons_succ]
            refine heldTake (i := 1) (v := ?_) rfl (by kernel_rfl) (by kernel_rfl) (fun _ _ _ h => h) (by rfl) (by assumption) (fun w hSw => ?_) ?_; rotate_left; focus ((try dsimp only at hSw); go_simp; try with_reducible rfl)
            try simp only [Act.put, List.setIfInBounds_toArray, List.set_cons_zero, List.set_cons_succ]
            refine heldTake (i := 2) (v := ?_) rfl (by kernel_rfl) (by kernel_rfl) (fun _ _ _ h => h) (by rfl) (by assumption) (fun w hSw => ?_) ?_; rotate_left; focus ((try dsimp only at hSw); go_simp; try with_reducible rfl)
            try simp only [Act.put, List.setIfInBounds_toArray, List.set_cons_zero, List.set_cons_succ]
            refine heldTake (i := 3) (v := ?_) rfl (by kernel_rfl) (by kernel_rfl) (fun _ _ _ h => h) (by rfl) (by assumption) (fun w hSw => ?_) ?_; rotate_left; focus ((try dsimp only at hSw); go_simp; try with_reducible rfl)
            try simp only [Act.put, List.setIfInBounds_toArray, List.set_cons_zero, List.set_cons_succ]
            refine heldTake (i := 4) (v := ?_) rfl (by kernel_rfl) (by kernel_rfl) (fun _ _ _ h => h) (by rfl) (by assumption) (fun w hSw => ?_) ?_; rotate_left; focus ((try dsimp only at hSw); go_simp; try with_reducible rfl)
            try simp only [Act.put, List.setIfInBounds_toArray, List.set_cons_zero, List.set_cons_succ]
            refine heldTake (i := 5) (v := ?_) rfl (by kernel_rfl) (by kernel_rfl) (fun _ _ _ h => h) (by rfl) (by assumption) (fun w hSw => ?_) ?_; rotate_left; focus ((try dsimp only at hSw); go_simp; try with_reducible rfl)
            try simp only [Act.put, List.setIfInBounds_toArray, List.set_cons_zero, List.set_cons_succ]
            refine heldTake (i := 6) (v := ?_) rfl (by kernel_rfl) (by kernel_rfl) (fun _ _ _ h => h) (by rfl) (by assumption) (fun w hSw => ?_) ?_; rotate_left; focus ((try dsimp only at hSw); go_simp; try with_reducible rfl)
            try simp only [Act.put, List.setIfInBounds_toArray, List.set_cons_zero, List.set_cons_succ]
            refine heldTake (i := 7) (v := ?_) rfl (by kernel_rfl) (by kernel_rfl) (fun _ _ _ h => h) (by rfl) (by assumption) (fun w hSw => ?_) ?_; rotate_left; focus ((try dsimp only at hSw); go_simp; try with_reducible rfl)
            try simp only [Act.put, List.setIfInBounds_toArray, List.set_cons_zero, List.set_cons_succ]
            refine heldTake (i := 8) (v := ?_) rfl (by kernel_rfl) (by kernel_rfl) (fun _ _ _ h => h) (by rfl) (by assumption) (fun w hSw => ?_) ?_; rotate_left; focus ((try dsimp only at hSw); go_simp; try with_reducible rfl)
            try simp only [Act.put, List.setIfInBounds_toArray, List.set_cons_zero, List.set_cons_succ]
            refine heldTake (i := 9) (v := ?_) rfl (by kernel_rfl) (by kernel_rfl) (fun _ _ _ h => h) (by rfl) (by assumption) (fun w hSw => ?_) ?_; rotate_left; focus ((try dsimp only at hSw); go_simp; try with_reducible rfl)
            try simp only [Act.put, List.setIfInBounds_toArray, List.set_cons_zero, List.set_cons_succ]
            refine heldTake (i := 10) (v := ?_) rfl (by kernel_rfl) (by kernel_rfl) (fun _ _ _ h => h) (by rfl) (by assumption) (fun w hSw => ?_) ?_; rotate_left; focus ((try dsimp only at hSw); go_simp; try with_reducible rfl)
            try simp only [Act.put, List.setIfInBounds_toArray, List.set_cons_zero, List.set_cons_succ]
            refine heldTake (i := 11) (v := ?_) rfl (by kernel_rfl) (by kernel_rfl) (fun _ _ _ h => h) (by rfl) (by assumption) (fun w hSw => ?_) ?_; rotate_left; focus ((try dsimp only at hSw); go_simp; try with_reducible rfl)
            try simp only [Act.put, List.setIfInBounds_toArray, List.set_cons_zero, List.set_cons_succ]
            refine heldTake (i := 12) (v := ?_) rfl (by kernel_rfl) (by kernel_rfl) (fun _ _ _ h => h) (by rfl) (by assumption) (fun w hSw => ?_) ?_; rotate_left; focus ((try dsimp only at hSw); go_simp; try with_reducible rfl)
            try simp only [Act.put, List.setIfInBounds_toArray, List.set_cons_zero, List.set_cons_succ]
            refine heldTake (i := 13) (v := ?_) rfl (by kernel_rfl) (by kernel_rfl) (fun _ _ _ h => h) (by rfl) (by assumption) (fun w hSw => ?_) ?_; rotate_left; focus ((try dsimp only at hSw); go_simp; try with_reducible rfl)
            try simp only [Act.put, List.setIfInBounds_toArray, List.set_cons_zero, List.set_cons_succ]
            refine heldTake (i := 14) (v := ?_) rfl (by kernel_rfl) (by kernel_rfl) (fun _ _ _ h => h) (by rfl) (by assumption) (fun w hSw => ?_) ?_; rotate_left; focus ((try dsimp only at hSw); go_simp; try with_reducible rfl)
            try simp only [Act.put, List.setIfInBounds_toArray, List.set_cons_zero, List.set_cons_succ]
            refine heldTake (i := 15) (v := ?_) rfl (by kernel_rfl) (by kernel_rfl) (fun _ _ _ h => h) (by rfl) (by assumption) (fun w hSw => ?_) ?_; rotate_left; focus ((try dsimp only at hSw); go_simp; try with_reducible rfl)
            try simp only [Act.put, List.setIfInBounds_toArray, List.set_cons_zero, List.set_cons_succ]
            refine heldTake (i := 16) (v := ?_) rfl (by kernel_rfl) (by kernel_rfl) (fun _ _ _ h => h) (by rfl) (by assumption) (fun w hSw => ?_) ?_; rotate_left; focus ((try dsimp only at hSw); go_simp; try with_reducible rfl)
            try simp only [Act.put, List.setIfInBounds_toArray, List.set_cons_zero, List.set_cons_succ]
            refine heldTake (i := 17) (v := ?_) rfl (by kernel_rfl) (by kernel_rfl) (fun _ _ _ h => h) (by rfl) (by assumption) (fun w hSw => ?_) ?_; rotate_left; focus ((try dsimp only at hSw); go_simp; try with_reducible rfl)
            try simp only [Act.put, List.setIfInBounds_toArray, List.set_cons_zero, List.set_cons_succ]
            refine heldTake (i := 18) (v := ?_) rfl (by kernel_rfl) (by kernel_rfl) (fun _ _ _ h => h) (by rfl) (by assumption) (fun w hSw => ?_) ?_; rotate_left; focus ((try dsimp only at hSw); go_simp; try with_reducible rfl)
            try simp only [Act.put, List.setIfInBounds_toArray, List.set_cons_zero, List.set_cons_succ]
            refine heldTake (i := 19) (v := ?_) rfl (by kernel_rfl) (by kernel_rfl) (fun _ _ _ h => h) (by rfl) (by assumption) (fun w hSw => ?_) ?_; rotate_left; focus ((try dsimp only at hSw); go_simp; try with_reducible rfl)
            try simp only [Act.put, List.setIfInBounds_toArray, List.set_cons_zero, List.set_cons_succ]
            refine heldTake (i := 20) (v := ?_) rfl (by kernel_rfl) (by kernel_rfl) (fun _ _ _ h => h) (by rfl) (by assumption) (fun w hSw => ?_) ?_; rotate_left; focus ((try dsimp only at hSw); go_simp; try with_reducible rfl)
            try simp only [Act.put, List.setIfInBounds_toArray, List.set_cons_zero, List.set_cons_succ]
            refine heldTake (i := 21) (v := ?_) rfl (by kernel_rfl) (by kernel_rfl) (fun _ _ _ h => h) (by rfl) (by assumption) (fun w hSw => ?_) ?_; rotate_left; focus ((try dsimp only at hSw); go_simp; try with_reducible rfl)
            try simp only [Act.put, List.setIfInBounds_toArray, List.set_cons_zero, List.set_cons_succ]
            -- NEXT 22 Op.alloc 24
            refine heldNext (i := 22) rfl (by kernel_rfl) (by rfl) (fun K hK => ?_)
            go_simp; refine hK.out _ _ (s22 _) ?_; clear hK K
            try simp only [Act.put, List.setIfInBounds_toArray, List.set_cons_zero, List.set_cons_succ]
            -- NEXT 23 Op.store 24 (Operand.tmp 11) (Operand.tmp 89)
            refine heldNext (i := 23) rfl (by kernel_rfl) (by rfl) (fun K hK => ?_)
            go_simp; refine hK.out _ _ (s22 _) ?_; clear hK K
            try simp only [Act.put, List.setIfInBounds_toArray, List.set_cons_zero, List.set_cons_succ]
            refine wpAnyH_done (by kernel_rfl) ?_ _
            have k4 : AB (wd.alloc (.cells #[.int .i64 (n0 : Int), .int .i64 (n1 : Int), .int .i64 (n2 : Int), .int .i64 (n3 : Int), .int .i64 (p : Int)] 24)) wr.heap.size ⟨n0, n1, n2, n3, p⟩ := by rw [← hDR]; exact ⟨heap_alloc_new _ _⟩
            have k5 : AB (wd.alloc (.cells #[.int .i64 (n0 : Int), .int .i64 (n1 : Int), .int .i64 (n2 : Int), .int .i64 (n3 : Int), .int .i64 (p : Int)] 24)) w.heap.size ad0 := ⟨(heap_alloc_old _ _ hltB).trans HRD.out.blk⟩
            have k6 : Below w.heap.size w (wd.alloc (.cells #[.int .i64 (n0 : Int), .int .i64 (n1 : Int), .int .i64 (n2 : Int), .int .i64 (n3 : Int), .int .i64 (p : Int)] 24)) := HBD.out.alloc (by omega) _
            clear s22 s0 hH hDR
            generalize wd.alloc (.cells #[.int .i64 (n0 : Int), .int .i64 (n1 : Int), .int .i64 (n2 : Int), .int .i64 (n3 : Int), .int .i64 (p : Int)] 24) = w7 at *
            have q0 := k4.c0
            have q1 := k4.c1
            have q2 := k4.c2
            have q3 := k4.c3
            have q4 := k4.c4
            dsimp only at q0 q1 q2 q3 q4
            by_cases hp0 : p = 0
            · rw [if_pos hp0] at hp
              have HP := Lib.hid (show adr (Ad.pasv l) = .tuple #[.agg #[.int .i64 0, .int .i64 0, .int .i64 0, .int .i64 0, .int .i64 0], .bool false] by rw [hp]; rfl)
              have hpz : (p : Int) = 0 := by omega
              clear hp
              subst hp0
              have r0 := k5.c0
              have r1 := k5.c1
              have r2 := k5.c2
              have r3 := k5.c3
              have r4 := k5.c4
              have rf := k5.froz
              have HZ := Lib.hid (k5.put ⟨0, 0, 0, 0, 0⟩)
              have HBZ := Lib.hid (below_set5 k6 (Nat.le_refl _) (.int .i64 0) (.int .i64 0) (.int .i64 0) (.int .i64 0) (.int .i64 0))
              clear k4 k5 k6
              go_wp2
              try dsimp only at HZ
              generalize ((((w7.setCell ⟨w.heap.size, 0, none⟩ (.int .i64 0)).setCell ⟨w.heap.size, 1, none⟩ (.int .i64 0)).setCell ⟨w.heap.size, 2, none⟩ (.int .i64 0)).setCell ⟨w.heap.size, 3, none⟩ (.int .i64 0)).setCell ⟨w.heap.size, 4, none⟩ (.int .i64 0) = wz at *
              have HA := HZ.out
              clear r0 r1 r2 r3 r4
              refine bodyPost_ret (v := .tuple #[.agg #[(.int .i64 0), (.int .i64 0), (.int .i64 0), (.int .i64 0), (.int .i64 0)], .bool false]) (by have d0 := HA.c0; have d1 := HA.c1; have d2 := HA.c2; have d3 := HA.c3; have d4 := HA.c4; simp [results, Tryd.results11, go_sem, d0, d1, d2, d3, d4]) rfl ⟨by rw [HP.out], HBZ.out⟩
            · rw [if_neg hp0] at hp
              have HP := Lib.hid (show adr (Ad.pasv l) = .tuple #[.agg #[.int .i64 (n0 : Int), .int .i64 (n1 : Int), .int .i64 (n2 : Int), .int .i64 (n3 : Int), .int .i64 (p : Int)], .bool true] by rw [hp]; rfl)
              have e1 : ((p : Int) == 0) = false := beq_eq_false_iff_ne.2 (by omega)
              have e2 : ((p : Int) = 0) = False := eq_false (by omega)
              clear hp
              have r0 := k5.c0
              have r1 := k5.c1
              have r2 := k5.c2
              have r3 := k5.c3
              have r4 := k5.c4
              have rf := k5.froz
              have HZ := Lib.hid (k5.put ⟨n0, n1, n2, n3, p⟩)
              have HBZ := Lib.hid (below_set5 k6 (Nat.le_refl _) (.int .i64 (n0 : Int)) (.int .i64 (n1 : Int)) (.int .i64 (n2 : Int)) (.int .i64 (n3 : Int)) (.int .i64 (p : Int)))
              clear k4 k5 k6
              go_wp2
              try dsimp only at HZ
              generalize ((((w7.setCell ⟨w.heap.size, 0, none⟩ (.int .i64 (n0 : Int))).setCell ⟨w.heap.size, 1, none⟩ (.int .i64 (n1 : Int))).setCell ⟨w.heap.size, 2, none⟩ (.int .i64 (n2 : Int))).setCell ⟨w.heap.size, 3, none⟩ (.int .i64 (n3 : Int))).setCell ⟨w.heap.size, 4, none⟩ (.int .i64 (p : Int)) = wz at *
              have HA := HZ.out
              clear r0 r1 r2 r3 r4
              refine bodyPost_ret (v := .tuple #[.agg #[(.int .i64 (n0 : Int)), (.int .i64 (n1 : Int)), (.int .i64 (n2 : Int)), (.int .i64 (n3 : Int)), (.int .i64 (p : Int))], .bool true]) (by have d0 := HA.c0; have d1 := HA.c1; have d2 := HA.c2; have d3 := HA.c3; have d4 := HA.c4; simp [results, Tryd.results11, go_sem, d0, d1, d2, d3, d4]) rfl ⟨by rw [HP.out], HBZ.out⟩
end Go.Proofs.YtonophhhndhhhaaDoor
