/- The law FrameStays walked. (Laid by wip/tools/gen_fstays.py.) -/
import Derived.Test.YtagedockmlbebaaDoorFrameRow
import Derived.Test.YtagedockmlbebaaDoorToBytes
import Derived.ProofKit
import Derived.OpenShut
namespace Go.Proofs.YtagedockmlbebaaDoor
open Go.RowKit
namespace Li
/-- The bytes that are no letter of an end. -/
def only (xs : List UInt8) : List UInt8 := xs.filter fun b => !(b == 13) && !(b == 10)
theorem only_bare (xs : List UInt8) : Bare (only xs) := fun b hb => by
  have := (List.mem_filter.1 hb).2
  simpa using this
theorem only_len (xs : List UInt8) : (only xs).length ≤ xs.length := List.length_filter_le _ _
theorem only_on {xs : List UInt8} {k : Nat} (hk : k < xs.length) : only (xs.take (k + 1)) = only (xs.take k) ++ only [xs.getD k 0] := by
  have e : xs.take (k + 1) = xs.take k ++ [xs.getD k 0] := by
    rw [List.take_succ_eq_append_getElem hk, List.getD_eq_getElem?_getD, List.getElem?_eq_getElem hk]; rfl
  rw [e]
  exact List.filter_append _ _
end Li

set_option maxRecDepth 20000 in
set_option maxHeartbeats 4000000 in
theorem lawStaysF (v0 : Value) (x0 : List UInt8) (a1 : Int) (v2 : Value) (x2 : List UInt8) (h0 : x0.length ≤ maxLen) (h1 : (Lit.int .u8 a1).wf = true) (h2 : x2.length ≤ maxLen) (w : World) (r0 : Rd w v0 (x0.map bv)) (r2 : Rd w v2 (x2.map bv)) (ht : LT w) :
    Calls Tryd.prog 6 #[v0, .int .u8 a1, v2] w fun e w' => e = .returned (.bool true) ∧ Below w.heap.size w w' := by
  have hb1 := bounds_u8 h1
  obtain ⟨H, rfl⟩ := Int.eq_ofNat_of_zero_le hb1.1
  have hH : H < 256 := by omega
  have HT := Lib.hid ht
  have R0 := Lib.hid r0
  have R2 := Lib.hid r2
  have H0 := Lib.hid h0
  have H2 := Lib.hid h2
  clear ht r0 r2 h0 h2 h1 hb1
  go_enter Tryd.func6, Tryd.ntmps6
  go_wp2_with fail
  refine (shown_any w HT.out).mono ?_
  rintro e wa ⟨rfl, hba⟩
  have HBA := Lib.hid hba
  clear hba
  go_wp2_with fail
  refine (FL.new HBA.out 250 (by omega)).mono ?_
  rintro e w1 ⟨rfl, f1, _⟩
  rw [show max (0 : Int) 250 = 250 by decide] at f1
  obtain ⟨g, hg⟩ : ∃ g, g = wa.heap.size := ⟨_, rfl⟩
  rw [← hg] at f1 ⊢
  have ha := (Below.refl w1.heap.size w1).alloc (Nat.le_refl _) (.cells #[] 5)
  have HP0 := Lib.hid (show FP w g (.slice none 0 0) 250 Li.start (.slice (some ⟨w1.heap.size, 0, none⟩) 0 0) [] (.slice none 0 0) [] (w1.alloc (.cells #[] 5)) from
    ⟨f1.next ha, ownsRow_lower (World.ownsRow_made (base := w1.heap.size) w1 #[] 0 (Nat.le_refl _) (Nat.zero_le _) rfl) f1.b.size, World.ownsRow_nil _ _ _ _, Ap.none rfl⟩)
  clear hg HBA f1 ha
  go_wp2_with fail
  refine (short_any v0 x0 _ (R0.out.below HP0.out.l.b) H0.out).mono ?_
  rintro e wc ⟨va, rfl, ra, hwc⟩
  rw [← hwc]
  obtain ⟨X, hX⟩ : ∃ X, X = x0.take 200 := ⟨_, rfl⟩
  have lX : X.length ≤ 200 := by rw [hX]; exact List.length_take_le _ _
  rw [← hX] at ra
  have RA := Lib.hid (fun wx (hb : Below w.heap.size w wx) => (ra w R0.out).below hb)
  obtain ⟨ao, cap, rfl, hcap, hcell⟩ := (ra w R0.out).form
  obtain ⟨L, hL⟩ : ∃ L, L = X.length := ⟨_, rfl⟩
  rw [← hL] at lX hcap hcell RA ⊢
  have HL := Lib.hid hL
  have HC := Lib.hid hcell
  clear hX ra hwc hL hcell
  go_wp2
  go_loopw [9, 10] (fun a i wr => ∃ k : Nat, k ≤ L ∧ i = .int .i64 k ∧ Hid (FP w g (.slice none 0 0) 250 Li.start a (Li.only (X.take k)) (.slice none 0 0) [] wr)) (fun _ i _ => L - (intOf i).toNat)
  case atStart => exact ⟨0, Nat.zero_le _, rfl, HP0.out⟩
  case round =>
    obtain ⟨k, hk, rfl, HP⟩ := hrel
    clear HP0
    obtain ⟨zo, zc, rfl⟩ := own_form HP.out.a
    by_cases hlt : k < L
    · obtain ⟨b, o, rfl, hmx, hx⟩ := HC.out (by omega)
      have hc1 := HP.out.l.b.cell (World.block_lt_of_cell? w _ (hx k hlt))
      rw [hx k hlt] at hc1
      obtain ⟨x, hxx⟩ : ∃ x, x = X.getD k 0 := ⟨_, rfl⟩
      rw [← hxx] at hc1
      unfold bv at hc1
      have HX := Lib.hid hxx
      have h256 : (x.toNat : Int) < 256 := by have := x.toNat_lt; omega
      have HON := Lib.hid (Li.only_on (xs := X) (k := k) (by rw [← HL.out]; exact hlt))
      unfold maxLen at hmx
      clear hxx hx HC
      by_cases hx13 : x = 13
      · have q13 : ((x.toNat : Int) != 13) = false := by rw [hx13]; rfl
        have HO := Lib.hid (show Li.only (X.take (k + 1)) = Li.only (X.take k) by rw [HON.out, ← HX.out, hx13]; exact List.append_nil _)
        clear hx13
        go_wp2
        go_roundw
        case rel => exact ⟨k + 1, by omega, by go_num, by show FP _ _ _ _ _ _ _ _ _ _; rw [HO.out]; exact HP.out⟩
        case measure => simp [intOf]; omega
      · have q13 : ((x.toNat : Int) != 13) = true := by
          have h2 : ((x.toNat : Int) == 13) = false := beq_eq_false_iff_ne.2 (fun e => hx13 (UInt8.toNat_inj.1 (by show x.toNat = 13; omega)))
          rw [bne, h2]; rfl
        have q13b : (x.toNat = 13) = False := eq_false (fun e => hx13 (UInt8.toNat_inj.1 e))
        by_cases hx10 : x = 10
        · have q10 : ((x.toNat : Int) != 10) = false := by rw [hx10]; rfl
          have HO := Lib.hid (show Li.only (X.take (k + 1)) = Li.only (X.take k) by rw [HON.out, ← HX.out, hx10]; exact List.append_nil _)
          clear hx10 hx13
          go_wp2
          go_roundw
          case rel => exact ⟨k + 1, by omega, by go_num, by show FP _ _ _ _ _ _ _ _ _ _; rw [HO.out]; exact HP.out⟩
          case measure => simp [intOf]; omega
        · have q10 : ((x.toNat : Int) != 10) = true := by
            have h2 : ((x.toNat : Int) == 10) = false := beq_eq_false_iff_ne.2 (fun e => hx10 (UInt8.toNat_inj.1 (by show x.toNat = 10; omega)))
            rw [bne, h2]; rfl
          have q10b : (x.toNat = 10) = False := eq_false (fun e => hx10 (UInt8.toNat_inj.1 e))
          have HO := Lib.hid (show Li.only (X.take (k + 1)) = Li.only (X.take k) ++ [x] by
            rw [HON.out, ← HX.out]
            congr 1
            unfold Li.only
            simp [hx13, hx10])
          have ha := (Below.refl wr.heap.size wr).alloc (Nat.le_refl _) (.cells #[.int .u8 (x.toNat : Int)] 5)
          have HPA := Lib.hid (HP.out.next ha)
          have hle := Li.only_len (X.take k)
          rw [List.length_take] at hle
          have HLE := Lib.hid (show (Li.only (X.take k)).length ≤ 200 by have := HL.out; omega)
          have HR1 := Lib.hid (show Rd (wr.alloc (.cells #[.int .u8 (x.toNat : Int)] 5)) (.slice (some ⟨wr.heap.size, 0, none⟩) 1 1) ([x].map bv) from Rd.made wr [x] 5 (0, 0) 1 rfl (by decide))
          clear hx10 hx13 ha hle
          go_wp2_with (at_builtin; refine append_where rfl (.tmp 45) (.tmp 50) rfl rfl HPA.out.a [x] ?hxx ?hnn HPA.out.l.b.size ?_)
          case hxx => exact HR1.out
          case hnn => have := HLE.out; simp only [List.length_singleton]; omega
          intro v' w' ho hgr hw
          have HPN := Lib.hid (HPA.out.more (ys := [x]) (by simpa using ho) hgr (by
            refine hw.imp id ?_
            rintro ⟨g', ⟨cp, e⟩, h9⟩
            exact ⟨g', cp, e, h9.imp id fun e => by rw [e]; simp⟩))
          clear ho hgr hw
          go_wp2
          go_roundw
          case rel => exact ⟨k + 1, by omega, by go_num, by show FP _ _ _ _ _ _ _ _ _ _; rw [HO.out]; exact HPN.out⟩
          case measure => simp [intOf]; omega
    · obtain rfl : k = L := by omega
      have eX : X.take k = X := List.take_of_length_le (by rw [HL.out]; exact Nat.le_refl _)
      rw [eX] at HP
      rw [eX]
      obtain ⟨Z, hZ⟩ : ∃ Z, Z = Li.only X := ⟨_, rfl⟩
      have hle : Z.length ≤ 200 := by have := Li.only_len X; rw [hZ]; have := HL.out; omega
      have hbr : Li.Bare Z := by rw [hZ]; exact Li.only_bare X
      rw [← hZ] at HP ⊢
      have HLE := Lib.hid hle
      have HBR := Lib.hid hbr
      clear eX hZ hle hbr hlt hk HC RA
      go_wp2_with fail
      refine (HP.out.l.put HT.out _ Z HP.out.allRd (by have := HLE.out; simp [Li.start]; omega) (ls := []) (f' := ⟨Z, 0⟩) (by
        have := Li.put_bare (m := 250) Z [] HBR.out (fun b hb => by cases hb) (by have := HLE.out; simp; omega)
        simpa [Li.start] using this)).mono ?_
      rintro e w2 ⟨s2, lo, lc, rfl, f2, _, hT2, hn2⟩
      have F2 := Lib.hid f2
      clear f2 hT2 hn2 HP
      obtain ⟨zn, hzn⟩ : ∃ zn, zn = Z.length := ⟨_, rfl⟩
      rw [← hzn]
      have CR := Lib.hid (F2.out.rest (r := zn) hzn)
      have CE := Lib.hid (F2.out.error (er := 0) rfl)
      clear hzn
      go_wp2_with fail
      refine CR.out.mono ?_
      rintro e w3 ⟨rfl, rfl⟩
      go_wp2_with fail
      refine CE.out.mono ?_
      rintro e w3 ⟨rfl, rfl⟩
      clear CR CE
      have hmod : H % 3 = 0 ∨ H % 3 = 1 ∨ H % 3 = 2 := by omega
      have hal := (Below.refl w2.heap.size w2).alloc (Nat.le_refl _) (.cells #[.string ⟨#[10]⟩, .string ⟨#[13, 120]⟩, .string ⟨#[13, 13]⟩] 9)
      have HAL := Lib.hid hal
      clear hal
      rcases hmod with hmod | hmod | hmod
      · have hm1 : (H : Int) % 3 = 0 := by omega
        have hm2 : (H : Int).tmod 3 = 0 := by rw [Int.tmod_eq_emod_of_nonneg (by omega)]; exact hm1
        obtain ⟨w3, cp, hcv, hrd, hb3⟩ := to_bytes (w2.alloc (.cells #[.string ⟨#[10]⟩, .string ⟨#[13, 120]⟩, .string ⟨#[13, 13]⟩] 9)) ⟨#[10]⟩ (by decide)
        obtain ⟨n3, hn3⟩ : ∃ n3, n3 = (w2.alloc (.cells #[.string ⟨#[10]⟩, .string ⟨#[13, 120]⟩, .string ⟨#[13, 13]⟩] 9)).heap.size := ⟨_, rfl⟩
        rw [← hn3] at hcv hrd
        have hn4 : w2.heap.size ≤ n3 := by rw [hn3]; exact HAL.out.size
        have hcv : (convert 9 26 (.string ⟨#[10]⟩)).run Tryd.prog (w2.alloc (.cells #[.string ⟨#[10]⟩, .string ⟨#[13, 120]⟩, .string ⟨#[13, 13]⟩] 9)) = .ok (.slice (some ⟨n3, 0, none⟩) 1 cp) w3 := hcv
        have hrd : Rd w3 (.slice (some ⟨n3, 0, none⟩) 1 cp) (([10] : List UInt8).map bv) := hrd
        have F3 := Lib.hid (F2.out.next (HAL.out.trans (hb3.mono HAL.out.size)))
        have hrt := F2.out.past_new hrd (n := n3) rfl hn4
        have HRT := Lib.hid hrt
        clear hb3 hrd hrt hmod hn3 hn4
        go_wp2_with fail
        refine (F3.out.put HT.out _ [10] HRT.out (by have := HLE.out; simp; omega) (Li.put_spoil HBR.out (by simp))).mono ?_
        rintro e w4 ⟨s4, lo4, lc4, rfl, f4, _, _, _⟩
        have F4 := Lib.hid f4
        clear f4 F3 HRT hcv
        go_wp2_with fail
        refine (short_any v2 x2 w4 (R2.out.below F4.out.b) H2.out).mono ?_
        rintro e wd ⟨vb, rfl, rb, rfl⟩
        have hlb : (x2.take 200).length ≤ 200 := List.length_take_le _ _
        have HRB := Lib.hid (F4.out.old (rb w R2.out))
        have HLB := Lib.hid hlb
        clear rb hlb
        go_wp2_with fail
        refine (F4.out.put HT.out _ (x2.take 200) HRB.out (by have := HLB.out; simp only [List.length_nil]; omega) (Li.put_err (f := ⟨[], 60⟩) (by decide) _)).mono ?_
        rintro e w5 ⟨s5, lo5, lc5, rfl, f5, _, _, _⟩
        have F5 := Lib.hid f5
        have CR := Lib.hid (F5.out.rest (r := 0) rfl)
        have CE := Lib.hid (F5.out.error (er := 60) rfl)
        clear f5 F4 HRB
        dsimp only [List.length_nil]
        go_wp2_with fail
        refine CR.out.mono ?_
        rintro e w6 ⟨rfl, rfl⟩
        go_wp2_with fail
        refine CE.out.mono ?_
        rintro e w6 ⟨rfl, rfl⟩
        go_wp2
        go_ret
        exact ⟨rfl, F5.out.b⟩
      · have hm1 : (H : Int) % 3 = 1 := by omega
        have hm2 : (H : Int).tmod 3 = 1 := by rw [Int.tmod_eq_emod_of_nonneg (by omega)]; exact hm1
        obtain ⟨w3, cp, hcv, hrd, hb3⟩ := to_bytes (w2.alloc (.cells #[.string ⟨#[10]⟩, .string ⟨#[13, 120]⟩, .string ⟨#[13, 13]⟩] 9)) ⟨#[13, 120]⟩ (by decide)
        obtain ⟨n3, hn3⟩ : ∃ n3, n3 = (w2.alloc (.cells #[.string ⟨#[10]⟩, .string ⟨#[13, 120]⟩, .string ⟨#[13, 13]⟩] 9)).heap.size := ⟨_, rfl⟩
        rw [← hn3] at hcv hrd
        have hn4 : w2.heap.size ≤ n3 := by rw [hn3]; exact HAL.out.size
        have hcv : (convert 9 26 (.string ⟨#[13, 120]⟩)).run Tryd.prog (w2.alloc (.cells #[.string ⟨#[10]⟩, .string ⟨#[13, 120]⟩, .string ⟨#[13, 13]⟩] 9)) = .ok (.slice (some ⟨n3, 0, none⟩) 2 cp) w3 := hcv
        have hrd : Rd w3 (.slice (some ⟨n3, 0, none⟩) 2 cp) (([13, 120] : List UInt8).map bv) := hrd
        have F3 := Lib.hid (F2.out.next (HAL.out.trans (hb3.mono HAL.out.size)))
        have hrt := F2.out.past_new hrd (n := n3) rfl hn4
        have HRT := Lib.hid hrt
        clear hb3 hrd hrt hmod hn3 hn4
        go_wp2_with fail
        refine (F3.out.put HT.out _ [13, 120] HRT.out (by have := HLE.out; simp; omega) (Li.put_spoil HBR.out (by simp))).mono ?_
        rintro e w4 ⟨s4, lo4, lc4, rfl, f4, _, _, _⟩
        have F4 := Lib.hid f4
        clear f4 F3 HRT hcv
        go_wp2_with fail
        refine (short_any v2 x2 w4 (R2.out.below F4.out.b) H2.out).mono ?_
        rintro e wd ⟨vb, rfl, rb, rfl⟩
        have hlb : (x2.take 200).length ≤ 200 := List.length_take_le _ _
        have HRB := Lib.hid (F4.out.old (rb w R2.out))
        have HLB := Lib.hid hlb
        clear rb hlb
        go_wp2_with fail
        refine (F4.out.put HT.out _ (x2.take 200) HRB.out (by have := HLB.out; simp only [List.length_nil]; omega) (Li.put_err (f := ⟨[], 60⟩) (by decide) _)).mono ?_
        rintro e w5 ⟨s5, lo5, lc5, rfl, f5, _, _, _⟩
        have F5 := Lib.hid f5
        have CR := Lib.hid (F5.out.rest (r := 0) rfl)
        have CE := Lib.hid (F5.out.error (er := 60) rfl)
        clear f5 F4 HRB
        dsimp only [List.length_nil]
        go_wp2_with fail
        refine CR.out.mono ?_
        rintro e w6 ⟨rfl, rfl⟩
        go_wp2_with fail
        refine CE.out.mono ?_
        rintro e w6 ⟨rfl, rfl⟩
        go_wp2
        go_ret
        exact ⟨rfl, F5.out.b⟩
      · have hm1 : (H : Int) % 3 = 2 := by omega
        have hm2 : (H : Int).tmod 3 = 2 := by rw [Int.tmod_eq_emod_of_nonneg (by omega)]; exact hm1
        obtain ⟨w3, cp, hcv, hrd, hb3⟩ := to_bytes (w2.alloc (.cells #[.string ⟨#[10]⟩, .string ⟨#[13, 120]⟩, .string ⟨#[13, 13]⟩] 9)) ⟨#[13, 13]⟩ (by decide)
        obtain ⟨n3, hn3⟩ : ∃ n3, n3 = (w2.alloc (.cells #[.string ⟨#[10]⟩, .string ⟨#[13, 120]⟩, .string ⟨#[13, 13]⟩] 9)).heap.size := ⟨_, rfl⟩
        rw [← hn3] at hcv hrd
        have hn4 : w2.heap.size ≤ n3 := by rw [hn3]; exact HAL.out.size
        have hcv : (convert 9 26 (.string ⟨#[13, 13]⟩)).run Tryd.prog (w2.alloc (.cells #[.string ⟨#[10]⟩, .string ⟨#[13, 120]⟩, .string ⟨#[13, 13]⟩] 9)) = .ok (.slice (some ⟨n3, 0, none⟩) 2 cp) w3 := hcv
        have hrd : Rd w3 (.slice (some ⟨n3, 0, none⟩) 2 cp) (([13, 13] : List UInt8).map bv) := hrd
        have F3 := Lib.hid (F2.out.next (HAL.out.trans (hb3.mono HAL.out.size)))
        have hrt := F2.out.past_new hrd (n := n3) rfl hn4
        have HRT := Lib.hid hrt
        clear hb3 hrd hrt hmod hn3 hn4
        go_wp2_with fail
        refine (F3.out.put HT.out _ [13, 13] HRT.out (by have := HLE.out; simp; omega) (Li.put_spoil HBR.out (by simp))).mono ?_
        rintro e w4 ⟨s4, lo4, lc4, rfl, f4, _, _, _⟩
        have F4 := Lib.hid f4
        clear f4 F3 HRT hcv
        go_wp2_with fail
        refine (short_any v2 x2 w4 (R2.out.below F4.out.b) H2.out).mono ?_
        rintro e wd ⟨vb, rfl, rb, rfl⟩
        have hlb : (x2.take 200).length ≤ 200 := List.length_take_le _ _
        have HRB := Lib.hid (F4.out.old (rb w R2.out))
        have HLB := Lib.hid hlb
        clear rb hlb
        go_wp2_with fail
        refine (F4.out.put HT.out _ (x2.take 200) HRB.out (by have := HLB.out; simp only [List.length_nil]; omega) (Li.put_err (f := ⟨[], 60⟩) (by decide) _)).mono ?_
        rintro e w5 ⟨s5, lo5, lc5, rfl, f5, _, _, _⟩
        have F5 := Lib.hid f5
        have CR := Lib.hid (F5.out.rest (r := 0) rfl)
        have CE := Lib.hid (F5.out.error (er := 60) rfl)
        clear f5 F4 HRB
        dsimp only [List.length_nil]
        go_wp2_with fail
        refine CR.out.mono ?_
        rintro e w6 ⟨rfl, rfl⟩
        go_wp2_with fail
        refine CE.out.mono ?_
        rintro e w6 ⟨rfl, rfl⟩
        go_wp2
        go_ret
        exact ⟨rfl, F5.out.b⟩
end Go.Proofs.YtagedockmlbebaaDoor
