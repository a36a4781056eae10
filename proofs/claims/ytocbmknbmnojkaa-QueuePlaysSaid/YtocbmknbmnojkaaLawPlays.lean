/- The law QueuePlays walked. -/
import Derived.Test.YtocbmknbmnojkaaQueuePL
import Derived.Test.YtocbmknbmnojkaaOpenRows
import Derived.Test.YtocbmknbmnojkaaHeld
import Derived.Deep.CutRange
namespace Go.Proofs.Ytocbmknbmnojkaa
open Go.RowKit Go.ChangeShapes

/-- What stands in the inner loop of QueuePlays. -/
structure AX (W : World) (m : Int) (g : Nat) (s : Value) (xs : List UInt8) (t gy : Nat) (sy : Value) (ys : List UInt8) (u : Nat) (xo : Option Addr) (n : Nat) (wr : World) : Prop where
  p : PL W m g s xs t gy sy ys u wr
  b : 0 < n → ∃ ga C, xo = some ⟨ga, 0, none⟩ ∧ wr.heap[ga]? = some (.cells C 5 (0, 0)) ∧ n ≤ C.size ∧ g ≠ ga ∧ s.ownBlock ≠ some ga ∧ gy ≠ ga ∧ sy.ownBlock ≠ some ga ∧ W.heap.size ≤ ga
theorem AX.of {W w0 wr : World} {m : Int} {g t gy u n xc t0 u0 : Nat} {s sy : Value} {xs ys E : List UInt8} {xo : Option Addr} (h0 : PL W m g s xs t0 gy sy ys u0 w0) (h : PL W m g s xs t gy sy ys u wr) (hf : Fr wr w0.heap.size (.slice xo n xc) E) : AX W m g s xs t gy sy ys u xo n wr := by
  refine ⟨h, fun hn => ?_⟩
  rcases hf with ⟨_, ao, e⟩ | ⟨_, ho⟩
  · simp only [Value.slice.injEq] at e
    omega
  · rcases ho.2 with ⟨e, h0⟩ | ⟨ga, cap, cur, e, hB, hg, h2, _, h4, _⟩
    · simp only [Value.slice.injEq] at e
      omega
    · simp only [Value.slice.injEq] at e
      obtain ⟨rfl, rfl, rfl⟩ := e
      have g1 := h0.q.lt
      have g2 := h0.y.lt
      have b0 := h0.below.size
      exact ⟨ga, cur, rfl, hg, by omega, by omega, fun e => by have := (h0.q.slt _ e).2; omega, by omega, fun e => by have := (h0.y.slt _ e).2; omega, by omega⟩
theorem AX.set {W wr : World} {m : Int} {g t gy u n ga : Nat} {s sy : Value} {xs ys : List UInt8} (h : AX W m g s xs t gy sy ys u (some ⟨ga, 0, none⟩) n wr) (hn : 0 < n) (i : Nat) (v : Value) : AX W m g s xs t gy sy ys u (some ⟨ga, 0, none⟩) n (wr.setCell ⟨ga, i, none⟩ v) := by
  obtain ⟨gb, C, e, hC, h1, h2, h3, h4, h5, h6⟩ := h.b hn
  simp only [Option.some.injEq, Addr.mk.injEq, and_true] at e
  obtain rfl := e
  exact ⟨h.p.other h2 h3 h4 h5 h6 i v, fun _ => ⟨_, _, rfl, setCell_row hC, by simpa using h1, h2, h3, h4, h5, h6⟩⟩

set_option maxRecDepth 20000 in
set_option maxHeartbeats 2000000 in
theorem lawPlays (mo : Int) (v1 : Value) (os : List OpV) (hmo : (Lit.int .i64 mo).wf = true) (h1 : os.length ≤ maxLen) (w : World) (r1 : RdN 3 w v1 (os.map OpV.cells)) (m1 : ∀ o ∈ os, o.Ok w) :
    Calls Try.prog 3 #[.int .i64 mo, v1] w fun e w' => e = .returned (.bool true) ∧ Below w.heap.size w w' := by
  have hmob := bounds_i64 hmo
  obtain ⟨lo, cl, rfl, hcl, hll⟩ := r1.form
  rw [List.length_map] at hcl hll ⊢
  obtain ⟨L, hL⟩ : ∃ L, L = os.length := ⟨_, rfl⟩
  rw [← hL] at h1 hcl hll ⊢
  obtain ⟨m, hm⟩ : ∃ m, m = max 0 mo := ⟨_, rfl⟩
  have hm1 : m < 9223372036854775808 := by omega
  have hm0 : 0 ≤ m := by omega
  have HLL := Lib.hid hll
  have HM1 := Lib.hid m1
  have HL := Lib.hid hL
  have HM := Lib.hid hm
  have HMOB := Lib.hid hmob
  have kc := fun (w : World) (C : Array Value) (n c : Nat) => Lib.run_convert_bytes_const (P := Try.prog) w 28 5 C n c Try.underlying28 Try.underlying5
  unfold maxLen at h1
  clear hll m1 hL hm r1 hmo hmob
  go_enter Try.func3, Try.ntmps3
  go_wp2_with fail
  refine (shown_any w).mono ?_
  rintro e wa ⟨rfl, hba⟩
  have HBA := Lib.hid hba
  clear hba
  go_wp2_with fail
  refine (new_any mo (by have := HMOB.out; omega) wa).mono ?_
  rintro e wb ⟨rfl, hbb, hq⟩
  rw [← HM.out] at hq
  obtain ⟨g0, hg0⟩ : ∃ g, g = wa.heap.size := ⟨_, rfl⟩
  rw [← hg0] at hq ⊢
  have HG0 := Lib.hid hg0
  have HBB := Lib.hid hbb
  have HQ := Lib.hid hq
  clear hg0 hbb hq
  go_wp2_with fail
  refine (rnew_any mo (by have := HMOB.out; omega) wb).mono ?_
  rintro e wc ⟨rfl, hbc, hy⟩
  rw [← HM.out] at hy
  obtain ⟨gy, hgy⟩ : ∃ g, g = wb.heap.size := ⟨_, rfl⟩
  rw [← hgy] at hy ⊢
  have P0 : PL w m g0 (.slice none 0 0) [] 0 gy (.slice none 0 0) [] 0 wc := by
    have q1 := HQ.out.lower (B' := w.heap.size) (by rw [HG0.out]; exact HBA.out.size)
    have b1 := HBA.out.trans (HBB.out.mono HBA.out.size)
    have h0 := HQ.out.lt
    exact ⟨q1.next hbc, hy.lower (by rw [hgy]; exact b1.size), ⟨by omega, fun e => (by cases e), fun e => (by cases e), .inl rfl⟩, b1.trans (hbc.mono b1.size)⟩
  have HP := Lib.hid P0
  clear P0 hbc hy hgy HQ HG0 HBA HBB HM HMOB
  go_wp2
  go_loopw [6, 8] (fun q i wr => ∃ (g : Nat) (s : Value) (xs : List UInt8) (t : Nat) (sy : Value) (k : Nat), k ≤ L ∧ k ≤ 60 ∧ xs.length ≤ 60 * k ∧ q = .pointer (some ⟨g, 0, none⟩) ∧ i = .int .i64 k ∧ Hid (PL w m g s xs t gy sy xs t wr)) (fun _ i _ => 60 - (intOf i).toNat)
  case atStart => exact ⟨g0, _, [], 0, _, 0, by omega, by omega, by simp, rfl, rfl, HP.out⟩
  case round =>
    obtain ⟨g, s, xs, t, sy, k, hk, hk60, hxs, rfl, rfl, HP⟩ := hrel
    by_cases hgo : k < L ∧ k < 60
    · obtain ⟨hlt, hlt60⟩ := hgo
      obtain ⟨b, o, rfl, hmc, hcell⟩ := HLL.out (by omega)
      obtain ⟨op, hop⟩ : ∃ op, os[k]? = some op := ⟨_, List.getElem?_eq_getElem (by rw [← HL.out]; exact hlt)⟩
      obtain ⟨kind, n, vb, zs⟩ := op
      have ok := HM1.out _ (List.mem_of_getElem? hop)
      have hkb := bounds_u8 ok.kind
      have hnb := bounds_i64 ok.n
      have hrz := ok.rd
      have hlz := ok.len
      simp only at hkb hnb hrz hlz
      obtain ⟨kd, rfl⟩ := Int.eq_ofNat_of_zero_le hkb.1
      obtain ⟨vo, vc, rfl, _, _⟩ := hrz.form
      have cells : ∀ i u, (OpV.cells ⟨(kd : Int), n, .slice vo zs.length vc, zs⟩)[i]? = some u → wr.cell? ⟨b, o + (k * 3 + i), none⟩ = some u := fun i u hu => by
        have hc := hcell k _ (by rw [List.getElem?_map, hop]; rfl) i u hu
        exact (HP.out.below.cell (World.block_lt_of_cell? w _ hc)).trans hc
      have k0 := cells 0 _ rfl
      have k1 := cells 1 _ rfl
      have k2 := cells 2 _ rfl
      rw [Nat.add_zero] at k0
      rw [← Nat.add_assoc] at k1 k2
      obtain ⟨Z, hZ⟩ : ∃ Z, Z = zs.length := ⟨_, rfl⟩
      rw [← hZ] at k2 hrz hlz
      have HZ := Lib.hid hZ
      have HRZ := Lib.hid hrz
      clear cells hop hcell hmc ok hZ hrz
      go_upto_region 10 with fail
      have ha : Below wr.heap.size wr (wr.alloc (.cells #[.int .u8 (kd : Int), .int .i64 n, .slice vo Z vc] 30)) := (Below.refl _ _).alloc (Nat.le_refl _) _
      have P9 := HP.out.next ha
      have h9 := heap_alloc_new wr (.cells #[.int .u8 (kd : Int), .int .i64 n, .slice vo Z vc] 30)
      have R9 := HRZ.out.below P9.below
      have n1 : g ≠ wr.heap.size := by have := HP.out.q.lt; omega
      have n2 : s.ownBlock ≠ some wr.heap.size := fun e => by have := (HP.out.q.slt _ e).2; omega
      have n3 : gy ≠ wr.heap.size := by have := HP.out.y.lt; omega
      have n4 : sy.ownBlock ≠ some wr.heap.size := fun e => by have := (HP.out.y.slt _ e).2; omega
      have n5 : w.heap.size ≤ wr.heap.size := HP.out.below.size
      generalize wr.alloc (.cells #[.int .u8 (kd : Int), .int .i64 n, .slice vo Z vc] 30) = w9 at *
      generalize hgo : wr.heap.size = go at *
      have q0 : w9.cell? ⟨go, 0, none⟩ = some (.int .u8 (kd : Int)) := cell_of_row _ _ _ _ _ _ h9
      have q1 : w9.cell? ⟨go, 1, none⟩ = some (.int .i64 n) := cell_of_row _ _ _ _ _ _ h9
      have q2 : w9.cell? ⟨go, 2, none⟩ = some (.slice vo Z vc) := cell_of_row _ _ _ _ _ _ h9
      obtain ⟨r, hr⟩ : ∃ r, r = kd % 3 := ⟨_, rfl⟩
      have hr3 : r < 3 := by omega
      have e1 : (kd : Int).tmod 3 = (r : Int) := by rw [Int.tmod_eq_emod_of_nonneg (by omega)]; omega
      have HP9 := Lib.hid P9
      have H9 := Lib.hid h9
      have N1 := Lib.hid n1
      have N2 := Lib.hid n2
      have N3 := Lib.hid n3
      have N4 := Lib.hid n4
      have N5 := Lib.hid n5
      have HR9 := Lib.hid R9
      clear ha P9 h9 R9 n1 n2 n3 n4 n5 HP hgo hr k0 k1 k2
      go_cut [43] from 41 to 43 (fun s43 wx => s43 = .int .u8 (r : Int) ∧ wx = w9)
      case first =>
        go_wp2
        go_meet
        exact ⟨rfl, rfl⟩
      case rest =>
      obtain ⟨rfl, rfl⟩ := hcut
      go_step
      go_cut [6] from 27 to 138 (fun q wx => ∃ (g : Nat) (s : Value) (xs : List UInt8) (t : Nat) (sy : Value), xs.length ≤ 60 * (k + 1) ∧ q = .pointer (some ⟨g, 0, none⟩) ∧ PL w m g s xs t gy sy xs t wx)
      case first =>
        have hcase : r = 0 ∨ r = 1 ∨ r = 2 := by omega
        rcases hcase with rfl | rfl | rfl
        · go_wp2_with fail
          refine (short_any _ zs _ (HRZ.out.below HP9.out.below) (by rw [← HZ.out]; exact hlz)).mono ?_
          rintro e wd ⟨va, rfl, ra, hwd⟩
          obtain rfl := hwd
          have ra := ra w HRZ.out
          obtain ⟨Y, hY⟩ : ∃ Y, Y = zs.take 60 := ⟨_, rfl⟩
          have lY : Y.length ≤ 60 := by rw [hY]; exact List.length_take_le _ _
          rw [← hY] at ra
          have RA := Lib.hid ra
          have HY := Lib.hid hY
          clear hY ra
          by_cases hfit : ((xs.length + Y.length : Nat) : Int) ≤ m
          · have HF := Lib.hid hfit
            clear hfit
            go_wp2_with fail
            refine (PL.put HP9.out _ Y (RA.out.below HP9.out.below) (by omega) HF.out).mono ?_
            rintro e we ⟨s3, rfl, p3, t3⟩
            have h3 := (t3.block go (Array.getElem?_eq_some_iff.1 H9.out).1 N1.out.symm N2.out).trans H9.out
            have j2 : we.cell? ⟨go, 2, none⟩ = some (.slice vo Z vc) := cell_of_row _ _ _ _ _ _ h3
            have HP3 := Lib.hid p3
            clear p3 t3 h3 q0 q1 q2
            go_wp2_with fail
            refine (short_any _ zs _ (HRZ.out.below HP3.out.below) (by rw [← HZ.out]; exact hlz)).mono ?_
            rintro e wd ⟨vb2, rfl, rb, hwd⟩
            obtain rfl := hwd
            have rb := (rb w HRZ.out).below HP3.out.below
            rw [← HY.out] at rb
            have RB := Lib.hid rb
            clear rb j2
            go_wp2_with fail
            refine (PL.rput HP3.out _ Y RB.out (by omega) HF.out).mono ?_
            rintro e wf ⟨s4, rfl, p4⟩
            have HP4 := Lib.hid p4
            clear p4 HP3
            go_wp2
            go_meet
            exact ⟨g, s3, xs ++ Y, t, s4, by rw [List.length_append]; omega, rfl, HP4.out⟩
          · have hfull : m < ((xs.length + Y.length : Nat) : Int) := by omega
            have HF := Lib.hid hfull
            clear hfull hfit
            go_wp2_with fail
            refine (PL.full HP9.out _ Y (RA.out.below HP9.out.below) (by omega) HF.out).mono ?_
            rintro e we ⟨rfl, p3, t3⟩
            have h3 := (t3.block go (Array.getElem?_eq_some_iff.1 H9.out).1 N1.out.symm N2.out).trans H9.out
            have j2 : we.cell? ⟨go, 2, none⟩ = some (.slice vo Z vc) := cell_of_row _ _ _ _ _ _ h3
            have HP3 := Lib.hid p3
            clear p3 t3 h3 q0 q1 q2
            go_wp2_with fail
            refine (short_any _ zs _ (HRZ.out.below HP3.out.below) (by rw [← HZ.out]; exact hlz)).mono ?_
            rintro e wd ⟨vb2, rfl, rb, hwd⟩
            obtain rfl := hwd
            have rb := (rb w HRZ.out).below HP3.out.below
            rw [← HY.out] at rb
            have RB := Lib.hid rb
            clear rb j2
            go_wp2_with fail
            refine (PL.rfull HP3.out _ Y RB.out HF.out).mono ?_
            rintro e wf ⟨rfl, p4⟩
            have HP4 := Lib.hid p4
            clear p4 HP3
            go_wp2
            go_meet
            exact ⟨g, s, xs, t, sy, by omega, rfl, HP4.out⟩
        · obtain ⟨k1, hk1⟩ : ∃ k1, k1 = min (max n 0).toNat (xs.length - t) := ⟨_, rfl⟩
          obtain ⟨E, hE⟩ : ∃ E, E = (xs.drop t).take k1 := ⟨_, rfl⟩
          obtain ⟨KE, hKE⟩ : ∃ K, K = kb E := ⟨_, rfl⟩
          have lk1 : k1 ≤ 3600 := by omega
          have HK1 := Lib.hid hk1
          have HE := Lib.hid hE
          have HKE := Lib.hid hKE
          clear hk1 hE hKE
          go_wp2_with fail
          refine (PL.take HP9.out n HK1.out HE.out).mono ?_
          rintro e we ⟨xo, xc, rfl, f3, p3, t3⟩
          have h3 := (t3.block go (Array.getElem?_eq_some_iff.1 H9.out).1 N1.out.symm N2.out).trans H9.out
          have j1 : we.cell? ⟨go, 1, none⟩ = some (.int .i64 n) := cell_of_row _ _ _ _ _ _ h3
          have HP3 := Lib.hid p3
          have HF3 := Lib.hid f3
          clear p3 t3 h3 f3 q0 q1 q2
          go_wp2_with fail
          refine (PL.rtake HP3.out n HK1.out HE.out).mono ?_
          rintro e wf ⟨yo, yc, rfl, r4, p4, t4⟩
          have f4 := HF3.out.turn t4 HP9.out.y.lt
          have m1 := str_of f4.rd HKE.out
          have m2 := str_of r4 HKE.out
          have HP4 := Lib.hid p4
          have HF4 := Lib.hid f4
          clear p4 HP3 r4 t4 f4 HF3 j1
          have hax := Lib.hid (AX.of HP9.out HP4.out HF4.out)
          go_wp2
          go_loopw [14] (fun i wq => ∃ j : Nat, j ≤ k1 ∧ i = .int .i64 j ∧ Hid (AX w m g s xs (t + k1) gy sy xs (t + k1) xo k1 wq)) (fun i _ => k1 - (intOf i).toNat)
          case atStart => exact ⟨0, by omega, rfl, hax.out⟩
          case round =>
            obtain ⟨j, hj, rfl, HX⟩ := hrel
            clear m1 m2 HP4 HF4 hax
            by_cases hjk : j < k1
            · obtain ⟨ga, C, rfl, hC, hCn, _⟩ := HX.out.b (by omega)
              have z1 : wr.cell? ⟨ga, j, none⟩ = some (C.getD j default) := by
                rw [cell_of_row _ _ _ _ _ _ hC, Array.getD_eq_getD_getElem?, Array.getElem?_eq_getElem (by omega)]
                rfl
              have z2 : wr.frozen? ⟨ga, j, none⟩ = false := frozen_of_row _ _ _ _ _ hC
              clear hC hCn
              go_wp2
              go_roundw
              case rel => exact ⟨j + 1, by omega, by go_num, HX.out.set (by omega) _ _⟩
              case measure => simp [intOf]; omega
            · obtain rfl : j = k1 := by omega
              have HP5 := Lib.hid HX.out.p
              clear HX
              go_wp2
              go_meet
              exact ⟨g, s, xs, t + j, sy, by omega, rfl, HP5.out⟩
        · go_wp2_with fail
          refine (PL.clone HP9.out).mono ?_
          rintro e we ⟨g2, s2, rfl, p3⟩
          have HP3 := Lib.hid p3
          clear p3 q0 q1 q2
          have ha := (Below.refl we.heap.size we).alloc (Nat.le_refl _) (.cells ([122, 122].map bv).toArray 5 (2, 3))
          by_cases hfit : ((xs.length + 2 : Nat) : Int) ≤ m
          · have HF := Lib.hid hfit
            clear hfit
            go_wp2_with fail
            refine (P3.put (HP3.out.next ha) _ [122, 122] (Rd.made we [122, 122] _ _ 2 rfl (by decide)) (by simp; omega) HF.out).mono ?_
            rintro e wf ⟨s3, rfl, p4⟩
            have HP4 := Lib.hid p4
            clear p4 HP3 ha
            go_wp2_with fail
            refine (P3.take HP4.out 5).mono ?_
            rintro e wh ⟨v5, rfl, p5⟩
            have HP5 := Lib.hid p5
            clear p5 HP4
            go_wp2
            go_meet
            exact ⟨g2, s2, xs, t, sy, by omega, rfl, HP5.out⟩
          · have hfull : m < ((xs.length + 2 : Nat) : Int) := by omega
            have HF := Lib.hid hfull
            clear hfull hfit
            go_wp2_with fail
            refine (P3.full (HP3.out.next ha) _ [122, 122] (Rd.made we [122, 122] _ _ 2 rfl (by decide)) (by decide) HF.out).mono ?_
            rintro e wf ⟨rfl, p4⟩
            have HP4 := Lib.hid p4
            clear p4 HP3 ha
            go_wp2_with fail
            refine (P3.take HP4.out 5).mono ?_
            rintro e wh ⟨v5, rfl, p5⟩
            have HP5 := Lib.hid p5
            clear p5 HP4
            go_wp2
            go_meet
            exact ⟨g2, s2, xs, t, sy, by omega, rfl, HP5.out⟩
      case rest =>
        obtain ⟨g2, s2, xs2, t2, sy2, hxs2, rfl, HP2⟩ := hcut
        obtain ⟨yo, yc, hsy, _, _⟩ := HP2.y.form
        obtain ⟨N, hN⟩ : ∃ N, N = xs2.length := ⟨_, rfl⟩
        rw [← hN] at hsy
        subst hsy
        obtain ⟨D, hD⟩ : ∃ D, D = N - t2 := ⟨_, rfl⟩
        have ht2 := HP2.y.ht
        rw [← hN] at ht2
        have w1 : IntKind.i64.wrap ((N : Int) - (t2 : Int)) = (D : Int) := by rw [wraps_i64 _ (by omega) (by omega)]; omega
        have w2 : IntKind.i64.wrap (D : Int) = (D : Int) := wraps_i64 _ (by omega) (by omega)
        obtain ⟨KX, hKX⟩ : ∃ K, K = kb xs2 := ⟨_, rfl⟩
        obtain ⟨KT, hKT⟩ : ∃ K, K = kb (xs2.take t2) := ⟨_, rfl⟩
        have HN := Lib.hid hN
        have HD := Lib.hid hD
        have HKX := Lib.hid hKX
        have HKT := Lib.hid hKT
        have HSS := Lib.hid (fun wr (h : PL w m g2 s2 xs2 t2 gy (.slice yo N yc) xs2 t2 wr) => (show (fun w' => w'.cell? ⟨gy, 2, none⟩ = some (.slice yo N yc) ∧ w'.cell? ⟨gy, 1, none⟩ = some (.int .i64 (t2 : Int)) ∧ (convert 28 9 (.slice yo N yc)).run Try.prog w' = .ok (.string KX) w') wr from ⟨h.y.c2, h.y.c1, str_of h.y.rd HKX.out⟩))
        have C1 := Lib.hid (fun wr (h : PL w m g2 s2 xs2 t2 gy (.slice yo N yc) xs2 t2 wr) => h.len (D := D) (by rw [← HN.out]; exact HD.out))
        have C2 := Lib.hid (fun wr (h : PL w m g2 s2 xs2 t2 gy (.slice yo N yc) xs2 t2 wr) => h.total (L := N) HN.out)
        have C3 := Lib.hid (fun wr (h : PL w m g2 s2 xs2 t2 gy (.slice yo N yc) xs2 t2 wr) => h.taken HKT.out)
        have C4 := Lib.hid (fun wr (h : PL w m g2 s2 xs2 t2 gy (.slice yo N yc) xs2 t2 wr) => h.rtaken HKT.out)
        have C5 := Lib.hid (fun wr (h : PL w m g2 s2 xs2 t2 gy (.slice yo N yc) xs2 t2 wr) => h.all HKX.out HN.out)
        have A0 := HP2.drew
        have s0 := HSS.out _ A0
        clear hN hD hKX hKT HP2 HP9 H9 N1 N2 N3 N4 N5 HR9 HRZ HZ HM1 kc q0 q1 q2 hlz
        go_step
        go_wp2
        refine wp_region_held_drew (S := fun w' => w'.cell? ⟨gy, 2, none⟩ = some (.slice yo N yc) ∧ w'.cell? ⟨gy, 1, none⟩ = some (.int .i64 (t2 : Int)) ∧ (convert 28 9 (.slice yo N yc)).run Try.prog w' = .ok (.string KX) w') (by kernel_rfl) (by assumption) (fun hH => ?_)
        refine heldTake (i := 0) (v := ?_) rfl (by kernel_rfl) (by kernel_rfl) (fun _ _ _ h => h) (by rfl) (by assumption) (fun w hSw => ?_) ?_; rotate_left; focus ((try dsimp only at hSw); go_simp; try with_reducible rfl)
        try simp only [Act.put, List.setIfInBounds_toArray, List.set_cons_zero, List.set_cons_succ]
        refine heldTake (i := 2) (v := ?_) rfl (by kernel_rfl) (by kernel_rfl) (fun _ _ _ h => h) (by rfl) (by assumption) (fun w hSw => ?_) ?_; rotate_left; focus ((try dsimp only at hSw); go_simp; try with_reducible rfl)
        try simp only [Act.put, List.setIfInBounds_toArray, List.set_cons_zero, List.set_cons_succ]
        refine heldTake (i := 3) (v := ?_) rfl (by kernel_rfl) (by kernel_rfl) (fun _ _ _ h => h) (by rfl) (by assumption) (fun w hSw => ?_) ?_; rotate_left; focus ((try dsimp only at hSw); go_simp; try with_reducible rfl)
        try simp only [Act.put, List.setIfInBounds_toArray, List.set_cons_zero, List.set_cons_succ]
        refine heldTake (i := 4) (v := ?_) rfl (by kernel_rfl) (by kernel_rfl) (fun _ _ _ h => h) (by rfl) (by assumption) (fun w hSw => ?_) ?_; rotate_left; focus ((try dsimp only at hSw); go_simp; try with_reducible rfl)
        try simp only [Act.put, List.setIfInBounds_toArray, List.set_cons_zero, List.set_cons_succ]
        refine heldTake (i := 5) (v := ?_) rfl (by kernel_rfl) (by kernel_rfl) (fun _ _ _ h => h) (by rfl) (by assumption) (fun w hSw => ?_) ?_; rotate_left; focus ((try dsimp only at hSw); go_simp; try with_reducible rfl)
        try simp only [Act.put, List.setIfInBounds_toArray, List.set_cons_zero, List.set_cons_succ]
        refine heldTake (i := 6) (v := ?_) rfl (by kernel_rfl) (by kernel_rfl) (fun _ _ _ h => h) (by rfl) (by assumption) (fun w hSw => ?_) ?_; rotate_left; focus ((try dsimp only at hSw); go_simp; try with_reducible rfl)
        try simp only [Act.put, List.setIfInBounds_toArray, List.set_cons_zero, List.set_cons_succ]
        refine heldTake (i := 7) (v := ?_) rfl (by kernel_rfl) (by kernel_rfl) (fun _ _ _ h => h) (by rfl) (by assumption) (fun w hSw => ?_) ?_; rotate_left; focus ((try dsimp only at hSw); go_simp; try with_reducible rfl)
        try simp only [Act.put, List.setIfInBounds_toArray, List.set_cons_zero, List.set_cons_succ]
        refine heldTake (i := 8) (v := ?_) rfl (by kernel_rfl) (by kernel_rfl) (fun _ _ _ h => h) (by rfl) (by assumption) (fun w hSw => ?_) ?_; rotate_left; focus ((try dsimp only at hSw); go_simp; try with_reducible rfl)
        try simp only [Act.put, List.setIfInBounds_toArray, List.set_cons_zero, List.set_cons_succ]
        refine heldTake (i := 9) (v := ?_) rfl (by kernel_rfl) (by kernel_rfl) (fun _ _ _ h => h) (by rfl) (by assumption) (fun w hSw => ?_) ?_; rotate_left; focus ((try dsimp only at hSw); go_simp; try with_reducible rfl)
        try simp only [Act.put, List.setIfInBounds_toArray, List.set_cons_zero, List.set_cons_succ]
        refine heldTake (i := 10) (v := ?_) rfl (by kernel_rfl) (by kernel_rfl) (fun _ _ _ h => h) (by rfl) (by assumption) (fun w hSw => ?_) ?_; rotate_left; focus ((try dsimp only at hSw); go_simp; try with_reducible rfl)
        try simp only [Act.put, List.setIfInBounds_toArray, List.set_cons_zero, List.set_cons_succ]
        refine heldTake (i := 11) (v := ?_) rfl (by kernel_rfl) (by kernel_rfl) (fun _ _ _ h => h) (by rfl) (by assumption) (fun w hSw => ?_) ?_; rotate_left; focus ((try dsimp only at hSw); go_simp; try with_reducible rfl)
        try simp only [Act.put, List.setIfInBounds_toArray, List.set_cons_zero, List.set_cons_succ]
        -- NEXT 1 Op.call { callee := Callee.value (Operand.func 17), args := #[Operand.tmp 96], argTypes := #[24] }
        refine heldNext (i := 1) rfl (by kernel_rfl) (by rfl) (fun K hK => ?_)
        go_simp; go_at_call 17; refine (C1.out _ (by assumption)).mono ?_; rintro e w6 ⟨rfl, A1⟩; have s6 := HSS.out _ A1; first | (refine hK.out _ _ (by assumption) ?_) | (go_wp2_with fail; refine hK.out _ _ (by assumption) ?_); clear hK K
        try simp only [Act.put, List.setIfInBounds_toArray, List.set_cons_zero, List.set_cons_succ]
        refine heldTake (i := 12) (v := ?_) rfl (by kernel_rfl) (by kernel_rfl) (fun _ _ _ h => h) (by rfl) (by assumption) (fun w hSw => ?_) ?_; rotate_left; focus ((try dsimp only at hSw); go_simp; try with_reducible rfl)
        try simp only [Act.put, List.setIfInBounds_toArray, List.set_cons_zero, List.set_cons_succ]
        refine heldTake (i := 13) (v := ?_) rfl (by kernel_rfl) (by kernel_rfl) (fun _ _ _ h => h) (by rfl) (by assumption) (fun w hSw => ?_) ?_; rotate_left; focus ((try dsimp only at hSw); go_simp; try with_reducible rfl)
        try simp only [Act.put, List.setIfInBounds_toArray, List.set_cons_zero, List.set_cons_succ]
        refine heldTake (i := 14) (v := ?_) rfl (by kernel_rfl) (by kernel_rfl) (fun _ _ _ h => h) (by rfl) (by assumption) (fun w hSw => ?_) ?_; rotate_left; focus ((try dsimp only at hSw); go_simp; try with_reducible rfl)
        try simp only [Act.put, List.setIfInBounds_toArray, List.set_cons_zero, List.set_cons_succ]
        refine heldTake (i := 16) (v := ?_) rfl (by kernel_rfl) (by kernel_rfl) (fun _ _ _ h => h) (by rfl) (by assumption) (fun w hSw => ?_) ?_; rotate_left; focus ((try dsimp only at hSw); go_simp; try with_reducible rfl)
        try simp only [Act.put, List.setIfInBounds_toArray, List.set_cons_zero, List.set_cons_succ]
        refine heldTake (i := 17) (v := ?_) rfl (by kernel_rfl) (by kernel_rfl) (fun _ _ _ h => h) (by rfl) (by assumption) (fun w hSw => ?_) ?_; rotate_left; focus ((try dsimp only at hSw); go_simp; try with_reducible rfl)
        try simp only [Act.put, List.setIfInBounds_toArray, List.set_cons_zero, List.set_cons_succ]
        refine heldTake (i := 18) (v := ?_) rfl (by kernel_rfl) (by kernel_rfl) (fun _ _ _ h => h) (by rfl) (by assumption) (fun w hSw => ?_) ?_; rotate_left; focus ((try dsimp only at hSw); go_simp; try with_reducible rfl)
        try simp only [Act.put, List.setIfInBounds_toArray, List.set_cons_zero, List.set_cons_succ]
        refine heldTake (i := 19) (v := ?_) rfl (by kernel_rfl) (by kernel_rfl) (fun _ _ _ h => h) (by rfl) (by assumption) (fun w hSw => ?_) ?_; rotate_left; focus ((try dsimp only at hSw); go_simp; try with_reducible rfl)
        try simp only [Act.put, List.setIfInBounds_toArray, List.set_cons_zero, List.set_cons_succ]
        refine heldTake (i := 20) (v := ?_) rfl (by kernel_rfl) (by kernel_rfl) (fun _ _ _ h => h) (by rfl) (by assumption) (fun w hSw => ?_) ?_; rotate_left; focus ((try dsimp only at hSw); go_simp; try with_reducible rfl)
        try simp only [Act.put, List.setIfInBounds_toArray, List.set_cons_zero, List.set_cons_succ]
        -- NEXT 15 Op.call { callee := Callee.value (Operand.func 18), args := #[Operand.tmp 110], argTypes := #[24] }
        refine heldNext (i := 15) rfl (by kernel_rfl) (by rfl) (fun K hK => ?_)
        go_simp; go_at_call 18; refine (C2.out _ (by assumption)).mono ?_; rintro e w7 ⟨rfl, A2⟩; have s7 := HSS.out _ A2; first | (refine hK.out _ _ (by assumption) ?_) | (go_wp2_with fail; refine hK.out _ _ (by assumption) ?_); clear hK K
        try simp only [Act.put, List.setIfInBounds_toArray, List.set_cons_zero, List.set_cons_succ]
        refine heldTake (i := 21) (v := ?_) rfl (by kernel_rfl) (by kernel_rfl) (fun _ _ _ h => h) (by rfl) (by assumption) (fun w hSw => ?_) ?_; rotate_left; focus ((try dsimp only at hSw); go_simp; try with_reducible rfl)
        try simp only [Act.put, List.setIfInBounds_toArray, List.set_cons_zero, List.set_cons_succ]
        refine heldTake (i := 22) (v := ?_) rfl (by kernel_rfl) (by kernel_rfl) (fun _ _ _ h => h) (by rfl) (by assumption) (fun w hSw => ?_) ?_; rotate_left; focus ((try dsimp only at hSw); go_simp; try with_reducible rfl)
        try simp only [Act.put, List.setIfInBounds_toArray, List.set_cons_zero, List.set_cons_succ]
        refine heldTake (i := 23) (v := ?_) rfl (by kernel_rfl) (by kernel_rfl) (fun _ _ _ h => h) (by rfl) (by assumption) (fun w hSw => ?_) ?_; rotate_left; focus ((try dsimp only at hSw); go_simp; try with_reducible rfl)
        try simp only [Act.put, List.setIfInBounds_toArray, List.set_cons_zero, List.set_cons_succ]
        refine heldTake (i := 24) (v := ?_) rfl (by kernel_rfl) (by kernel_rfl) (fun _ _ _ h => h) (by rfl) (by assumption) (fun w hSw => ?_) ?_; rotate_left; focus ((try dsimp only at hSw); go_simp; try with_reducible rfl)
        try simp only [Act.put, List.setIfInBounds_toArray, List.set_cons_zero, List.set_cons_succ]
        refine heldTake (i := 27) (v := ?_) rfl (by kernel_rfl) (by kernel_rfl) (fun _ _ _ h => h) (by rfl) (by assumption) (fun w hSw => ?_) ?_; rotate_left; focus ((try dsimp only at hSw); go_simp; try with_reducible rfl)
        try simp only [Act.put, List.setIfInBounds_toArray, List.set_cons_zero, List.set_cons_succ]
        -- NEXT 25 Op.call { callee := Callee.value (Operand.func 19), args := #[Operand.tmp 120], argTypes := #[24] }
        refine heldNext (i := 25) rfl (by kernel_rfl) (by rfl) (fun K hK => ?_)
        go_simp; go_at_call 19; refine (C3.out _ (by assumption)).mono ?_; rintro e w8 ⟨xo, xc, rfl, RT, m8, A3⟩; have s8 := HSS.out _ A3; first | (refine hK.out _ _ (by assumption) ?_) | (go_wp2_with fail; refine hK.out _ _ (by assumption) ?_); clear hK K
        have t8 := And.intro s8.1 (And.intro s8.2.1 (And.intro s8.2.2 m8))
        refine heldMore (S' := fun w' => w'.cell? ⟨gy, 2, none⟩ = some (.slice yo N yc) ∧ w'.cell? ⟨gy, 1, none⟩ = some (.int .i64 (t2 : Int)) ∧ (convert 28 9 (.slice yo N yc)).run Try.prog w' = .ok (.string KX) w' ∧ (convert 28 9 (.slice xo t2 xc)).run Try.prog w' = .ok (.string KT) w') (fun w' h => ⟨h.1, h.2.1, h.2.2.1⟩) ?_
        try simp only [Act.put, List.setIfInBounds_toArray, List.set_cons_zero, List.set_cons_succ]
        refine heldTake (i := 26) (v := ?_) rfl (by kernel_rfl) (by kernel_rfl) (fun _ _ _ h => h) (by rfl) (by assumption) (fun w hSw => ?_) ?_; rotate_left; focus ((try dsimp only at hSw); go_simp; try with_reducible rfl)
        try simp only [Act.put, List.setIfInBounds_toArray, List.set_cons_zero, List.set_cons_succ]
        -- NEXT 28 Op.call { callee := Callee.value (Operand.func 20), args := #[Operand.tmp 123], argTypes := #[26] }
        refine heldNext (i := 28) rfl (by kernel_rfl) (by rfl) (fun K hK => ?_)
        go_simp; go_at_call 20; refine (C4.out _ (by assumption)).mono ?_; rintro e w9 ⟨zo, zc, rfl, m9, A4, b9⟩; have s9 := HSS.out _ A4; have c9 := str_of (RT.below b9) HKT.out; have t9 := And.intro s9.1 (And.intro s9.2.1 (And.intro s9.2.2 c9)); first | (refine hK.out _ _ (by assumption) ?_) | (go_wp2_with fail; refine hK.out _ _ (by assumption) ?_); clear hK K
        try simp only [Act.put, List.setIfInBounds_toArray, List.set_cons_zero, List.set_cons_succ]
        -- NEXT 29 Op.convert 28 9 (Operand.tmp 124)
        refine heldNext (i := 29) rfl (by kernel_rfl) (by rfl) (fun K hK => ?_)
        go_simp; refine hK.out _ _ (by assumption) ?_; clear hK K
        try simp only [Act.put, List.setIfInBounds_toArray, List.set_cons_zero, List.set_cons_succ]
        refine heldTake (i := 30) (v := ?_) rfl (by kernel_rfl) (by kernel_rfl) (fun _ _ _ h => h) (by rfl) (by assumption) (fun w hSw => ?_) ?_; rotate_left; focus ((try dsimp only at hSw); go_simp; try with_reducible rfl)
        try simp only [Act.put, List.setIfInBounds_toArray, List.set_cons_zero, List.set_cons_succ]
        refine heldTake (i := 31) (v := ?_) rfl (by kernel_rfl) (by kernel_rfl) (fun _ _ _ h => h) (by rfl) (by assumption) (fun w hSw => ?_) ?_; rotate_left; focus ((try dsimp only at hSw); go_simp; try with_reducible rfl)
        try simp only [Act.put, List.setIfInBounds_toArray, List.set_cons_zero, List.set_cons_succ]
        refine heldTake (i := 32) (v := ?_) rfl (by kernel_rfl) (by kernel_rfl) (fun _ _ _ h => h) (by rfl) (by assumption) (fun w hSw => ?_) ?_; rotate_left; focus ((try dsimp only at hSw); go_simp; try with_reducible rfl)
        try simp only [Act.put, List.setIfInBounds_toArray, List.set_cons_zero, List.set_cons_succ]
        refine heldTake (i := 33) (v := ?_) rfl (by kernel_rfl) (by kernel_rfl) (fun _ _ _ h => h) (by rfl) (by assumption) (fun w hSw => ?_) ?_; rotate_left; focus ((try dsimp only at hSw); go_simp; try with_reducible rfl)
        try simp only [Act.put, List.setIfInBounds_toArray, List.set_cons_zero, List.set_cons_succ]
        refine heldTake (i := 36) (v := ?_) rfl (by kernel_rfl) (by kernel_rfl) (fun _ _ _ h => h) (by rfl) (by assumption) (fun w hSw => ?_) ?_; rotate_left; focus ((try dsimp only at hSw); go_simp; try with_reducible rfl)
        try simp only [Act.put, List.setIfInBounds_toArray, List.set_cons_zero, List.set_cons_succ]
        refine heldTake (i := 37) (v := ?_) rfl (by kernel_rfl) (by kernel_rfl) (fun _ _ _ h => h) (by rfl) (by assumption) (fun w hSw => ?_) ?_; rotate_left; focus ((try dsimp only at hSw); go_simp; try with_reducible rfl)
        try simp only [Act.put, List.setIfInBounds_toArray, List.set_cons_zero, List.set_cons_succ]
        refine heldTake (i := 38) (v := ?_) rfl (by kernel_rfl) (by kernel_rfl) (fun _ _ _ h => h) (by rfl) (by assumption) (fun w hSw => ?_) ?_; rotate_left; focus ((try dsimp only at hSw); go_simp; try with_reducible rfl)
        try simp only [Act.put, List.setIfInBounds_toArray, List.set_cons_zero, List.set_cons_succ]
        refine heldTake (i := 39) (v := ?_) rfl (by kernel_rfl) (by kernel_rfl) (fun _ _ _ h => h) (by rfl) (by assumption) (fun w hSw => ?_) ?_; rotate_left; focus ((try dsimp only at hSw); go_simp; try with_reducible rfl)
        try simp only [Act.put, List.setIfInBounds_toArray, List.set_cons_zero, List.set_cons_succ]
        refine heldTake (i := 40) (v := ?_) rfl (by kernel_rfl) (by kernel_rfl) (fun _ _ _ h => h) (by rfl) (by assumption) (fun w hSw => ?_) ?_; rotate_left; focus ((try dsimp only at hSw); go_simp; try with_reducible rfl)
        try simp only [Act.put, List.setIfInBounds_toArray, List.set_cons_zero, List.set_cons_succ]
        -- NEXT 34 Op.call { callee := Callee.value (Operand.func 21), args := #[Operand.tmp 129], argTypes := #[24] }
        refine heldNext (i := 34) rfl (by kernel_rfl) (by rfl) (fun K hK => ?_)
        go_simp; go_at_call 21; refine (C5.out _ (by assumption)).mono ?_; rintro e w10 ⟨uo, uc, rfl, m10, A5, b10⟩; have s10 := HSS.out _ A5; have c10 := str_of (RT.below (b9.trans (b10.mono b9.size))) HKT.out; have t10 := And.intro s10.1 (And.intro s10.2.1 (And.intro s10.2.2 c10)); first | (refine hK.out _ _ (by assumption) ?_) | (go_wp2_with fail; refine hK.out _ _ (by assumption) ?_); clear hK K
        try simp only [Act.put, List.setIfInBounds_toArray, List.set_cons_zero, List.set_cons_succ]
        -- NEXT 35 Op.convert 28 9 (Operand.tmp 130)
        refine heldNext (i := 35) rfl (by kernel_rfl) (by rfl) (fun K hK => ?_)
        go_simp; refine hK.out _ _ (by assumption) ?_; clear hK K
        try simp only [Act.put, List.setIfInBounds_toArray, List.set_cons_zero, List.set_cons_succ]
        refine heldTake (i := 41) (v := ?_) rfl (by kernel_rfl) (by kernel_rfl) (fun _ _ _ h => h) (by rfl) (by assumption) (fun w hSw => ?_) ?_; rotate_left; focus ((try dsimp only at hSw); go_simp; try with_reducible rfl)
        try simp only [Act.put, List.setIfInBounds_toArray, List.set_cons_zero, List.set_cons_succ]
        refine heldTake (i := 42) (v := ?_) rfl (by kernel_rfl) (by kernel_rfl) (fun _ _ _ h => h) (by rfl) (by assumption) (fun w hSw => ?_) ?_; rotate_left; focus ((try dsimp only at hSw); go_simp; try with_reducible rfl)
        try simp only [Act.put, List.setIfInBounds_toArray, List.set_cons_zero, List.set_cons_succ]
        refine wpAnyH_done (by kernel_rfl) ?_ _
        have q9 := A5
        clear A0 A1 A2 A3 A4 A5 s0 s6 s7 s8 s9 s10 t8 t9 t10 c9 c10 m8 m9 m10 RT b9 b10 C1 C2 C3 C4 C5
        go_wp2
        go_roundw
        case rel => exact ⟨g2, s2, xs2, t2, _, k + 1, by omega, by omega, hxs2, rfl, by go_num, q9⟩
        case measure => simp [intOf]; omega
    · by_cases hlt : k < L
      · have h60 : ((k : Int) < 60) = False := eq_false (by omega)
        go_wp2
        go_ret
        exact ⟨rfl, HP.out.below⟩
      · obtain rfl : k = L := by omega
        go_wp2
        go_ret
        exact ⟨rfl, HP.out.below⟩
end Go.Proofs.Ytocbmknbmnojkaa
