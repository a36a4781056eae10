/- The law WireAsks walked. -/
import Derived.Test.YtneifmnlailipaaWireLaw
import Derived.Test.YtneifmnlailipaaOpenRows
import Derived.Deep.CutRange
namespace Go.Proofs.Ytneifmnlailipaa
open Go.RowKit Go.ChangeShapes

/-- The first one as it is at first, and the second one. -/
def A1 (s r : List UInt8) : Wi.Wm := ⟨Wi.start.a, ⟨1, 0, false, [], 0, s, r⟩⟩
def A2 (s r : List UInt8) : Wi.Wm := ⟨Wi.start.a, ⟨2, 0, false, [], 0, s, r⟩⟩
def A3 (s r ys : List UInt8) : Wi.Wm := ⟨Wi.start.a, ⟨2, 0, false, ys, 0, s, r⟩⟩
def A4 (s r ys : List UInt8) (k : Nat) : Wi.Wm := ⟨Wi.start.a, ⟨2, 0, false, ys, k, s, r⟩⟩
def A5 (s r ys : List UInt8) (k : Nat) : Wi.Wm := ⟨Wi.start.a, ⟨2, 0, true, ys, k, s, r⟩⟩
/-- Nothing can be written to the second one, and it may be asked for. -/
structure Rdy (W : Wi.Wm) (s r : List UInt8) : Prop where
  a : W.a = Wi.start.a
  cl : W.b.live = false ∨ W.b.dn = true
  st : W.b.st ≠ 1
  w : W.b.written = r
  s : W.b.sent = s
theorem Rdy.write {W : Wi.Wm} {s r : List UInt8} (h : Rdy W s r) (ys : List UInt8) : (65, W) = W.write 1 ys := by
  have hc : (W.at 1).puts ys = (65, W.at 1) := by
    unfold Wi.Cn.puts
    rw [if_pos (show (W.at 1).live = false ∨ (W.at 1).dn = true from h.cl)]
  rw [Wi.Wm.write_eq, hc, Wi.Wm.upd_at]
theorem Rdy.ask {W : Wi.Wm} {s r : List UInt8} (h : Rdy W s r) : (true, A1 s r) = W.ask := by
  rw [Wi.Wm.ask_eq h.st]
  unfold A1 Wi.Cn.asked Wi.Wm.upd
  rw [h.w, h.s, ← h.a, if_neg (by decide), if_pos rfl]
theorem a2_write {s r ys : List UInt8} (h : ys.length ≤ 500) : (0, A3 s r ys) = (A2 s r).write 1 ys := by
  have hc : ((A2 s r).at 1).puts ys = (0, { (A2 s r).at 1 with xs := ((A2 s r).at 1).xs ++ ys }) := by
    unfold Wi.Cn.puts
    rw [if_neg (by rintro (h | h) <;> cases h), if_neg (by show ¬ 4000 < 0 + ys.length; omega)]
  rw [Wi.Wm.write_eq, hc]
  rfl
theorem a3_take {s r ys : List UInt8} (n k : Nat) (hk : k = min n ys.length) : (([] : List UInt8), (if k = 0 then 1 else 0 : Nat), A4 s r ys k) = (A3 s r ys).happen 2 1 n [] := by
  rw [Wi.Wm.happen2]
  have hw : ((A3 s r ys).at 1).waits = ys.length := rfl
  unfold Wi.Cn.tk
  rw [hw]
  by_cases h : k = 0
  · rw [if_pos h, if_pos (by omega)]
    subst h
    rfl
  · rw [if_neg h, if_neg (by omega)]
    have e : (0 + min (n : Int).toNat (ys.length - 0)) = k := by omega
    show ([], 0, A4 s r ys k) = (([] : List UInt8), 0, A4 s r ys (0 + min (n : Int).toNat (ys.length - 0)))
    rw [e]
theorem a5_rdy (s r ys : List UInt8) (k : Nat) : Rdy (A5 s r ys k) (s ++ ys.take k) (r ++ ys) := ⟨rfl, .inr rfl, (show (2 : Nat) ≠ 1 by decide), rfl, rfl⟩
theorem start_rdy : Rdy Wi.start [] [] := ⟨rfl, .inl rfl, by decide, rfl, rfl⟩

set_option maxRecDepth 40000 in
set_option maxHeartbeats 4000000 in
theorem lawAsksW (v0 : Value) (ys : List (Value × List UInt8)) (v1 : Value) (x1 : List UInt8) (h0 : ys.length ≤ maxLen) (h1 : x1.length ≤ maxLen) (w : World) (r0 : RdN 1 w v0 (ys.map fun y => [y.1])) (m0 : ∀ y ∈ ys, Rd w y.1 (y.2.map bv) ∧ y.2.length ≤ maxLen) (r1 : Rd w v1 (x1.map bv)) :
    Calls Try.prog 7 #[v0, v1] w fun e w' => e = .returned (.bool true) ∧ Below w.heap.size w w' := by
  obtain ⟨lo, cl, rfl, hcl, hll⟩ := r0.form
  rw [List.length_map] at hcl hll ⊢
  obtain ⟨L, hL⟩ : ∃ L, L = ys.length := ⟨_, rfl⟩
  rw [← hL] at h0 hcl hll ⊢
  obtain ⟨to_, tc, rfl, htc, htl⟩ := r1.form
  obtain ⟨M, hM⟩ : ∃ M, M = x1.length := ⟨_, rfl⟩
  rw [← hM] at h1 htc htl ⊢
  have HLL := Lib.hid hll
  have HTL := Lib.hid htl
  have HM0 := Lib.hid m0
  have HL := Lib.hid hL
  have HM := Lib.hid hM
  unfold maxLen at h0 h1
  clear hll m0 hL r0 htl hM r1
  go_enter Try.func7, Try.ntmps7
  go_wp2_with fail
  refine (shown_any w).mono ?_
  rintro e wa ⟨rfl, hba⟩
  have HBA := Lib.hid hba
  clear hba
  go_wp2_with fail
  refine (PW.new HBA.out).mono ?_
  rintro e wb ⟨g, rfl, hq⟩
  have Q0 := Lib.hid hq
  clear hq HBA
  go_wp2
  go_loopw [7, 8, 9] (fun a c i wr => ∃ (W : Wi.Wm) (q : Nat) (s r : List UInt8) (ks kr : ByteArray), q ≤ L ∧ q ≤ 5 ∧ ks.size ≤ 500 * q ∧ kr.size ≤ 500 * q ∧ a = .string kr ∧ c = .string ks ∧ i = .int .i64 q ∧ Hid (ks = kb s ∧ kr = kb r) ∧ Hid (PW w g W (6000 * q) wr) ∧ Hid (Rdy W s r)) (fun _ _ i _ => 5 - (intOf i).toNat)
  case atStart => exact ⟨_, 0, [], [], kb [], kb [], by omega, by omega, by decide, by decide, rfl, rfl, rfl, ⟨rfl, rfl⟩, Q0.out, start_rdy⟩
  case round =>
    obtain ⟨W, q, s, r, ks, kr, hq, hq5, hks, hkr, rfl, rfl, rfl, HK, HP, HR⟩ := hrel
    by_cases hgo : q < L ∧ q < 5
    · obtain ⟨hlt, hlt5⟩ := hgo
      obtain ⟨b, o, rfl, _, hcell⟩ := HLL.out (by omega)
      obtain ⟨y, hy⟩ : ∃ y, ys[q]? = some y := ⟨_, List.getElem?_eq_getElem (by rw [← HL.out]; exact hlt)⟩
      obtain ⟨hry, hly⟩ := HM0.out y (List.mem_of_getElem? hy)
      have hc0 := hcell q [y.1] (by rw [List.getElem?_map, hy]; rfl) 0 _ rfl
      obtain ⟨v, xs⟩ := y
      simp only at hry hly hc0
      have hcr := (HP.out.below.cell (World.block_lt_of_cell? w _ hc0)).trans hc0
      rw [Nat.mul_one, Nat.add_zero] at hcr
      have HRY := Lib.hid hry
      have HLY := Lib.hid hly
      clear hcell hc0 hy
      obtain ⟨vo, vc, rfl, hvc, hvl⟩ := HRY.out.form
      obtain ⟨Z, hZ⟩ : ∃ Z, Z = xs.length := ⟨_, rfl⟩
      obtain ⟨X, hX⟩ : ∃ X, X = xs.take 500 := ⟨_, rfl⟩
      obtain ⟨N, hN⟩ : ∃ N, N = X.length := ⟨_, rfl⟩
      have hNZ : N = min 500 Z := by rw [hN, hX, List.length_take, ← hZ]
      have lN : N ≤ 500 := by omega
      rw [← hZ] at hcr HRY hvc hvl hly
      have HX := Lib.hid hX
      have HN := Lib.hid hN
      have HZ := Lib.hid hZ
      have HNZ := Lib.hid hNZ
      have HVL := Lib.hid hvl
      unfold maxLen at hly
      clear hX hN hZ hNZ hvl hry
      go_upto_if 40 with fail
      go_cut [10] from 41 to 43 (fun s10 wx => ∃ ao ac, s10 = .slice ao N ac ∧ Hid (Rd w (.slice ao N ac) (X.map bv)) ∧ N ≤ ac ∧ wx = wr)
      case first =>
        by_cases hb5 : 500 < Z
        · obtain rfl : N = 500 := by have := HNZ.out; omega
          obtain ⟨b', o', rfl, _⟩ := HVL.out (by omega)
          have RX := Lib.hid (HRY.out.head (m := 500) HZ.out (by omega) (by omega))
          rw [← HX.out] at RX
          clear hcr HLL HTL HM0 HL HM HK HP HR HRY HLY HN HZ HNZ HVL HX
          go_wp2
          go_meet
          exact ⟨_, _, rfl, RX, by omega, rfl⟩
        · obtain rfl : N = Z := by have := HNZ.out; omega
          have e : X = xs := by rw [HX.out, List.take_of_length_le (by have := HZ.out; omega)]
          have RX := HRY
          rw [← e] at RX
          clear hcr HLL HTL HM0 HL HM HK HP HR HRY HLY HN HZ HNZ HVL HX e
          go_wp2
          go_meet
          exact ⟨_, _, rfl, RX, by omega, rfl⟩
      case rest =>
        obtain ⟨ao, ac, rfl, RX, hac, rfl⟩ := hcut
        clear hcr HRY HLY HX HNZ HVL hvc hly
        go_wp2_with fail
        refine (PW.write HP.out 1 _ X (RX.out.below HP.out.below) (by rw [← HN.out]; omega) (M := 6000 * q + 1500) rfl (by omega) (HR.out.write X)).mono ?_
        rintro e w1 ⟨rfl, q1⟩
        have Q1 := Lib.hid q1
        clear q1
        go_wp2_with fail
        refine (PW.ask Q1.out HR.out.ask).mono ?_
        rintro e w2 ⟨rfl, q2⟩
        have Q2 := Lib.hid q2
        clear q2 Q1
        go_wp2_with fail
        refine (PW.ask Q2.out (b := false) (W' := A1 s r) rfl).mono ?_
        rintro e w3 ⟨rfl, q3⟩
        have Q3 := Lib.hid q3
        clear q3 Q2
        go_wp2_with fail
        refine (PW.write Q3.out 1 _ X (RX.out.below Q3.out.below) (by rw [← HN.out]; omega) (M := 6000 * q + 3000) rfl (by omega) (m := 65) (W' := A1 s r) rfl).mono ?_
        rintro e w4 ⟨rfl, q4⟩
        have Q4 := Lib.hid q4
        clear q4 Q3
        go_wp2_with fail
        refine (PW.happen Q4.out 5 1 1 (.slice none 0 0) [] rd_none (by decide) (m := 0) (zs := []) (W' := A2 s r) rfl (q := 0) rfl).mono ?_
        rintro e w5 ⟨bo5, cp5, rfl, _, q5⟩
        have Q5 := Lib.hid q5
        clear q5 Q4
        go_upto_if 72 with fail
        go_cut [15] from 73 to 78 (fun s15 wx => ∃ n : Nat, s15 = .int .i64 n ∧ n < 256 ∧ wx = w5)
        case first =>
          by_cases hqm : q < M
          · obtain ⟨b', o', rfl, _, htc2⟩ := HTL.out (by omega)
            have hct := htc2 q hqm
            have hcx := (Q5.out.below.cell (World.block_lt_of_cell? w _ hct)).trans hct
            unfold bv at hcx
            have hlt8 : (x1.getD q 0).toNat < 256 := UInt8.toNat_lt _
            generalize (x1.getD q 0).toNat = n8 at *
            clear hct htc2 HLL HTL HM0 HL HM HK HP HR HN Q5 RX HZ
            go_wp2
            go_meet
            exact ⟨n8, rfl, hlt8, rfl⟩
          · clear HLL HTL HM0 HL HM HK HP HR HN Q5 RX HZ
            go_wp2
            go_meet
            exact ⟨0, rfl, by decide, rfl⟩
        case rest =>
          obtain ⟨n, rfl, hn8, rfl⟩ := hcut
          obtain ⟨k, hk⟩ : ∃ k, k = min n N := ⟨_, rfl⟩
          have hkN : k ≤ N := by omega
          have HK1 := Lib.hid (show k = min n X.length by rw [← HN.out]; exact hk)
          obtain ⟨D, hD⟩ : ∃ D, N = k + D := ⟨N - k, by omega⟩
          have hmin : (if N < n then (N : Int) else (n : Int)) = (k : Int) := by
            rw [hk]
            split <;> omega
          have hdiff : (N : Int) - (k : Int) = (D : Int) := by omega
          have hk0 : (0 : Int) ≤ (k : Int) := Int.natCast_nonneg _
          have hkc : (k : Int) ≤ (ac : Int) := by omega
          obtain ⟨KX, hKX⟩ : ∃ K, K = kb X := ⟨_, rfl⟩
          obtain ⟨KE, hKE⟩ : ∃ K, K = kb (X.take k) := ⟨_, rfl⟩
          have sX : KX.size = N := by rw [hKX, kb_size, HN.out]
          have sE : KE.size = k := by rw [hKE, kb_size, List.length_take, ← HN.out]; omega
          obtain ⟨m2, hm2⟩ : ∃ m2, m2 = (if k = 0 then 1 else 0 : Nat) := ⟨_, rfl⟩
          have HM2 := Lib.hid hm2
          have HD := Lib.hid hD
          have HKX := Lib.hid hKX
          have HKE := Lib.hid hKE
          have HR2 := Lib.hid (show kr ++ KX = kb ((A4 s r X k).at 1).written by rw [HK.out.2, hKX, ← kb_append]; rfl)
          have HS2 := Lib.hid (show ks ++ KE = kb ((A4 s r X k).at 1).sent by rw [HK.out.1, hKE, ← kb_append]; rfl)
          have HCX := Lib.hid (fun wr (hb : Below w.heap.size w wr) => str_of (RX.out.below hb) hKX)
          have HCE := Lib.hid (fun wr (hb : Below w.heap.size w wr) => str_of ((RX.out.below hb).cut HN.out hkN) hKE)
          clear hk hD hKX hKE hm2
          go_wp2_with fail
          refine (PW.write Q5.out 1 _ X (RX.out.below Q5.out.below) (by rw [← HN.out]; omega) (M := 6000 * q + 4500) rfl (by omega) (a2_write (s := s) (r := r) (by rw [← HN.out]; exact lN))).mono ?_
          rintro e w6 ⟨rfl, q6⟩
          have Q6 := Lib.hid q6
          have hc6 := HCX.out _ q6.below
          clear q6 Q5
          go_wp2_with fail
          refine (PW.happen Q6.out 2 1 n (.slice none 0 0) [] rd_none (by decide) (m := m2) (zs := []) (W' := A4 s r X k) (by rw [HM2.out]; exact a3_take n k HK1.out) (q := 0) rfl).mono ?_
          rintro e w7 ⟨bo7, cp7, rfl, _, q7⟩
          have Q7 := Lib.hid q7
          have hc7 := HCE.out _ q7.below
          clear q7 Q6 hc6
          go_wp2_with fail
          refine (PW.written Q7.out 1 HR2.out (m := ((A4 s r X k).at 1).written.length) rfl).mono ?_
          rintro e w8 ⟨xo8, xc8, rfl, hc8, q8⟩
          generalize ((A4 s r X k).at 1).written.length = wl at *
          have Q8 := Lib.hid q8
          clear q8 Q7 hc7
          go_wp2_with fail
          refine (PW.sent Q8.out 1 HS2.out (m := ((A4 s r X k).at 1).sent.length) rfl).mono ?_
          rintro e w9 ⟨xo9, xc9, rfl, hc9, q9⟩
          generalize ((A4 s r X k).at 1).sent.length = sl at *
          have Q9 := Lib.hid q9
          clear q9 Q8 hc8
          go_wp2_with fail
          refine (PW.waits Q9.out 1 (m := D) (by show D = X.length - k; rw [← HN.out]; have := HD.out; omega)).mono ?_
          rintro e w10 ⟨rfl, q10⟩
          have Q10 := Lib.hid q10
          clear q10 Q9 hc9
          go_wp2_with fail
          refine (PW.finish Q10.out 1 (W' := A5 s r X k) rfl).mono ?_
          rintro e w11 ⟨rfl, q11⟩
          have Q11 := Lib.hid q11
          clear q11 Q10
          go_wp2_with fail
          refine (PW.write Q11.out 1 _ X (RX.out.below Q11.out.below) (by rw [← HN.out]; omega) (M := 6000 * q + 6000) rfl (by omega) ((a5_rdy s r X k).write X)).mono ?_
          rintro e w12 ⟨rfl, q12⟩
          have Q12 := Lib.hid q12
          clear q12 Q11
          go_wp2_with fail
          refine (PW.finished Q12.out 1 (d := true) rfl).mono ?_
          rintro e w13 ⟨rfl, q13⟩
          have Q13 := Lib.hid q13
          clear q13 Q12
          go_wp2
          go_roundw
          case rel =>
            refine ⟨_, q + 1, s ++ X.take k, r ++ X, ks ++ KE, kr ++ KX, by omega, by omega, ?_, ?_, rfl, rfl, by go_num, ⟨?_, ?_⟩, ?_, a5_rdy s r X k⟩
            · rw [ByteArray.size_append]; omega
            · rw [ByteArray.size_append]; omega
            · rw [HS2.out]; rfl
            · rw [HR2.out]; rfl
            · have := Q13.out
              rwa [show 6000 * q + 6000 = 6000 * (q + 1) by omega] at this
          case measure => simp [intOf]; omega
    · have ha : W.a = Wi.start.a := HR.out.a
      have HST := Lib.hid (show 2 = (W.at 0).st by rw [Wi.Wm.at_zero, ha]; rfl)
      have HWR := Lib.hid (show 0 = (W.at 0).written.length by rw [Wi.Wm.at_zero, ha]; rfl)
      clear ha
      by_cases hlt : q < L
      · have hlt5 : ¬ q < 5 := fun h => hgo ⟨hlt, h⟩
        clear hgo
        go_wp2_with fail
        refine (PW.state HP.out 0 HST.out).mono ?_
        rintro e w1 ⟨rfl, q1⟩
        have Q1 := Lib.hid q1
        clear q1
        go_wp2_with fail
        refine (PW.written Q1.out 0 (K := kb (W.at 0).written) rfl HWR.out).mono ?_
        rintro e w2 ⟨xo, xc, rfl, _, q2⟩
        have Q2 := Lib.hid q2
        clear q2 Q1
        go_wp2
        go_ret
        exact ⟨rfl, Q2.out.below⟩
      · clear hgo
        go_wp2_with fail
        refine (PW.state HP.out 0 HST.out).mono ?_
        rintro e w1 ⟨rfl, q1⟩
        have Q1 := Lib.hid q1
        clear q1
        go_wp2_with fail
        refine (PW.written Q1.out 0 (K := kb (W.at 0).written) rfl HWR.out).mono ?_
        rintro e w2 ⟨xo, xc, rfl, _, q2⟩
        have Q2 := Lib.hid q2
        clear q2 Q1
        go_wp2
        go_ret
        exact ⟨rfl, Q2.out.below⟩
end Go.Proofs.Ytneifmnlailipaa
