/- The law WireBytes walked. (Laid by wip/tools/gen_wbytes.py.) -/
import Derived.Test.YtneifmnlailipaaWireLaw
import Derived.Test.YtneifmnlailipaaOpenRows
namespace Go.Proofs.Ytneifmnlailipaa
open Go.RowKit Go.ChangeShapes

/-- The second connection, when it has been made. -/
def W2 : Wi.Wm := ⟨Wi.start.a, ⟨2, 0, false, [], 0, [], []⟩⟩
/-- A connection that is open, and how many bytes came. -/
def Opn (W : Wi.Wm) (k : Int) (n : Nat) : Prop := (W.at k).st = 2 ∧ (W.at k).got = n
theorem Opn.fit {W : Wi.Wm} {k : Int} {n : Nat} (h : Opn W k n) (hk : k = 0 ∨ k = 1) {ys : List UInt8} (hf : n + ys.length ≤ 4000) : ∃ W', (ys, 0, W') = W.happen 1 k 0 ys ∧ Opn W' k (n + ys.length) := by
  have hc : (W.at k).come ys = (ys, 0, { W.at k with got := (W.at k).got + ys.length }) := by
    unfold Wi.Cn.come
    rw [if_neg (by have := h.1; omega), if_neg (by rw [h.2]; omega)]
  refine ⟨W.upd k { W.at k with got := (W.at k).got + ys.length }, by rw [Wi.Wm.happen1, hc], ?_⟩
  rcases hk with rfl | rfl
  · exact ⟨h.1, by show W.a.got + ys.length = _; rw [← h.2]; rfl⟩
  · exact ⟨h.1, by show W.b.got + ys.length = _; rw [← h.2]; rfl⟩
theorem Opn.full {W : Wi.Wm} {k : Int} {n : Nat} (h : Opn W k n) {ys : List UInt8} (hf : ¬ n + ys.length ≤ 4000) : (([] : List UInt8), 72, W) = W.happen 1 k 0 ys := by
  have hc : (W.at k).come ys = ([], 72, W.at k) := by
    unfold Wi.Cn.come
    rw [if_neg (by have := h.1; omega), if_pos (by rw [h.2]; omega)]
  rw [Wi.Wm.happen1, hc, Wi.Wm.upd_at]
theorem Opn.close {W : Wi.Wm} {k : Int} {n : Nat} (h : Opn W k n) (hk : k = 0 ∨ k = 1) : ∃ W', (([] : List UInt8), 0, W') = W.happen 3 k 0 [] ∧ (W'.at k).st = 3 := by
  have hc : (W.at k).fin = (0, { W.at k with st := 3 }) := by
    unfold Wi.Cn.fin
    rw [if_neg (by have := h.1; omega)]
  refine ⟨W.upd k { W.at k with st := 3 }, by rw [Wi.Wm.happen3, hc], ?_⟩
  rcases hk with rfl | rfl <;> rfl
theorem closed_come {W : Wi.Wm} {k : Int} (h : (W.at k).st = 3) : (([] : List UInt8), 1, W) = W.happen 1 k 0 [] := by
  have hc : (W.at k).come [] = ([], 1, W.at k) := by
    unfold Wi.Cn.come
    rw [if_pos (by omega)]
  rw [Wi.Wm.happen1, hc, Wi.Wm.upd_at]
theorem closed_close {W : Wi.Wm} {k : Int} (h : (W.at k).st = 3) : (([] : List UInt8), 1, W) = W.happen 3 k 0 [] := by
  have hc : (W.at k).fin = (1, W.at k) := by
    unfold Wi.Cn.fin
    rw [if_pos (by omega)]
  rw [Wi.Wm.happen3, hc, Wi.Wm.upd_at]

set_option maxRecDepth 40000 in
set_option maxHeartbeats 4000000 in
theorem lawBytesW (v0 : Value) (ys : List (Value × List UInt8)) (second : Bool) (h0 : ys.length ≤ maxLen) (w : World) (r0 : RdN 1 w v0 (ys.map fun y => [y.1])) (m0 : ∀ y ∈ ys, Rd w y.1 (y.2.map bv) ∧ y.2.length ≤ maxLen) :
    Calls Try.prog 6 #[v0, .bool second] w fun e w' => e = .returned (.bool true) ∧ Below w.heap.size w w' := by
  obtain ⟨lo, cl, rfl, hcl, hll⟩ := r0.form
  rw [List.length_map] at hcl hll ⊢
  obtain ⟨L, hL⟩ : ∃ L, L = ys.length := ⟨_, rfl⟩
  rw [← hL] at h0 hcl hll ⊢
  have HLL := Lib.hid hll
  have HM0 := Lib.hid m0
  have HL := Lib.hid hL
  unfold maxLen at h0
  clear hll m0 hL r0
  cases second
  · go_enter Try.func6, Try.ntmps6
    go_wp2_with fail
    refine (shown_any w).mono ?_
    rintro e wa ⟨rfl, hba⟩
    have HBA := Lib.hid hba
    clear hba
    go_wp2_with fail
    refine (PW.new HBA.out).mono ?_
    rintro e wb ⟨g, rfl, hq⟩
    have Q0 := Lib.hid hq
    clear hq HBA
    have QS := Q0
    have HO := Lib.hid (show Opn Wi.start 0 0 from ⟨rfl, rfl⟩)
    go_wp2
    go_loopw [12, 13] (fun n i wr => ∃ (W : Wi.Wm) (m q : Nat), q ≤ L ∧ q ≤ 10 ∧ m ≤ 4000 ∧ n = .int .i64 m ∧ i = .int .i64 q ∧ Hid (PW w g W 0 wr) ∧ Hid (Opn W 0 m)) (fun _ i _ => 10 - (intOf i).toNat)
    case atStart => exact ⟨_, 0, 0, by omega, by omega, by omega, rfl, rfl, QS.out, HO.out⟩
    case round =>
      obtain ⟨W, m, q, hq, hq10, hm, rfl, rfl, HP, HO⟩ := hrel
      by_cases hgo : q < L ∧ q < 10
      · obtain ⟨hlt, hlt10⟩ := hgo
        obtain ⟨b, o, rfl, _, hcell⟩ := HLL.out (by omega)
        obtain ⟨y, hy⟩ : ∃ y, ys[q]? = some y := ⟨_, List.getElem?_eq_getElem (by rw [← HL.out]; exact hlt)⟩
        obtain ⟨hry, hly⟩ := HM0.out y (List.mem_of_getElem? hy)
        have hc0 := hcell q [y.1] (by rw [List.getElem?_map, hy]; rfl) 0 _ rfl
        obtain ⟨v, xs⟩ := y
        simp only at hry hly hc0
        have hcr := (HP.out.below.cell (World.block_lt_of_cell? w _ hc0)).trans hc0
        rw [Nat.mul_one, Nat.add_zero] at hcr
        have HRY := Lib.hid hry
        have HLY := Lib.hid hly
        clear hcell hc0 hy hry hly
        obtain ⟨vo, vc, rfl, _⟩ := HRY.out.form
        obtain ⟨Z, hZ⟩ : ∃ Z, Z = xs.length := ⟨_, rfl⟩
        rw [← hZ] at hcr HRY
        have HZ := Lib.hid hZ
        clear hZ
        go_wp2_with fail
        refine (short_any _ xs _ (HRY.out.below HP.out.below) HLY.out).mono ?_
        rintro e w3 ⟨ao, ac, rfl, hrs, hw⟩
        obtain rfl := hw
        have hr0 := hrs w HRY.out
        obtain ⟨X, hX⟩ : ∃ X, X = xs.take 1500 := ⟨_, rfl⟩
        have lX : X.length ≤ 1500 := by rw [hX]; exact List.length_take_le _ _
        rw [← hX] at hr0 ⊢
        obtain ⟨N, hN⟩ : ∃ N, N = X.length := ⟨_, rfl⟩
        rw [← hN] at hr0 lX ⊢
        have R0 := Lib.hid hr0
        have HN := Lib.hid hN
        obtain ⟨KX, hKX⟩ : ∃ K, K = kb X := ⟨_, rfl⟩
        have HKX := Lib.hid hKX
        clear hr0 hrs hX hN hKX hcr HRY HLY HZ
        by_cases hf : m + N ≤ 4000
        · obtain ⟨W', hW', hO'⟩ := HO.out.fit (by decide) (ys := X) (by rw [← HN.out]; exact hf)
          rw [← HN.out] at hO'
          have HW' := Lib.hid hW'
          have HO' := Lib.hid hO'
          clear hW' hO'
          go_wp2_with fail
          refine (PW.happen HP.out 1 0 0 _ X R0.out (by rw [← HN.out]; unfold maxLen; omega) HW'.out (q := N) HN.out).mono ?_
          rintro e w4 ⟨bo, cp, rfl, hr4, hq4⟩
          have c1 := str_of hr4 HKX.out
          have c2 := str_of (R0.out.below hq4.below) HKX.out
          have Q4 := Lib.hid hq4
          clear hr4 hq4
          go_wp2
          go_roundw
          case rel => exact ⟨W', m + N, q + 1, by omega, by omega, by omega, by go_num, by go_num, Q4.out, HO'.out⟩
          case measure => simp [intOf]; omega
        · have HW' := Lib.hid (HO.out.full (ys := X) (by rw [← HN.out]; exact hf))
          have hf := eq_false hf
          have hf2 : ((m : Int) + (N : Int) ≤ 4000) = False := eq_false (by have := of_eq_false hf; omega)
          go_wp2_with fail
          refine (PW.happen HP.out 1 0 0 _ X R0.out (by rw [← HN.out]; unfold maxLen; omega) HW'.out (q := 0) rfl).mono ?_
          rintro e w4 ⟨bo, cp, rfl, hr4, hq4⟩
          have Q4 := Lib.hid hq4
          clear hr4 hq4
          go_wp2
          go_roundw
          case rel => exact ⟨W, m, q + 1, by omega, by omega, by omega, rfl, by go_num, Q4.out, HO.out⟩
          case measure => simp [intOf]; omega
      · obtain ⟨W', hW', hS⟩ := HO.out.close (by decide)
        have HW' := Lib.hid hW'
        have HS := Lib.hid hS
        clear hW' hS
        by_cases hlt : q < L
        · have hlt10 : ¬ q < 10 := fun h => hgo ⟨hlt, h⟩
          clear hgo
          go_wp2_with fail
          refine (PW.happen HP.out 3 0 0 (.slice none 0 0) [] rd_none (by decide) (m := 0) (zs := []) (W' := W') HW'.out (q := 0) rfl).mono ?_
          rintro e w_Q5 ⟨bo_Q5, cp_Q5, rfl, _, q_Q5⟩
          have Q5 := Lib.hid q_Q5
          clear q_Q5 HP
          go_wp2_with fail
          refine (PW.happen Q5.out 1 0 0 (.slice none 0 0) [] rd_none (by decide) (m := 1) (zs := []) (W' := W') (closed_come HS.out) (q := 0) rfl).mono ?_
          rintro e w_Q6 ⟨bo_Q6, cp_Q6, rfl, _, q_Q6⟩
          have Q6 := Lib.hid q_Q6
          clear q_Q6 Q5
          go_wp2_with fail
          refine (PW.happen Q6.out 3 0 0 (.slice none 0 0) [] rd_none (by decide) (m := 1) (zs := []) (W' := W') (closed_close HS.out) (q := 0) rfl).mono ?_
          rintro e w_Q7 ⟨bo_Q7, cp_Q7, rfl, _, q_Q7⟩
          have Q7 := Lib.hid q_Q7
          clear q_Q7 Q6
          go_wp2_with fail
          refine (PW.state Q7.out 0 (m := 3) HS.out.symm).mono ?_
          rintro e w8 ⟨rfl, q8⟩
          have Q8 := Lib.hid q8
          clear q8 Q7
          go_wp2
          go_ret
          exact ⟨rfl, Q8.out.below⟩
        · clear hgo
          go_wp2_with fail
          refine (PW.happen HP.out 3 0 0 (.slice none 0 0) [] rd_none (by decide) (m := 0) (zs := []) (W' := W') HW'.out (q := 0) rfl).mono ?_
          rintro e w_Q5 ⟨bo_Q5, cp_Q5, rfl, _, q_Q5⟩
          have Q5 := Lib.hid q_Q5
          clear q_Q5 HP
          go_wp2_with fail
          refine (PW.happen Q5.out 1 0 0 (.slice none 0 0) [] rd_none (by decide) (m := 1) (zs := []) (W' := W') (closed_come HS.out) (q := 0) rfl).mono ?_
          rintro e w_Q6 ⟨bo_Q6, cp_Q6, rfl, _, q_Q6⟩
          have Q6 := Lib.hid q_Q6
          clear q_Q6 Q5
          go_wp2_with fail
          refine (PW.happen Q6.out 3 0 0 (.slice none 0 0) [] rd_none (by decide) (m := 1) (zs := []) (W' := W') (closed_close HS.out) (q := 0) rfl).mono ?_
          rintro e w_Q7 ⟨bo_Q7, cp_Q7, rfl, _, q_Q7⟩
          have Q7 := Lib.hid q_Q7
          clear q_Q7 Q6
          go_wp2_with fail
          refine (PW.state Q7.out 0 (m := 3) HS.out.symm).mono ?_
          rintro e w8 ⟨rfl, q8⟩
          have Q8 := Lib.hid q8
          clear q8 Q7
          go_wp2
          go_ret
          exact ⟨rfl, Q8.out.below⟩

  · go_enter Try.func6, Try.ntmps6
    go_wp2_with fail
    refine (shown_any w).mono ?_
    rintro e wa ⟨rfl, hba⟩
    have HBA := Lib.hid hba
    clear hba
    go_wp2_with fail
    refine (PW.new HBA.out).mono ?_
    rintro e wb ⟨g, rfl, hq⟩
    have Q0 := Lib.hid hq
    clear hq HBA
    go_wp2_with fail
    refine (PW.happen Q0.out 1 1 0 (.slice none 0 0) [] rd_none (by decide) (m := 1) (zs := []) (W' := Wi.start) rfl (q := 0) rfl).mono ?_
    rintro e w_Q1 ⟨bo_Q1, cp_Q1, rfl, _, q_Q1⟩
    have Q1 := Lib.hid q_Q1
    clear q_Q1 Q0
    go_wp2_with fail
    refine (PW.ask Q1.out (b := true) (W' := Wi.start.ask.2) rfl).mono ?_
    rintro e w_Q2 ⟨rfl, q_Q2⟩
    have Q2 := Lib.hid q_Q2
    clear q_Q2 Q1
    go_wp2_with fail
    refine (PW.happen Q2.out 1 1 0 (.slice none 0 0) [] rd_none (by decide) (m := 1) (zs := []) (W' := Wi.start.ask.2) rfl (q := 0) rfl).mono ?_
    rintro e w_Q3 ⟨bo_Q3, cp_Q3, rfl, _, q_Q3⟩
    have Q3 := Lib.hid q_Q3
    clear q_Q3 Q2
    go_wp2_with fail
    refine (PW.happen Q3.out 5 1 1 (.slice none 0 0) [] rd_none (by decide) (m := 0) (zs := []) (W' := W2) rfl (q := 0) rfl).mono ?_
    rintro e w_QS ⟨bo_QS, cp_QS, rfl, _, q_QS⟩
    have QS := Lib.hid q_QS
    clear q_QS Q3
    have HO := Lib.hid (show Opn W2 1 0 from ⟨rfl, rfl⟩)
    go_wp2
    go_loopw [12, 13] (fun n i wr => ∃ (W : Wi.Wm) (m q : Nat), q ≤ L ∧ q ≤ 10 ∧ m ≤ 4000 ∧ n = .int .i64 m ∧ i = .int .i64 q ∧ Hid (PW w g W 0 wr) ∧ Hid (Opn W 1 m)) (fun _ i _ => 10 - (intOf i).toNat)
    case atStart => exact ⟨_, 0, 0, by omega, by omega, by omega, rfl, rfl, QS.out, HO.out⟩
    case round =>
      obtain ⟨W, m, q, hq, hq10, hm, rfl, rfl, HP, HO⟩ := hrel
      by_cases hgo : q < L ∧ q < 10
      · obtain ⟨hlt, hlt10⟩ := hgo
        obtain ⟨b, o, rfl, _, hcell⟩ := HLL.out (by omega)
        obtain ⟨y, hy⟩ : ∃ y, ys[q]? = some y := ⟨_, List.getElem?_eq_getElem (by rw [← HL.out]; exact hlt)⟩
        obtain ⟨hry, hly⟩ := HM0.out y (List.mem_of_getElem? hy)
        have hc0 := hcell q [y.1] (by rw [List.getElem?_map, hy]; rfl) 0 _ rfl
        obtain ⟨v, xs⟩ := y
        simp only at hry hly hc0
        have hcr := (HP.out.below.cell (World.block_lt_of_cell? w _ hc0)).trans hc0
        rw [Nat.mul_one, Nat.add_zero] at hcr
        have HRY := Lib.hid hry
        have HLY := Lib.hid hly
        clear hcell hc0 hy hry hly
        obtain ⟨vo, vc, rfl, _⟩ := HRY.out.form
        obtain ⟨Z, hZ⟩ : ∃ Z, Z = xs.length := ⟨_, rfl⟩
        rw [← hZ] at hcr HRY
        have HZ := Lib.hid hZ
        clear hZ
        go_wp2_with fail
        refine (short_any _ xs _ (HRY.out.below HP.out.below) HLY.out).mono ?_
        rintro e w3 ⟨ao, ac, rfl, hrs, hw⟩
        obtain rfl := hw
        have hr0 := hrs w HRY.out
        obtain ⟨X, hX⟩ : ∃ X, X = xs.take 1500 := ⟨_, rfl⟩
        have lX : X.length ≤ 1500 := by rw [hX]; exact List.length_take_le _ _
        rw [← hX] at hr0 ⊢
        obtain ⟨N, hN⟩ : ∃ N, N = X.length := ⟨_, rfl⟩
        rw [← hN] at hr0 lX ⊢
        have R0 := Lib.hid hr0
        have HN := Lib.hid hN
        obtain ⟨KX, hKX⟩ : ∃ K, K = kb X := ⟨_, rfl⟩
        have HKX := Lib.hid hKX
        clear hr0 hrs hX hN hKX hcr HRY HLY HZ
        by_cases hf : m + N ≤ 4000
        · obtain ⟨W', hW', hO'⟩ := HO.out.fit (by decide) (ys := X) (by rw [← HN.out]; exact hf)
          rw [← HN.out] at hO'
          have HW' := Lib.hid hW'
          have HO' := Lib.hid hO'
          clear hW' hO'
          go_wp2_with fail
          refine (PW.happen HP.out 1 1 0 _ X R0.out (by rw [← HN.out]; unfold maxLen; omega) HW'.out (q := N) HN.out).mono ?_
          rintro e w4 ⟨bo, cp, rfl, hr4, hq4⟩
          have c1 := str_of hr4 HKX.out
          have c2 := str_of (R0.out.below hq4.below) HKX.out
          have Q4 := Lib.hid hq4
          clear hr4 hq4
          go_wp2
          go_roundw
          case rel => exact ⟨W', m + N, q + 1, by omega, by omega, by omega, by go_num, by go_num, Q4.out, HO'.out⟩
          case measure => simp [intOf]; omega
        · have HW' := Lib.hid (HO.out.full (ys := X) (by rw [← HN.out]; exact hf))
          have hf := eq_false hf
          have hf2 : ((m : Int) + (N : Int) ≤ 4000) = False := eq_false (by have := of_eq_false hf; omega)
          go_wp2_with fail
          refine (PW.happen HP.out 1 1 0 _ X R0.out (by rw [← HN.out]; unfold maxLen; omega) HW'.out (q := 0) rfl).mono ?_
          rintro e w4 ⟨bo, cp, rfl, hr4, hq4⟩
          have Q4 := Lib.hid hq4
          clear hr4 hq4
          go_wp2
          go_roundw
          case rel => exact ⟨W, m, q + 1, by omega, by omega, by omega, rfl, by go_num, Q4.out, HO.out⟩
          case measure => simp [intOf]; omega
      · obtain ⟨W', hW', hS⟩ := HO.out.close (by decide)
        have HW' := Lib.hid hW'
        have HS := Lib.hid hS
        clear hW' hS
        by_cases hlt : q < L
        · have hlt10 : ¬ q < 10 := fun h => hgo ⟨hlt, h⟩
          clear hgo
          go_wp2_with fail
          refine (PW.happen HP.out 3 1 0 (.slice none 0 0) [] rd_none (by decide) (m := 0) (zs := []) (W' := W') HW'.out (q := 0) rfl).mono ?_
          rintro e w_Q5 ⟨bo_Q5, cp_Q5, rfl, _, q_Q5⟩
          have Q5 := Lib.hid q_Q5
          clear q_Q5 HP
          go_wp2_with fail
          refine (PW.happen Q5.out 1 1 0 (.slice none 0 0) [] rd_none (by decide) (m := 1) (zs := []) (W' := W') (closed_come HS.out) (q := 0) rfl).mono ?_
          rintro e w_Q6 ⟨bo_Q6, cp_Q6, rfl, _, q_Q6⟩
          have Q6 := Lib.hid q_Q6
          clear q_Q6 Q5
          go_wp2_with fail
          refine (PW.happen Q6.out 3 1 0 (.slice none 0 0) [] rd_none (by decide) (m := 1) (zs := []) (W' := W') (closed_close HS.out) (q := 0) rfl).mono ?_
          rintro e w_Q7 ⟨bo_Q7, cp_Q7, rfl, _, q_Q7⟩
          have Q7 := Lib.hid q_Q7
          clear q_Q7 Q6
          go_wp2_with fail
          refine (PW.state Q7.out 1 (m := 3) HS.out.symm).mono ?_
          rintro e w8 ⟨rfl, q8⟩
          have Q8 := Lib.hid q8
          clear q8 Q7
          go_wp2
          go_ret
          exact ⟨rfl, Q8.out.below⟩
        · clear hgo
          go_wp2_with fail
          refine (PW.happen HP.out 3 1 0 (.slice none 0 0) [] rd_none (by decide) (m := 0) (zs := []) (W' := W') HW'.out (q := 0) rfl).mono ?_
          rintro e w_Q5 ⟨bo_Q5, cp_Q5, rfl, _, q_Q5⟩
          have Q5 := Lib.hid q_Q5
          clear q_Q5 HP
          go_wp2_with fail
          refine (PW.happen Q5.out 1 1 0 (.slice none 0 0) [] rd_none (by decide) (m := 1) (zs := []) (W' := W') (closed_come HS.out) (q := 0) rfl).mono ?_
          rintro e w_Q6 ⟨bo_Q6, cp_Q6, rfl, _, q_Q6⟩
          have Q6 := Lib.hid q_Q6
          clear q_Q6 Q5
          go_wp2_with fail
          refine (PW.happen Q6.out 3 1 0 (.slice none 0 0) [] rd_none (by decide) (m := 1) (zs := []) (W' := W') (closed_close HS.out) (q := 0) rfl).mono ?_
          rintro e w_Q7 ⟨bo_Q7, cp_Q7, rfl, _, q_Q7⟩
          have Q7 := Lib.hid q_Q7
          clear q_Q7 Q6
          go_wp2_with fail
          refine (PW.state Q7.out 1 (m := 3) HS.out.symm).mono ?_
          rintro e w8 ⟨rfl, q8⟩
          have Q8 := Lib.hid q8
          clear q8 Q7
          go_wp2
          go_ret
          exact ⟨rfl, Q8.out.below⟩

end Go.Proofs.Ytneifmnlailipaa
