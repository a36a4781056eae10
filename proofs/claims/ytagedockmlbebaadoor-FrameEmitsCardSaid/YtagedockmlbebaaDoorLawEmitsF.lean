/- The law FrameEmits walked. -/
import Derived.Test.YtagedockmlbebaaDoorFrameRow
import Derived.Test.YtagedockmlbebaaDoorFrameEmit
import Derived.Test.YtagedockmlbebaaDoorOpenRows
import Derived.ProofKit
import Derived.OpenShut
namespace Go.Proofs.YtagedockmlbebaaDoor
open Go.RowKit
namespace Li
/-- Whether no letter of an end is there. -/
def bareB (xs : List UInt8) : Bool := xs.all fun b => !(b == 13) && !(b == 10)
theorem bareB_iff (xs : List UInt8) : bareB xs = true ↔ Bare xs := by
  unfold bareB
  rw [List.all_eq_true]
  exact ⟨fun h b hb => by simpa using h b hb, fun h b hb => by simpa using h b hb⟩
theorem bareB_on {xs : List UInt8} {k : Nat} (hk : k < xs.length) : bareB (xs.take (k + 1)) = (bareB (xs.take k) && (!(xs.getD k 0 == 13) && !(xs.getD k 0 == 10))) := by
  have e : xs.take (k + 1) = xs.take k ++ [xs.getD k 0] := by
    rw [List.take_succ_eq_append_getElem hk, List.getD_eq_getElem?_getD, List.getElem?_eq_getElem hk]; rfl
  rw [e]
  unfold bareB
  rw [List.all_append]
  simp
end Li

/-- 'Emit'. -/
theorem emit_any (s : ByteArray) (hs : s.size ≤ 1048576) {Y : List UInt8} (hY : s.data.toList = Y) (w : World) :
    Calls Tryd.prog 17 #[.string s] w fun e w' => ∃ ve, e = .returned (.tuple #[ve, .bool (Li.bareB Y)]) ∧ Below w.heap.size w w' ∧ (Li.bareB Y = false → ve = .slice none 0 0) ∧
      (Li.bareB Y = true → ∃ k cap, ve = .slice (some ⟨k, 0, none⟩) (s.size + 2) cap ∧ w.heap.size ≤ k ∧ Rd w' ve ((Y ++ [13, 10]).map bv)) := by
  subst hY
  cases hb : Li.bareB s.data.toList
  · refine (emit_not s hs (fun h => by rw [(Li.bareB_iff _).2 h] at hb; cases hb) w).mono ?_
    rintro e w' ⟨rfl, h⟩
    exact ⟨_, rfl, h, fun _ => rfl, fun h => by cases h⟩
  · refine (emit_bare s hs ((Li.bareB_iff _).1 hb) w).mono ?_
    rintro e w' ⟨k, cap, rfl, hk, hr, h⟩
    exact ⟨_, rfl, h, fun h => (by cases h), fun _ => ⟨k, cap, rfl, hk, hr⟩⟩

set_option maxRecDepth 20000 in
set_option maxHeartbeats 4000000 in
theorem lawEmitsF (v0 : Value) (ys : List ByteArray) (a1 : Int) (h0 : ys.length ≤ maxLen) (h1 : (Lit.int .u8 a1).wf = true) (w : World) (r0 : RdN 1 w v0 (ys.map fun y => [.string y])) (m0 : ∀ y ∈ ys, y.size ≤ maxLen) (ht : LT w) :
    Calls Tryd.prog 5 #[v0, .int .u8 a1] w fun e w' => e = .returned (.bool true) ∧ Below w.heap.size w w' := by
  have hb1 := bounds_u8 h1
  obtain ⟨M, rfl⟩ := Int.eq_ofNat_of_zero_le hb1.1
  have hM : M < 256 := by omega
  obtain ⟨lo, cl, rfl, hcl, hll⟩ := r0.form
  rw [List.length_map] at hcl hll ⊢
  obtain ⟨L, hL⟩ : ∃ L, L = ys.length := ⟨_, rfl⟩
  rw [← hL] at h0 hcl hll ⊢
  have HLL := Lib.hid hll
  have HM0 := Lib.hid m0
  have HL := Lib.hid hL
  have HT := Lib.hid ht
  unfold maxLen at h0
  clear ht hll m0 hL r0 h1 hb1
  go_enter Tryd.func5, Tryd.ntmps5
  go_wp2_with fail
  refine (shown_any w HT.out).mono ?_
  rintro e wa ⟨rfl, hba⟩
  have HBA := Lib.hid hba
  clear hba
  go_wp2_with fail
  refine (FL.new HBA.out (M : Int) (by omega)).mono ?_
  rintro e w1 ⟨rfl, f1, _⟩
  rw [show max (0 : Int) (M : Int) = (M : Int) by omega] at f1
  have F1 := Lib.hid f1
  clear f1 HBA
  obtain ⟨g, hg⟩ : ∃ g, g = wa.heap.size := ⟨_, rfl⟩
  rw [← hg] at F1 ⊢
  clear hg
  go_wp2
  go_loopw [7] (fun i wr => ∃ (k : Nat) (s : Value), k ≤ L ∧ k ≤ 10 ∧ i = .int .i64 k ∧ Hid (FL w g s (M : Int) Li.start wr)) (fun i _ => 10 - (intOf i).toNat)
  case atStart => exact ⟨0, _, by omega, by omega, rfl, F1.out⟩
  case round =>
    obtain ⟨k, s, hk, hk10, rfl, HF⟩ := hrel
    clear F1
    by_cases hgo : k < L ∧ k < 10
    · obtain ⟨hlt, hlt10⟩ := hgo
      obtain ⟨b, o, rfl, hm, hcell⟩ := HLL.out (by omega)
      obtain ⟨y, hy⟩ : ∃ y, ys[k]? = some y := ⟨_, List.getElem?_eq_getElem (by rw [← HL.out]; exact hlt)⟩
      have hys := HM0.out y (List.mem_of_getElem? hy)
      have hc0 := hcell k [.string y] (by rw [List.getElem?_map, hy]; rfl) 0 _ rfl
      have hcr := (HF.out.b.cell (World.block_lt_of_cell? w _ hc0)).trans hc0
      rw [Nat.mul_one, Nat.add_zero] at hcr
      obtain ⟨w2, cp, hcv, hrd, hb2⟩ := to_bytes wr y hys
      have F2 := Lib.hid (HF.out.next hb2)
      have hyl : y.data.toList.length ≤ maxLen := by rw [← Lib.size_eq]; exact hys
      have HYL := Lib.hid hyl
      have HRD := Lib.hid hrd
      obtain ⟨n2, hn2⟩ : ∃ n2, n2 = wr.heap.size := ⟨_, rfl⟩
      rw [← hn2] at hcv HRD
      clear hc0 hy hcell hys hb2 hrd hyl hn2 HF
      go_wp2_with fail
      refine (short_any _ y.data.toList w2 HRD.out HYL.out).mono ?_
      rintro e w3 ⟨vs, rfl, rs, rfl⟩
      obtain ⟨Y, hY⟩ : ∃ Y, Y = y.data.toList.take 200 := ⟨_, rfl⟩
      have lY : Y.length ≤ 200 := by rw [hY]; exact List.length_take_le _ _
      have rs := rs w2 HRD.out
      rw [← hY] at rs
      have hcs := bytes_string rs
      unfold sv at hcs
      obtain ⟨K, hK⟩ : ∃ K : ByteArray, K = ⟨Y.toArray⟩ := ⟨_, rfl⟩
      have hKY : K.data.toList = Y := by rw [hK]
      rw [← hK] at hcs
      obtain ⟨so, sc, rfl, _, _⟩ := rs.form
      obtain ⟨Z, hZ⟩ : ∃ Z, Z = Y.length := ⟨_, rfl⟩
      have hKs : K.size = Z := by rw [Lib.size_eq, hKY, hZ]
      rw [← hZ] at hcs lY ⊢
      have HK := Lib.hid hK
      have HKY := Lib.hid hKY
      have HZ := Lib.hid hZ
      clear hY hK hKY hZ rs HRD hcv hcr
      go_wp2_with fail
      refine (emit_any K (by rw [hKs]; omega) HKY.out w2).mono ?_
      rintro e w4 ⟨ve, rfl, hb4, hno, hyes⟩
      have F4 := Lib.hid (F2.out.next hb4)
      have HNO := Lib.hid hno
      have HYES := Lib.hid (fun h => (hyes h))
      have HSZ := Lib.hid F2.out
      clear hb4 hno hyes hcs
      go_wp2
      go_loopw [11, 12] (fun q j wx => ∃ n : Nat, n ≤ Z ∧ j = .int .i64 n ∧ q = .bool (Li.bareB (Y.take n)) ∧ wx = w4) (fun _ j _ => Z - (intOf j).toNat)
      case atStart => exact ⟨0, Nat.zero_le _, rfl, rfl, rfl⟩
      case round =>
        obtain ⟨n, hn, rfl, rfl, rfl⟩ := hrel
        by_cases hnz : n < Z
        · have hnK : n < K.size := by omega
          have hkb : K[n]'hnK = Y.getD n 0 := by rw [byte_at, HKY.out]
          have HON := Lib.hid (Li.bareB_on (xs := Y) (k := n) (by rw [← HZ.out]; exact hnz))
          obtain ⟨x, hx⟩ : ∃ x, x = Y.getD n 0 := ⟨_, rfl⟩
          rw [← hx] at hkb HON
          clear hx
          cases hB : Li.bareB (Y.take n)
          · rw [hB] at HON
            have HO := Lib.hid (show Li.bareB (Y.take (n + 1)) = false by rw [HON.out]; rfl)
            clear hkb HON
            go_wp2
            go_roundw
            case rel => exact ⟨n + 1, by omega, by go_num, by rw [HO.out], trivial⟩
            case measure => simp [intOf]; omega
          · rw [hB] at HON
            by_cases hx13 : x = 13
            · have q13 : (((K[n]'hnK).toNat : Int) != 13) = false := by rw [hkb, hx13]; rfl
              have HO := Lib.hid (show Li.bareB (Y.take (n + 1)) = false by rw [HON.out, hx13]; rfl)
              clear hkb HON hx13
              go_wp2
              go_roundw
              case rel => exact ⟨n + 1, by omega, by go_num, by rw [HO.out], trivial⟩
              case measure => simp [intOf]; omega
            · have q13 : (((K[n]'hnK).toNat : Int) != 13) = true := by
                rw [hkb]
                have h2 : ((x.toNat : Int) == 13) = false := beq_eq_false_iff_ne.2 (fun e => hx13 (UInt8.toNat_inj.1 (by show x.toNat = 13; omega)))
                rw [bne, h2]; rfl
              have q13b : ((K[n]'hnK).toNat = 13) = False := eq_false (fun e => hx13 (UInt8.toNat_inj.1 (by rw [← hkb]; exact e)))
              by_cases hx10 : x = 10
              · have q10 : (((K[n]'hnK).toNat : Int) != 10) = false := by rw [hkb, hx10]; rfl
                have HO := Lib.hid (show Li.bareB (Y.take (n + 1)) = false by rw [HON.out, hx10]; rfl)
                clear hkb HON hx13 hx10
                go_wp2
                go_roundw
                case rel => exact ⟨n + 1, by omega, by go_num, by rw [HO.out], trivial⟩
                case measure => simp [intOf]; omega
              · have q10 : (((K[n]'hnK).toNat : Int) != 10) = true := by
                  rw [hkb]
                  have h2 : ((x.toNat : Int) == 10) = false := beq_eq_false_iff_ne.2 (fun e => hx10 (UInt8.toNat_inj.1 (by show x.toNat = 10; omega)))
                  rw [bne, h2]; rfl
                have q10b : ((K[n]'hnK).toNat = 10) = False := eq_false (fun e => hx10 (UInt8.toNat_inj.1 (by rw [← hkb]; exact e)))
                have HO := Lib.hid (show Li.bareB (Y.take (n + 1)) = true by rw [HON.out]; simp [hx13, hx10])
                clear hkb HON hx13 hx10
                go_wp2
                go_roundw
                case rel => exact ⟨n + 1, by omega, by go_num, by rw [HO.out], trivial⟩
                case measure => simp [intOf]; omega
        · obtain rfl : n = Z := by omega
          have e : Y.take n = Y := List.take_of_length_le (by rw [HZ.out]; exact Nat.le_refl _)
          rw [e]
          clear e hnz hn
          cases hB : Li.bareB Y
          · obtain rfl := HNO.out hB
            clear HNO HYES hB
            go_wp2
            go_roundw
            case rel => exact ⟨k + 1, s, by omega, by omega, by go_num, F4.out⟩
            case measure => simp [intOf]; omega
          · obtain ⟨kk, cp4, rfl, hkk, hrd4⟩ := HYES.out hB
            have HBR := Lib.hid ((Li.bareB_iff _).1 hB)
            have hcb := bytes_string hrd4
            have eK : (⟨(Y ++ [13, 10]).toArray⟩ : ByteArray) = K ++ ⟨#[13, 10]⟩ := by
              rw [HK.out, ByteArray.mk_append_mk]
            unfold sv at hcb
            rw [eK] at hcb
            rw [hKs] at hcb hrd4 ⊢
            have HPT := Lib.hid (F2.out.past_new hrd4 rfl hkk)
            have hlim : (9223372036854775807 < n + 2) = False := eq_false (by have := lY; omega)
            have hlim2 : (9223372036854775807 < K.size + 2) = False := eq_false (by omega)
            clear HNO HYES hB hkk hrd4 eK HSZ
            by_cases hin : n ≤ M
            · go_wp2_with fail
              refine (F4.out.put HT.out _ (Y ++ [13, 10]) HPT.out (by have := HZ.out; rw [List.length_append]; simp [Li.start]; omega) (Li.put_whole HBR.out (by rw [← HZ.out]; omega))).mono ?_
              rintro e w5 ⟨s5, lo5, lc5, rfl, f5, o5, _, _⟩
              have F5 := Lib.hid f5
              obtain ⟨b5, rfl, hcap5, hmx5, _, hcell5⟩ := own_at o5 (by simp)
              have hc5 := hcell5 0 _ rfl
              unfold sv at hc5
              rw [← HK.out] at hc5
              have CR := Lib.hid (F5.out.rest (r := 0) rfl)
              have hgt : ¬ ((M : Int) < (n : Int)) := by omega
              have HCAP := Lib.hid hcap5
              clear f5 o5 hcell5 F4 F2 HPT hcb hcap5
              dsimp only [Li.start, List.length_singleton, List.length_nil] at HCAP ⊢
              go_wp2_with fail
              refine CR.out.mono ?_
              rintro e w6 ⟨rfl, rfl⟩
              go_wp2
              go_roundw
              case rel => exact ⟨k + 1, s5, by omega, by omega, by go_num, F5.out⟩
              case measure => simp [intOf]; omega
            · go_wp2_with fail
              refine (F4.out.put HT.out _ (Y ++ [13, 10]) HPT.out (by have := HZ.out; rw [List.length_append]; simp [Li.start]; omega) (Li.put_over (by omega) HBR.out (by rw [← HZ.out]; omega) _)).mono ?_
              rintro e w5 ⟨s5, lo5, lc5, rfl, f5, o5, _, _⟩
              have F5 := Lib.hid f5
              have CR := Lib.hid (F5.out.rest (r := 0) rfl)
              have hgt : (M : Int) < (n : Int) := by omega
              clear f5 o5 F4 F2 HPT hcb
              dsimp only [List.length_nil]
              go_wp2_with fail
              refine CR.out.mono ?_
              rintro e w6 ⟨rfl, rfl⟩
              go_wp2
              go_ret
              exact ⟨rfl, F5.out.b⟩
    · by_cases hlt : k < L
      · have h10 : ¬ k < 10 := fun h => hgo ⟨hlt, h⟩
        go_wp2
        go_ret
        exact ⟨rfl, HF.out.b⟩
      · go_wp2
        go_ret
        exact ⟨rfl, HF.out.b⟩
end Go.Proofs.YtagedockmlbebaaDoor
