/- The law TextNumbers walked. -/
import Derived.Test.YteplkldkobaoaaaDoorDigits
import Derived.OpenShut
import Derived.Lib.ItoaLen
namespace Go.Proofs.YteplkldkobaoaaaDoor
open Go.RowKit

theorem number_is {l : List UInt8} {most a : Int} {ok : Bool} (h : Tx.number l most = (a, ok)) (w : World) (hl : l.length ≤ 1000) :
    Calls Tryd.prog 7 #[.string ⟨l.toArray⟩, .int .i64 most] w fun e w' => e = .returned (.tuple #[.int .i64 a, .bool ok]) ∧ Below w.heap.size w w' := by
  refine (number_any ⟨l.toArray⟩ most w (by rw [ByteArray.size_mk', List.size_toArray]; omega)).mono ?_
  rintro e w' ⟨rfl, hb⟩
  refine ⟨?_, hb⟩
  show Ending.returned (two (Tx.number l most)) = _
  rw [h]
  rfl

theorem cat_nought (j : Nat) (s : List UInt8) : Value.string ((⟨#[48]⟩ : ByteArray) ++ ⟨(List.replicate j 48 ++ s).toArray⟩) = .string ⟨(List.replicate (j + 1) 48 ++ s).toArray⟩ := by
  have h := ByteArray.mk_append_mk [48] (List.replicate j 48 ++ s)
  have h2 : (⟨[(48 : UInt8)].toArray⟩ : ByteArray) = ⟨#[48]⟩ := rfl
  rw [h2] at h
  rw [h]
  rfl

set_option maxHeartbeats 4000000 in
theorem lawNumbers (n most : Int) (q : Int) (hn0 : -9223372036854775808 ≤ n) (hn1 : n ≤ 9223372036854775807) (hq0 : 0 ≤ q) (hq1 : q ≤ 255) (w : World) (ht : TB w) :
    Calls Tryd.prog 4 #[.int .i64 n, .int .i64 most, .int .u8 q] w fun e w' => e = .returned (.bool true) ∧ Below w.heap.size w w' := by
  obtain ⟨s, hs⟩ : ∃ s, s = Lib.itoa n := ⟨_, rfl⟩
  have hdig := fun w ht => digits_any n w ht hn0 hn1
  rw [← hs] at hdig
  have hsl : s.length ≤ 21 := by rw [hs]; exact Lib.itoa_length_le n hn0 hn1
  have HD := Lib.hid hdig
  have HS := Lib.hid hs
  clear hdig hs
  go_enter Tryd.func4, Tryd.ntmps4
  go_wp2_with fail
  refine (shown_any _).mono ?_
  rintro e w2 ⟨rfl, hb1⟩
  have ht2 := ht.below hb1
  go_wp2_with fail
  refine (HD.out _ ht2).mono ?_
  rintro e w3 ⟨rfl, hb2⟩
  have c3 := hb1.trans (hb2.mono hb1.size)
  clear hb1 hb2 ht ht2
  go_wp2_with fail
  by_cases h : 0 ≤ n ∧ n < 1000000000 ∧ n ≤ most
  · obtain ⟨h1, h2, h3⟩ := h
    have hN : Tx.number s most = (n, true) := by
      have := Tx.number_yes (k := 0) (most := most) h1 (by rw [Tx.nulls_len, Nat.zero_add]; exact (Tx.nine_iff h1).2 h2) h3
      rw [HS.out]
      simpa [Tx.nulls] using this
    refine (number_is hN _ (by omega)).mono ?_
    rintro e w4 ⟨rfl, hb4⟩
    have c4 := c3.trans (hb4.mono c3.size)
    clear hb4 c3
    have e1 : (n != n) = false := by simp
    go_wp2_with fail
    go_loop [12, 13] (fun v i => ∃ j : Nat, (j : Int) ≤ q % 8 ∧ i = .int .i64 j ∧ v = .string ⟨(List.replicate j 48 ++ s).toArray⟩) (fun _ i => 8 - (intOf i).toNat)
    case atStart => exact ⟨0, by omega, rfl, rfl⟩
    case round =>
      obtain ⟨j, hj, rfl, rfl⟩ := hrel
      have hjs : (List.replicate j 48 ++ s).length ≤ 28 := by rw [List.length_append, List.length_replicate]; omega
      obtain ⟨tt, htt⟩ : ∃ tt, tt = List.replicate j 48 ++ s := ⟨_, rfl⟩
      rw [← htt] at hjs ⊢
      have HT := Lib.hid htt
      clear htt
      by_cases hjq : (j : Int) < q % 8
      · go_wp2
        go_round
        case rel => exact ⟨j + 1, by omega, by go_num, by rw [HT.out]; exact cat_nought _ _⟩
        case measure => simp [intOf]; omega
      · go_wp2_with fail
        have hnl : tt = Tx.nulls j n := by rw [HT.out, HS.out]; rfl
        have HNL := Lib.hid hnl
        clear hnl
        obtain ⟨b, r, hbr, hsg⟩ := Tx.head_sign n
        rw [← HS.out] at hbr
        by_cases hl9 : tt.length ≤ 9
        · have hN2 : Tx.number tt most = (n, true) := by
            have hl := hl9
            rw [HNL.out] at hl ⊢
            exact Tx.number_yes h1 hl h3
          refine (number_is hN2 _ (by omega)).mono ?_
          rintro e w5 ⟨rfl, hb5⟩
          have e6 : (n == n) = true := by simp
          have c5 := c4.trans (hb5.mono c4.size)
          clear hb5 c4
          have hh0 : 0 < (⟨s.toArray⟩ : ByteArray).size := by rw [hbr, ByteArray.size_mk']; simp
          have hb0 : ((⟨s.toArray⟩ : ByteArray)[0]'hh0) = b := by subst hbr; rfl
          have hb45 : b.toNat ≠ 45 := fun e => by have := hsg.1 e; omega
          have e5 : ((((⟨s.toArray⟩ : ByteArray)[0]'hh0).toNat : Int) == 45) = false := by rw [hb0]; simp; omega
          have hdn : decide (n < 0) = false := by simp; omega
          clear hbr hsg hb0 hb45
          go_wp2
          go_ret
          exact ⟨rfl, c5⟩
        · have hN2 : Tx.number tt most = (0, false) := by
            have hl := hl9
            rw [HNL.out] at hl ⊢
            exact Tx.number_no (.inr (.inl (by omega)))
          have hd9 : decide ((tt.length : Int) ≤ 9) = false := by simp; omega
          refine (number_is hN2 _ (by omega)).mono ?_
          rintro e w5 ⟨rfl, hb5⟩
          have c5 := c4.trans (hb5.mono c4.size)
          clear hb5 c4
          have hh0 : 0 < (⟨s.toArray⟩ : ByteArray).size := by rw [hbr, ByteArray.size_mk']; simp
          have hb0 : ((⟨s.toArray⟩ : ByteArray)[0]'hh0) = b := by subst hbr; rfl
          have hb45 : b.toNat ≠ 45 := fun e => by have := hsg.1 e; omega
          have e5 : ((((⟨s.toArray⟩ : ByteArray)[0]'hh0).toNat : Int) == 45) = false := by rw [hb0]; simp; omega
          have hdn : decide (n < 0) = false := by simp; omega
          clear hbr hsg hb0 hb45
          go_wp2
          go_ret
          exact ⟨rfl, c5⟩
  · have hN : Tx.number s most = (0, false) := by
      have := Tx.number_no (k := 0) (n := n) (most := most) (by
        rcases Int.lt_or_le n 0 with g | g
        · exact .inl g
        · have := Tx.nine_iff g
          rw [Tx.nulls_len, Nat.zero_add]
          omega)
      rw [HS.out]
      simpa [Tx.nulls] using this
    have hN2 : ∀ j, Tx.number (Tx.nulls j n) most = (0, false) := fun j => Tx.number_no (by
      rcases Int.lt_or_le n 0 with g | g
      · exact .inl g
      · have := Tx.nine_iff g
        rw [Tx.nulls_len]
        omega)
    have HN2 := Lib.hid hN2
    clear hN2
    refine (number_is hN _ (by omega)).mono ?_
    rintro e w4 ⟨rfl, hb4⟩
    have c4 := c3.trans (hb4.mono c3.size)
    clear hb4 c3
    rcases (show n < 0 ∨ (0 ≤ n ∧ 1000000000 ≤ n) ∨ (0 ≤ n ∧ n < 1000000000 ∧ most < n) from by omega) with g | ⟨g, g2⟩ | ⟨g, g2, g3⟩
    · clear h
      go_wp2_with fail
      go_loop [12, 13] (fun v i => ∃ j : Nat, (j : Int) ≤ q % 8 ∧ i = .int .i64 j ∧ v = .string ⟨(List.replicate j 48 ++ s).toArray⟩) (fun _ i => 8 - (intOf i).toNat)
      case atStart => exact ⟨0, by omega, rfl, rfl⟩
      case round =>
        obtain ⟨j, hj, rfl, rfl⟩ := hrel
        have hjs : (List.replicate j 48 ++ s).length ≤ 28 := by rw [List.length_append, List.length_replicate]; omega
        obtain ⟨tt, htt⟩ : ∃ tt, tt = List.replicate j 48 ++ s := ⟨_, rfl⟩
        rw [← htt] at hjs ⊢
        have HT := Lib.hid htt
        clear htt
        by_cases hjq : (j : Int) < q % 8
        · go_wp2
          go_round
          case rel => exact ⟨j + 1, by omega, by go_num, by rw [HT.out]; exact cat_nought _ _⟩
          case measure => simp [intOf]; omega
        · go_wp2_with fail
          have hnl : tt = Tx.nulls j n := by rw [HT.out, HS.out]; rfl
          have HNL := Lib.hid hnl
          clear hnl
          obtain ⟨b, r, hbr, hsg⟩ := Tx.head_sign n
          rw [← HS.out] at hbr
          have hN3 : Tx.number tt most = (0, false) := by
            rw [HNL.out]
            exact HN2.out j
          refine (number_is hN3 _ (by omega)).mono ?_
          rintro e w5 ⟨rfl, hb5⟩
          have c5 := c4.trans (hb5.mono c4.size)
          clear hb5 c4
          have hh0 : 0 < (⟨s.toArray⟩ : ByteArray).size := by rw [hbr, ByteArray.size_mk']; simp
          have hb0 : ((⟨s.toArray⟩ : ByteArray)[0]'hh0) = b := by subst hbr; rfl
          have hb45 : b.toNat = 45 := hsg.2 (by omega)
          have e5 : ((((⟨s.toArray⟩ : ByteArray)[0]'hh0).toNat : Int) == 45) = true := by rw [hb0]; simp [hb45]
          have hdn : decide (n < 0) = true := by simp; omega
          clear hbr hsg hb0 hb45
          go_wp2
          go_ret
          exact ⟨rfl, c5⟩
    · clear h
      go_wp2_with fail
      go_loop [12, 13] (fun v i => ∃ j : Nat, (j : Int) ≤ q % 8 ∧ i = .int .i64 j ∧ v = .string ⟨(List.replicate j 48 ++ s).toArray⟩) (fun _ i => 8 - (intOf i).toNat)
      case atStart => exact ⟨0, by omega, rfl, rfl⟩
      case round =>
        obtain ⟨j, hj, rfl, rfl⟩ := hrel
        have hjs : (List.replicate j 48 ++ s).length ≤ 28 := by rw [List.length_append, List.length_replicate]; omega
        obtain ⟨tt, htt⟩ : ∃ tt, tt = List.replicate j 48 ++ s := ⟨_, rfl⟩
        rw [← htt] at hjs ⊢
        have HT := Lib.hid htt
        clear htt
        by_cases hjq : (j : Int) < q % 8
        · go_wp2
          go_round
          case rel => exact ⟨j + 1, by omega, by go_num, by rw [HT.out]; exact cat_nought _ _⟩
          case measure => simp [intOf]; omega
        · go_wp2_with fail
          have hnl : tt = Tx.nulls j n := by rw [HT.out, HS.out]; rfl
          have HNL := Lib.hid hnl
          clear hnl
          obtain ⟨b, r, hbr, hsg⟩ := Tx.head_sign n
          rw [← HS.out] at hbr
          have hN3 : Tx.number tt most = (0, false) := by
            rw [HNL.out]
            exact HN2.out j
          refine (number_is hN3 _ (by omega)).mono ?_
          rintro e w5 ⟨rfl, hb5⟩
          have c5 := c4.trans (hb5.mono c4.size)
          clear hb5 c4
          have hh0 : 0 < (⟨s.toArray⟩ : ByteArray).size := by rw [hbr, ByteArray.size_mk']; simp
          have hb0 : ((⟨s.toArray⟩ : ByteArray)[0]'hh0) = b := by subst hbr; rfl
          have hb45 : b.toNat ≠ 45 := fun e => by have := hsg.1 e; omega
          have e5 : ((((⟨s.toArray⟩ : ByteArray)[0]'hh0).toNat : Int) == 45) = false := by rw [hb0]; simp; omega
          have hdn : decide (n < 0) = false := by simp; omega
          clear hbr hsg hb0 hb45
          go_wp2
          go_ret
          exact ⟨rfl, c5⟩
    · clear h
      go_wp2_with fail
      go_loop [12, 13] (fun v i => ∃ j : Nat, (j : Int) ≤ q % 8 ∧ i = .int .i64 j ∧ v = .string ⟨(List.replicate j 48 ++ s).toArray⟩) (fun _ i => 8 - (intOf i).toNat)
      case atStart => exact ⟨0, by omega, rfl, rfl⟩
      case round =>
        obtain ⟨j, hj, rfl, rfl⟩ := hrel
        have hjs : (List.replicate j 48 ++ s).length ≤ 28 := by rw [List.length_append, List.length_replicate]; omega
        obtain ⟨tt, htt⟩ : ∃ tt, tt = List.replicate j 48 ++ s := ⟨_, rfl⟩
        rw [← htt] at hjs ⊢
        have HT := Lib.hid htt
        clear htt
        by_cases hjq : (j : Int) < q % 8
        · go_wp2
          go_round
          case rel => exact ⟨j + 1, by omega, by go_num, by rw [HT.out]; exact cat_nought _ _⟩
          case measure => simp [intOf]; omega
        · go_wp2_with fail
          have hnl : tt = Tx.nulls j n := by rw [HT.out, HS.out]; rfl
          have HNL := Lib.hid hnl
          clear hnl
          obtain ⟨b, r, hbr, hsg⟩ := Tx.head_sign n
          rw [← HS.out] at hbr
          have hN3 : Tx.number tt most = (0, false) := by
            rw [HNL.out]
            exact HN2.out j
          refine (number_is hN3 _ (by omega)).mono ?_
          rintro e w5 ⟨rfl, hb5⟩
          have c5 := c4.trans (hb5.mono c4.size)
          clear hb5 c4
          have hh0 : 0 < (⟨s.toArray⟩ : ByteArray).size := by rw [hbr, ByteArray.size_mk']; simp
          have hb0 : ((⟨s.toArray⟩ : ByteArray)[0]'hh0) = b := by subst hbr; rfl
          have hb45 : b.toNat ≠ 45 := fun e => by have := hsg.1 e; omega
          have e5 : ((((⟨s.toArray⟩ : ByteArray)[0]'hh0).toNat : Int) == 45) = false := by rw [hb0]; simp; omega
          have hdn : decide (n < 0) = false := by simp; omega
          clear hbr hsg hb0 hb45
          go_wp2
          go_ret
          exact ⟨rfl, c5⟩

theorem lawNumbers_row (n most q : Int) (hn : (Lit.int .i64 n).wf = true) (_hm : (Lit.int .i64 most).wf = true) (hq : (Lit.int .u8 q).wf = true) (w : World) (ht : TB w) :
    Calls Tryd.prog 4 #[.int .i64 n, .int .i64 most, .int .u8 q] w fun e w' => e = .returned (.bool true) ∧ Below w.heap.size w w' := by
  have h1 := bounds_i64 hn
  have h3 := bounds_u8 hq
  exact lawNumbers n most q h1.1 h1.2 h3.1 h3.2 w ht

end Go.Proofs.YteplkldkobaoaaaDoor
