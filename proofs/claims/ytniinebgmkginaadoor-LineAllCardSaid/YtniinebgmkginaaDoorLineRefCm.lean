/- The reference's Codes and Match, walked. -/
import Derived.Test.YtniinebgmkginaaDoorLineRefPm
namespace Go.Proofs.YtniinebgmkginaaDoor
open Go.RowKit

theorem part_at {s : List UInt8} {i : Nat} (h : i < (Ln.split s).length) : ((Ln.split s).map sv)[i]? = some (.string (ba ((Ln.split s).getD i []))) := by
  rw [List.getElem?_map, List.getElem?_eq_getElem h, List.getD_eq_getElem?_getD, List.getElem?_eq_getElem h]
  rfl
theorem part_len {s : List UInt8} {i : Nat} (h : i < (Ln.split s).length) : ((Ln.split s).getD i []).length ≤ s.length := by
  rw [List.getD_eq_getElem?_getD, List.getElem?_eq_getElem h]
  exact split_len' s _ (List.getElem_mem h)
theorem part_all {s : List UInt8} {i : Nat} (h : i < (Ln.split s).length) (p : List UInt8 → Bool) (ha : ((Ln.split s).take i).all p = true) : ((Ln.split s).take (i + 1)).all p = p ((Ln.split s).getD i []) := by
  rw [List.take_succ_eq_append_getElem h, List.all_append, ha, List.getD_eq_getElem?_getD, List.getElem?_eq_getElem h]
  simp
theorem part_no {s : List UInt8} {i : Nat} (h : i < (Ln.split s).length) (p : List UInt8 → Bool) (ha : p ((Ln.split s).getD i []) = false) : (Ln.split s).all p = false := by
  rw [List.all_eq_false]
  refine ⟨_, List.getElem_mem h, ?_⟩
  rw [List.getD_eq_getElem?_getD, List.getElem?_eq_getElem h] at ha
  simpa using ha

set_option maxHeartbeats 4000000 in
theorem rcodes_any (proto : Int) (s : List UInt8) (hs : s.length ≤ 1000000) (w : World) :
    Calls Tryd.prog 13 #[.int .i64 proto, .string (ba s)] w fun e w' => e = .returned (.bool (Ln.codes proto s)) ∧ Below w.heap.size w w' := by
  have hS := rsplit_any s hs w
  have hP := fun l hl => rpattern_any proto l hl
  unfold Ln.codes
  have HA := Lib.hid (fun i h => @part_at s i h)
  have HL := Lib.hid (fun i h => @part_len s i h)
  have HT := Lib.hid (fun i h => @part_all s i h (Ln.pattern proto))
  have HN := Lib.hid (fun i h => @part_no s i h (Ln.pattern proto))
  have HI := Lib.hid (show ((Ln.split s).take (Ln.split s).length).all (Ln.pattern proto) = (Ln.split s).all (Ln.pattern proto) by rw [List.take_length])
  generalize hps : Ln.split s = ps at hS HA HL HT HN HI ⊢
  obtain ⟨n, hn⟩ : ∃ n, n = ps.length := ⟨_, rfl⟩
  rw [← hn] at hS HA HL HT HN HI
  go_enter Tryd.func13, Tryd.ntmps13
  clear hps hn
  go_wp2_with (go_at_call 24; refine hS.mono ?_; rintro e w1 ⟨g, cap, rfl, hcell, hb, hcap, hmax⟩; clear hS)
  have HC := Lib.hid hcell
  have HB := Lib.hid hb
  have HM := Lib.hid hmax
  clear hcell hb
  go_loopw [6, 7] (fun s6 _ wr => ∃ i : Nat, s6 = .int .i64 (i : Int) ∧ i ≤ n ∧ wr = w1 ∧ (ps.take i).all (Ln.pattern proto) = true) (fun s6 _ _ => n - (intOf s6).toNat)
  case atStart => exact ⟨0, rfl, Nat.zero_le _, rfl, rfl⟩
  case round =>
    obtain ⟨i, rfl, hi, rfl, hall⟩ := hrel
    have HALL := Lib.hid hall
    clear hall
    by_cases he : i = n
    · have hlt : ((i : Int) < (n : Int)) = False := eq_false (by omega)
      have HE := Lib.hid he
      clear he
      go_wp2
      go_ret
      have := HALL.out
      rw [HE.out, HI.out] at this
      exact ⟨by rw [this]; rfl, HB.out⟩
    · have hlt : (i : Int) < (n : Int) := by omega
      have hin : i < n := by omega
      have hc := HC.out i _ (HA.out i hin)
      have hD := hP _ (Nat.le_trans (HL.out i hin) (by omega)) wr
      have h1 := HT.out i hin HALL.out
      have h2 := HN.out i hin
      have HS := Lib.hid (And.intro h1 h2)
      have hi1 : i ≤ 1000001 := by omega
      generalize ps.getD i [] = x at hc hD HS
      clear he h1 h2 hP
      cases hd : Ln.pattern proto x
      · rw [hd] at hD
        have HD := Lib.hid hd
        clear hd
        go_wp2_with (go_at_call 25; refine hD.mono ?_; rintro e w' ⟨rfl, hw⟩; rw [hw])
        go_ret
        exact ⟨by rw [HS.out.2 HD.out]; rfl, HB.out⟩
      · rw [hd] at hD
        have HD := Lib.hid hd
        clear hd
        go_wp2_with (go_at_call 25; refine hD.mono ?_; rintro e w' ⟨rfl, hw⟩; rw [hw])
        go_roundw
        case rel => exact ⟨i + 1, by push_cast; rfl, hin, trivial, by rw [HS.out.1]; exact HD.out⟩
        case measure => simp [intOf]; omega

theorem part_any {s : List UInt8} {i : Nat} (h : i < (Ln.split s).length) (p : List UInt8 → Bool) (ha : ((Ln.split s).take i).any p = false) : ((Ln.split s).take (i + 1)).any p = p ((Ln.split s).getD i []) := by
  rw [List.take_succ_eq_append_getElem h, List.any_append, ha, List.getD_eq_getElem?_getD, List.getElem?_eq_getElem h]
  simp
theorem part_yes {s : List UInt8} {i : Nat} (h : i < (Ln.split s).length) (p : List UInt8 → Bool) (ha : p ((Ln.split s).getD i []) = true) : (Ln.split s).any p = true := by
  rw [List.any_eq_true]
  refine ⟨_, List.getElem_mem h, ?_⟩
  rw [List.getD_eq_getElem?_getD, List.getElem?_eq_getElem h] at ha
  simpa using ha

set_option maxHeartbeats 4000000 in
theorem rmatch_any (s c : List UInt8) (hs : s.length ≤ 1000000) (hcl : c.length ≤ 1000000) (w : World) :
    Calls Tryd.prog 15 #[.string (ba s), .string (ba c)] w fun e w' => e = .returned (.bool (Ln.mat s c)) ∧ Below w.heap.size w w' := by
  have hS := rsplit_any s hs w
  have hzc : (ba c).size = c.length := rfl
  have hxc : ∀ k, (ba c).extract 0 k = ba (c.take k) := fun k => by rw [ba, ba_extract]; simp [ba]
  unfold Ln.mat
  have HA := Lib.hid (fun i h => @part_at s i h)
  have HL := Lib.hid (fun i h => @part_len s i h)
  have HT := Lib.hid (fun i h => @part_any s i h (Ln.hit c))
  have HN := Lib.hid (fun i h => @part_yes s i h (Ln.hit c))
  have HI := Lib.hid (show ((Ln.split s).take (Ln.split s).length).any (Ln.hit c) = (Ln.split s).any (Ln.hit c) by rw [List.take_length])
  generalize hps : Ln.split s = ps at hS HA HL HT HN HI ⊢
  obtain ⟨n, hn⟩ : ∃ n, n = ps.length := ⟨_, rfl⟩
  rw [← hn] at hS HA HL HT HN HI
  go_enter Tryd.func15, Tryd.ntmps15
  clear hps hn
  go_wp2_with (go_at_call 24; refine hS.mono ?_; rintro e w1 ⟨g, cap, rfl, hcell, hb, hcap, hmax⟩; clear hS)
  have HC := Lib.hid hcell
  have HB := Lib.hid hb
  have HM := Lib.hid hmax
  have HX := Lib.hid hxc
  clear hcell hb hxc
  go_loopw [6, 7] (fun s6 _ wr => ∃ i q : Nat, s6 = .int .i64 (i : Int) ∧ i ≤ n ∧ wr = w1.drewN q ∧ (ps.take i).any (Ln.hit c) = false) (fun s6 _ _ => n - (intOf s6).toNat)
  case atStart => exact ⟨0, 0, rfl, Nat.zero_le _, rfl, rfl⟩
  case round =>
    obtain ⟨i, q, rfl, hi, rfl, hall⟩ := hrel
    have HALL := Lib.hid hall
    clear hall
    have HB2 := Lib.hid (show ∀ q, Below w.heap.size w (w1.drewN q) from fun q => HB.out.trans ⟨rfl, rfl, rfl, Nat.le_refl _, fun _ _ => rfl⟩)
    by_cases he : i = n
    · have hlt : ((i : Int) < (n : Int)) = False := eq_false (by omega)
      have HE := Lib.hid he
      clear he
      go_wp2
      go_ret
      have := HALL.out
      rw [HE.out, HI.out] at this
      exact ⟨by rw [this]; rfl, HB2.out _⟩
    · have hlt : (i : Int) < (n : Int) := by omega
      have hin : i < n := by omega
      have hc : ∀ q, (w1.drewN q).cell? ⟨g, i, none⟩ = _ := fun q => HC.out i _ (HA.out i hin)
      have hxl := Nat.le_trans (HL.out i hin) hs
      have h1 := HT.out i hin HALL.out
      have h2 := HN.out i hin
      have HS := Lib.hid (And.intro h1 h2)
      have hi1 : i ≤ 1000001 := by omega
      generalize ps.getD i [] = x at hc HS hxl
      clear he h1 h2
      obtain ⟨K, hK⟩ : ∃ K, K = x.length := ⟨_, rfl⟩
      have hzx : (ba x).size = K := by rw [hK]; rfl
      have hcmp : ((ba (c.take K)).toList == (ba x).toList) = decide (c.take K = x) := by
        rw [Lib.toList_data, Lib.toList_data, Bool.eq_iff_iff]
        show (c.take K == x) = true ↔ _
        simp
      have hcut := HX.out K
      obtain ⟨P, hP⟩ : ∃ P, P = ba (c.take K) := ⟨_, rfl⟩
      rw [← hP] at hcmp hcut
      have hhit : Ln.hit c x = (decide (0 < K) && decide (K ≤ c.length) && decide (c.take K = x)) := by
        unfold Ln.hit
        rw [Bool.eq_iff_iff]
        simp only [Bool.and_eq_true, Bool.not_eq_true', decide_eq_true_eq, List.isPrefixOf_iff_prefix]
        constructor
        · rintro ⟨h1, h2⟩
          exact ⟨⟨by rw [hK]; exact List.length_pos_iff.2 (by rintro rfl; simp at h1), by rw [hK]; exact h2.length_le⟩, by rw [hK]; exact (List.prefix_iff_eq_take.1 h2).symm⟩
        · rintro ⟨⟨h1, _⟩, h3⟩
          refine ⟨?_, by rw [← h3]; exact List.take_prefix _ _⟩
          cases x with
          | nil => rw [hK] at h1; exact absurd h1 (by simp)
          | cons _ _ => rfl
      have hKl : K ≤ 1000000 := by omega
      obtain ⟨X, hXX⟩ : ∃ X, X = ba x := ⟨_, rfl⟩
      rw [← hXX] at hc hzx hcmp
      obtain ⟨C, hCC⟩ : ∃ C, C = c.length := ⟨_, rfl⟩
      have hzc2 : (ba c).size = C := by rw [hCC]; exact hzc
      rw [← hCC] at hhit
      have HH := Lib.hid hhit
      clear hK hP hXX hCC hhit hzc
      have done : ∀ (q : Nat), Ln.hit c x = false → (∃ i' q' : Nat, Value.int .i64 ((i : Int) + 1) = .int .i64 (i' : Int) ∧ i' ≤ n ∧ w1.drewN q = w1.drewN q' ∧ (ps.take i').any (Ln.hit c) = false) ∧ n - (intOf (Value.int .i64 ((i : Int) + 1))).toNat < n - (intOf (Value.int .i64 (i : Int))).toNat := fun q hh =>
        ⟨⟨i + 1, q, by push_cast; rfl, hin, rfl, by rw [HS.out.1]; exact hh⟩, by simp [intOf]; omega⟩
      have DONE := Lib.hid done
      clear done
      by_cases h0 : (0 : Int) < (K : Int)
      · have h0n : 0 < K := by omega
        by_cases hle : (K : Int) ≤ (C : Int)
        · have hlen : K ≤ C := by omega
          cases heq : decide (c.take K = x)
          · rw [heq] at hcmp
            have HV := Lib.hid (show Ln.hit c x = false by rw [HH.out, heq, Bool.and_false])
            clear heq
            go_wp2
            go_quiet (fail)
            simp only [Exit.then]
            go_wp2
            exact DONE.out _ HV.out
          · rw [heq] at hcmp
            have HV := Lib.hid (HS.out.2 (show Ln.hit c x = true by rw [HH.out, heq, decide_eq_true h0n, decide_eq_true hlen]; rfl))
            clear heq
            go_wp2
            go_quiet (fail)
            simp only [Exit.then]
            go_wp2
            go_ret
            exact ⟨by rw [HV.out]; rfl, (HB2.out q).trans ⟨rfl, rfl, rfl, Nat.le_refl _, fun _ _ => rfl⟩⟩
        · have hlen : ¬ K ≤ C := by omega
          have hlf : ((K : Int) ≤ (C : Int)) = False := eq_false hle
          have hlf2 : (K ≤ C) = False := eq_false hlen
          have HV := Lib.hid (show Ln.hit c x = false by rw [HH.out, decide_eq_false hlen, Bool.and_false]; rfl)
          clear hle hlen
          go_wp2
          go_quiet (fail)
          simp only [Exit.then]
          go_wp2
          exact DONE.out _ HV.out
      · have h0n : ¬ 0 < K := by omega
        have h0f : ((0 : Int) < (K : Int)) = False := eq_false h0
        have h0f2 : (0 < K) = False := eq_false h0n
        have HV := Lib.hid (show Ln.hit c x = false by rw [HH.out, decide_eq_false h0n]; rfl)
        clear h0 h0n
        go_wp2
        go_quiet (fail)
        simp only [Exit.then]
        go_wp2
        exact DONE.out _ HV.out
end Go.Proofs.YtniinebgmkginaaDoor
