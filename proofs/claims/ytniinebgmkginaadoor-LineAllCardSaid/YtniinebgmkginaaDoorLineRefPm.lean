/- The reference's pattern, Codes and Match, walked. -/
import Derived.Test.YtniinebgmkginaaDoorLineRefSp
namespace Go.Proofs.YtniinebgmkginaaDoor
open Go.RowKit

set_option maxHeartbeats 4000000 in
theorem rpattern_two (l : List UInt8) (w : World) :
    Calls Tryd.prog 25 #[.int .i64 2, .string (ba l)] w fun e w' => e = .returned (.bool (Ln.pattern 2 l)) ∧ w' = w := by
  have hc : ∀ c : UInt8, ((ba l).toList == [c]) = decide (l = [c]) := fun c => by
    rw [Lib.toList_data, ba_list, Bool.eq_iff_iff]
    simp
  have e1 := hc 43
  have e2 := hc 45
  have e3 := hc 62
  have hp : Ln.pattern 2 l = (decide (l = [43]) || decide (l = [45]) || decide (l = [62])) := by
    unfold Ln.pattern
    rw [if_pos rfl, Bool.eq_iff_iff]
    simp
  rw [hp]
  clear hp hc
  generalize ba l = S at e1 e2 e3
  generalize decide (l = [43]) = b1 at e1
  generalize decide (l = [45]) = b2 at e2
  generalize decide (l = [62]) = b3 at e3
  cases b1
  · cases b2
    · cases b3
      · go_enter Tryd.func25, Tryd.ntmps25
        go_wp2
        go_ret
        exact ⟨rfl, rfl⟩
      · go_enter Tryd.func25, Tryd.ntmps25
        go_wp2
        go_ret
        exact ⟨rfl, rfl⟩
    · go_enter Tryd.func25, Tryd.ntmps25
      go_wp2
      go_ret
      exact ⟨rfl, rfl⟩
  · go_enter Tryd.func25, Tryd.ntmps25
    go_wp2
    go_ret
    exact ⟨rfl, rfl⟩

theorem rpattern_no (proto : Int) (h1 : proto ≠ 1) (h2 : proto ≠ 2) (h3 : proto ≠ 3) (l : List UInt8) (w : World) :
    Calls Tryd.prog 25 #[.int .i64 proto, .string (ba l)] w fun e w' => e = .returned (.bool false) ∧ w' = w := by
  have e1 : (proto == 1) = false := by simpa using h1
  have e2 : (proto == 2) = false := by simpa using h2
  have e3 : (proto == 3) = false := by simpa using h3
  have f1 : (proto = 1) = False := eq_false h1
  have f2 : (proto = 2) = False := eq_false h2
  have f3 : (proto = 3) = False := eq_false h3
  clear h1 h2 h3
  go_enter Tryd.func25, Tryd.ntmps25
  go_wp2
  go_ret
  exact ⟨rfl, rfl⟩

set_option maxHeartbeats 4000000 in
theorem rpattern_num (proto : Int) (hp : proto = 1 ∨ proto = 3) (l : List UInt8) (hl : l.length ≤ 16777216) (w : World) :
    Calls Tryd.prog 25 #[.int .i64 proto, .string (ba l)] w fun e w' => e = .returned (.bool (Ln.pattern 1 l)) ∧ w' = w := by
  cases l with
  | nil =>
    have hz : (ba ([] : List UInt8)).size = 0 := rfl
    rcases hp with rfl | rfl
    all_goals
      go_enter Tryd.func25, Tryd.ntmps25
      go_wp2
      go_ret
      exact ⟨rfl, rfl⟩
  | cons a r =>
    have hpo : Ln.pattern 1 (a :: r) = (Ln.first a && r.all Ln.digit && decide (r.length ≤ 2)) := rfl
    have hl : r.length + 1 ≤ 16777216 := hl
    obtain ⟨q, hq⟩ : ∃ q, q = a :: r := ⟨_, rfl⟩
    have hz : (ba q).size = r.length + 1 := by rw [hq]; rfl
    have x0 : ∀ h, (ba q)[0]'h = a := fun h => by rw [byte_at, ba_list, hq]; rfl
    have hlt1 : ((r.length : Int) + 1 < 1) = False := eq_false (by omega)
    rw [← hq] at hpo ⊢
    by_cases h3 : (3 : Int) < (r.length : Int) + 1
    · have hv : Ln.pattern 1 q = false := by rw [hpo, decide_eq_false (show ¬ r.length ≤ 2 by omega), Bool.and_false]
      rw [hv]
      clear hv hpo hq
      rcases hp with rfl | rfl
      all_goals
        go_enter Tryd.func25, Tryd.ntmps25
        go_wp2
        go_ret
        exact ⟨rfl, rfl⟩
    have h3f : ((3 : Int) < (r.length : Int) + 1) = False := eq_false h3
    by_cases f1 : (a.toNat : Int) < 49
    · have hv : Ln.pattern 1 q = false := by rw [hpo, show Ln.first a = false by rw [Bool.eq_false_iff]; intro h; rw [Ln.first_iff] at h; omega]; rfl
      rw [hv]
      clear hv hpo hq h3
      rcases hp with rfl | rfl
      all_goals
        go_enter Tryd.func25, Tryd.ntmps25
        go_wp2
        go_ret
        exact ⟨rfl, rfl⟩
    by_cases f2 : (53 : Int) < (a.toNat : Int)
    · have hv : Ln.pattern 1 q = false := by rw [hpo, show Ln.first a = false by rw [Bool.eq_false_iff]; intro h; rw [Ln.first_iff] at h; omega]; rfl
      rw [hv]
      clear hv hpo hq h3
      rcases hp with rfl | rfl
      all_goals
        go_enter Tryd.func25, Tryd.ntmps25
        go_wp2
        go_ret
        exact ⟨rfl, rfl⟩
    have hf : Ln.first a = true := Ln.first_iff.2 ⟨by omega, by omega⟩
    have hv : Ln.pattern 1 q = q.all Ln.digit := by
      rw [hpo, hf, decide_eq_true (show r.length ≤ 2 by omega), hq, List.all_cons, Ln.first_digit hf, Bool.and_true]
    have hqn : q.length = r.length + 1 := by rw [hq]; rfl
    rw [hv]
    obtain ⟨L, hL⟩ : ∃ L, L = q.length := ⟨_, rfl⟩
    clear hz
    have hz : (ba q).size = L := by rw [hL]; rfl
    have hL3 : L ≤ 3 := by omega
    have hL1 : 1 ≤ L := by omega
    have g1 : ((L : Int) < 1) = False := eq_false (by omega)
    have g2 : ((3 : Int) < (L : Int)) = False := eq_false (by omega)
    have HL := Lib.hid hL
    clear hv hpo hq h3 hf hqn hL hl h3f hlt1
    rcases hp with rfl | rfl
    all_goals
      go_enter Tryd.func25, Tryd.ntmps25
      go_wp2
      go_loopw [5] (fun s5 wr => ∃ i : Nat, s5 = .int .i64 (i : Int) ∧ i ≤ L ∧ wr = w ∧ (q.take i).all Ln.digit = true) (fun s5 _ => L - (intOf s5).toNat)
      case atStart => exact ⟨0, rfl, Nat.zero_le _, rfl, rfl⟩
      case round =>
        obtain ⟨i, rfl, hi, rfl, hall⟩ := hrel
        have HA := Lib.hid hall
        clear hall
        by_cases he : i = L
        · have hlt : ((i : Int) < (L : Int)) = False := eq_false (by omega)
          have HE := Lib.hid he
          clear he
          go_wp2
          go_ret
          have := HA.out
          rw [HE.out, HL.out, List.take_length] at this
          exact ⟨by rw [this]; rfl, rfl⟩
        · have hlt : (i : Int) < (L : Int) := by omega
          have hlt2 : i < q.length := by rw [← HL.out]; omega
          obtain ⟨x, hxx⟩ : ∃ x, x = q[i] := ⟨_, rfl⟩
          have hidx : ∀ h : i < (ba q).size, (ba q)[i]'h = x := fun h => hxx.symm
          have hD := rdigit_any x wr
          have hstep : (q.take (i + 1)).all Ln.digit = Ln.digit x := by
            rw [List.take_succ_eq_append_getElem hlt2, List.all_append, HA.out, ← hxx]
            simp
          have hno : Ln.digit x = false → q.all Ln.digit = false := fun h => by
            rw [List.all_eq_false]
            exact ⟨x, by rw [hxx]; exact List.getElem_mem hlt2, by rw [h]; simp⟩
          have HI := Lib.hid (show i + 1 ≤ L by omega)
          have HS := Lib.hid (And.intro hstep hno)
          clear he hlt2 hxx hstep hno
          cases hd : Ln.digit x
          · rw [hd] at hD
            have HD := Lib.hid hd
            clear hd
            go_wp2_with (go_at_call 21; refine hD.mono ?_; rintro e w' ⟨rfl, hw⟩; rw [hw])
            go_ret
            exact ⟨by rw [HS.out.2 HD.out]; rfl, rfl⟩
          · rw [hd] at hD
            have HD := Lib.hid hd
            clear hd
            go_wp2_with (go_at_call 21; refine hD.mono ?_; rintro e w' ⟨rfl, hw⟩; rw [hw])
            go_roundw
            case rel => exact ⟨i + 1, by push_cast; rfl, HI.out, trivial, by rw [HS.out.1]; exact HD.out⟩
            case measure => have := HI.out; simp [intOf]; omega

theorem rpattern_any (proto : Int) (l : List UInt8) (hl : l.length ≤ 16777216) (w : World) :
    Calls Tryd.prog 25 #[.int .i64 proto, .string (ba l)] w fun e w' => e = .returned (.bool (Ln.pattern proto l)) ∧ w' = w := by
  by_cases h2 : proto = 2
  · subst h2; exact rpattern_two l w
  · by_cases h13 : proto = 1 ∨ proto = 3
    · have : Ln.pattern proto l = Ln.pattern 1 l := by rcases h13 with rfl | rfl <;> rfl
      rw [this]
      exact rpattern_num proto h13 l hl w
    · have : Ln.pattern proto l = false := by unfold Ln.pattern; rw [if_neg h2, if_neg h13]
      rw [this]
      exact rpattern_no proto (fun e => h13 (.inl e)) h2 (fun e => h13 (.inr e)) l w
end Go.Proofs.YtniinebgmkginaaDoor
