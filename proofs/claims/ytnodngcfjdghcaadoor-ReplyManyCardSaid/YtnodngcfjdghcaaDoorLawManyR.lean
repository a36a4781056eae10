/- The law ReplyMany walked. -/
import Derived.Test.YtnodngcfjdghcaaDoorReplyLaw
import Derived.OpenShut
namespace Go.Proofs.YtnodngcfjdghcaaDoor
open Go.RowKit Go.ChangeShapes

/-- A maker, some of a reply's lines being over. -/
def manySt (ftp : Bool) (M j : Nat) : Option Rp.Mid := if j = 0 then none else some ⟨[50, 53, 48], Rp.backLines ftp [50, 53, 48] (List.replicate M [120]) j, none⟩
theorem many_more (ftp : Bool) {M j : Nat} (hj : j < M) : Rp.step (if ftp = true then 3 else 1) (manySt ftp M j) [50, 53, 48, 45, 120] false = if 20 ≤ j then .inr (.inr 72) else .inl ⟨[50, 53, 48], Rp.backLines ftp [50, 53, 48] (List.replicate M [120]) (j + 1), none⟩ := by
  have hp : (if ftp = true then (3 : Int) else 1) = 1 ∨ (if ftp = true then (3 : Int) else 1) = 3 := by cases ftp <;> simp
  have hg : (List.replicate M ([120] : List UInt8)).getD j [] = [120] := by rw [List.getD_eq_getElem?_getD, List.getElem?_replicate]; simp [hj]
  unfold manySt
  by_cases h0 : j = 0
  · subst h0
    rw [if_pos rfl, if_neg (show ¬ (20 ≤ 0) by decide)]
    obtain ⟨M, rfl⟩ : ∃ m, M = m + 1 := ⟨M - 1, by omega⟩
    rw [List.replicate_succ, Nat.zero_add, Rp.back_one]
    exact Rp.first_more (a := 50) (b := 53) (c := 48) (by decide) (by decide) (by decide) hp [120] false
  · rw [if_neg h0]
    have := Rp.back_step (a := 50) (b := 53) (c := 48) (by decide) (by decide) (by decide) ftp (List.replicate M [120]) (i := j) (by omega) (by simpa using hj)
    rw [hg] at this
    exact this
theorem many_last (ftp : Bool) {M j : Nat} (hj : j < M) : Rp.step (if ftp = true then 3 else 1) (manySt ftp M j) [50, 53, 48, 32, 120] false = if 20 ≤ j then .inr (.inr 72) else .inr (.inl ⟨[50, 53, 48], if j = 0 then [[120]] else Rp.backLines ftp [50, 53, 48] (List.replicate M [120]) j ++ [[120]], []⟩) := by
  have hp : (if ftp = true then (3 : Int) else 1) = 1 ∨ (if ftp = true then (3 : Int) else 1) = 3 := by cases ftp <;> simp
  unfold manySt
  by_cases h0 : j = 0
  · subst h0
    rw [if_pos rfl, if_neg (show ¬ (20 ≤ 0) by decide), if_pos rfl]
    exact Rp.first_last (a := 50) (b := 53) (c := 48) (by decide) (by decide) (by decide) hp [120] false
  · rw [if_neg h0, if_neg h0]
    exact Rp.back_end (a := 50) (b := 53) (c := 48) (by decide) (by decide) (by decide) ftp (List.replicate M [120]) (i := j) (by simpa using hj) [120]
theorem many_len (ftp : Bool) {M j : Nat} (hj : j < M) : (if j = 0 then [[120]] else Rp.backLines ftp [50, 53, 48] (List.replicate M [120]) j ++ [[120]] : List (List UInt8)).length = j + 1 := by
  by_cases h0 : j = 0
  · subst h0; rfl
  · rw [if_neg h0, List.length_append, Rp.back_len _ _ _ (by simp; omega)]; rfl

/-- Where the law's loop stands. -/
def MR (w : World) (g : Nat) (ftp : Bool) (M j : Nat) (wr : World) : Prop := Below w.heap.size w wr ∧ (j < M → ∃ F, ML w g F (if ftp = true then 3 else 1) (manySt ftp M j) wr)
/-- What Line tells in a round: an error, the middle, or a whole reply. -/
def MX3 (w : World) (g : Nat) (ftp : Bool) (M j : Nat) (wr : World) (s : List UInt8) : Prop :=
  ∃ lines : Nat, ∃ wh : Bool, ∃ er : Nat, ((20 ≤ j ∧ wh = false ∧ er = 72) ∨ (j < 20 ∧ er = 0 ∧ wh = decide (j + 1 = M) ∧ (wh = true → lines = j + 1))) ∧
  Calls Tryd.prog 12 #[.pointer (some ⟨g, 0, none⟩), .string (ba s), .bool false] wr fun e w' => ∃ c lo lc bo bn bc, e = .returned (.tuple #[.agg #[.string c, .slice lo lines lc, .slice bo bn bc], .bool wh, .int .i64 (er : Int)]) ∧
    Below w.heap.size w w' ∧ (er = 72 → ∃ F, ML w g F (if ftp = true then 3 else 1) none w') ∧ (er = 0 → j + 1 < M → ∃ F, ML w g F (if ftp = true then 3 else 1) (manySt ftp M (j + 1)) w')
theorem mx3 {w wr : World} {g : Nat} {ftp : Bool} {M j : Nat} (h : MR w g ftp M j wr) (hj : j < M) (s : List UInt8) (hs : s = if j + 1 = M then [50, 53, 48, 32, 120] else [50, 53, 48, 45, 120]) : MX3 w g ftp M j wr s := by
  obtain ⟨F, hF⟩ := h.2 hj
  have hS := hF.line s (by rw [hs]; split <;> decide) false
  by_cases hl : j + 1 = M
  · rw [if_pos hl] at hs
    subst hs
    rw [many_last ftp hj] at hS
    by_cases h20 : 20 ≤ j
    · rw [if_pos h20] at hS
      refine ⟨0, false, 72, .inl ⟨h20, rfl, rfl⟩, hS.mono ?_⟩
      rintro e w' ⟨F', lo, lc, bo, bc, rfl, hM, _⟩
      exact ⟨_, lo, lc, bo, _, bc, rfl, hM.b, fun _ => ⟨F', hM⟩, fun e => by cases e⟩
    · rw [if_neg h20] at hS
      refine ⟨j + 1, true, 0, .inr ⟨by omega, rfl, (decide_eq_true hl).symm, fun _ => rfl⟩, hS.mono ?_⟩
      rintro e w' ⟨F', lo, lc, bo, bc, rfl, hM, _⟩
      refine ⟨ba [50, 53, 48], lo, lc, bo, 0, bc, ?_, hM.b, (fun e => by cases e), fun _ e => by omega⟩
      simp only [Rp.outRe, many_len ftp hj]
      rfl
  · rw [if_neg hl] at hs
    subst hs
    rw [many_more ftp hj] at hS
    by_cases h20 : 20 ≤ j
    · rw [if_pos h20] at hS
      refine ⟨0, false, 72, .inl ⟨h20, rfl, rfl⟩, hS.mono ?_⟩
      rintro e w' ⟨F', lo, lc, bo, bc, rfl, hM, _⟩
      exact ⟨_, lo, lc, bo, _, bc, rfl, hM.b, fun _ => ⟨F', hM⟩, fun e => by cases e⟩
    · rw [if_neg h20] at hS
      refine ⟨0, false, 0, .inr ⟨by omega, rfl, (decide_eq_false hl).symm, fun e => by cases e⟩, hS.mono ?_⟩
      rintro e w' ⟨F', lo, lc, bo, bc, rfl, hM, _⟩
      refine ⟨_, lo, lc, bo, _, bc, rfl, hM.b, (fun e => by cases e), fun _ _ => ⟨F', ?_⟩⟩
      have e : manySt ftp M (j + 1) = Rp.outSt (.inl ⟨[50, 53, 48], Rp.backLines ftp [50, 53, 48] (List.replicate M [120]) (j + 1), none⟩) := by
        unfold manySt
        rw [if_neg (Nat.succ_ne_zero j)]
        rfl
      rw [e]
      exact hM

set_option maxHeartbeats 4000000 in
theorem lawMany (n : Int) (ftp : Bool) (hn : (Lit.int .u8 n).wf = true) (w : World) :
    Calls Tryd.prog 8 #[.int .u8 n, .bool ftp] w fun e w' => e = .returned (.bool true) ∧ Below w.heap.size w w' := by
  obtain ⟨N, rfl, hN⟩ : ∃ N : Nat, n = (N : Int) ∧ N < 256 := by
    have := bounds_u8 hn
    exact ⟨n.toNat, by omega, by omega⟩
  obtain ⟨M0, hM0⟩ : ∃ M0, M0 = N % 30 := ⟨_, rfl⟩
  have hM30 : M0 < 30 := by omega
  have e1 : (N : Int).tmod 30 = (M0 : Int) := by rw [Int.tmod_eq_emod_of_nonneg (by omega)]; omega
  obtain ⟨M, hM⟩ : ∃ M, M = M0 + 1 := ⟨_, rfl⟩
  have e2 : (1 : Int) + (M0 : Int) = (M : Int) := by omega
  have h1M : 1 ≤ M := by omega
  have hM31 : M ≤ 30 := by omega
  clear hM0 hM hn hM30
  obtain ⟨P, hP⟩ : ∃ P : Int, P = if ftp = true then 3 else 1 := ⟨_, rfl⟩
  have HPX := Lib.hid hP
  have CN := Lib.hid (fun (w1 : World) (h : Below w.heap.size w w1) => ML.new h P)
  obtain ⟨ft, hft⟩ : ∃ ft, ft = ftp := ⟨_, rfl⟩
  have HFT := Lib.hid hft
  rw [← hft] at HPX
  go_enter Tryd.func8, Tryd.ntmps8
  go_wp2_with fail
  refine (shown_any w).mono ?_
  rintro e w1 ⟨rfl, hb1⟩
  have C1 := CN.out w1 hb1
  clear CN
  cases ftp
  all_goals
    clear hft
    simp only [Bool.false_eq_true, if_false, if_true] at hP
    subst hP
    go_wp2_with fail
    refine C1.mono ?_
    rintro e w2 ⟨rfl, hM2, hb2⟩
    generalize w1.heap.size = g at *
    rw [HPX.out] at hM2
    have HM2 := Lib.hid hM2
    clear C1 hM2 hb2 hb1 HPX
    go_wp2
    go_loopw [9, 10, 11, 12, 13] (fun s9 _ _ _ _ wr => ∃ i j : Nat, i = j + 1 ∧ j ≤ M ∧ j ≤ 20 ∧ s9 = .int .i64 (i : Int) ∧ Hid (MR w g ft M j wr)) (fun s9 _ _ _ _ _ => M + 1 - (intOf s9).toNat)
    case atStart => exact ⟨1, 0, rfl, by omega, by omega, rfl, ⟨HM2.out.b, fun _ => ⟨_, HM2.out⟩⟩⟩
    case round =>
      obtain ⟨i, j, hij, hjM, hj20, rfl, HR⟩ := hrel
      by_cases hlt : j < M
      · have z1 : (((i : Nat) : Int) ≤ (M : Int)) = True := eq_true (by omega)
        have hx := mx3 HR.out hlt _ rfl
        obtain ⟨T, hT⟩ : ∃ T, T = decide (i = M) := ⟨_, rfl⟩
        obtain ⟨lines, wh, er, hk, hS⟩ := hx
        have HB0 := Lib.hid HR.out.1
        by_cases hl : j + 1 = M
        · have z2 : ((i : Int) == (M : Int)) = true := by have : (i : Int) = (M : Int) := by omega
                                                          simpa using this
          rw [if_pos hl] at hS
          have HS := Lib.hid hS
          clear hS hl
          go_wp2_with fail
          refine HS.out.mono ?_
          rintro e w4 ⟨c, lo, lc, bo, bn, bc, rfl, h1, h2, h3⟩
          have HB4 := Lib.hid (h1.alloc h1.size (.cells #[.string c, .slice lo lines lc, .slice bo bn bc] 30))
          have H3 := Lib.hid h3
          rcases hk with ⟨h20, rfl, rfl⟩ | ⟨h20, rfl, rfl, hln⟩
          · obtain ⟨F4, h4⟩ := h2 rfl
            have h5 := h4.next ((Below.refl w4.heap.size w4).alloc (Nat.le_refl _) (.cells #[.string c, .slice lo lines lc, .slice bo bn bc] 30))
            have H5 := Lib.hid h5.busy
            have z3 : (20 : Int) < (i : Int) := by omega
            clear h1 h2 h3 h4 h5 HS HR
            go_wp2_with (go_at_call 15; refine H5.out.mono ?_; rintro e w5 ⟨rfl, hw⟩; rw [← hw]; clear hw)
            go_ret
            exact ⟨rfl, HB4.out⟩
          · have hjM1 : j + 1 = M := by have : (i : Int) = (M : Int) := by simpa using z2
                                        omega
            have hw : decide (j + 1 = M) = true := decide_eq_true hjM1
            rw [hw] at hln ⊢
            replace hln := hln rfl
            have z3 : ((20 : Int) < (i : Int)) = False := eq_false (by omega)
            have z4 : (lines : Int) = (M : Int) := by omega
            have z5 : ((lines : Int) == (M : Int)) = true := by simpa using z4
            have HIJ := Lib.hid hij
            have HJM := Lib.hid hjM1
            have hi20 : i ≤ 20 := by omega
            clear h1 h2 h3 HS HR hw hln z4 hij hjM1 hjM hj20 hlt h20
            go_wp2
            go_roundw
            case rel => exact ⟨i + 1, j + 1, by have := HIJ.out; omega, by have := HJM.out; omega, by have := HIJ.out; omega, by go_num, ⟨HB4.out, fun e => by have := HJM.out; omega⟩⟩
            case measure => have := HIJ.out; have := HJM.out; simp [intOf]; omega
        · have z2 : ((i : Int) == (M : Int)) = false := beq_eq_false_iff_ne.2 (by omega)
          rw [if_neg hl] at hS
          have HS := Lib.hid hS
          clear hS
          go_wp2_with fail
          refine HS.out.mono ?_
          rintro e w4 ⟨c, lo, lc, bo, bn, bc, rfl, h1, h2, h3⟩
          have HB4 := Lib.hid (h1.alloc h1.size (.cells #[.string c, .slice lo lines lc, .slice bo bn bc] 30))
          rcases hk with ⟨h20, rfl, rfl⟩ | ⟨h20, rfl, rfl, hln⟩
          · obtain ⟨F4, h4⟩ := h2 rfl
            have h5 := h4.next ((Below.refl w4.heap.size w4).alloc (Nat.le_refl _) (.cells #[.string c, .slice lo lines lc, .slice bo bn bc] 30))
            have H5 := Lib.hid h5.busy
            have z3 : (20 : Int) < (i : Int) := by omega
            clear h1 h2 h3 h4 h5 HS HR
            go_wp2_with (go_at_call 15; refine H5.out.mono ?_; rintro e w5 ⟨rfl, hw⟩; rw [← hw]; clear hw)
            go_ret
            exact ⟨rfl, HB4.out⟩
          · have hw : decide (j + 1 = M) = false := decide_eq_false hl
            rw [hw] at hln ⊢
            obtain ⟨F4, h4⟩ := h3 rfl (by omega)
            have h5 := h4.next ((Below.refl w4.heap.size w4).alloc (Nat.le_refl _) (.cells #[.string c, .slice lo lines lc, .slice bo bn bc] 30))
            have H5 := Lib.hid h5
            have z3 : ((20 : Int) < (i : Int)) = False := eq_false (by omega)
            have HIJ := Lib.hid hij
            have HJM := Lib.hid hlt
            have hi20 : i ≤ 20 := by omega
            clear h1 h2 h3 h4 h5 HS HR hw hln hij hjM hj20 hlt h20 hl
            go_wp2
            go_roundw
            case rel => exact ⟨i + 1, j + 1, by have := HIJ.out; omega, by have := HJM.out; omega, by have := HIJ.out; omega, by go_num, ⟨HB4.out, fun _ => ⟨F4, H5.out⟩⟩⟩
            case measure => have := HIJ.out; have := HJM.out; simp [intOf]; omega
      · have z1 : (((i : Nat) : Int) ≤ (M : Int)) = False := eq_false (by omega)
        have z2 : ((M : Int) ≤ 20) := by omega
        have HB := Lib.hid HR.out.1
        clear hij hjM hj20 hlt HR
        go_wp2
        go_ret
        exact ⟨rfl, HB.out⟩
end Go.Proofs.YtnodngcfjdghcaaDoor
