/- CheckCodes walked (layer 17). Laid by wip/tools/gen_cklc.py. -/
import Derived.Test.YthlbociimbpgkaaDoorCF
import Derived.Test.YthlbociimbpgkaaDoorCheckCd
import Derived.Test.YthlbociimbpgkaaDoorPR
import Derived.Test.YthlbociimbpgkaaDoorLR
namespace Go.Proofs.YthlbociimbpgkaaDoor
open Go.RowKit

theorem six_sums (Q : List UInt8) (LQ : Nat) (lQ : Q.length = LQ) (hql : LQ ≤ 202) : ∃ GA GB SA SB IA IB : List UInt8, ∃ LGA LGB LSA LSB LIA LIB : Nat,
    ([103, 114, 101, 101, 116, 32] ++ Q = GA ∧ (⟨#[103, 114, 101, 101, 116, 32]⟩ ++ ⟨Q.toArray⟩ : ByteArray) = ⟨GA.toArray⟩ ∧ GA.length = LGA ∧ LGA ≤ 400 ∧ (⟨GA.toArray⟩ : ByteArray).size = LGA) ∧
    (GA ++ [59] = GB ∧ (⟨GA.toArray⟩ ++ ⟨#[59]⟩ : ByteArray) = ⟨GB.toArray⟩ ∧ GB.length = LGB ∧ LGB ≤ 500 ∧ (⟨GB.toArray⟩ : ByteArray).size = LGB) ∧
    ([115, 101, 110, 100, 32, 34, 120, 34, 32] ++ Q = SA ∧ (⟨#[115, 101, 110, 100, 32, 34, 120, 34, 32]⟩ ++ ⟨Q.toArray⟩ : ByteArray) = ⟨SA.toArray⟩ ∧ SA.length = LSA ∧ LSA ≤ 400 ∧ (⟨SA.toArray⟩ : ByteArray).size = LSA) ∧
    (SA ++ [59] = SB ∧ (⟨SA.toArray⟩ ++ ⟨#[59]⟩ : ByteArray) = ⟨SB.toArray⟩ ∧ SB.length = LSB ∧ LSB ≤ 500 ∧ (⟨SB.toArray⟩ : ByteArray).size = LSB) ∧
    ([105, 102, 32, 99, 111, 100, 101, 32] ++ Q = IA ∧ (⟨#[105, 102, 32, 99, 111, 100, 101, 32]⟩ ++ ⟨Q.toArray⟩ : ByteArray) = ⟨IA.toArray⟩ ∧ IA.length = LIA ∧ LIA ≤ 400 ∧ (⟨IA.toArray⟩ : ByteArray).size = LIA) ∧
    (IA ++ [32, 123, 125] = IB ∧ (⟨IA.toArray⟩ ++ ⟨#[32, 123, 125]⟩ : ByteArray) = ⟨IB.toArray⟩ ∧ IB.length = LIB ∧ LIB ≤ 500 ∧ (⟨IB.toArray⟩ : ByteArray).size = LIB) := by
  obtain ⟨GA, hGA⟩ : ∃ y, [103, 114, 101, 101, 116, 32] ++ Q = y := ⟨_, rfl⟩
  have sGA : (⟨#[103, 114, 101, 101, 116, 32]⟩ ++ ⟨Q.toArray⟩ : ByteArray) = ⟨GA.toArray⟩ := by rw [← hGA]; exact ba_append [103, 114, 101, 101, 116, 32] Q
  obtain ⟨LGA, lGA⟩ : ∃ y, GA.length = y := ⟨_, rfl⟩
  have bGA : LGA ≤ 400 := by have := congrArg List.length hGA; rw [List.length_append] at this; simp only [List.length_cons, List.length_nil] at this; omega
  have zGA : (⟨GA.toArray⟩ : ByteArray).size = LGA := lGA
  obtain ⟨GB, hGB⟩ : ∃ y, GA ++ [59] = y := ⟨_, rfl⟩
  have sGB : (⟨GA.toArray⟩ ++ ⟨#[59]⟩ : ByteArray) = ⟨GB.toArray⟩ := by rw [← hGB]; exact ba_append GA [59]
  obtain ⟨LGB, lGB⟩ : ∃ y, GB.length = y := ⟨_, rfl⟩
  have bGB : LGB ≤ 500 := by have := congrArg List.length hGB; rw [List.length_append] at this; simp only [List.length_cons, List.length_nil] at this; omega
  have zGB : (⟨GB.toArray⟩ : ByteArray).size = LGB := lGB
  obtain ⟨SA, hSA⟩ : ∃ y, [115, 101, 110, 100, 32, 34, 120, 34, 32] ++ Q = y := ⟨_, rfl⟩
  have sSA : (⟨#[115, 101, 110, 100, 32, 34, 120, 34, 32]⟩ ++ ⟨Q.toArray⟩ : ByteArray) = ⟨SA.toArray⟩ := by rw [← hSA]; exact ba_append [115, 101, 110, 100, 32, 34, 120, 34, 32] Q
  obtain ⟨LSA, lSA⟩ : ∃ y, SA.length = y := ⟨_, rfl⟩
  have bSA : LSA ≤ 400 := by have := congrArg List.length hSA; rw [List.length_append] at this; simp only [List.length_cons, List.length_nil] at this; omega
  have zSA : (⟨SA.toArray⟩ : ByteArray).size = LSA := lSA
  obtain ⟨SB, hSB⟩ : ∃ y, SA ++ [59] = y := ⟨_, rfl⟩
  have sSB : (⟨SA.toArray⟩ ++ ⟨#[59]⟩ : ByteArray) = ⟨SB.toArray⟩ := by rw [← hSB]; exact ba_append SA [59]
  obtain ⟨LSB, lSB⟩ : ∃ y, SB.length = y := ⟨_, rfl⟩
  have bSB : LSB ≤ 500 := by have := congrArg List.length hSB; rw [List.length_append] at this; simp only [List.length_cons, List.length_nil] at this; omega
  have zSB : (⟨SB.toArray⟩ : ByteArray).size = LSB := lSB
  obtain ⟨IA, hIA⟩ : ∃ y, [105, 102, 32, 99, 111, 100, 101, 32] ++ Q = y := ⟨_, rfl⟩
  have sIA : (⟨#[105, 102, 32, 99, 111, 100, 101, 32]⟩ ++ ⟨Q.toArray⟩ : ByteArray) = ⟨IA.toArray⟩ := by rw [← hIA]; exact ba_append [105, 102, 32, 99, 111, 100, 101, 32] Q
  obtain ⟨LIA, lIA⟩ : ∃ y, IA.length = y := ⟨_, rfl⟩
  have bIA : LIA ≤ 400 := by have := congrArg List.length hIA; rw [List.length_append] at this; simp only [List.length_cons, List.length_nil] at this; omega
  have zIA : (⟨IA.toArray⟩ : ByteArray).size = LIA := lIA
  obtain ⟨IB, hIB⟩ : ∃ y, IA ++ [32, 123, 125] = y := ⟨_, rfl⟩
  have sIB : (⟨IA.toArray⟩ ++ ⟨#[32, 123, 125]⟩ : ByteArray) = ⟨IB.toArray⟩ := by rw [← hIB]; exact ba_append IA [32, 123, 125]
  obtain ⟨LIB, lIB⟩ : ∃ y, IB.length = y := ⟨_, rfl⟩
  have bIB : LIB ≤ 500 := by have := congrArg List.length hIB; rw [List.length_append] at this; simp only [List.length_cons, List.length_nil] at this; omega
  have zIB : (⟨IB.toArray⟩ : ByteArray).size = LIB := lIB
  exact ⟨GA, GB, SA, SB, IA, IB, LGA, LGB, LSA, LSB, LIA, LIB, ⟨hGA, sGA, lGA, bGA, zGA⟩, ⟨hGB, sGB, lGB, bGB, zGB⟩, ⟨hSA, sSA, lSA, bSA, zSA⟩, ⟨hSB, sSB, lSB, bSB, zSB⟩, ⟨hIA, sIA, lIA, bIA, zIA⟩, ⟨hIB, sIB, lIB, bIB, zIB⟩⟩
theorem mayq {x : List UInt8} (h : ∀ b ∈ x, 32 ≤ b.toNat ∧ b.toNat ≤ 126) : x.all Lx.mayQ = true := by
  rw [List.all_eq_true]
  intro b hb
  have := h b hb
  simp [Lx.mayQ]
  omega
set_option maxRecDepth 200000 in
set_option maxHeartbeats 16000000 in
theorem codes_way (A B : Nat) (s : ByteArray) (hA : A < 256) (hB : B < 256) (hs0 : s.size ≤ maxLen) (w : World) (hS : SHP w) :
    Calls Tryd.prog 6 #[.int .u8 (A : Int), .string s, .int .u8 (B : Int)] w fun e w' => e = .returned (.bool true) ∧ Below w.heap.size w w' := by
  have SW := shown_any w hS
  have hs : s.size ≤ 9223372036854775807 := by unfold maxLen at hs0; omega
  have HS := Lib.hid hS
  obtain ⟨m, hm⟩ : ∃ m : Nat, (A : Int).tmod 3 = (m : Int) := ⟨A % 3, by rw [Int.tmod_eq_emod_of_nonneg (by omega)]; rfl⟩
  have hm3 : m < 3 := by rw [Int.tmod_eq_emod_of_nonneg (by omega)] at hm; omega
  obtain ⟨k, hk⟩ : ∃ k : Nat, (B : Int).tmod 3 = (k : Int) := ⟨B % 3, by rw [Int.tmod_eq_emod_of_nonneg (by omega)]; rfl⟩
  have hk3 : k < 3 := by rw [Int.tmod_eq_emod_of_nonneg (by omega)] at hk; omega
  have hm2 : (A : Int) % 3 = (m : Int) := by rw [← hm, Int.tmod_eq_emod_of_nonneg (by omega)]
  have hk2 : (B : Int) % 3 = (k : Int) := by rw [← hk, Int.tmod_eq_emod_of_nonneg (by omega)]
  clear hs0 hS
  go_enter Tryd.func6, Tryd.ntmps6
  go_wp2_with fail
  refine SW.mono ?_
  rintro e wa ⟨rfl, hba⟩
  have HBA := Lib.hid hba
  have HSA := Lib.hid (HS.out.below hba)
  clear hba SW HS
  go_wp2
  go_loopw [9, 10] (fun o i wr => ∃ (k m : Nat) (x : List UInt8), k ≤ s.size ∧ i = .int .i64 k ∧ o = .string ⟨x.toArray⟩ ∧ x.length = m ∧ m ≤ 40 ∧ Hid (∀ b ∈ x, 32 ≤ b.toNat ∧ b.toNat ≤ 126) ∧ wr = wa) (fun _ i _ => s.size - (intOf i).toNat)
  case atStart => exact ⟨0, 0, [], Nat.zero_le _, rfl, rfl, rfl, Nat.zero_le _, (fun b hb => by simp at hb), rfl⟩
  case round =>
    obtain ⟨i, n, X, hk1, rfl, rfl, hn, hnk, HXP, rfl⟩ := hrel
    have hz : (⟨X.toArray⟩ : ByteArray).size = n := hn
    have HN := Lib.hid hn
    have HXL := Lib.hid (show X.length ≤ 40 by rw [hn]; exact hnk)
    have HMQ := Lib.hid (mayq HXP.out)
    by_cases hlt : i < s.size
    · by_cases h2 : n < 40
      · have hone := one_byte_atS s i hlt
        obtain ⟨c, hc⟩ : ∃ c, c = s[i]'hlt := ⟨_, rfl⟩
        rw [← hc] at hone
        have hcn : ((s[i]'hlt).toNat : Int) = (c.toNat : Int) := by rw [hc]
        by_cases h97 : 32 ≤ c.toNat
        · have q1 : ((32 : Int) ≤ ((s[i]'hlt).toNat : Int)) = True := eq_true (by omega)
          by_cases h122 : c.toNat ≤ 126
          · have q2 : (((s[i]'hlt).toNat : Int) ≤ 126) = True := eq_true (by omega)
            have HY := Lib.hid (show ∀ b ∈ X ++ [c], 32 ≤ b.toNat ∧ b.toNat ≤ 126 by
              intro b hb
              rcases List.mem_append.1 hb with hb | hb
              · exact HXP.out b hb
              · rw [List.mem_singleton.1 hb]
                exact ⟨h97, h122⟩)
            have hj : (⟨X.toArray⟩ : ByteArray) ++ ⟨[c].toArray⟩ = ⟨(X ++ [c]).toArray⟩ := ByteArray.mk_append_mk _ _
            have hl2 : (X ++ [c]).length = n + 1 := by rw [List.length_append, hn]; rfl
            have hsz : (⟨[c].toArray⟩ : ByteArray).size = 1 := rfl
            obtain ⟨Y, hY⟩ : ∃ Y, X ++ [c] = Y := ⟨_, rfl⟩
            rw [hY] at hj HY hl2
            clear hcn h97 h122 hc hY hn
            go_wp2
            go_roundw
            case rel => exact ⟨i + 1, n + 1, Y, by omega, by go_num, by first | rfl | simp only [hj], hl2, by omega, HY, by first | rfl | trivial⟩
            case measure => simp [intOf]; omega
          · have q2 : (((s[i]'hlt).toNat : Int) ≤ 126) = False := eq_false (by omega)
            clear hone hcn h97 h122 hc
            go_wp2
            go_roundw
            case rel => exact ⟨i + 1, n, X, by omega, by go_num, rfl, hn, hnk, HXP, by first | rfl | trivial⟩
            case measure => simp [intOf]; omega
        · have q1 : ((32 : Int) ≤ ((s[i]'hlt).toNat : Int)) = False := eq_false (by omega)
          clear hone hcn h97 hc
          go_wp2
          go_roundw
          case rel => exact ⟨i + 1, n, X, by omega, by go_num, rfl, hn, hnk, HXP, by first | rfl | trivial⟩
          case measure => simp [intOf]; omega
      · have h2' : (n < 40) = False := eq_false h2
        clear hn
        obtain ⟨Q, hQ⟩ : ∃ Q, Ps.quoteS X = Q := ⟨_, rfl⟩
        have RQ := rquote_any X (by have := HXL.out; omega) HXP.out wr
        rw [hQ] at RQ
        have hql : Q.length ≤ 202 := by
          rw [← hQ]
          exact Ps.quote_len HXL.out
        obtain ⟨LQ, lQ⟩ : ∃ y, Q.length = y := ⟨_, rfl⟩
        rw [lQ] at hql
        have zQ : (⟨Q.toArray⟩ : ByteArray).size = LQ := lQ
        have HQL := Lib.hid (⟨hQ, trivial⟩ : _ ∧ True)
        clear hQ
        obtain ⟨GA, GB, SA, SB, IA, IB, LGA, LGB, LSA, LSB, LIA, LIB, ⟨hGA, sGA, lGA, bGA, zGA⟩, ⟨hGB, sGB, lGB, bGB, zGB⟩, ⟨hSA, sSA, lSA, bSA, zSA⟩, ⟨hSB, sSB, lSB, bSB, zSB⟩, ⟨hIA, sIA, lIA, bIA, zIA⟩, ⟨hIB, sIB, lIB, bIB, zIB⟩⟩ := six_sums Q LQ lQ hql
        go_wp2_with fail
        refine RQ.mono ?_
        rintro e w1 ⟨rfl, hw⟩
        subst hw
        clear RQ
        rcases (by omega : m = 0 ∨ m = 1 ∨ m = 2) with rfl | rfl | rfl
        · rcases (by omega : k = 0 ∨ k = 1 ∨ k = 2) with rfl | rfl | rfl
          · have m1 : (⟨#[109, 111, 100, 101, 32]⟩ ++ ⟨#[115, 109, 116, 112]⟩ : ByteArray) = ⟨#[109, 111, 100, 101, 32, 115, 109, 116, 112]⟩ := ba_append [109, 111, 100, 101, 32] [115, 109, 116, 112]
            have m2 : (⟨#[109, 111, 100, 101, 32, 115, 109, 116, 112]⟩ ++ ⟨#[59]⟩ : ByteArray) = ⟨#[109, 111, 100, 101, 32, 115, 109, 116, 112, 59]⟩ := ba_append [109, 111, 100, 101, 32, 115, 109, 116, 112] [59]
            obtain ⟨FT, hFT⟩ : ∃ y, [109, 111, 100, 101, 32, 115, 109, 116, 112, 59] ++ GB = y := ⟨_, rfl⟩
            have sFT : (⟨#[109, 111, 100, 101, 32, 115, 109, 116, 112, 59]⟩ ++ ⟨GB.toArray⟩ : ByteArray) = ⟨FT.toArray⟩ := by rw [← hFT]; exact ba_append [109, 111, 100, 101, 32, 115, 109, 116, 112, 59] GB
            obtain ⟨LFT, lFT⟩ : ∃ y, FT.length = y := ⟨_, rfl⟩
            have bFT : LFT ≤ 600 := by have := congrArg List.length hFT; rw [List.length_append] at this; simp only [List.length_cons, List.length_nil] at this; omega
            have zFT : (⟨FT.toArray⟩ : ByteArray).size = LFT := lFT
            have hft : Ps.begins [115, 109, 116, 112] ++ Ck.stmtQ 0 X = FT := by
              rw [← hFT, ← hGB, ← hGA, ← HQL.out.1]
              simp [Ps.begins, Ps.wMode, Ck.stmtQ, Ck.preW, Ck.postW, Ps.quoteS]
            obtain ⟨md, row, top, p, c, _, hpc, hout⟩ := source_out FT
            have SRC := source_any FT (by omega) wr (HSA.out)
            have hlaw := Ck.codes_law (x := [115, 109, 116, 112]) (by decide) (w := 0) (by decide) (c := X) ⟨by have := HXL.out; omega, HMQ.out⟩
            rw [hft] at hlaw
            have hmd : Ps.mode [115, 109, 116, 112] = 1 := by decide
            rw [hmd] at hlaw
            have RC := fun wx => rcodes_any 1 X (by have := HXL.out; omega) wx
            have HOUT := Lib.hid hout
            have SRC2 := Lib.hid (fun wx (hx : Below wr.heap.size wr wx) => source_any FT (by omega) wx (HSA.out.below hx))
            clear SRC hft hout
            cases hcd : Ln.codes (1 : Int) X with
            | true =>
              have h0 : c = 0 := by
                obtain ⟨q, hq⟩ := hlaw.1 hcd
                rcases hpc with ⟨h1, _, _⟩ | ⟨_, h1, _⟩
                · exact h1
                · rw [hq] at h1; cases h1
              subst h0
              have RCT := Lib.hid (fun wx => (RC wx).mono (fun e w' (h : e = .returned (.bool (Ln.codes (1 : Int) X)) ∧ Below wx.heap.size wx w') => (by rw [hcd] at h; exact h : e = .returned (.bool true) ∧ Below wx.heap.size wx w')))
              clear hlaw hpc hcd RC hFT hGA hGB hSA hSB hIA hIB
              have SX := fun o o' => SRC2.out ((wr.alloc o).alloc o') (below_two (Below.refl _ wr) o o' (Nat.le_refl _))
              go_wp2_with fail
              refine (SX _ _).mono ?_
              rintro e w2 hP
              obtain ⟨a1, c1, u1, d1, hb2, rfl, _⟩ := HOUT.out _ _ _ hP
              have hb12 : Below wr.heap.size wr w2 := Below.trans (below_two (Below.refl _ wr) _ _ (Nat.le_refl _)) (hb2.mono (by simp; omega))
              have HB2 := Lib.hid (HBA.out.trans (hb12.mono HBA.out.size))
              clear hP hb2 SX hb12
              go_wp2_with fail
              refine (RCT.out _).mono ?_
              rintro e w3 ⟨rfl, hb3⟩
              have HB3 := Lib.hid ((HB2.out.alloc HB2.out.size _).trans (hb3.mono (HB2.out.alloc HB2.out.size _).size))
              clear hb3
              go_wp2
              go_ret
              exact ⟨rfl, HB3.out⟩
            | false =>
              have h0 : c = 34 := by
                obtain ⟨q, hq⟩ := hlaw.2 hcd
                rcases hpc with ⟨_, h1, _⟩ | ⟨_, h1, _⟩
                · rw [hq] at h1; cases h1
                · rw [hq] at h1
                  injection h1 with h2
                  exact (Prod.mk.inj h2).2.symm
              subst h0
              have RCT := Lib.hid (fun wx => (RC wx).mono (fun e w' (h : e = .returned (.bool (Ln.codes (1 : Int) X)) ∧ Below wx.heap.size wx w') => (by rw [hcd] at h; exact h : e = .returned (.bool false) ∧ Below wx.heap.size wx w')))
              clear hlaw hpc hcd RC hFT hGA hGB hSA hSB hIA hIB
              have SX := fun o o' => SRC2.out ((wr.alloc o).alloc o') (below_two (Below.refl _ wr) o o' (Nat.le_refl _))
              go_wp2_with fail
              refine (SX _ _).mono ?_
              rintro e w2 hP
              obtain ⟨a1, c1, u1, d1, hb2, rfl, _⟩ := HOUT.out _ _ _ hP
              have hb12 : Below wr.heap.size wr w2 := Below.trans (below_two (Below.refl _ wr) _ _ (Nat.le_refl _)) (hb2.mono (by simp; omega))
              have HB2 := Lib.hid (HBA.out.trans (hb12.mono HBA.out.size))
              clear hP hb2 SX hb12
              go_wp2_with fail
              refine (RCT.out _).mono ?_
              rintro e w3 ⟨rfl, hb3⟩
              have HB3 := Lib.hid ((HB2.out.alloc HB2.out.size _).trans (hb3.mono (HB2.out.alloc HB2.out.size _).size))
              clear hb3
              go_wp2
              go_ret
              exact ⟨rfl, HB3.out⟩
          · have m1 : (⟨#[109, 111, 100, 101, 32]⟩ ++ ⟨#[115, 109, 116, 112]⟩ : ByteArray) = ⟨#[109, 111, 100, 101, 32, 115, 109, 116, 112]⟩ := ba_append [109, 111, 100, 101, 32] [115, 109, 116, 112]
            have m2 : (⟨#[109, 111, 100, 101, 32, 115, 109, 116, 112]⟩ ++ ⟨#[59]⟩ : ByteArray) = ⟨#[109, 111, 100, 101, 32, 115, 109, 116, 112, 59]⟩ := ba_append [109, 111, 100, 101, 32, 115, 109, 116, 112] [59]
            obtain ⟨FT, hFT⟩ : ∃ y, [109, 111, 100, 101, 32, 115, 109, 116, 112, 59] ++ SB = y := ⟨_, rfl⟩
            have sFT : (⟨#[109, 111, 100, 101, 32, 115, 109, 116, 112, 59]⟩ ++ ⟨SB.toArray⟩ : ByteArray) = ⟨FT.toArray⟩ := by rw [← hFT]; exact ba_append [109, 111, 100, 101, 32, 115, 109, 116, 112, 59] SB
            obtain ⟨LFT, lFT⟩ : ∃ y, FT.length = y := ⟨_, rfl⟩
            have bFT : LFT ≤ 600 := by have := congrArg List.length hFT; rw [List.length_append] at this; simp only [List.length_cons, List.length_nil] at this; omega
            have zFT : (⟨FT.toArray⟩ : ByteArray).size = LFT := lFT
            have hft : Ps.begins [115, 109, 116, 112] ++ Ck.stmtQ 1 X = FT := by
              rw [← hFT, ← hSB, ← hSA, ← HQL.out.1]
              simp [Ps.begins, Ps.wMode, Ck.stmtQ, Ck.preW, Ck.postW, Ps.quoteS]
            obtain ⟨md, row, top, p, c, _, hpc, hout⟩ := source_out FT
            have SRC := source_any FT (by omega) wr (HSA.out)
            have hlaw := Ck.codes_law (x := [115, 109, 116, 112]) (by decide) (w := 1) (by decide) (c := X) ⟨by have := HXL.out; omega, HMQ.out⟩
            rw [hft] at hlaw
            have hmd : Ps.mode [115, 109, 116, 112] = 1 := by decide
            rw [hmd] at hlaw
            have RC := fun wx => rcodes_any 1 X (by have := HXL.out; omega) wx
            have HOUT := Lib.hid hout
            have SRC2 := Lib.hid (fun wx (hx : Below wr.heap.size wr wx) => source_any FT (by omega) wx (HSA.out.below hx))
            clear SRC hft hout
            cases hcd : Ln.codes (1 : Int) X with
            | true =>
              have h0 : c = 0 := by
                obtain ⟨q, hq⟩ := hlaw.1 hcd
                rcases hpc with ⟨h1, _, _⟩ | ⟨_, h1, _⟩
                · exact h1
                · rw [hq] at h1; cases h1
              subst h0
              have RCT := Lib.hid (fun wx => (RC wx).mono (fun e w' (h : e = .returned (.bool (Ln.codes (1 : Int) X)) ∧ Below wx.heap.size wx w') => (by rw [hcd] at h; exact h : e = .returned (.bool true) ∧ Below wx.heap.size wx w')))
              clear hlaw hpc hcd RC hFT hGA hGB hSA hSB hIA hIB
              have SX := fun o o' => SRC2.out ((wr.alloc o).alloc o') (below_two (Below.refl _ wr) o o' (Nat.le_refl _))
              go_wp2_with fail
              refine (SX _ _).mono ?_
              rintro e w2 hP
              obtain ⟨a1, c1, u1, d1, hb2, rfl, _⟩ := HOUT.out _ _ _ hP
              have hb12 : Below wr.heap.size wr w2 := Below.trans (below_two (Below.refl _ wr) _ _ (Nat.le_refl _)) (hb2.mono (by simp; omega))
              have HB2 := Lib.hid (HBA.out.trans (hb12.mono HBA.out.size))
              clear hP hb2 SX hb12
              go_wp2_with fail
              refine (RCT.out _).mono ?_
              rintro e w3 ⟨rfl, hb3⟩
              have HB3 := Lib.hid ((HB2.out.alloc HB2.out.size _).trans (hb3.mono (HB2.out.alloc HB2.out.size _).size))
              clear hb3
              go_wp2
              go_ret
              exact ⟨rfl, HB3.out⟩
            | false =>
              have h0 : c = 34 := by
                obtain ⟨q, hq⟩ := hlaw.2 hcd
                rcases hpc with ⟨_, h1, _⟩ | ⟨_, h1, _⟩
                · rw [hq] at h1; cases h1
                · rw [hq] at h1
                  injection h1 with h2
                  exact (Prod.mk.inj h2).2.symm
              subst h0
              have RCT := Lib.hid (fun wx => (RC wx).mono (fun e w' (h : e = .returned (.bool (Ln.codes (1 : Int) X)) ∧ Below wx.heap.size wx w') => (by rw [hcd] at h; exact h : e = .returned (.bool false) ∧ Below wx.heap.size wx w')))
              clear hlaw hpc hcd RC hFT hGA hGB hSA hSB hIA hIB
              have SX := fun o o' => SRC2.out ((wr.alloc o).alloc o') (below_two (Below.refl _ wr) o o' (Nat.le_refl _))
              go_wp2_with fail
              refine (SX _ _).mono ?_
              rintro e w2 hP
              obtain ⟨a1, c1, u1, d1, hb2, rfl, _⟩ := HOUT.out _ _ _ hP
              have hb12 : Below wr.heap.size wr w2 := Below.trans (below_two (Below.refl _ wr) _ _ (Nat.le_refl _)) (hb2.mono (by simp; omega))
              have HB2 := Lib.hid (HBA.out.trans (hb12.mono HBA.out.size))
              clear hP hb2 SX hb12
              go_wp2_with fail
              refine (RCT.out _).mono ?_
              rintro e w3 ⟨rfl, hb3⟩
              have HB3 := Lib.hid ((HB2.out.alloc HB2.out.size _).trans (hb3.mono (HB2.out.alloc HB2.out.size _).size))
              clear hb3
              go_wp2
              go_ret
              exact ⟨rfl, HB3.out⟩
          · have m1 : (⟨#[109, 111, 100, 101, 32]⟩ ++ ⟨#[115, 109, 116, 112]⟩ : ByteArray) = ⟨#[109, 111, 100, 101, 32, 115, 109, 116, 112]⟩ := ba_append [109, 111, 100, 101, 32] [115, 109, 116, 112]
            have m2 : (⟨#[109, 111, 100, 101, 32, 115, 109, 116, 112]⟩ ++ ⟨#[59]⟩ : ByteArray) = ⟨#[109, 111, 100, 101, 32, 115, 109, 116, 112, 59]⟩ := ba_append [109, 111, 100, 101, 32, 115, 109, 116, 112] [59]
            obtain ⟨FT, hFT⟩ : ∃ y, [109, 111, 100, 101, 32, 115, 109, 116, 112, 59] ++ IB = y := ⟨_, rfl⟩
            have sFT : (⟨#[109, 111, 100, 101, 32, 115, 109, 116, 112, 59]⟩ ++ ⟨IB.toArray⟩ : ByteArray) = ⟨FT.toArray⟩ := by rw [← hFT]; exact ba_append [109, 111, 100, 101, 32, 115, 109, 116, 112, 59] IB
            obtain ⟨LFT, lFT⟩ : ∃ y, FT.length = y := ⟨_, rfl⟩
            have bFT : LFT ≤ 600 := by have := congrArg List.length hFT; rw [List.length_append] at this; simp only [List.length_cons, List.length_nil] at this; omega
            have zFT : (⟨FT.toArray⟩ : ByteArray).size = LFT := lFT
            have hft : Ps.begins [115, 109, 116, 112] ++ Ck.stmtQ 2 X = FT := by
              rw [← hFT, ← hIB, ← hIA, ← HQL.out.1]
              simp [Ps.begins, Ps.wMode, Ck.stmtQ, Ck.preW, Ck.postW, Ps.quoteS]
            obtain ⟨md, row, top, p, c, _, hpc, hout⟩ := source_out FT
            have SRC := source_any FT (by omega) wr (HSA.out)
            have hlaw := Ck.codes_law (x := [115, 109, 116, 112]) (by decide) (w := 2) (by decide) (c := X) ⟨by have := HXL.out; omega, HMQ.out⟩
            rw [hft] at hlaw
            have hmd : Ps.mode [115, 109, 116, 112] = 1 := by decide
            rw [hmd] at hlaw
            have RC := fun wx => rcodes_any 1 X (by have := HXL.out; omega) wx
            have HOUT := Lib.hid hout
            have SRC2 := Lib.hid (fun wx (hx : Below wr.heap.size wr wx) => source_any FT (by omega) wx (HSA.out.below hx))
            clear SRC hft hout
            cases hcd : Ln.codes (1 : Int) X with
            | true =>
              have h0 : c = 0 := by
                obtain ⟨q, hq⟩ := hlaw.1 hcd
                rcases hpc with ⟨h1, _, _⟩ | ⟨_, h1, _⟩
                · exact h1
                · rw [hq] at h1; cases h1
              subst h0
              have RCT := Lib.hid (fun wx => (RC wx).mono (fun e w' (h : e = .returned (.bool (Ln.codes (1 : Int) X)) ∧ Below wx.heap.size wx w') => (by rw [hcd] at h; exact h : e = .returned (.bool true) ∧ Below wx.heap.size wx w')))
              clear hlaw hpc hcd RC hFT hGA hGB hSA hSB hIA hIB
              have SX := fun o o' => SRC2.out ((wr.alloc o).alloc o') (below_two (Below.refl _ wr) o o' (Nat.le_refl _))
              go_wp2_with fail
              refine (SX _ _).mono ?_
              rintro e w2 hP
              obtain ⟨a1, c1, u1, d1, hb2, rfl, _⟩ := HOUT.out _ _ _ hP
              have hb12 : Below wr.heap.size wr w2 := Below.trans (below_two (Below.refl _ wr) _ _ (Nat.le_refl _)) (hb2.mono (by simp; omega))
              have HB2 := Lib.hid (HBA.out.trans (hb12.mono HBA.out.size))
              clear hP hb2 SX hb12
              go_wp2_with fail
              refine (RCT.out _).mono ?_
              rintro e w3 ⟨rfl, hb3⟩
              have HB3 := Lib.hid ((HB2.out.alloc HB2.out.size _).trans (hb3.mono (HB2.out.alloc HB2.out.size _).size))
              clear hb3
              go_wp2
              go_ret
              exact ⟨rfl, HB3.out⟩
            | false =>
              have h0 : c = 34 := by
                obtain ⟨q, hq⟩ := hlaw.2 hcd
                rcases hpc with ⟨_, h1, _⟩ | ⟨_, h1, _⟩
                · rw [hq] at h1; cases h1
                · rw [hq] at h1
                  injection h1 with h2
                  exact (Prod.mk.inj h2).2.symm
              subst h0
              have RCT := Lib.hid (fun wx => (RC wx).mono (fun e w' (h : e = .returned (.bool (Ln.codes (1 : Int) X)) ∧ Below wx.heap.size wx w') => (by rw [hcd] at h; exact h : e = .returned (.bool false) ∧ Below wx.heap.size wx w')))
              clear hlaw hpc hcd RC hFT hGA hGB hSA hSB hIA hIB
              have SX := fun o o' => SRC2.out ((wr.alloc o).alloc o') (below_two (Below.refl _ wr) o o' (Nat.le_refl _))
              go_wp2_with fail
              refine (SX _ _).mono ?_
              rintro e w2 hP
              obtain ⟨a1, c1, u1, d1, hb2, rfl, _⟩ := HOUT.out _ _ _ hP
              have hb12 : Below wr.heap.size wr w2 := Below.trans (below_two (Below.refl _ wr) _ _ (Nat.le_refl _)) (hb2.mono (by simp; omega))
              have HB2 := Lib.hid (HBA.out.trans (hb12.mono HBA.out.size))
              clear hP hb2 SX hb12
              go_wp2_with fail
              refine (RCT.out _).mono ?_
              rintro e w3 ⟨rfl, hb3⟩
              have HB3 := Lib.hid ((HB2.out.alloc HB2.out.size _).trans (hb3.mono (HB2.out.alloc HB2.out.size _).size))
              clear hb3
              go_wp2
              go_ret
              exact ⟨rfl, HB3.out⟩
        · rcases (by omega : k = 0 ∨ k = 1 ∨ k = 2) with rfl | rfl | rfl
          · have m1 : (⟨#[109, 111, 100, 101, 32]⟩ ++ ⟨#[112, 111, 112, 51]⟩ : ByteArray) = ⟨#[109, 111, 100, 101, 32, 112, 111, 112, 51]⟩ := ba_append [109, 111, 100, 101, 32] [112, 111, 112, 51]
            have m2 : (⟨#[109, 111, 100, 101, 32, 112, 111, 112, 51]⟩ ++ ⟨#[59]⟩ : ByteArray) = ⟨#[109, 111, 100, 101, 32, 112, 111, 112, 51, 59]⟩ := ba_append [109, 111, 100, 101, 32, 112, 111, 112, 51] [59]
            obtain ⟨FT, hFT⟩ : ∃ y, [109, 111, 100, 101, 32, 112, 111, 112, 51, 59] ++ GB = y := ⟨_, rfl⟩
            have sFT : (⟨#[109, 111, 100, 101, 32, 112, 111, 112, 51, 59]⟩ ++ ⟨GB.toArray⟩ : ByteArray) = ⟨FT.toArray⟩ := by rw [← hFT]; exact ba_append [109, 111, 100, 101, 32, 112, 111, 112, 51, 59] GB
            obtain ⟨LFT, lFT⟩ : ∃ y, FT.length = y := ⟨_, rfl⟩
            have bFT : LFT ≤ 600 := by have := congrArg List.length hFT; rw [List.length_append] at this; simp only [List.length_cons, List.length_nil] at this; omega
            have zFT : (⟨FT.toArray⟩ : ByteArray).size = LFT := lFT
            have hft : Ps.begins [112, 111, 112, 51] ++ Ck.stmtQ 0 X = FT := by
              rw [← hFT, ← hGB, ← hGA, ← HQL.out.1]
              simp [Ps.begins, Ps.wMode, Ck.stmtQ, Ck.preW, Ck.postW, Ps.quoteS]
            obtain ⟨md, row, top, p, c, _, hpc, hout⟩ := source_out FT
            have SRC := source_any FT (by omega) wr (HSA.out)
            have hlaw := Ck.codes_law (x := [112, 111, 112, 51]) (by decide) (w := 0) (by decide) (c := X) ⟨by have := HXL.out; omega, HMQ.out⟩
            rw [hft] at hlaw
            have hmd : Ps.mode [112, 111, 112, 51] = 2 := by decide
            rw [hmd] at hlaw
            have RC := fun wx => rcodes_any 2 X (by have := HXL.out; omega) wx
            have HOUT := Lib.hid hout
            have SRC2 := Lib.hid (fun wx (hx : Below wr.heap.size wr wx) => source_any FT (by omega) wx (HSA.out.below hx))
            clear SRC hft hout
            cases hcd : Ln.codes (2 : Int) X with
            | true =>
              have h0 : c = 0 := by
                obtain ⟨q, hq⟩ := hlaw.1 hcd
                rcases hpc with ⟨h1, _, _⟩ | ⟨_, h1, _⟩
                · exact h1
                · rw [hq] at h1; cases h1
              subst h0
              have RCT := Lib.hid (fun wx => (RC wx).mono (fun e w' (h : e = .returned (.bool (Ln.codes (2 : Int) X)) ∧ Below wx.heap.size wx w') => (by rw [hcd] at h; exact h : e = .returned (.bool true) ∧ Below wx.heap.size wx w')))
              clear hlaw hpc hcd RC hFT hGA hGB hSA hSB hIA hIB
              have SX := fun o o' => SRC2.out ((wr.alloc o).alloc o') (below_two (Below.refl _ wr) o o' (Nat.le_refl _))
              go_wp2_with fail
              refine (SX _ _).mono ?_
              rintro e w2 hP
              obtain ⟨a1, c1, u1, d1, hb2, rfl, _⟩ := HOUT.out _ _ _ hP
              have hb12 : Below wr.heap.size wr w2 := Below.trans (below_two (Below.refl _ wr) _ _ (Nat.le_refl _)) (hb2.mono (by simp; omega))
              have HB2 := Lib.hid (HBA.out.trans (hb12.mono HBA.out.size))
              clear hP hb2 SX hb12
              go_wp2_with fail
              refine (RCT.out _).mono ?_
              rintro e w3 ⟨rfl, hb3⟩
              have HB3 := Lib.hid ((HB2.out.alloc HB2.out.size _).trans (hb3.mono (HB2.out.alloc HB2.out.size _).size))
              clear hb3
              go_wp2
              go_ret
              exact ⟨rfl, HB3.out⟩
            | false =>
              have h0 : c = 34 := by
                obtain ⟨q, hq⟩ := hlaw.2 hcd
                rcases hpc with ⟨_, h1, _⟩ | ⟨_, h1, _⟩
                · rw [hq] at h1; cases h1
                · rw [hq] at h1
                  injection h1 with h2
                  exact (Prod.mk.inj h2).2.symm
              subst h0
              have RCT := Lib.hid (fun wx => (RC wx).mono (fun e w' (h : e = .returned (.bool (Ln.codes (2 : Int) X)) ∧ Below wx.heap.size wx w') => (by rw [hcd] at h; exact h : e = .returned (.bool false) ∧ Below wx.heap.size wx w')))
              clear hlaw hpc hcd RC hFT hGA hGB hSA hSB hIA hIB
              have SX := fun o o' => SRC2.out ((wr.alloc o).alloc o') (below_two (Below.refl _ wr) o o' (Nat.le_refl _))
              go_wp2_with fail
              refine (SX _ _).mono ?_
              rintro e w2 hP
              obtain ⟨a1, c1, u1, d1, hb2, rfl, _⟩ := HOUT.out _ _ _ hP
              have hb12 : Below wr.heap.size wr w2 := Below.trans (below_two (Below.refl _ wr) _ _ (Nat.le_refl _)) (hb2.mono (by simp; omega))
              have HB2 := Lib.hid (HBA.out.trans (hb12.mono HBA.out.size))
              clear hP hb2 SX hb12
              go_wp2_with fail
              refine (RCT.out _).mono ?_
              rintro e w3 ⟨rfl, hb3⟩
              have HB3 := Lib.hid ((HB2.out.alloc HB2.out.size _).trans (hb3.mono (HB2.out.alloc HB2.out.size _).size))
              clear hb3
              go_wp2
              go_ret
              exact ⟨rfl, HB3.out⟩
          · have m1 : (⟨#[109, 111, 100, 101, 32]⟩ ++ ⟨#[112, 111, 112, 51]⟩ : ByteArray) = ⟨#[109, 111, 100, 101, 32, 112, 111, 112, 51]⟩ := ba_append [109, 111, 100, 101, 32] [112, 111, 112, 51]
            have m2 : (⟨#[109, 111, 100, 101, 32, 112, 111, 112, 51]⟩ ++ ⟨#[59]⟩ : ByteArray) = ⟨#[109, 111, 100, 101, 32, 112, 111, 112, 51, 59]⟩ := ba_append [109, 111, 100, 101, 32, 112, 111, 112, 51] [59]
            obtain ⟨FT, hFT⟩ : ∃ y, [109, 111, 100, 101, 32, 112, 111, 112, 51, 59] ++ SB = y := ⟨_, rfl⟩
            have sFT : (⟨#[109, 111, 100, 101, 32, 112, 111, 112, 51, 59]⟩ ++ ⟨SB.toArray⟩ : ByteArray) = ⟨FT.toArray⟩ := by rw [← hFT]; exact ba_append [109, 111, 100, 101, 32, 112, 111, 112, 51, 59] SB
            obtain ⟨LFT, lFT⟩ : ∃ y, FT.length = y := ⟨_, rfl⟩
            have bFT : LFT ≤ 600 := by have := congrArg List.length hFT; rw [List.length_append] at this; simp only [List.length_cons, List.length_nil] at this; omega
            have zFT : (⟨FT.toArray⟩ : ByteArray).size = LFT := lFT
            have hft : Ps.begins [112, 111, 112, 51] ++ Ck.stmtQ 1 X = FT := by
              rw [← hFT, ← hSB, ← hSA, ← HQL.out.1]
              simp [Ps.begins, Ps.wMode, Ck.stmtQ, Ck.preW, Ck.postW, Ps.quoteS]
            obtain ⟨md, row, top, p, c, _, hpc, hout⟩ := source_out FT
            have SRC := source_any FT (by omega) wr (HSA.out)
            have hlaw := Ck.codes_law (x := [112, 111, 112, 51]) (by decide) (w := 1) (by decide) (c := X) ⟨by have := HXL.out; omega, HMQ.out⟩
            rw [hft] at hlaw
            have hmd : Ps.mode [112, 111, 112, 51] = 2 := by decide
            rw [hmd] at hlaw
            have RC := fun wx => rcodes_any 2 X (by have := HXL.out; omega) wx
            have HOUT := Lib.hid hout
            have SRC2 := Lib.hid (fun wx (hx : Below wr.heap.size wr wx) => source_any FT (by omega) wx (HSA.out.below hx))
            clear SRC hft hout
            cases hcd : Ln.codes (2 : Int) X with
            | true =>
              have h0 : c = 0 := by
                obtain ⟨q, hq⟩ := hlaw.1 hcd
                rcases hpc with ⟨h1, _, _⟩ | ⟨_, h1, _⟩
                · exact h1
                · rw [hq] at h1; cases h1
              subst h0
              have RCT := Lib.hid (fun wx => (RC wx).mono (fun e w' (h : e = .returned (.bool (Ln.codes (2 : Int) X)) ∧ Below wx.heap.size wx w') => (by rw [hcd] at h; exact h : e = .returned (.bool true) ∧ Below wx.heap.size wx w')))
              clear hlaw hpc hcd RC hFT hGA hGB hSA hSB hIA hIB
              have SX := fun o o' => SRC2.out ((wr.alloc o).alloc o') (below_two (Below.refl _ wr) o o' (Nat.le_refl _))
              go_wp2_with fail
              refine (SX _ _).mono ?_
              rintro e w2 hP
              obtain ⟨a1, c1, u1, d1, hb2, rfl, _⟩ := HOUT.out _ _ _ hP
              have hb12 : Below wr.heap.size wr w2 := Below.trans (below_two (Below.refl _ wr) _ _ (Nat.le_refl _)) (hb2.mono (by simp; omega))
              have HB2 := Lib.hid (HBA.out.trans (hb12.mono HBA.out.size))
              clear hP hb2 SX hb12
              go_wp2_with fail
              refine (RCT.out _).mono ?_
              rintro e w3 ⟨rfl, hb3⟩
              have HB3 := Lib.hid ((HB2.out.alloc HB2.out.size _).trans (hb3.mono (HB2.out.alloc HB2.out.size _).size))
              clear hb3
              go_wp2
              go_ret
              exact ⟨rfl, HB3.out⟩
            | false =>
              have h0 : c = 34 := by
                obtain ⟨q, hq⟩ := hlaw.2 hcd
                rcases hpc with ⟨_, h1, _⟩ | ⟨_, h1, _⟩
                · rw [hq] at h1; cases h1
                · rw [hq] at h1
                  injection h1 with h2
                  exact (Prod.mk.inj h2).2.symm
              subst h0
              have RCT := Lib.hid (fun wx => (RC wx).mono (fun e w' (h : e = .returned (.bool (Ln.codes (2 : Int) X)) ∧ Below wx.heap.size wx w') => (by rw [hcd] at h; exact h : e = .returned (.bool false) ∧ Below wx.heap.size wx w')))
              clear hlaw hpc hcd RC hFT hGA hGB hSA hSB hIA hIB
              have SX := fun o o' => SRC2.out ((wr.alloc o).alloc o') (below_two (Below.refl _ wr) o o' (Nat.le_refl _))
              go_wp2_with fail
              refine (SX _ _).mono ?_
              rintro e w2 hP
              obtain ⟨a1, c1, u1, d1, hb2, rfl, _⟩ := HOUT.out _ _ _ hP
              have hb12 : Below wr.heap.size wr w2 := Below.trans (below_two (Below.refl _ wr) _ _ (Nat.le_refl _)) (hb2.mono (by simp; omega))
              have HB2 := Lib.hid (HBA.out.trans (hb12.mono HBA.out.size))
              clear hP hb2 SX hb12
              go_wp2_with fail
              refine (RCT.out _).mono ?_
              rintro e w3 ⟨rfl, hb3⟩
              have HB3 := Lib.hid ((HB2.out.alloc HB2.out.size _).trans (hb3.mono (HB2.out.alloc HB2.out.size _).size))
              clear hb3
              go_wp2
              go_ret
              exact ⟨rfl, HB3.out⟩
          · have m1 : (⟨#[109, 111, 100, 101, 32]⟩ ++ ⟨#[112, 111, 112, 51]⟩ : ByteArray) = ⟨#[109, 111, 100, 101, 32, 112, 111, 112, 51]⟩ := ba_append [109, 111, 100, 101, 32] [112, 111, 112, 51]
            have m2 : (⟨#[109, 111, 100, 101, 32, 112, 111, 112, 51]⟩ ++ ⟨#[59]⟩ : ByteArray) = ⟨#[109, 111, 100, 101, 32, 112, 111, 112, 51, 59]⟩ := ba_append [109, 111, 100, 101, 32, 112, 111, 112, 51] [59]
            obtain ⟨FT, hFT⟩ : ∃ y, [109, 111, 100, 101, 32, 112, 111, 112, 51, 59] ++ IB = y := ⟨_, rfl⟩
            have sFT : (⟨#[109, 111, 100, 101, 32, 112, 111, 112, 51, 59]⟩ ++ ⟨IB.toArray⟩ : ByteArray) = ⟨FT.toArray⟩ := by rw [← hFT]; exact ba_append [109, 111, 100, 101, 32, 112, 111, 112, 51, 59] IB
            obtain ⟨LFT, lFT⟩ : ∃ y, FT.length = y := ⟨_, rfl⟩
            have bFT : LFT ≤ 600 := by have := congrArg List.length hFT; rw [List.length_append] at this; simp only [List.length_cons, List.length_nil] at this; omega
            have zFT : (⟨FT.toArray⟩ : ByteArray).size = LFT := lFT
            have hft : Ps.begins [112, 111, 112, 51] ++ Ck.stmtQ 2 X = FT := by
              rw [← hFT, ← hIB, ← hIA, ← HQL.out.1]
              simp [Ps.begins, Ps.wMode, Ck.stmtQ, Ck.preW, Ck.postW, Ps.quoteS]
            obtain ⟨md, row, top, p, c, _, hpc, hout⟩ := source_out FT
            have SRC := source_any FT (by omega) wr (HSA.out)
            have hlaw := Ck.codes_law (x := [112, 111, 112, 51]) (by decide) (w := 2) (by decide) (c := X) ⟨by have := HXL.out; omega, HMQ.out⟩
            rw [hft] at hlaw
            have hmd : Ps.mode [112, 111, 112, 51] = 2 := by decide
            rw [hmd] at hlaw
            have RC := fun wx => rcodes_any 2 X (by have := HXL.out; omega) wx
            have HOUT := Lib.hid hout
            have SRC2 := Lib.hid (fun wx (hx : Below wr.heap.size wr wx) => source_any FT (by omega) wx (HSA.out.below hx))
            clear SRC hft hout
            cases hcd : Ln.codes (2 : Int) X with
            | true =>
              have h0 : c = 0 := by
                obtain ⟨q, hq⟩ := hlaw.1 hcd
                rcases hpc with ⟨h1, _, _⟩ | ⟨_, h1, _⟩
                · exact h1
                · rw [hq] at h1; cases h1
              subst h0
              have RCT := Lib.hid (fun wx => (RC wx).mono (fun e w' (h : e = .returned (.bool (Ln.codes (2 : Int) X)) ∧ Below wx.heap.size wx w') => (by rw [hcd] at h; exact h : e = .returned (.bool true) ∧ Below wx.heap.size wx w')))
              clear hlaw hpc hcd RC hFT hGA hGB hSA hSB hIA hIB
              have SX := fun o o' => SRC2.out ((wr.alloc o).alloc o') (below_two (Below.refl _ wr) o o' (Nat.le_refl _))
              go_wp2_with fail
              refine (SX _ _).mono ?_
              rintro e w2 hP
              obtain ⟨a1, c1, u1, d1, hb2, rfl, _⟩ := HOUT.out _ _ _ hP
              have hb12 : Below wr.heap.size wr w2 := Below.trans (below_two (Below.refl _ wr) _ _ (Nat.le_refl _)) (hb2.mono (by simp; omega))
              have HB2 := Lib.hid (HBA.out.trans (hb12.mono HBA.out.size))
              clear hP hb2 SX hb12
              go_wp2_with fail
              refine (RCT.out _).mono ?_
              rintro e w3 ⟨rfl, hb3⟩
              have HB3 := Lib.hid ((HB2.out.alloc HB2.out.size _).trans (hb3.mono (HB2.out.alloc HB2.out.size _).size))
              clear hb3
              go_wp2
              go_ret
              exact ⟨rfl, HB3.out⟩
            | false =>
              have h0 : c = 34 := by
                obtain ⟨q, hq⟩ := hlaw.2 hcd
                rcases hpc with ⟨_, h1, _⟩ | ⟨_, h1, _⟩
                · rw [hq] at h1; cases h1
                · rw [hq] at h1
                  injection h1 with h2
                  exact (Prod.mk.inj h2).2.symm
              subst h0
              have RCT := Lib.hid (fun wx => (RC wx).mono (fun e w' (h : e = .returned (.bool (Ln.codes (2 : Int) X)) ∧ Below wx.heap.size wx w') => (by rw [hcd] at h; exact h : e = .returned (.bool false) ∧ Below wx.heap.size wx w')))
              clear hlaw hpc hcd RC hFT hGA hGB hSA hSB hIA hIB
              have SX := fun o o' => SRC2.out ((wr.alloc o).alloc o') (below_two (Below.refl _ wr) o o' (Nat.le_refl _))
              go_wp2_with fail
              refine (SX _ _).mono ?_
              rintro e w2 hP
              obtain ⟨a1, c1, u1, d1, hb2, rfl, _⟩ := HOUT.out _ _ _ hP
              have hb12 : Below wr.heap.size wr w2 := Below.trans (below_two (Below.refl _ wr) _ _ (Nat.le_refl _)) (hb2.mono (by simp; omega))
              have HB2 := Lib.hid (HBA.out.trans (hb12.mono HBA.out.size))
              clear hP hb2 SX hb12
              go_wp2_with fail
              refine (RCT.out _).mono ?_
              rintro e w3 ⟨rfl, hb3⟩
              have HB3 := Lib.hid ((HB2.out.alloc HB2.out.size _).trans (hb3.mono (HB2.out.alloc HB2.out.size _).size))
              clear hb3
              go_wp2
              go_ret
              exact ⟨rfl, HB3.out⟩
        · rcases (by omega : k = 0 ∨ k = 1 ∨ k = 2) with rfl | rfl | rfl
          · have m1 : (⟨#[109, 111, 100, 101, 32]⟩ ++ ⟨#[102, 116, 112]⟩ : ByteArray) = ⟨#[109, 111, 100, 101, 32, 102, 116, 112]⟩ := ba_append [109, 111, 100, 101, 32] [102, 116, 112]
            have m2 : (⟨#[109, 111, 100, 101, 32, 102, 116, 112]⟩ ++ ⟨#[59]⟩ : ByteArray) = ⟨#[109, 111, 100, 101, 32, 102, 116, 112, 59]⟩ := ba_append [109, 111, 100, 101, 32, 102, 116, 112] [59]
            obtain ⟨FT, hFT⟩ : ∃ y, [109, 111, 100, 101, 32, 102, 116, 112, 59] ++ GB = y := ⟨_, rfl⟩
            have sFT : (⟨#[109, 111, 100, 101, 32, 102, 116, 112, 59]⟩ ++ ⟨GB.toArray⟩ : ByteArray) = ⟨FT.toArray⟩ := by rw [← hFT]; exact ba_append [109, 111, 100, 101, 32, 102, 116, 112, 59] GB
            obtain ⟨LFT, lFT⟩ : ∃ y, FT.length = y := ⟨_, rfl⟩
            have bFT : LFT ≤ 600 := by have := congrArg List.length hFT; rw [List.length_append] at this; simp only [List.length_cons, List.length_nil] at this; omega
            have zFT : (⟨FT.toArray⟩ : ByteArray).size = LFT := lFT
            have hft : Ps.begins [102, 116, 112] ++ Ck.stmtQ 0 X = FT := by
              rw [← hFT, ← hGB, ← hGA, ← HQL.out.1]
              simp [Ps.begins, Ps.wMode, Ck.stmtQ, Ck.preW, Ck.postW, Ps.quoteS]
            obtain ⟨md, row, top, p, c, _, hpc, hout⟩ := source_out FT
            have SRC := source_any FT (by omega) wr (HSA.out)
            have hlaw := Ck.codes_law (x := [102, 116, 112]) (by decide) (w := 0) (by decide) (c := X) ⟨by have := HXL.out; omega, HMQ.out⟩
            rw [hft] at hlaw
            have hmd : Ps.mode [102, 116, 112] = 3 := by decide
            rw [hmd] at hlaw
            have RC := fun wx => rcodes_any 3 X (by have := HXL.out; omega) wx
            have HOUT := Lib.hid hout
            have SRC2 := Lib.hid (fun wx (hx : Below wr.heap.size wr wx) => source_any FT (by omega) wx (HSA.out.below hx))
            clear SRC hft hout
            cases hcd : Ln.codes (3 : Int) X with
            | true =>
              have h0 : c = 0 := by
                obtain ⟨q, hq⟩ := hlaw.1 hcd
                rcases hpc with ⟨h1, _, _⟩ | ⟨_, h1, _⟩
                · exact h1
                · rw [hq] at h1; cases h1
              subst h0
              have RCT := Lib.hid (fun wx => (RC wx).mono (fun e w' (h : e = .returned (.bool (Ln.codes (3 : Int) X)) ∧ Below wx.heap.size wx w') => (by rw [hcd] at h; exact h : e = .returned (.bool true) ∧ Below wx.heap.size wx w')))
              clear hlaw hpc hcd RC hFT hGA hGB hSA hSB hIA hIB
              have SX := fun o o' => SRC2.out ((wr.alloc o).alloc o') (below_two (Below.refl _ wr) o o' (Nat.le_refl _))
              go_wp2_with fail
              refine (SX _ _).mono ?_
              rintro e w2 hP
              obtain ⟨a1, c1, u1, d1, hb2, rfl, _⟩ := HOUT.out _ _ _ hP
              have hb12 : Below wr.heap.size wr w2 := Below.trans (below_two (Below.refl _ wr) _ _ (Nat.le_refl _)) (hb2.mono (by simp; omega))
              have HB2 := Lib.hid (HBA.out.trans (hb12.mono HBA.out.size))
              clear hP hb2 SX hb12
              go_wp2_with fail
              refine (RCT.out _).mono ?_
              rintro e w3 ⟨rfl, hb3⟩
              have HB3 := Lib.hid ((HB2.out.alloc HB2.out.size _).trans (hb3.mono (HB2.out.alloc HB2.out.size _).size))
              clear hb3
              go_wp2
              go_ret
              exact ⟨rfl, HB3.out⟩
            | false =>
              have h0 : c = 34 := by
                obtain ⟨q, hq⟩ := hlaw.2 hcd
                rcases hpc with ⟨_, h1, _⟩ | ⟨_, h1, _⟩
                · rw [hq] at h1; cases h1
                · rw [hq] at h1
                  injection h1 with h2
                  exact (Prod.mk.inj h2).2.symm
              subst h0
              have RCT := Lib.hid (fun wx => (RC wx).mono (fun e w' (h : e = .returned (.bool (Ln.codes (3 : Int) X)) ∧ Below wx.heap.size wx w') => (by rw [hcd] at h; exact h : e = .returned (.bool false) ∧ Below wx.heap.size wx w')))
              clear hlaw hpc hcd RC hFT hGA hGB hSA hSB hIA hIB
              have SX := fun o o' => SRC2.out ((wr.alloc o).alloc o') (below_two (Below.refl _ wr) o o' (Nat.le_refl _))
              go_wp2_with fail
              refine (SX _ _).mono ?_
              rintro e w2 hP
              obtain ⟨a1, c1, u1, d1, hb2, rfl, _⟩ := HOUT.out _ _ _ hP
              have hb12 : Below wr.heap.size wr w2 := Below.trans (below_two (Below.refl _ wr) _ _ (Nat.le_refl _)) (hb2.mono (by simp; omega))
              have HB2 := Lib.hid (HBA.out.trans (hb12.mono HBA.out.size))
              clear hP hb2 SX hb12
              go_wp2_with fail
              refine (RCT.out _).mono ?_
              rintro e w3 ⟨rfl, hb3⟩
              have HB3 := Lib.hid ((HB2.out.alloc HB2.out.size _).trans (hb3.mono (HB2.out.alloc HB2.out.size _).size))
              clear hb3
              go_wp2
              go_ret
              exact ⟨rfl, HB3.out⟩
          · have m1 : (⟨#[109, 111, 100, 101, 32]⟩ ++ ⟨#[102, 116, 112]⟩ : ByteArray) = ⟨#[109, 111, 100, 101, 32, 102, 116, 112]⟩ := ba_append [109, 111, 100, 101, 32] [102, 116, 112]
            have m2 : (⟨#[109, 111, 100, 101, 32, 102, 116, 112]⟩ ++ ⟨#[59]⟩ : ByteArray) = ⟨#[109, 111, 100, 101, 32, 102, 116, 112, 59]⟩ := ba_append [109, 111, 100, 101, 32, 102, 116, 112] [59]
            obtain ⟨FT, hFT⟩ : ∃ y, [109, 111, 100, 101, 32, 102, 116, 112, 59] ++ SB = y := ⟨_, rfl⟩
            have sFT : (⟨#[109, 111, 100, 101, 32, 102, 116, 112, 59]⟩ ++ ⟨SB.toArray⟩ : ByteArray) = ⟨FT.toArray⟩ := by rw [← hFT]; exact ba_append [109, 111, 100, 101, 32, 102, 116, 112, 59] SB
            obtain ⟨LFT, lFT⟩ : ∃ y, FT.length = y := ⟨_, rfl⟩
            have bFT : LFT ≤ 600 := by have := congrArg List.length hFT; rw [List.length_append] at this; simp only [List.length_cons, List.length_nil] at this; omega
            have zFT : (⟨FT.toArray⟩ : ByteArray).size = LFT := lFT
            have hft : Ps.begins [102, 116, 112] ++ Ck.stmtQ 1 X = FT := by
              rw [← hFT, ← hSB, ← hSA, ← HQL.out.1]
              simp [Ps.begins, Ps.wMode, Ck.stmtQ, Ck.preW, Ck.postW, Ps.quoteS]
            obtain ⟨md, row, top, p, c, _, hpc, hout⟩ := source_out FT
            have SRC := source_any FT (by omega) wr (HSA.out)
            have hlaw := Ck.codes_law (x := [102, 116, 112]) (by decide) (w := 1) (by decide) (c := X) ⟨by have := HXL.out; omega, HMQ.out⟩
            rw [hft] at hlaw
            have hmd : Ps.mode [102, 116, 112] = 3 := by decide
            rw [hmd] at hlaw
            have RC := fun wx => rcodes_any 3 X (by have := HXL.out; omega) wx
            have HOUT := Lib.hid hout
            have SRC2 := Lib.hid (fun wx (hx : Below wr.heap.size wr wx) => source_any FT (by omega) wx (HSA.out.below hx))
            clear SRC hft hout
            cases hcd : Ln.codes (3 : Int) X with
            | true =>
              have h0 : c = 0 := by
                obtain ⟨q, hq⟩ := hlaw.1 hcd
                rcases hpc with ⟨h1, _, _⟩ | ⟨_, h1, _⟩
                · exact h1
                · rw [hq] at h1; cases h1
              subst h0
              have RCT := Lib.hid (fun wx => (RC wx).mono (fun e w' (h : e = .returned (.bool (Ln.codes (3 : Int) X)) ∧ Below wx.heap.size wx w') => (by rw [hcd] at h; exact h : e = .returned (.bool true) ∧ Below wx.heap.size wx w')))
              clear hlaw hpc hcd RC hFT hGA hGB hSA hSB hIA hIB
              have SX := fun o o' => SRC2.out ((wr.alloc o).alloc o') (below_two (Below.refl _ wr) o o' (Nat.le_refl _))
              go_wp2_with fail
              refine (SX _ _).mono ?_
              rintro e w2 hP
              obtain ⟨a1, c1, u1, d1, hb2, rfl, _⟩ := HOUT.out _ _ _ hP
              have hb12 : Below wr.heap.size wr w2 := Below.trans (below_two (Below.refl _ wr) _ _ (Nat.le_refl _)) (hb2.mono (by simp; omega))
              have HB2 := Lib.hid (HBA.out.trans (hb12.mono HBA.out.size))
              clear hP hb2 SX hb12
              go_wp2_with fail
              refine (RCT.out _).mono ?_
              rintro e w3 ⟨rfl, hb3⟩
              have HB3 := Lib.hid ((HB2.out.alloc HB2.out.size _).trans (hb3.mono (HB2.out.alloc HB2.out.size _).size))
              clear hb3
              go_wp2
              go_ret
              exact ⟨rfl, HB3.out⟩
            | false =>
              have h0 : c = 34 := by
                obtain ⟨q, hq⟩ := hlaw.2 hcd
                rcases hpc with ⟨_, h1, _⟩ | ⟨_, h1, _⟩
                · rw [hq] at h1; cases h1
                · rw [hq] at h1
                  injection h1 with h2
                  exact (Prod.mk.inj h2).2.symm
              subst h0
              have RCT := Lib.hid (fun wx => (RC wx).mono (fun e w' (h : e = .returned (.bool (Ln.codes (3 : Int) X)) ∧ Below wx.heap.size wx w') => (by rw [hcd] at h; exact h : e = .returned (.bool false) ∧ Below wx.heap.size wx w')))
              clear hlaw hpc hcd RC hFT hGA hGB hSA hSB hIA hIB
              have SX := fun o o' => SRC2.out ((wr.alloc o).alloc o') (below_two (Below.refl _ wr) o o' (Nat.le_refl _))
              go_wp2_with fail
              refine (SX _ _).mono ?_
              rintro e w2 hP
              obtain ⟨a1, c1, u1, d1, hb2, rfl, _⟩ := HOUT.out _ _ _ hP
              have hb12 : Below wr.heap.size wr w2 := Below.trans (below_two (Below.refl _ wr) _ _ (Nat.le_refl _)) (hb2.mono (by simp; omega))
              have HB2 := Lib.hid (HBA.out.trans (hb12.mono HBA.out.size))
              clear hP hb2 SX hb12
              go_wp2_with fail
              refine (RCT.out _).mono ?_
              rintro e w3 ⟨rfl, hb3⟩
              have HB3 := Lib.hid ((HB2.out.alloc HB2.out.size _).trans (hb3.mono (HB2.out.alloc HB2.out.size _).size))
              clear hb3
              go_wp2
              go_ret
              exact ⟨rfl, HB3.out⟩
          · have m1 : (⟨#[109, 111, 100, 101, 32]⟩ ++ ⟨#[102, 116, 112]⟩ : ByteArray) = ⟨#[109, 111, 100, 101, 32, 102, 116, 112]⟩ := ba_append [109, 111, 100, 101, 32] [102, 116, 112]
            have m2 : (⟨#[109, 111, 100, 101, 32, 102, 116, 112]⟩ ++ ⟨#[59]⟩ : ByteArray) = ⟨#[109, 111, 100, 101, 32, 102, 116, 112, 59]⟩ := ba_append [109, 111, 100, 101, 32, 102, 116, 112] [59]
            obtain ⟨FT, hFT⟩ : ∃ y, [109, 111, 100, 101, 32, 102, 116, 112, 59] ++ IB = y := ⟨_, rfl⟩
            have sFT : (⟨#[109, 111, 100, 101, 32, 102, 116, 112, 59]⟩ ++ ⟨IB.toArray⟩ : ByteArray) = ⟨FT.toArray⟩ := by rw [← hFT]; exact ba_append [109, 111, 100, 101, 32, 102, 116, 112, 59] IB
            obtain ⟨LFT, lFT⟩ : ∃ y, FT.length = y := ⟨_, rfl⟩
            have bFT : LFT ≤ 600 := by have := congrArg List.length hFT; rw [List.length_append] at this; simp only [List.length_cons, List.length_nil] at this; omega
            have zFT : (⟨FT.toArray⟩ : ByteArray).size = LFT := lFT
            have hft : Ps.begins [102, 116, 112] ++ Ck.stmtQ 2 X = FT := by
              rw [← hFT, ← hIB, ← hIA, ← HQL.out.1]
              simp [Ps.begins, Ps.wMode, Ck.stmtQ, Ck.preW, Ck.postW, Ps.quoteS]
            obtain ⟨md, row, top, p, c, _, hpc, hout⟩ := source_out FT
            have SRC := source_any FT (by omega) wr (HSA.out)
            have hlaw := Ck.codes_law (x := [102, 116, 112]) (by decide) (w := 2) (by decide) (c := X) ⟨by have := HXL.out; omega, HMQ.out⟩
            rw [hft] at hlaw
            have hmd : Ps.mode [102, 116, 112] = 3 := by decide
            rw [hmd] at hlaw
            have RC := fun wx => rcodes_any 3 X (by have := HXL.out; omega) wx
            have HOUT := Lib.hid hout
            have SRC2 := Lib.hid (fun wx (hx : Below wr.heap.size wr wx) => source_any FT (by omega) wx (HSA.out.below hx))
            clear SRC hft hout
            cases hcd : Ln.codes (3 : Int) X with
            | true =>
              have h0 : c = 0 := by
                obtain ⟨q, hq⟩ := hlaw.1 hcd
                rcases hpc with ⟨h1, _, _⟩ | ⟨_, h1, _⟩
                · exact h1
                · rw [hq] at h1; cases h1
              subst h0
              have RCT := Lib.hid (fun wx => (RC wx).mono (fun e w' (h : e = .returned (.bool (Ln.codes (3 : Int) X)) ∧ Below wx.heap.size wx w') => (by rw [hcd] at h; exact h : e = .returned (.bool true) ∧ Below wx.heap.size wx w')))
              clear hlaw hpc hcd RC hFT hGA hGB hSA hSB hIA hIB
              have SX := fun o o' => SRC2.out ((wr.alloc o).alloc o') (below_two (Below.refl _ wr) o o' (Nat.le_refl _))
              go_wp2_with fail
              refine (SX _ _).mono ?_
              rintro e w2 hP
              obtain ⟨a1, c1, u1, d1, hb2, rfl, _⟩ := HOUT.out _ _ _ hP
              have hb12 : Below wr.heap.size wr w2 := Below.trans (below_two (Below.refl _ wr) _ _ (Nat.le_refl _)) (hb2.mono (by simp; omega))
              have HB2 := Lib.hid (HBA.out.trans (hb12.mono HBA.out.size))
              clear hP hb2 SX hb12
              go_wp2_with fail
              refine (RCT.out _).mono ?_
              rintro e w3 ⟨rfl, hb3⟩
              have HB3 := Lib.hid ((HB2.out.alloc HB2.out.size _).trans (hb3.mono (HB2.out.alloc HB2.out.size _).size))
              clear hb3
              go_wp2
              go_ret
              exact ⟨rfl, HB3.out⟩
            | false =>
              have h0 : c = 34 := by
                obtain ⟨q, hq⟩ := hlaw.2 hcd
                rcases hpc with ⟨_, h1, _⟩ | ⟨_, h1, _⟩
                · rw [hq] at h1; cases h1
                · rw [hq] at h1
                  injection h1 with h2
                  exact (Prod.mk.inj h2).2.symm
              subst h0
              have RCT := Lib.hid (fun wx => (RC wx).mono (fun e w' (h : e = .returned (.bool (Ln.codes (3 : Int) X)) ∧ Below wx.heap.size wx w') => (by rw [hcd] at h; exact h : e = .returned (.bool false) ∧ Below wx.heap.size wx w')))
              clear hlaw hpc hcd RC hFT hGA hGB hSA hSB hIA hIB
              have SX := fun o o' => SRC2.out ((wr.alloc o).alloc o') (below_two (Below.refl _ wr) o o' (Nat.le_refl _))
              go_wp2_with fail
              refine (SX _ _).mono ?_
              rintro e w2 hP
              obtain ⟨a1, c1, u1, d1, hb2, rfl, _⟩ := HOUT.out _ _ _ hP
              have hb12 : Below wr.heap.size wr w2 := Below.trans (below_two (Below.refl _ wr) _ _ (Nat.le_refl _)) (hb2.mono (by simp; omega))
              have HB2 := Lib.hid (HBA.out.trans (hb12.mono HBA.out.size))
              clear hP hb2 SX hb12
              go_wp2_with fail
              refine (RCT.out _).mono ?_
              rintro e w3 ⟨rfl, hb3⟩
              have HB3 := Lib.hid ((HB2.out.alloc HB2.out.size _).trans (hb3.mono (HB2.out.alloc HB2.out.size _).size))
              clear hb3
              go_wp2
              go_ret
              exact ⟨rfl, HB3.out⟩
    · clear hn
      obtain ⟨Q, hQ⟩ : ∃ Q, Ps.quoteS X = Q := ⟨_, rfl⟩
      have RQ := rquote_any X (by have := HXL.out; omega) HXP.out wr
      rw [hQ] at RQ
      have hql : Q.length ≤ 202 := by
        rw [← hQ]
        exact Ps.quote_len HXL.out
      obtain ⟨LQ, lQ⟩ : ∃ y, Q.length = y := ⟨_, rfl⟩
      rw [lQ] at hql
      have zQ : (⟨Q.toArray⟩ : ByteArray).size = LQ := lQ
      have HQL := Lib.hid (⟨hQ, trivial⟩ : _ ∧ True)
      clear hQ
      obtain ⟨GA, GB, SA, SB, IA, IB, LGA, LGB, LSA, LSB, LIA, LIB, ⟨hGA, sGA, lGA, bGA, zGA⟩, ⟨hGB, sGB, lGB, bGB, zGB⟩, ⟨hSA, sSA, lSA, bSA, zSA⟩, ⟨hSB, sSB, lSB, bSB, zSB⟩, ⟨hIA, sIA, lIA, bIA, zIA⟩, ⟨hIB, sIB, lIB, bIB, zIB⟩⟩ := six_sums Q LQ lQ hql
      go_wp2_with fail
      refine RQ.mono ?_
      rintro e w1 ⟨rfl, hw⟩
      subst hw
      clear RQ
      rcases (by omega : m = 0 ∨ m = 1 ∨ m = 2) with rfl | rfl | rfl
      · rcases (by omega : k = 0 ∨ k = 1 ∨ k = 2) with rfl | rfl | rfl
        · have m1 : (⟨#[109, 111, 100, 101, 32]⟩ ++ ⟨#[115, 109, 116, 112]⟩ : ByteArray) = ⟨#[109, 111, 100, 101, 32, 115, 109, 116, 112]⟩ := ba_append [109, 111, 100, 101, 32] [115, 109, 116, 112]
          have m2 : (⟨#[109, 111, 100, 101, 32, 115, 109, 116, 112]⟩ ++ ⟨#[59]⟩ : ByteArray) = ⟨#[109, 111, 100, 101, 32, 115, 109, 116, 112, 59]⟩ := ba_append [109, 111, 100, 101, 32, 115, 109, 116, 112] [59]
          obtain ⟨FT, hFT⟩ : ∃ y, [109, 111, 100, 101, 32, 115, 109, 116, 112, 59] ++ GB = y := ⟨_, rfl⟩
          have sFT : (⟨#[109, 111, 100, 101, 32, 115, 109, 116, 112, 59]⟩ ++ ⟨GB.toArray⟩ : ByteArray) = ⟨FT.toArray⟩ := by rw [← hFT]; exact ba_append [109, 111, 100, 101, 32, 115, 109, 116, 112, 59] GB
          obtain ⟨LFT, lFT⟩ : ∃ y, FT.length = y := ⟨_, rfl⟩
          have bFT : LFT ≤ 600 := by have := congrArg List.length hFT; rw [List.length_append] at this; simp only [List.length_cons, List.length_nil] at this; omega
          have zFT : (⟨FT.toArray⟩ : ByteArray).size = LFT := lFT
          have hft : Ps.begins [115, 109, 116, 112] ++ Ck.stmtQ 0 X = FT := by
            rw [← hFT, ← hGB, ← hGA, ← HQL.out.1]
            simp [Ps.begins, Ps.wMode, Ck.stmtQ, Ck.preW, Ck.postW, Ps.quoteS]
          obtain ⟨md, row, top, p, c, _, hpc, hout⟩ := source_out FT
          have SRC := source_any FT (by omega) wr (HSA.out)
          have hlaw := Ck.codes_law (x := [115, 109, 116, 112]) (by decide) (w := 0) (by decide) (c := X) ⟨by have := HXL.out; omega, HMQ.out⟩
          rw [hft] at hlaw
          have hmd : Ps.mode [115, 109, 116, 112] = 1 := by decide
          rw [hmd] at hlaw
          have RC := fun wx => rcodes_any 1 X (by have := HXL.out; omega) wx
          have HOUT := Lib.hid hout
          have SRC2 := Lib.hid (fun wx (hx : Below wr.heap.size wr wx) => source_any FT (by omega) wx (HSA.out.below hx))
          clear SRC hft hout
          cases hcd : Ln.codes (1 : Int) X with
          | true =>
            have h0 : c = 0 := by
              obtain ⟨q, hq⟩ := hlaw.1 hcd
              rcases hpc with ⟨h1, _, _⟩ | ⟨_, h1, _⟩
              · exact h1
              · rw [hq] at h1; cases h1
            subst h0
            have RCT := Lib.hid (fun wx => (RC wx).mono (fun e w' (h : e = .returned (.bool (Ln.codes (1 : Int) X)) ∧ Below wx.heap.size wx w') => (by rw [hcd] at h; exact h : e = .returned (.bool true) ∧ Below wx.heap.size wx w')))
            clear hlaw hpc hcd RC hFT hGA hGB hSA hSB hIA hIB
            have SX := fun o o' => SRC2.out ((wr.alloc o).alloc o') (below_two (Below.refl _ wr) o o' (Nat.le_refl _))
            go_wp2_with fail
            refine (SX _ _).mono ?_
            rintro e w2 hP
            obtain ⟨a1, c1, u1, d1, hb2, rfl, _⟩ := HOUT.out _ _ _ hP
            have hb12 : Below wr.heap.size wr w2 := Below.trans (below_two (Below.refl _ wr) _ _ (Nat.le_refl _)) (hb2.mono (by simp; omega))
            have HB2 := Lib.hid (HBA.out.trans (hb12.mono HBA.out.size))
            clear hP hb2 SX hb12
            go_wp2_with fail
            refine (RCT.out _).mono ?_
            rintro e w3 ⟨rfl, hb3⟩
            have HB3 := Lib.hid ((HB2.out.alloc HB2.out.size _).trans (hb3.mono (HB2.out.alloc HB2.out.size _).size))
            clear hb3
            go_wp2
            go_ret
            exact ⟨rfl, HB3.out⟩
          | false =>
            have h0 : c = 34 := by
              obtain ⟨q, hq⟩ := hlaw.2 hcd
              rcases hpc with ⟨_, h1, _⟩ | ⟨_, h1, _⟩
              · rw [hq] at h1; cases h1
              · rw [hq] at h1
                injection h1 with h2
                exact (Prod.mk.inj h2).2.symm
            subst h0
            have RCT := Lib.hid (fun wx => (RC wx).mono (fun e w' (h : e = .returned (.bool (Ln.codes (1 : Int) X)) ∧ Below wx.heap.size wx w') => (by rw [hcd] at h; exact h : e = .returned (.bool false) ∧ Below wx.heap.size wx w')))
            clear hlaw hpc hcd RC hFT hGA hGB hSA hSB hIA hIB
            have SX := fun o o' => SRC2.out ((wr.alloc o).alloc o') (below_two (Below.refl _ wr) o o' (Nat.le_refl _))
            go_wp2_with fail
            refine (SX _ _).mono ?_
            rintro e w2 hP
            obtain ⟨a1, c1, u1, d1, hb2, rfl, _⟩ := HOUT.out _ _ _ hP
            have hb12 : Below wr.heap.size wr w2 := Below.trans (below_two (Below.refl _ wr) _ _ (Nat.le_refl _)) (hb2.mono (by simp; omega))
            have HB2 := Lib.hid (HBA.out.trans (hb12.mono HBA.out.size))
            clear hP hb2 SX hb12
            go_wp2_with fail
            refine (RCT.out _).mono ?_
            rintro e w3 ⟨rfl, hb3⟩
            have HB3 := Lib.hid ((HB2.out.alloc HB2.out.size _).trans (hb3.mono (HB2.out.alloc HB2.out.size _).size))
            clear hb3
            go_wp2
            go_ret
            exact ⟨rfl, HB3.out⟩
        · have m1 : (⟨#[109, 111, 100, 101, 32]⟩ ++ ⟨#[115, 109, 116, 112]⟩ : ByteArray) = ⟨#[109, 111, 100, 101, 32, 115, 109, 116, 112]⟩ := ba_append [109, 111, 100, 101, 32] [115, 109, 116, 112]
          have m2 : (⟨#[109, 111, 100, 101, 32, 115, 109, 116, 112]⟩ ++ ⟨#[59]⟩ : ByteArray) = ⟨#[109, 111, 100, 101, 32, 115, 109, 116, 112, 59]⟩ := ba_append [109, 111, 100, 101, 32, 115, 109, 116, 112] [59]
          obtain ⟨FT, hFT⟩ : ∃ y, [109, 111, 100, 101, 32, 115, 109, 116, 112, 59] ++ SB = y := ⟨_, rfl⟩
          have sFT : (⟨#[109, 111, 100, 101, 32, 115, 109, 116, 112, 59]⟩ ++ ⟨SB.toArray⟩ : ByteArray) = ⟨FT.toArray⟩ := by rw [← hFT]; exact ba_append [109, 111, 100, 101, 32, 115, 109, 116, 112, 59] SB
          obtain ⟨LFT, lFT⟩ : ∃ y, FT.length = y := ⟨_, rfl⟩
          have bFT : LFT ≤ 600 := by have := congrArg List.length hFT; rw [List.length_append] at this; simp only [List.length_cons, List.length_nil] at this; omega
          have zFT : (⟨FT.toArray⟩ : ByteArray).size = LFT := lFT
          have hft : Ps.begins [115, 109, 116, 112] ++ Ck.stmtQ 1 X = FT := by
            rw [← hFT, ← hSB, ← hSA, ← HQL.out.1]
            simp [Ps.begins, Ps.wMode, Ck.stmtQ, Ck.preW, Ck.postW, Ps.quoteS]
          obtain ⟨md, row, top, p, c, _, hpc, hout⟩ := source_out FT
          have SRC := source_any FT (by omega) wr (HSA.out)
          have hlaw := Ck.codes_law (x := [115, 109, 116, 112]) (by decide) (w := 1) (by decide) (c := X) ⟨by have := HXL.out; omega, HMQ.out⟩
          rw [hft] at hlaw
          have hmd : Ps.mode [115, 109, 116, 112] = 1 := by decide
          rw [hmd] at hlaw
          have RC := fun wx => rcodes_any 1 X (by have := HXL.out; omega) wx
          have HOUT := Lib.hid hout
          have SRC2 := Lib.hid (fun wx (hx : Below wr.heap.size wr wx) => source_any FT (by omega) wx (HSA.out.below hx))
          clear SRC hft hout
          cases hcd : Ln.codes (1 : Int) X with
          | true =>
            have h0 : c = 0 := by
              obtain ⟨q, hq⟩ := hlaw.1 hcd
              rcases hpc with ⟨h1, _, _⟩ | ⟨_, h1, _⟩
              · exact h1
              · rw [hq] at h1; cases h1
            subst h0
            have RCT := Lib.hid (fun wx => (RC wx).mono (fun e w' (h : e = .returned (.bool (Ln.codes (1 : Int) X)) ∧ Below wx.heap.size wx w') => (by rw [hcd] at h; exact h : e = .returned (.bool true) ∧ Below wx.heap.size wx w')))
            clear hlaw hpc hcd RC hFT hGA hGB hSA hSB hIA hIB
            have SX := fun o o' => SRC2.out ((wr.alloc o).alloc o') (below_two (Below.refl _ wr) o o' (Nat.le_refl _))
            go_wp2_with fail
            refine (SX _ _).mono ?_
            rintro e w2 hP
            obtain ⟨a1, c1, u1, d1, hb2, rfl, _⟩ := HOUT.out _ _ _ hP
            have hb12 : Below wr.heap.size wr w2 := Below.trans (below_two (Below.refl _ wr) _ _ (Nat.le_refl _)) (hb2.mono (by simp; omega))
            have HB2 := Lib.hid (HBA.out.trans (hb12.mono HBA.out.size))
            clear hP hb2 SX hb12
            go_wp2_with fail
            refine (RCT.out _).mono ?_
            rintro e w3 ⟨rfl, hb3⟩
            have HB3 := Lib.hid ((HB2.out.alloc HB2.out.size _).trans (hb3.mono (HB2.out.alloc HB2.out.size _).size))
            clear hb3
            go_wp2
            go_ret
            exact ⟨rfl, HB3.out⟩
          | false =>
            have h0 : c = 34 := by
              obtain ⟨q, hq⟩ := hlaw.2 hcd
              rcases hpc with ⟨_, h1, _⟩ | ⟨_, h1, _⟩
              · rw [hq] at h1; cases h1
              · rw [hq] at h1
                injection h1 with h2
                exact (Prod.mk.inj h2).2.symm
            subst h0
            have RCT := Lib.hid (fun wx => (RC wx).mono (fun e w' (h : e = .returned (.bool (Ln.codes (1 : Int) X)) ∧ Below wx.heap.size wx w') => (by rw [hcd] at h; exact h : e = .returned (.bool false) ∧ Below wx.heap.size wx w')))
            clear hlaw hpc hcd RC hFT hGA hGB hSA hSB hIA hIB
            have SX := fun o o' => SRC2.out ((wr.alloc o).alloc o') (below_two (Below.refl _ wr) o o' (Nat.le_refl _))
            go_wp2_with fail
            refine (SX _ _).mono ?_
            rintro e w2 hP
            obtain ⟨a1, c1, u1, d1, hb2, rfl, _⟩ := HOUT.out _ _ _ hP
            have hb12 : Below wr.heap.size wr w2 := Below.trans (below_two (Below.refl _ wr) _ _ (Nat.le_refl _)) (hb2.mono (by simp; omega))
            have HB2 := Lib.hid (HBA.out.trans (hb12.mono HBA.out.size))
            clear hP hb2 SX hb12
            go_wp2_with fail
            refine (RCT.out _).mono ?_
            rintro e w3 ⟨rfl, hb3⟩
            have HB3 := Lib.hid ((HB2.out.alloc HB2.out.size _).trans (hb3.mono (HB2.out.alloc HB2.out.size _).size))
            clear hb3
            go_wp2
            go_ret
            exact ⟨rfl, HB3.out⟩
        · have m1 : (⟨#[109, 111, 100, 101, 32]⟩ ++ ⟨#[115, 109, 116, 112]⟩ : ByteArray) = ⟨#[109, 111, 100, 101, 32, 115, 109, 116, 112]⟩ := ba_append [109, 111, 100, 101, 32] [115, 109, 116, 112]
          have m2 : (⟨#[109, 111, 100, 101, 32, 115, 109, 116, 112]⟩ ++ ⟨#[59]⟩ : ByteArray) = ⟨#[109, 111, 100, 101, 32, 115, 109, 116, 112, 59]⟩ := ba_append [109, 111, 100, 101, 32, 115, 109, 116, 112] [59]
          obtain ⟨FT, hFT⟩ : ∃ y, [109, 111, 100, 101, 32, 115, 109, 116, 112, 59] ++ IB = y := ⟨_, rfl⟩
          have sFT : (⟨#[109, 111, 100, 101, 32, 115, 109, 116, 112, 59]⟩ ++ ⟨IB.toArray⟩ : ByteArray) = ⟨FT.toArray⟩ := by rw [← hFT]; exact ba_append [109, 111, 100, 101, 32, 115, 109, 116, 112, 59] IB
          obtain ⟨LFT, lFT⟩ : ∃ y, FT.length = y := ⟨_, rfl⟩
          have bFT : LFT ≤ 600 := by have := congrArg List.length hFT; rw [List.length_append] at this; simp only [List.length_cons, List.length_nil] at this; omega
          have zFT : (⟨FT.toArray⟩ : ByteArray).size = LFT := lFT
          have hft : Ps.begins [115, 109, 116, 112] ++ Ck.stmtQ 2 X = FT := by
            rw [← hFT, ← hIB, ← hIA, ← HQL.out.1]
            simp [Ps.begins, Ps.wMode, Ck.stmtQ, Ck.preW, Ck.postW, Ps.quoteS]
          obtain ⟨md, row, top, p, c, _, hpc, hout⟩ := source_out FT
          have SRC := source_any FT (by omega) wr (HSA.out)
          have hlaw := Ck.codes_law (x := [115, 109, 116, 112]) (by decide) (w := 2) (by decide) (c := X) ⟨by have := HXL.out; omega, HMQ.out⟩
          rw [hft] at hlaw
          have hmd : Ps.mode [115, 109, 116, 112] = 1 := by decide
          rw [hmd] at hlaw
          have RC := fun wx => rcodes_any 1 X (by have := HXL.out; omega) wx
          have HOUT := Lib.hid hout
          have SRC2 := Lib.hid (fun wx (hx : Below wr.heap.size wr wx) => source_any FT (by omega) wx (HSA.out.below hx))
          clear SRC hft hout
          cases hcd : Ln.codes (1 : Int) X with
          | true =>
            have h0 : c = 0 := by
              obtain ⟨q, hq⟩ := hlaw.1 hcd
              rcases hpc with ⟨h1, _, _⟩ | ⟨_, h1, _⟩
              · exact h1
              · rw [hq] at h1; cases h1
            subst h0
            have RCT := Lib.hid (fun wx => (RC wx).mono (fun e w' (h : e = .returned (.bool (Ln.codes (1 : Int) X)) ∧ Below wx.heap.size wx w') => (by rw [hcd] at h; exact h : e = .returned (.bool true) ∧ Below wx.heap.size wx w')))
            clear hlaw hpc hcd RC hFT hGA hGB hSA hSB hIA hIB
            have SX := fun o o' => SRC2.out ((wr.alloc o).alloc o') (below_two (Below.refl _ wr) o o' (Nat.le_refl _))
            go_wp2_with fail
            refine (SX _ _).mono ?_
            rintro e w2 hP
            obtain ⟨a1, c1, u1, d1, hb2, rfl, _⟩ := HOUT.out _ _ _ hP
            have hb12 : Below wr.heap.size wr w2 := Below.trans (below_two (Below.refl _ wr) _ _ (Nat.le_refl _)) (hb2.mono (by simp; omega))
            have HB2 := Lib.hid (HBA.out.trans (hb12.mono HBA.out.size))
            clear hP hb2 SX hb12
            go_wp2_with fail
            refine (RCT.out _).mono ?_
            rintro e w3 ⟨rfl, hb3⟩
            have HB3 := Lib.hid ((HB2.out.alloc HB2.out.size _).trans (hb3.mono (HB2.out.alloc HB2.out.size _).size))
            clear hb3
            go_wp2
            go_ret
            exact ⟨rfl, HB3.out⟩
          | false =>
            have h0 : c = 34 := by
              obtain ⟨q, hq⟩ := hlaw.2 hcd
              rcases hpc with ⟨_, h1, _⟩ | ⟨_, h1, _⟩
              · rw [hq] at h1; cases h1
              · rw [hq] at h1
                injection h1 with h2
                exact (Prod.mk.inj h2).2.symm
            subst h0
            have RCT := Lib.hid (fun wx => (RC wx).mono (fun e w' (h : e = .returned (.bool (Ln.codes (1 : Int) X)) ∧ Below wx.heap.size wx w') => (by rw [hcd] at h; exact h : e = .returned (.bool false) ∧ Below wx.heap.size wx w')))
            clear hlaw hpc hcd RC hFT hGA hGB hSA hSB hIA hIB
            have SX := fun o o' => SRC2.out ((wr.alloc o).alloc o') (below_two (Below.refl _ wr) o o' (Nat.le_refl _))
            go_wp2_with fail
            refine (SX _ _).mono ?_
            rintro e w2 hP
            obtain ⟨a1, c1, u1, d1, hb2, rfl, _⟩ := HOUT.out _ _ _ hP
            have hb12 : Below wr.heap.size wr w2 := Below.trans (below_two (Below.refl _ wr) _ _ (Nat.le_refl _)) (hb2.mono (by simp; omega))
            have HB2 := Lib.hid (HBA.out.trans (hb12.mono HBA.out.size))
            clear hP hb2 SX hb12
            go_wp2_with fail
            refine (RCT.out _).mono ?_
            rintro e w3 ⟨rfl, hb3⟩
            have HB3 := Lib.hid ((HB2.out.alloc HB2.out.size _).trans (hb3.mono (HB2.out.alloc HB2.out.size _).size))
            clear hb3
            go_wp2
            go_ret
            exact ⟨rfl, HB3.out⟩
      · rcases (by omega : k = 0 ∨ k = 1 ∨ k = 2) with rfl | rfl | rfl
        · have m1 : (⟨#[109, 111, 100, 101, 32]⟩ ++ ⟨#[112, 111, 112, 51]⟩ : ByteArray) = ⟨#[109, 111, 100, 101, 32, 112, 111, 112, 51]⟩ := ba_append [109, 111, 100, 101, 32] [112, 111, 112, 51]
          have m2 : (⟨#[109, 111, 100, 101, 32, 112, 111, 112, 51]⟩ ++ ⟨#[59]⟩ : ByteArray) = ⟨#[109, 111, 100, 101, 32, 112, 111, 112, 51, 59]⟩ := ba_append [109, 111, 100, 101, 32, 112, 111, 112, 51] [59]
          obtain ⟨FT, hFT⟩ : ∃ y, [109, 111, 100, 101, 32, 112, 111, 112, 51, 59] ++ GB = y := ⟨_, rfl⟩
          have sFT : (⟨#[109, 111, 100, 101, 32, 112, 111, 112, 51, 59]⟩ ++ ⟨GB.toArray⟩ : ByteArray) = ⟨FT.toArray⟩ := by rw [← hFT]; exact ba_append [109, 111, 100, 101, 32, 112, 111, 112, 51, 59] GB
          obtain ⟨LFT, lFT⟩ : ∃ y, FT.length = y := ⟨_, rfl⟩
          have bFT : LFT ≤ 600 := by have := congrArg List.length hFT; rw [List.length_append] at this; simp only [List.length_cons, List.length_nil] at this; omega
          have zFT : (⟨FT.toArray⟩ : ByteArray).size = LFT := lFT
          have hft : Ps.begins [112, 111, 112, 51] ++ Ck.stmtQ 0 X = FT := by
            rw [← hFT, ← hGB, ← hGA, ← HQL.out.1]
            simp [Ps.begins, Ps.wMode, Ck.stmtQ, Ck.preW, Ck.postW, Ps.quoteS]
          obtain ⟨md, row, top, p, c, _, hpc, hout⟩ := source_out FT
          have SRC := source_any FT (by omega) wr (HSA.out)
          have hlaw := Ck.codes_law (x := [112, 111, 112, 51]) (by decide) (w := 0) (by decide) (c := X) ⟨by have := HXL.out; omega, HMQ.out⟩
          rw [hft] at hlaw
          have hmd : Ps.mode [112, 111, 112, 51] = 2 := by decide
          rw [hmd] at hlaw
          have RC := fun wx => rcodes_any 2 X (by have := HXL.out; omega) wx
          have HOUT := Lib.hid hout
          have SRC2 := Lib.hid (fun wx (hx : Below wr.heap.size wr wx) => source_any FT (by omega) wx (HSA.out.below hx))
          clear SRC hft hout
          cases hcd : Ln.codes (2 : Int) X with
          | true =>
            have h0 : c = 0 := by
              obtain ⟨q, hq⟩ := hlaw.1 hcd
              rcases hpc with ⟨h1, _, _⟩ | ⟨_, h1, _⟩
              · exact h1
              · rw [hq] at h1; cases h1
            subst h0
            have RCT := Lib.hid (fun wx => (RC wx).mono (fun e w' (h : e = .returned (.bool (Ln.codes (2 : Int) X)) ∧ Below wx.heap.size wx w') => (by rw [hcd] at h; exact h : e = .returned (.bool true) ∧ Below wx.heap.size wx w')))
            clear hlaw hpc hcd RC hFT hGA hGB hSA hSB hIA hIB
            have SX := fun o o' => SRC2.out ((wr.alloc o).alloc o') (below_two (Below.refl _ wr) o o' (Nat.le_refl _))
            go_wp2_with fail
            refine (SX _ _).mono ?_
            rintro e w2 hP
            obtain ⟨a1, c1, u1, d1, hb2, rfl, _⟩ := HOUT.out _ _ _ hP
            have hb12 : Below wr.heap.size wr w2 := Below.trans (below_two (Below.refl _ wr) _ _ (Nat.le_refl _)) (hb2.mono (by simp; omega))
            have HB2 := Lib.hid (HBA.out.trans (hb12.mono HBA.out.size))
            clear hP hb2 SX hb12
            go_wp2_with fail
            refine (RCT.out _).mono ?_
            rintro e w3 ⟨rfl, hb3⟩
            have HB3 := Lib.hid ((HB2.out.alloc HB2.out.size _).trans (hb3.mono (HB2.out.alloc HB2.out.size _).size))
            clear hb3
            go_wp2
            go_ret
            exact ⟨rfl, HB3.out⟩
          | false =>
            have h0 : c = 34 := by
              obtain ⟨q, hq⟩ := hlaw.2 hcd
              rcases hpc with ⟨_, h1, _⟩ | ⟨_, h1, _⟩
              · rw [hq] at h1; cases h1
              · rw [hq] at h1
                injection h1 with h2
                exact (Prod.mk.inj h2).2.symm
            subst h0
            have RCT := Lib.hid (fun wx => (RC wx).mono (fun e w' (h : e = .returned (.bool (Ln.codes (2 : Int) X)) ∧ Below wx.heap.size wx w') => (by rw [hcd] at h; exact h : e = .returned (.bool false) ∧ Below wx.heap.size wx w')))
            clear hlaw hpc hcd RC hFT hGA hGB hSA hSB hIA hIB
            have SX := fun o o' => SRC2.out ((wr.alloc o).alloc o') (below_two (Below.refl _ wr) o o' (Nat.le_refl _))
            go_wp2_with fail
            refine (SX _ _).mono ?_
            rintro e w2 hP
            obtain ⟨a1, c1, u1, d1, hb2, rfl, _⟩ := HOUT.out _ _ _ hP
            have hb12 : Below wr.heap.size wr w2 := Below.trans (below_two (Below.refl _ wr) _ _ (Nat.le_refl _)) (hb2.mono (by simp; omega))
            have HB2 := Lib.hid (HBA.out.trans (hb12.mono HBA.out.size))
            clear hP hb2 SX hb12
            go_wp2_with fail
            refine (RCT.out _).mono ?_
            rintro e w3 ⟨rfl, hb3⟩
            have HB3 := Lib.hid ((HB2.out.alloc HB2.out.size _).trans (hb3.mono (HB2.out.alloc HB2.out.size _).size))
            clear hb3
            go_wp2
            go_ret
            exact ⟨rfl, HB3.out⟩
        · have m1 : (⟨#[109, 111, 100, 101, 32]⟩ ++ ⟨#[112, 111, 112, 51]⟩ : ByteArray) = ⟨#[109, 111, 100, 101, 32, 112, 111, 112, 51]⟩ := ba_append [109, 111, 100, 101, 32] [112, 111, 112, 51]
          have m2 : (⟨#[109, 111, 100, 101, 32, 112, 111, 112, 51]⟩ ++ ⟨#[59]⟩ : ByteArray) = ⟨#[109, 111, 100, 101, 32, 112, 111, 112, 51, 59]⟩ := ba_append [109, 111, 100, 101, 32, 112, 111, 112, 51] [59]
          obtain ⟨FT, hFT⟩ : ∃ y, [109, 111, 100, 101, 32, 112, 111, 112, 51, 59] ++ SB = y := ⟨_, rfl⟩
          have sFT : (⟨#[109, 111, 100, 101, 32, 112, 111, 112, 51, 59]⟩ ++ ⟨SB.toArray⟩ : ByteArray) = ⟨FT.toArray⟩ := by rw [← hFT]; exact ba_append [109, 111, 100, 101, 32, 112, 111, 112, 51, 59] SB
          obtain ⟨LFT, lFT⟩ : ∃ y, FT.length = y := ⟨_, rfl⟩
          have bFT : LFT ≤ 600 := by have := congrArg List.length hFT; rw [List.length_append] at this; simp only [List.length_cons, List.length_nil] at this; omega
          have zFT : (⟨FT.toArray⟩ : ByteArray).size = LFT := lFT
          have hft : Ps.begins [112, 111, 112, 51] ++ Ck.stmtQ 1 X = FT := by
            rw [← hFT, ← hSB, ← hSA, ← HQL.out.1]
            simp [Ps.begins, Ps.wMode, Ck.stmtQ, Ck.preW, Ck.postW, Ps.quoteS]
          obtain ⟨md, row, top, p, c, _, hpc, hout⟩ := source_out FT
          have SRC := source_any FT (by omega) wr (HSA.out)
          have hlaw := Ck.codes_law (x := [112, 111, 112, 51]) (by decide) (w := 1) (by decide) (c := X) ⟨by have := HXL.out; omega, HMQ.out⟩
          rw [hft] at hlaw
          have hmd : Ps.mode [112, 111, 112, 51] = 2 := by decide
          rw [hmd] at hlaw
          have RC := fun wx => rcodes_any 2 X (by have := HXL.out; omega) wx
          have HOUT := Lib.hid hout
          have SRC2 := Lib.hid (fun wx (hx : Below wr.heap.size wr wx) => source_any FT (by omega) wx (HSA.out.below hx))
          clear SRC hft hout
          cases hcd : Ln.codes (2 : Int) X with
          | true =>
            have h0 : c = 0 := by
              obtain ⟨q, hq⟩ := hlaw.1 hcd
              rcases hpc with ⟨h1, _, _⟩ | ⟨_, h1, _⟩
              · exact h1
              · rw [hq] at h1; cases h1
            subst h0
            have RCT := Lib.hid (fun wx => (RC wx).mono (fun e w' (h : e = .returned (.bool (Ln.codes (2 : Int) X)) ∧ Below wx.heap.size wx w') => (by rw [hcd] at h; exact h : e = .returned (.bool true) ∧ Below wx.heap.size wx w')))
            clear hlaw hpc hcd RC hFT hGA hGB hSA hSB hIA hIB
            have SX := fun o o' => SRC2.out ((wr.alloc o).alloc o') (below_two (Below.refl _ wr) o o' (Nat.le_refl _))
            go_wp2_with fail
            refine (SX _ _).mono ?_
            rintro e w2 hP
            obtain ⟨a1, c1, u1, d1, hb2, rfl, _⟩ := HOUT.out _ _ _ hP
            have hb12 : Below wr.heap.size wr w2 := Below.trans (below_two (Below.refl _ wr) _ _ (Nat.le_refl _)) (hb2.mono (by simp; omega))
            have HB2 := Lib.hid (HBA.out.trans (hb12.mono HBA.out.size))
            clear hP hb2 SX hb12
            go_wp2_with fail
            refine (RCT.out _).mono ?_
            rintro e w3 ⟨rfl, hb3⟩
            have HB3 := Lib.hid ((HB2.out.alloc HB2.out.size _).trans (hb3.mono (HB2.out.alloc HB2.out.size _).size))
            clear hb3
            go_wp2
            go_ret
            exact ⟨rfl, HB3.out⟩
          | false =>
            have h0 : c = 34 := by
              obtain ⟨q, hq⟩ := hlaw.2 hcd
              rcases hpc with ⟨_, h1, _⟩ | ⟨_, h1, _⟩
              · rw [hq] at h1; cases h1
              · rw [hq] at h1
                injection h1 with h2
                exact (Prod.mk.inj h2).2.symm
            subst h0
            have RCT := Lib.hid (fun wx => (RC wx).mono (fun e w' (h : e = .returned (.bool (Ln.codes (2 : Int) X)) ∧ Below wx.heap.size wx w') => (by rw [hcd] at h; exact h : e = .returned (.bool false) ∧ Below wx.heap.size wx w')))
            clear hlaw hpc hcd RC hFT hGA hGB hSA hSB hIA hIB
            have SX := fun o o' => SRC2.out ((wr.alloc o).alloc o') (below_two (Below.refl _ wr) o o' (Nat.le_refl _))
            go_wp2_with fail
            refine (SX _ _).mono ?_
            rintro e w2 hP
            obtain ⟨a1, c1, u1, d1, hb2, rfl, _⟩ := HOUT.out _ _ _ hP
            have hb12 : Below wr.heap.size wr w2 := Below.trans (below_two (Below.refl _ wr) _ _ (Nat.le_refl _)) (hb2.mono (by simp; omega))
            have HB2 := Lib.hid (HBA.out.trans (hb12.mono HBA.out.size))
            clear hP hb2 SX hb12
            go_wp2_with fail
            refine (RCT.out _).mono ?_
            rintro e w3 ⟨rfl, hb3⟩
            have HB3 := Lib.hid ((HB2.out.alloc HB2.out.size _).trans (hb3.mono (HB2.out.alloc HB2.out.size _).size))
            clear hb3
            go_wp2
            go_ret
            exact ⟨rfl, HB3.out⟩
        · have m1 : (⟨#[109, 111, 100, 101, 32]⟩ ++ ⟨#[112, 111, 112, 51]⟩ : ByteArray) = ⟨#[109, 111, 100, 101, 32, 112, 111, 112, 51]⟩ := ba_append [109, 111, 100, 101, 32] [112, 111, 112, 51]
          have m2 : (⟨#[109, 111, 100, 101, 32, 112, 111, 112, 51]⟩ ++ ⟨#[59]⟩ : ByteArray) = ⟨#[109, 111, 100, 101, 32, 112, 111, 112, 51, 59]⟩ := ba_append [109, 111, 100, 101, 32, 112, 111, 112, 51] [59]
          obtain ⟨FT, hFT⟩ : ∃ y, [109, 111, 100, 101, 32, 112, 111, 112, 51, 59] ++ IB = y := ⟨_, rfl⟩
          have sFT : (⟨#[109, 111, 100, 101, 32, 112, 111, 112, 51, 59]⟩ ++ ⟨IB.toArray⟩ : ByteArray) = ⟨FT.toArray⟩ := by rw [← hFT]; exact ba_append [109, 111, 100, 101, 32, 112, 111, 112, 51, 59] IB
          obtain ⟨LFT, lFT⟩ : ∃ y, FT.length = y := ⟨_, rfl⟩
          have bFT : LFT ≤ 600 := by have := congrArg List.length hFT; rw [List.length_append] at this; simp only [List.length_cons, List.length_nil] at this; omega
          have zFT : (⟨FT.toArray⟩ : ByteArray).size = LFT := lFT
          have hft : Ps.begins [112, 111, 112, 51] ++ Ck.stmtQ 2 X = FT := by
            rw [← hFT, ← hIB, ← hIA, ← HQL.out.1]
            simp [Ps.begins, Ps.wMode, Ck.stmtQ, Ck.preW, Ck.postW, Ps.quoteS]
          obtain ⟨md, row, top, p, c, _, hpc, hout⟩ := source_out FT
          have SRC := source_any FT (by omega) wr (HSA.out)
          have hlaw := Ck.codes_law (x := [112, 111, 112, 51]) (by decide) (w := 2) (by decide) (c := X) ⟨by have := HXL.out; omega, HMQ.out⟩
          rw [hft] at hlaw
          have hmd : Ps.mode [112, 111, 112, 51] = 2 := by decide
          rw [hmd] at hlaw
          have RC := fun wx => rcodes_any 2 X (by have := HXL.out; omega) wx
          have HOUT := Lib.hid hout
          have SRC2 := Lib.hid (fun wx (hx : Below wr.heap.size wr wx) => source_any FT (by omega) wx (HSA.out.below hx))
          clear SRC hft hout
          cases hcd : Ln.codes (2 : Int) X with
          | true =>
            have h0 : c = 0 := by
              obtain ⟨q, hq⟩ := hlaw.1 hcd
              rcases hpc with ⟨h1, _, _⟩ | ⟨_, h1, _⟩
              · exact h1
              · rw [hq] at h1; cases h1
            subst h0
            have RCT := Lib.hid (fun wx => (RC wx).mono (fun e w' (h : e = .returned (.bool (Ln.codes (2 : Int) X)) ∧ Below wx.heap.size wx w') => (by rw [hcd] at h; exact h : e = .returned (.bool true) ∧ Below wx.heap.size wx w')))
            clear hlaw hpc hcd RC hFT hGA hGB hSA hSB hIA hIB
            have SX := fun o o' => SRC2.out ((wr.alloc o).alloc o') (below_two (Below.refl _ wr) o o' (Nat.le_refl _))
            go_wp2_with fail
            refine (SX _ _).mono ?_
            rintro e w2 hP
            obtain ⟨a1, c1, u1, d1, hb2, rfl, _⟩ := HOUT.out _ _ _ hP
            have hb12 : Below wr.heap.size wr w2 := Below.trans (below_two (Below.refl _ wr) _ _ (Nat.le_refl _)) (hb2.mono (by simp; omega))
            have HB2 := Lib.hid (HBA.out.trans (hb12.mono HBA.out.size))
            clear hP hb2 SX hb12
            go_wp2_with fail
            refine (RCT.out _).mono ?_
            rintro e w3 ⟨rfl, hb3⟩
            have HB3 := Lib.hid ((HB2.out.alloc HB2.out.size _).trans (hb3.mono (HB2.out.alloc HB2.out.size _).size))
            clear hb3
            go_wp2
            go_ret
            exact ⟨rfl, HB3.out⟩
          | false =>
            have h0 : c = 34 := by
              obtain ⟨q, hq⟩ := hlaw.2 hcd
              rcases hpc with ⟨_, h1, _⟩ | ⟨_, h1, _⟩
              · rw [hq] at h1; cases h1
              · rw [hq] at h1
                injection h1 with h2
                exact (Prod.mk.inj h2).2.symm
            subst h0
            have RCT := Lib.hid (fun wx => (RC wx).mono (fun e w' (h : e = .returned (.bool (Ln.codes (2 : Int) X)) ∧ Below wx.heap.size wx w') => (by rw [hcd] at h; exact h : e = .returned (.bool false) ∧ Below wx.heap.size wx w')))
            clear hlaw hpc hcd RC hFT hGA hGB hSA hSB hIA hIB
            have SX := fun o o' => SRC2.out ((wr.alloc o).alloc o') (below_two (Below.refl _ wr) o o' (Nat.le_refl _))
            go_wp2_with fail
            refine (SX _ _).mono ?_
            rintro e w2 hP
            obtain ⟨a1, c1, u1, d1, hb2, rfl, _⟩ := HOUT.out _ _ _ hP
            have hb12 : Below wr.heap.size wr w2 := Below.trans (below_two (Below.refl _ wr) _ _ (Nat.le_refl _)) (hb2.mono (by simp; omega))
            have HB2 := Lib.hid (HBA.out.trans (hb12.mono HBA.out.size))
            clear hP hb2 SX hb12
            go_wp2_with fail
            refine (RCT.out _).mono ?_
            rintro e w3 ⟨rfl, hb3⟩
            have HB3 := Lib.hid ((HB2.out.alloc HB2.out.size _).trans (hb3.mono (HB2.out.alloc HB2.out.size _).size))
            clear hb3
            go_wp2
            go_ret
            exact ⟨rfl, HB3.out⟩
      · rcases (by omega : k = 0 ∨ k = 1 ∨ k = 2) with rfl | rfl | rfl
        · have m1 : (⟨#[109, 111, 100, 101, 32]⟩ ++ ⟨#[102, 116, 112]⟩ : ByteArray) = ⟨#[109, 111, 100, 101, 32, 102, 116, 112]⟩ := ba_append [109, 111, 100, 101, 32] [102, 116, 112]
          have m2 : (⟨#[109, 111, 100, 101, 32, 102, 116, 112]⟩ ++ ⟨#[59]⟩ : ByteArray) = ⟨#[109, 111, 100, 101, 32, 102, 116, 112, 59]⟩ := ba_append [109, 111, 100, 101, 32, 102, 116, 112] [59]
          obtain ⟨FT, hFT⟩ : ∃ y, [109, 111, 100, 101, 32, 102, 116, 112, 59] ++ GB = y := ⟨_, rfl⟩
          have sFT : (⟨#[109, 111, 100, 101, 32, 102, 116, 112, 59]⟩ ++ ⟨GB.toArray⟩ : ByteArray) = ⟨FT.toArray⟩ := by rw [← hFT]; exact ba_append [109, 111, 100, 101, 32, 102, 116, 112, 59] GB
          obtain ⟨LFT, lFT⟩ : ∃ y, FT.length = y := ⟨_, rfl⟩
          have bFT : LFT ≤ 600 := by have := congrArg List.length hFT; rw [List.length_append] at this; simp only [List.length_cons, List.length_nil] at this; omega
          have zFT : (⟨FT.toArray⟩ : ByteArray).size = LFT := lFT
          have hft : Ps.begins [102, 116, 112] ++ Ck.stmtQ 0 X = FT := by
            rw [← hFT, ← hGB, ← hGA, ← HQL.out.1]
            simp [Ps.begins, Ps.wMode, Ck.stmtQ, Ck.preW, Ck.postW, Ps.quoteS]
          obtain ⟨md, row, top, p, c, _, hpc, hout⟩ := source_out FT
          have SRC := source_any FT (by omega) wr (HSA.out)
          have hlaw := Ck.codes_law (x := [102, 116, 112]) (by decide) (w := 0) (by decide) (c := X) ⟨by have := HXL.out; omega, HMQ.out⟩
          rw [hft] at hlaw
          have hmd : Ps.mode [102, 116, 112] = 3 := by decide
          rw [hmd] at hlaw
          have RC := fun wx => rcodes_any 3 X (by have := HXL.out; omega) wx
          have HOUT := Lib.hid hout
          have SRC2 := Lib.hid (fun wx (hx : Below wr.heap.size wr wx) => source_any FT (by omega) wx (HSA.out.below hx))
          clear SRC hft hout
          cases hcd : Ln.codes (3 : Int) X with
          | true =>
            have h0 : c = 0 := by
              obtain ⟨q, hq⟩ := hlaw.1 hcd
              rcases hpc with ⟨h1, _, _⟩ | ⟨_, h1, _⟩
              · exact h1
              · rw [hq] at h1; cases h1
            subst h0
            have RCT := Lib.hid (fun wx => (RC wx).mono (fun e w' (h : e = .returned (.bool (Ln.codes (3 : Int) X)) ∧ Below wx.heap.size wx w') => (by rw [hcd] at h; exact h : e = .returned (.bool true) ∧ Below wx.heap.size wx w')))
            clear hlaw hpc hcd RC hFT hGA hGB hSA hSB hIA hIB
            have SX := fun o o' => SRC2.out ((wr.alloc o).alloc o') (below_two (Below.refl _ wr) o o' (Nat.le_refl _))
            go_wp2_with fail
            refine (SX _ _).mono ?_
            rintro e w2 hP
            obtain ⟨a1, c1, u1, d1, hb2, rfl, _⟩ := HOUT.out _ _ _ hP
            have hb12 : Below wr.heap.size wr w2 := Below.trans (below_two (Below.refl _ wr) _ _ (Nat.le_refl _)) (hb2.mono (by simp; omega))
            have HB2 := Lib.hid (HBA.out.trans (hb12.mono HBA.out.size))
            clear hP hb2 SX hb12
            go_wp2_with fail
            refine (RCT.out _).mono ?_
            rintro e w3 ⟨rfl, hb3⟩
            have HB3 := Lib.hid ((HB2.out.alloc HB2.out.size _).trans (hb3.mono (HB2.out.alloc HB2.out.size _).size))
            clear hb3
            go_wp2
            go_ret
            exact ⟨rfl, HB3.out⟩
          | false =>
            have h0 : c = 34 := by
              obtain ⟨q, hq⟩ := hlaw.2 hcd
              rcases hpc with ⟨_, h1, _⟩ | ⟨_, h1, _⟩
              · rw [hq] at h1; cases h1
              · rw [hq] at h1
                injection h1 with h2
                exact (Prod.mk.inj h2).2.symm
            subst h0
            have RCT := Lib.hid (fun wx => (RC wx).mono (fun e w' (h : e = .returned (.bool (Ln.codes (3 : Int) X)) ∧ Below wx.heap.size wx w') => (by rw [hcd] at h; exact h : e = .returned (.bool false) ∧ Below wx.heap.size wx w')))
            clear hlaw hpc hcd RC hFT hGA hGB hSA hSB hIA hIB
            have SX := fun o o' => SRC2.out ((wr.alloc o).alloc o') (below_two (Below.refl _ wr) o o' (Nat.le_refl _))
            go_wp2_with fail
            refine (SX _ _).mono ?_
            rintro e w2 hP
            obtain ⟨a1, c1, u1, d1, hb2, rfl, _⟩ := HOUT.out _ _ _ hP
            have hb12 : Below wr.heap.size wr w2 := Below.trans (below_two (Below.refl _ wr) _ _ (Nat.le_refl _)) (hb2.mono (by simp; omega))
            have HB2 := Lib.hid (HBA.out.trans (hb12.mono HBA.out.size))
            clear hP hb2 SX hb12
            go_wp2_with fail
            refine (RCT.out _).mono ?_
            rintro e w3 ⟨rfl, hb3⟩
            have HB3 := Lib.hid ((HB2.out.alloc HB2.out.size _).trans (hb3.mono (HB2.out.alloc HB2.out.size _).size))
            clear hb3
            go_wp2
            go_ret
            exact ⟨rfl, HB3.out⟩
        · have m1 : (⟨#[109, 111, 100, 101, 32]⟩ ++ ⟨#[102, 116, 112]⟩ : ByteArray) = ⟨#[109, 111, 100, 101, 32, 102, 116, 112]⟩ := ba_append [109, 111, 100, 101, 32] [102, 116, 112]
          have m2 : (⟨#[109, 111, 100, 101, 32, 102, 116, 112]⟩ ++ ⟨#[59]⟩ : ByteArray) = ⟨#[109, 111, 100, 101, 32, 102, 116, 112, 59]⟩ := ba_append [109, 111, 100, 101, 32, 102, 116, 112] [59]
          obtain ⟨FT, hFT⟩ : ∃ y, [109, 111, 100, 101, 32, 102, 116, 112, 59] ++ SB = y := ⟨_, rfl⟩
          have sFT : (⟨#[109, 111, 100, 101, 32, 102, 116, 112, 59]⟩ ++ ⟨SB.toArray⟩ : ByteArray) = ⟨FT.toArray⟩ := by rw [← hFT]; exact ba_append [109, 111, 100, 101, 32, 102, 116, 112, 59] SB
          obtain ⟨LFT, lFT⟩ : ∃ y, FT.length = y := ⟨_, rfl⟩
          have bFT : LFT ≤ 600 := by have := congrArg List.length hFT; rw [List.length_append] at this; simp only [List.length_cons, List.length_nil] at this; omega
          have zFT : (⟨FT.toArray⟩ : ByteArray).size = LFT := lFT
          have hft : Ps.begins [102, 116, 112] ++ Ck.stmtQ 1 X = FT := by
            rw [← hFT, ← hSB, ← hSA, ← HQL.out.1]
            simp [Ps.begins, Ps.wMode, Ck.stmtQ, Ck.preW, Ck.postW, Ps.quoteS]
          obtain ⟨md, row, top, p, c, _, hpc, hout⟩ := source_out FT
          have SRC := source_any FT (by omega) wr (HSA.out)
          have hlaw := Ck.codes_law (x := [102, 116, 112]) (by decide) (w := 1) (by decide) (c := X) ⟨by have := HXL.out; omega, HMQ.out⟩
          rw [hft] at hlaw
          have hmd : Ps.mode [102, 116, 112] = 3 := by decide
          rw [hmd] at hlaw
          have RC := fun wx => rcodes_any 3 X (by have := HXL.out; omega) wx
          have HOUT := Lib.hid hout
          have SRC2 := Lib.hid (fun wx (hx : Below wr.heap.size wr wx) => source_any FT (by omega) wx (HSA.out.below hx))
          clear SRC hft hout
          cases hcd : Ln.codes (3 : Int) X with
          | true =>
            have h0 : c = 0 := by
              obtain ⟨q, hq⟩ := hlaw.1 hcd
              rcases hpc with ⟨h1, _, _⟩ | ⟨_, h1, _⟩
              · exact h1
              · rw [hq] at h1; cases h1
            subst h0
            have RCT := Lib.hid (fun wx => (RC wx).mono (fun e w' (h : e = .returned (.bool (Ln.codes (3 : Int) X)) ∧ Below wx.heap.size wx w') => (by rw [hcd] at h; exact h : e = .returned (.bool true) ∧ Below wx.heap.size wx w')))
            clear hlaw hpc hcd RC hFT hGA hGB hSA hSB hIA hIB
            have SX := fun o o' => SRC2.out ((wr.alloc o).alloc o') (below_two (Below.refl _ wr) o o' (Nat.le_refl _))
            go_wp2_with fail
            refine (SX _ _).mono ?_
            rintro e w2 hP
            obtain ⟨a1, c1, u1, d1, hb2, rfl, _⟩ := HOUT.out _ _ _ hP
            have hb12 : Below wr.heap.size wr w2 := Below.trans (below_two (Below.refl _ wr) _ _ (Nat.le_refl _)) (hb2.mono (by simp; omega))
            have HB2 := Lib.hid (HBA.out.trans (hb12.mono HBA.out.size))
            clear hP hb2 SX hb12
            go_wp2_with fail
            refine (RCT.out _).mono ?_
            rintro e w3 ⟨rfl, hb3⟩
            have HB3 := Lib.hid ((HB2.out.alloc HB2.out.size _).trans (hb3.mono (HB2.out.alloc HB2.out.size _).size))
            clear hb3
            go_wp2
            go_ret
            exact ⟨rfl, HB3.out⟩
          | false =>
            have h0 : c = 34 := by
              obtain ⟨q, hq⟩ := hlaw.2 hcd
              rcases hpc with ⟨_, h1, _⟩ | ⟨_, h1, _⟩
              · rw [hq] at h1; cases h1
              · rw [hq] at h1
                injection h1 with h2
                exact (Prod.mk.inj h2).2.symm
            subst h0
            have RCT := Lib.hid (fun wx => (RC wx).mono (fun e w' (h : e = .returned (.bool (Ln.codes (3 : Int) X)) ∧ Below wx.heap.size wx w') => (by rw [hcd] at h; exact h : e = .returned (.bool false) ∧ Below wx.heap.size wx w')))
            clear hlaw hpc hcd RC hFT hGA hGB hSA hSB hIA hIB
            have SX := fun o o' => SRC2.out ((wr.alloc o).alloc o') (below_two (Below.refl _ wr) o o' (Nat.le_refl _))
            go_wp2_with fail
            refine (SX _ _).mono ?_
            rintro e w2 hP
            obtain ⟨a1, c1, u1, d1, hb2, rfl, _⟩ := HOUT.out _ _ _ hP
            have hb12 : Below wr.heap.size wr w2 := Below.trans (below_two (Below.refl _ wr) _ _ (Nat.le_refl _)) (hb2.mono (by simp; omega))
            have HB2 := Lib.hid (HBA.out.trans (hb12.mono HBA.out.size))
            clear hP hb2 SX hb12
            go_wp2_with fail
            refine (RCT.out _).mono ?_
            rintro e w3 ⟨rfl, hb3⟩
            have HB3 := Lib.hid ((HB2.out.alloc HB2.out.size _).trans (hb3.mono (HB2.out.alloc HB2.out.size _).size))
            clear hb3
            go_wp2
            go_ret
            exact ⟨rfl, HB3.out⟩
        · have m1 : (⟨#[109, 111, 100, 101, 32]⟩ ++ ⟨#[102, 116, 112]⟩ : ByteArray) = ⟨#[109, 111, 100, 101, 32, 102, 116, 112]⟩ := ba_append [109, 111, 100, 101, 32] [102, 116, 112]
          have m2 : (⟨#[109, 111, 100, 101, 32, 102, 116, 112]⟩ ++ ⟨#[59]⟩ : ByteArray) = ⟨#[109, 111, 100, 101, 32, 102, 116, 112, 59]⟩ := ba_append [109, 111, 100, 101, 32, 102, 116, 112] [59]
          obtain ⟨FT, hFT⟩ : ∃ y, [109, 111, 100, 101, 32, 102, 116, 112, 59] ++ IB = y := ⟨_, rfl⟩
          have sFT : (⟨#[109, 111, 100, 101, 32, 102, 116, 112, 59]⟩ ++ ⟨IB.toArray⟩ : ByteArray) = ⟨FT.toArray⟩ := by rw [← hFT]; exact ba_append [109, 111, 100, 101, 32, 102, 116, 112, 59] IB
          obtain ⟨LFT, lFT⟩ : ∃ y, FT.length = y := ⟨_, rfl⟩
          have bFT : LFT ≤ 600 := by have := congrArg List.length hFT; rw [List.length_append] at this; simp only [List.length_cons, List.length_nil] at this; omega
          have zFT : (⟨FT.toArray⟩ : ByteArray).size = LFT := lFT
          have hft : Ps.begins [102, 116, 112] ++ Ck.stmtQ 2 X = FT := by
            rw [← hFT, ← hIB, ← hIA, ← HQL.out.1]
            simp [Ps.begins, Ps.wMode, Ck.stmtQ, Ck.preW, Ck.postW, Ps.quoteS]
          obtain ⟨md, row, top, p, c, _, hpc, hout⟩ := source_out FT
          have SRC := source_any FT (by omega) wr (HSA.out)
          have hlaw := Ck.codes_law (x := [102, 116, 112]) (by decide) (w := 2) (by decide) (c := X) ⟨by have := HXL.out; omega, HMQ.out⟩
          rw [hft] at hlaw
          have hmd : Ps.mode [102, 116, 112] = 3 := by decide
          rw [hmd] at hlaw
          have RC := fun wx => rcodes_any 3 X (by have := HXL.out; omega) wx
          have HOUT := Lib.hid hout
          have SRC2 := Lib.hid (fun wx (hx : Below wr.heap.size wr wx) => source_any FT (by omega) wx (HSA.out.below hx))
          clear SRC hft hout
          cases hcd : Ln.codes (3 : Int) X with
          | true =>
            have h0 : c = 0 := by
              obtain ⟨q, hq⟩ := hlaw.1 hcd
              rcases hpc with ⟨h1, _, _⟩ | ⟨_, h1, _⟩
              · exact h1
              · rw [hq] at h1; cases h1
            subst h0
            have RCT := Lib.hid (fun wx => (RC wx).mono (fun e w' (h : e = .returned (.bool (Ln.codes (3 : Int) X)) ∧ Below wx.heap.size wx w') => (by rw [hcd] at h; exact h : e = .returned (.bool true) ∧ Below wx.heap.size wx w')))
            clear hlaw hpc hcd RC hFT hGA hGB hSA hSB hIA hIB
            have SX := fun o o' => SRC2.out ((wr.alloc o).alloc o') (below_two (Below.refl _ wr) o o' (Nat.le_refl _))
            go_wp2_with fail
            refine (SX _ _).mono ?_
            rintro e w2 hP
            obtain ⟨a1, c1, u1, d1, hb2, rfl, _⟩ := HOUT.out _ _ _ hP
            have hb12 : Below wr.heap.size wr w2 := Below.trans (below_two (Below.refl _ wr) _ _ (Nat.le_refl _)) (hb2.mono (by simp; omega))
            have HB2 := Lib.hid (HBA.out.trans (hb12.mono HBA.out.size))
            clear hP hb2 SX hb12
            go_wp2_with fail
            refine (RCT.out _).mono ?_
            rintro e w3 ⟨rfl, hb3⟩
            have HB3 := Lib.hid ((HB2.out.alloc HB2.out.size _).trans (hb3.mono (HB2.out.alloc HB2.out.size _).size))
            clear hb3
            go_wp2
            go_ret
            exact ⟨rfl, HB3.out⟩
          | false =>
            have h0 : c = 34 := by
              obtain ⟨q, hq⟩ := hlaw.2 hcd
              rcases hpc with ⟨_, h1, _⟩ | ⟨_, h1, _⟩
              · rw [hq] at h1; cases h1
              · rw [hq] at h1
                injection h1 with h2
                exact (Prod.mk.inj h2).2.symm
            subst h0
            have RCT := Lib.hid (fun wx => (RC wx).mono (fun e w' (h : e = .returned (.bool (Ln.codes (3 : Int) X)) ∧ Below wx.heap.size wx w') => (by rw [hcd] at h; exact h : e = .returned (.bool false) ∧ Below wx.heap.size wx w')))
            clear hlaw hpc hcd RC hFT hGA hGB hSA hSB hIA hIB
            have SX := fun o o' => SRC2.out ((wr.alloc o).alloc o') (below_two (Below.refl _ wr) o o' (Nat.le_refl _))
            go_wp2_with fail
            refine (SX _ _).mono ?_
            rintro e w2 hP
            obtain ⟨a1, c1, u1, d1, hb2, rfl, _⟩ := HOUT.out _ _ _ hP
            have hb12 : Below wr.heap.size wr w2 := Below.trans (below_two (Below.refl _ wr) _ _ (Nat.le_refl _)) (hb2.mono (by simp; omega))
            have HB2 := Lib.hid (HBA.out.trans (hb12.mono HBA.out.size))
            clear hP hb2 SX hb12
            go_wp2_with fail
            refine (RCT.out _).mono ?_
            rintro e w3 ⟨rfl, hb3⟩
            have HB3 := Lib.hid ((HB2.out.alloc HB2.out.size _).trans (hb3.mono (HB2.out.alloc HB2.out.size _).size))
            clear hb3
            go_wp2
            go_ret
            exact ⟨rfl, HB3.out⟩

theorem byte_of {a : Int} (h : (Lit.int .u8 a).wf = true) : ∃ A : Nat, a = (A : Int) ∧ A < 256 := by
  have h' : 0 ≤ a ∧ a ≤ 255 := by
    unfold Lit.wf at h
    rw [Bool.and_eq_true, decide_eq_true_eq, decide_eq_true_eq, show IntKind.min .u8 = 0 by decide, show IntKind.max .u8 = 255 by decide] at h
    exact h
  exact ⟨a.toNat, by omega, by omega⟩
theorem lawCodesC (a : Int) (s : ByteArray) (b : Int) (ha : (Lit.int .u8 a).wf = true) (hs : s.size ≤ maxLen) (hb : (Lit.int .u8 b).wf = true) (w : World) (hS : SHP w) :
    Calls Tryd.prog 6 #[.int .u8 a, .string s, .int .u8 b] w fun e w' => e = .returned (.bool true) ∧ Below w.heap.size w w' := by
  obtain ⟨A, rfl, hA⟩ := byte_of ha
  obtain ⟨B, rfl, hB⟩ := byte_of hb
  exact codes_way A B s hA hB hs w hS
end Go.Proofs.YthlbociimbpgkaaDoor
