/- The law LexQuotes walked (layer 14). -/
import Derived.Test.YtdeocejjneghjaaDoorLawWordsX
import Derived.Test.YtdeocejjneghjaaDoorLexQuote
import Derived.BigQuiet
import Derived.Deep.QuietTactic
namespace Go.Proofs.YtdeocejjneghjaaDoor
open Go.RowKit

/-- What the loop over the bytes has found. -/
def fineF (l : List UInt8) (k : Nat) : Bool := decide (l.length ≤ 100) && (l.take k).all Lx.mayQ
theorem fineF_step {l : List UInt8} {k : Nat} {c : UInt8} {r : List UInt8} (h : l.drop k = c :: r) : fineF l (k + 1) = (fineF l k && Lx.mayQ c) := by
  unfold fineF
  rw [take_snoc h, List.all_append]
  simp [Bool.and_assoc]

set_option maxRecDepth 20000 in
set_option maxHeartbeats 4000000 in
theorem lawQuotesX (s : ByteArray) (a1 : Int) (hs : s.size ≤ maxLen) (h1 : (Lit.int .u8 a1).wf = true) (w : World) :
    Calls Tryd.prog 3 #[.string s, .int .u8 a1] w fun e w' => e = .returned (.bool true) ∧ Below w.heap.size w w' := by
  have hb1 := bounds_u8 h1
  obtain ⟨A, rfl⟩ := Int.eq_ofNat_of_zero_le hb1.1
  have hA : A < 256 := by omega
  obtain ⟨J, hJ⟩ : ∃ J, A % 16 = J := ⟨_, rfl⟩
  have hJ1 : J ≤ 15 := by omega
  have hand : bits .and .u8 (A : Int) 15 = (J : Int) := by rw [show (15 : Int) = 2 ^ 4 - 1 from rfl, mask_u8 4 (by decide) (by omega) (by omega)]; omega
  have SH := short_any s hs
  obtain ⟨l, hl⟩ : ∃ l, s.data.toList.take 2100 = l := ⟨_, rfl⟩
  have hll : l.length ≤ 2100 := by rw [← hl, List.length_take]; omega
  rw [hl] at SH
  have QU := quote_any l (by omega)
  obtain ⟨L, hL⟩ : ∃ L, l.length = L := ⟨_, rfl⟩
  have hz : (⟨l.toArray⟩ : ByteArray).size = L := hL
  have HL := Lib.hid hL
  rw [hL] at hll
  have hF0 : (decide ((L : Int) ≤ 100)) = fineF l 0 := by
    unfold fineF; rw [hL]; simp; omega
  have HF0 := Lib.hid hF0
  clear h1 hb1 hJ hl hL hs hF0
  go_enter Tryd.func3, Tryd.ntmps3
  go_wp2_with fail
  refine (shown_any w).mono ?_
  rintro e wa ⟨rfl, hba⟩
  have HBA := Lib.hid hba
  clear hba
  go_wp2_with fail
  refine (SH _).mono ?_
  rintro e w' ⟨rfl, rfl⟩
  clear SH
  obtain ⟨Q, ok, hqv, hok, hq0, hq1⟩ : ∃ (Q : List UInt8) (ok : Bool), quoteV l = .tuple #[.string ⟨Q.toArray⟩, .bool ok] ∧ ok = fineF l L ∧ (ok = false → Q = []) ∧ (ok = true → Q = 34 :: (Lx.esc l ++ [34]) ∧ l.length ≤ 100 ∧ l.all Lx.mayQ = true) := by
    have hf : fineF l L = (decide (l.length ≤ 100) && l.all Lx.mayQ) := by unfold fineF; rw [List.take_of_length_le (by rw [HL.out]; exact Nat.le_refl _)]
    by_cases hq : l.length ≤ 100 ∧ l.all Lx.mayQ = true
    · exact ⟨_, true, quoteV_some hq, by rw [hf, hq.2]; simp [hq.1], fun h => Bool.noConfusion h, fun _ => ⟨rfl, hq⟩⟩
    · exact ⟨[], false, quoteV_none hq, (by rw [hf]; cases h : l.all Lx.mayQ <;> simp [h] at hq ⊢; omega), fun _ => rfl, fun h => Bool.noConfusion h⟩
  rw [hqv] at QU
  have HOK := Lib.hid hok
  have HQ0 := Lib.hid hq0
  have HQ1 := Lib.hid hq1
  clear hqv hok hq0 hq1
  go_wp2_with fail
  refine (QU _).mono ?_
  rintro e wb ⟨rfl, hbb⟩
  have HBB := Lib.hid (HBA.out.trans (hbb.mono HBA.out.size))
  clear hbb QU HBA
  go_wp2
  rw [HF0.out]
  go_loopw [8, 9] (fun s8 s9 wr => ∃ k : Nat, k ≤ L ∧ s9 = .int .i64 k ∧ s8 = .bool (fineF l k) ∧ Hid (wr = wb)) (fun _ i _ => L - (intOf i).toNat)
  case atStart => exact ⟨0, Nat.zero_le _, rfl, rfl, rfl⟩
  case round =>
    obtain ⟨k, hk, rfl, rfl, HW⟩ := hrel
    by_cases hlt : k < L
    · obtain ⟨c, r, hd, hgc, hr, hrl⟩ := Lx.drop_cons (l := l) (k := k) (by rw [HL.out]; exact hlt)
      have hx : ∀ h, (⟨l.toArray⟩ : ByteArray)[k]'h = c := fun h => by rw [byte_at]; exact hgc
      have HST := Lib.hid (fineF_step hd)
      have hk3 : (k : Int) < (L : Int) := by omega
      obtain ⟨b, hb⟩ : ∃ b, fineF l k = b := ⟨_, rfl⟩
      obtain ⟨m, hm⟩ : ∃ m, Lx.mayQ c = m := ⟨_, rfl⟩
      rw [hb, hm] at HST
      rw [hb]
      clear hgc hr hd hrl hb
      cases b
      · have HN := Lib.hid (HST.out.trans (Bool.false_and _))
        clear HST hm
        go_wp2
        go_roundw
        case rel => exact ⟨k + 1, by omega, by first | rfl | go_num, by rw [HN.out], HW⟩
        case measure => simp [intOf]; omega
      · have HN := Lib.hid (HST.out.trans (Bool.true_and _))
        clear HST
        have e9 : ∀ {n : Nat} (d : UInt8), d.toNat = n → c ≠ d → ((c.toNat : Int) == (n : Int)) = false := fun d hd hne => beq_eq_false_iff_ne.2 fun e => hne (UInt8.toNat_inj.1 (by omega))
        by_cases h32 : 32 ≤ c.toNat ∧ c.toNat ≤ 126
        · have hmt : m = true := by rw [← hm]; simp [Lx.mayQ, h32]
          subst hmt
          have g1 : ((32 : Int) ≤ (c.toNat : Int)) = True := eq_true (by omega)
          have g2 : ((c.toNat : Int) ≤ 126) = True := eq_true (by omega)
          clear hm h32 e9
          go_wp2
          go_roundw
          case rel => exact ⟨k + 1, by omega, by first | rfl | go_num, by rw [HN.out], HW⟩
          case measure => simp [intOf]; omega
        · have hm2 : m = (c == 9 || c == 10 || c == 13) := by
            rw [← hm]
            have : (decide (32 ≤ c.toNat) && decide (c.toNat ≤ 126)) = false := by
              rw [Bool.eq_false_iff]; intro e; simp at e; exact h32 e
            simp [Lx.mayQ, this]
          have HM := Lib.hid hm2
          have hlow : c = 9 ∨ c = 10 ∨ c = 13 ∨ (c ≠ 9 ∧ c ≠ 10 ∧ c ≠ 13) := by
            by_cases a : c = 9
            · exact .inl a
            by_cases b : c = 10
            · exact .inr (.inl b)
            by_cases d : c = 13
            · exact .inr (.inr (.inl d))
            exact .inr (.inr (.inr ⟨a, b, d⟩))
          clear hm hm2
          rcases hlow with rfl | rfl | rfl | ⟨n9, n10, n13⟩
          · have hmt : m = true := HM.out
            subst hmt
            clear HM e9 h32
            go_wp2
            go_roundw
            case rel => exact ⟨k + 1, by omega, by first | rfl | go_num, by rw [HN.out], HW⟩
            case measure => simp [intOf]; omega
          · have hmt : m = true := HM.out
            subst hmt
            clear HM e9 h32
            go_wp2
            go_roundw
            case rel => exact ⟨k + 1, by omega, by first | rfl | go_num, by rw [HN.out], HW⟩
            case measure => simp [intOf]; omega
          · have hmt : m = true := HM.out
            subst hmt
            clear HM e9 h32
            go_wp2
            go_roundw
            case rel => exact ⟨k + 1, by omega, by first | rfl | go_num, by rw [HN.out], HW⟩
            case measure => simp [intOf]; omega
          · have hmt : m = false := by rw [HM.out]; simp [n9, n10, n13]
            subst hmt
            have f9 : ((c.toNat : Int) == 9) = false := e9 9 rfl n9
            have f10 : ((c.toNat : Int) == 10) = false := e9 10 rfl n10
            have f13 : ((c.toNat : Int) == 13) = false := e9 13 rfl n13
            by_cases h3 : 32 ≤ c.toNat
            · have g1 : ((32 : Int) ≤ (c.toNat : Int)) = True := eq_true (by omega)
              have g2 : ((c.toNat : Int) ≤ 126) = False := eq_false (by omega)
              clear HM e9 h32 h3 n9 n10 n13
              go_wp2
              go_roundw
              case rel => exact ⟨k + 1, by omega, by first | rfl | go_num, by rw [HN.out], HW⟩
              case measure => simp [intOf]; omega
            · have g1 : ((32 : Int) ≤ (c.toNat : Int)) = False := eq_false (by omega)
              clear HM e9 h32 h3 n9 n10 n13
              go_wp2
              go_roundw
              case rel => exact ⟨k + 1, by omega, by first | rfl | go_num, by rw [HN.out], HW⟩
              case measure => simp [intOf]; omega
    · have hkL : k = L := by omega
      subst hkL
      rw [← HOK.out]
      obtain rfl : wr = wb := HW.out
      clear hlt hk HW
      cases ok
      · have hQ := HQ0.out rfl
        subst hQ
        have he : (⟨([] : List UInt8).toArray⟩ : ByteArray).toList.isEmpty = true := by rw [Lib.toList_data]; rfl
        go_wp2
        go_ret
        exact ⟨rfl, HBB.out⟩
      · obtain ⟨hQ, hl100, hall⟩ := HQ1.out rfl
        rw [HL.out] at hl100
        have hel := Lx.esc_len l
        rw [HL.out] at hel
        obtain ⟨M, hM⟩ : ∃ M, Q.length = M := ⟨_, rfl⟩
        have hzQ : (⟨Q.toArray⟩ : ByteArray).size = M := hM
        have hM2 : M ≤ 202 := by rw [← hM, hQ]; simp; omega
        have hMe : (Lx.esc l).length + 2 = M := by rw [← hM, hQ]; simp
        have HQ := Lib.hid hQ
        have HA := Lib.hid hall
        have HMe := Lib.hid hMe
        clear hQ hall hel hM hMe HQ0 HQ1
        obtain ⟨w2, hw2⟩ : ∃ w2, w2 = wr := ⟨_, rfl⟩
        rw [← hw2] at HBB ⊢
        clear hw2
        go_wp2
        go_loopw [10, 11] (fun s10 s11 wx => ∃ (j : Nat) (Y : List UInt8), j ≤ J ∧ s11 = .int .i64 j ∧ s10 = .string ⟨Y.toArray⟩ ∧ Y.length = j ∧ Hid (wx = w2) ∧ Hid (Y = List.replicate j 32)) (fun _ i _ => J - (intOf i).toNat)
        case atStart => exact ⟨0, [], Nat.zero_le _, rfl, rfl, rfl, rfl, rfl⟩
        case round =>
          obtain ⟨j, Y, hj, rfl, rfl, hY, HW, HY⟩ := hrel
          have hzy : (⟨Y.toArray⟩ : ByteArray).size = j := hY
          by_cases hlt : j < J
          · obtain ⟨X2, hX2, hlen, hX3⟩ := ba_snoc Y 32
            have hz1 : (⟨#[32]⟩ : ByteArray).size = 1 := rfl
            rw [hY] at hlen
            have HX2 : Hid (X2 = List.replicate (j + 1) 32) := Lib.hid (by rw [hX3, HY.out, List.replicate_succ'])
            have hsm : (9223372036854775807 < j + 1) = False := eq_false (by omega)
            clear hX3 hY
            go_wp2
            go_roundw
            case rel => exact ⟨j + 1, X2, by omega, by first | rfl | go_num, by first | rfl | simp only [hX2], hlen, HW, HX2⟩
            case measure => simp [intOf]; omega
          · have hjM : j = J := by omega
            subst hjM
            obtain rfl : w2 = wr := HW.out.symm
            obtain ⟨Z, hZ⟩ : ∃ Z : List UInt8, (⟨Y.toArray⟩ : ByteArray) ++ ⟨Q.toArray⟩ = ⟨Z.toArray⟩ := ⟨_, ByteArray.mk_append_mk Y Q⟩
            have hZ2 : Z = Y ++ Q := ba_inj (hZ.symm.trans (ByteArray.mk_append_mk Y Q))
            have hQl : Q.length = M := hzQ
            have hzZ : (⟨Z.toArray⟩ : ByteArray).size = j + M := by show Z.length = _; rw [hZ2, List.length_append, hY, hQl]
            obtain ⟨V, hV, hVl, hV3⟩ := ba_snoc Z 59
            have hz1 : (⟨#[59]⟩ : ByteArray).size = 1 := rfl
            have hVw : V = List.replicate j 32 ++ (34 :: (Lx.esc l ++ [34]) ++ [59]) := by rw [hV3, hZ2, HY.out, HQ.out]; simp
            have hVl2 : V.length ≤ 1048576 := by
              have : Z.length = j + M := hzZ
              rw [hVl, this]; omega
            have AL := all_any V hVl2
            have hql := Lx.all_quoted (g := List.replicate j 32) (t := l) (fun c hc => by rw [(List.mem_replicate.1 hc).2]; rfl) (by simp; omega) (by rw [HL.out]; exact hl100) HA.out
            rw [← hVw, List.length_replicate] at hql
            rw [hql] at AL
            have hs1 : (9223372036854775807 < j + M) = False := eq_false (by omega)
            have hs2 : (9223372036854775807 < j + M + 1) = False := eq_false (by omega)
            clear hql hVw hVl hVl2 hV3 hZ2 hQl hY HY HQ HA
            go_wp2_with fail
            refine (AL _).mono ?_
            rintro e w3 ⟨hb3, v, rfl, hv⟩
            have HV := Lib.hid (hv.below ((Below.refl w3.heap.size w3).alloc (Nat.le_refl _) (.cells #[.int .i64 3, .string ⟨l.toArray⟩, .int .i64 (j : Int)] 31)))
            have HB := Lib.hid ((HBB.out.trans (hb3.mono HBB.out.size)).alloc (Nat.le_trans HBB.out.size hb3.size) (.cells #[.int .i64 3, .string ⟨l.toArray⟩, .int .i64 (j : Int)] 31))
            have HWA := Lib.hid (Tk3.new w3 3 l j)
            obtain ⟨ao, cap, rfl, _⟩ := hv.form
            clear hb3 AL hv
            simp only [List.length_cons, List.length_nil, Nat.reduceAdd]
            have q2 := tokHeld
            have q3 := tokGuard
            have q4 := fun wx => tok_same 3 ⟨l.toArray⟩ (j : Int) wx
            go_wp2_with fail
            obtain ⟨w4, hw4⟩ : ∃ w4, w4 = w3.alloc (.cells #[.int .i64 3, .string ⟨l.toArray⟩, .int .i64 (j : Int)] 31) := ⟨_, rfl⟩
            rw [← hw4] at HV HB
            have HWA : Hid (Tk3 w4 w3.heap.size 3 l j) := Lib.hid (by rw [hw4]; exact Tk3.new w3 3 l j)
            rw [← hw4]
            clear hw4
            generalize w3.heap.size = b3 at *
            have HF := fun q => (HV.out.below (below_dn (Below.refl w4.heap.size w4) q)).form
            obtain ⟨ao', cap', hfe, hc⟩ := HV.out.form
            cases hfe
            obtain ⟨g, rfl, c0, c1, c2⟩ := hc 0 _ rfl
            obtain ⟨g', hg, c3, c4, c5⟩ := hc 1 _ rfl
            cases hg
            have dq : ∀ (a : Addr) q, (w4.drewN q).cell? a = w4.cell? a := fun a q => rfl
            have d0 := fun q => (dq _ q).trans c0
            have d1 := fun q => (dq _ q).trans c1
            have d2 := fun q => (dq _ q).trans c2
            have d4 := fun q => (dq _ q).trans c4
            have e0 := fun q => (dq _ q).trans HWA.out.c0
            have e1 := fun q => (dq _ q).trans HWA.out.c1
            have e2 := fun q => (dq _ q).trans HWA.out.c2
            simp only [Nat.zero_mul, Nat.one_mul, Nat.zero_add, Nat.reduceAdd] at d0 d1 d2 d4
            have e59 : ((⟨[59].toArray⟩ : ByteArray).toList == (⟨#[59]⟩ : ByteArray).toList) = true := by rw [Lib.toList_data]; rfl
            clear hc c0 c1 c2 c3 c4 c5 dq HF HWA HV
            go_quiet (fail)
            simp only [Exit.then]
            go_wp2
            go_ret
            exact ⟨rfl, below_dn HB.out _⟩
end Go.Proofs.YtdeocejjneghjaaDoor
