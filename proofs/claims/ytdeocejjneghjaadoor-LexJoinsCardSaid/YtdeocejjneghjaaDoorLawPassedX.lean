/- The law LexPassed walked (layer 14). -/
import Derived.Test.YtdeocejjneghjaaDoorLawWordsX
import Derived.BigQuiet
import Derived.Deep.QuietTactic
namespace Go.Proofs.YtdeocejjneghjaaDoor
open Go.RowKit

/-- What stands ahead: a remark; behind it its end, and blanks. -/
def Gap1 (X : List UInt8) : Prop := ∃ F, X = 35 :: F ∧ ∀ c ∈ F, c ≠ 10
def Gap2 (X : List UInt8) : Prop := ∃ F W, X = 35 :: (F ++ 10 :: W) ∧ (∀ c ∈ F, c ≠ 10) ∧ ∀ c ∈ W, Lx.blank c = true
theorem Gap1.more {X : List UInt8} {c : UInt8} (h : Gap1 X) (hc : c ≠ 10) : Gap1 (X ++ [c]) := by
  obtain ⟨F, rfl, h2⟩ := h
  exact ⟨F ++ [c], rfl, fun x hx => by rcases List.mem_append.1 hx with h | h; exact h2 x h; rw [List.mem_singleton.1 h]; exact hc⟩
theorem Gap1.done {X : List UInt8} (h : Gap1 X) : Gap2 (X ++ [10]) := by
  obtain ⟨F, rfl, h2⟩ := h
  exact ⟨F, [], rfl, h2, by simp⟩
theorem Gap2.more {X : List UInt8} {c : UInt8} (h : Gap2 X) (hc : Lx.blank c = true) : Gap2 (X ++ [c]) := by
  obtain ⟨F, W, rfl, h2, h3⟩ := h
  exact ⟨F, W ++ [c], by simp, h2, fun x hx => by rcases List.mem_append.1 hx with h | h; exact h3 x h; rw [List.mem_singleton.1 h]; exact hc⟩
theorem Gap2.skip {X : List UInt8} (h : Gap2 X) (s : List UInt8) : Lx.skip false (X ++ s) = Lx.skip false s := by
  obtain ⟨F, W, rfl, h2, h3⟩ := h
  rw [List.cons_append, Lx.skip, if_pos rfl, List.append_assoc, List.cons_append, Lx.skip_remark F h2, Lx.skip_gap W h3]
theorem ws_at (r : Nat) (h : r < 4) : ∃ d, (⟨#[32, 9, 13, 10]⟩ : ByteArray).extract r (r + 1) = ⟨#[d]⟩ ∧ Lx.blank d = true := by
  match r, h with
  | 0, _ => exact ⟨32, rfl, rfl⟩
  | 1, _ => exact ⟨9, rfl, rfl⟩
  | 2, _ => exact ⟨13, rfl, rfl⟩
  | 3, _ => exact ⟨10, rfl, rfl⟩
theorem ext_one {l : List UInt8} {k : Nat} {c : UInt8} {r : List UInt8} (h : l.drop k = c :: r) : (⟨l.toArray⟩ : ByteArray).extract k (k + 1) = ⟨#[c]⟩ := by
  rw [ba_extract, take_snoc h, List.drop_append_of_le_length, List.drop_of_length_le]
  · rfl
  · exact List.length_take_le _ _
  · rw [List.length_take]
    have := congrArg List.length h
    rw [List.length_drop, List.length_cons] at this
    omega
/-- The first bytes of a text, whatever it is. -/
theorem cut_to (s : ByteArray) (m : Nat) : ∃ l : List UInt8, l.length ≤ m ∧ (m < s.size → s.extract 0 m = ⟨l.toArray⟩) ∧ (¬ m < s.size → s = ⟨l.toArray⟩) := by
  have hl := Lib.size_eq s
  refine ⟨s.data.toList.take m, by rw [List.length_take]; omega, fun h => ?_, fun h => ?_⟩
  · have := ba_extract s.data.toList 0 m
    simpa using this
  · rw [List.take_of_length_le (by rw [← hl]; omega)]

set_option maxRecDepth 20000 in
set_option maxHeartbeats 40000000 in
theorem lawPassedX (s0 t : ByteArray) (a2 : Int) (hs0 : s0.size ≤ maxLen) (ht : t.size ≤ maxLen) (h2 : (Lit.int .u8 a2).wf = true) (w : World) :
    Calls Tryd.prog 5 #[.string s0, .string t, .int .u8 a2] w fun e w' => e = .returned (.bool true) ∧ Below w.heap.size w w' := by
  have hb2 := bounds_u8 h2
  obtain ⟨A, rfl⟩ := Int.eq_ofNat_of_zero_le hb2.1
  have hA : A < 256 := by omega
  obtain ⟨J, hJ⟩ : ∃ J, A % 16 = J := ⟨_, rfl⟩
  have hJ1 : J ≤ 15 := by omega
  have hand : bits .and .u8 (A : Int) 15 = (J : Int) := by rw [show (15 : Int) = 2 ^ 4 - 1 from rfl, mask_u8 4 (by decide) (by omega) (by omega)]; omega
  obtain ⟨l, hll, hx1, hx2⟩ := cut_to s0 900
  obtain ⟨q, rfl⟩ : ∃ q : List UInt8, t = ⟨q.toArray⟩ := ⟨t.data.toList, rfl⟩
  obtain ⟨T, hT⟩ : ∃ T, q.length = T := ⟨_, rfl⟩
  obtain ⟨S0, hS0⟩ : ∃ S, s0.size = S := ⟨_, rfl⟩
  have hzq : (⟨q.toArray⟩ : ByteArray).size = T := hT
  rw [hS0] at hs0 hx1 hx2
  rw [hzq] at ht
  unfold maxLen at hs0 ht
  have HT := Lib.hid hT
  clear h2 hb2 hJ hT
  have hcase : (900 < S0 ∧ s0.extract 0 900 = ⟨l.toArray⟩) ∨ (¬ 900 < S0 ∧ s0 = ⟨l.toArray⟩) := by
    by_cases h : 900 < S0
    · exact .inl ⟨h, hx1 h⟩
    · exact .inr ⟨h, hx2 h⟩
  obtain ⟨L, hL⟩ : ∃ L, l.length = L := ⟨_, rfl⟩
  have hzl : (⟨l.toArray⟩ : ByteArray).size = L := hL
  have HL := Lib.hid hL
  rw [hL] at hll
  clear hx1 hx2 hL
  go_enter Tryd.func5, Tryd.ntmps5
  go_wp2_with fail
  refine (shown_any w).mono ?_
  rintro e wa ⟨rfl, hba⟩
  have HBA := Lib.hid hba
  clear hba
  rcases hcase with ⟨hbig, hx⟩ | ⟨hbig, hx⟩
  · have hb1 : ((900 : Int) < (S0 : Int)) = True := eq_true (by omega)
    have hb2 : (900 : Int) ≤ (S0 : Int) := by omega
    clear hbig
    go_wp2
    try rw [hx]
    clear hx hb1 hb2
    go_loopw [8, 9] (fun s8 s9 wr => ∃ (k : Nat) (X : List UInt8), k ≤ T ∧ k ≤ 100 ∧ s9 = .int .i64 k ∧ s8 = .string ⟨X.toArray⟩ ∧ X.length ≤ k + 1 ∧ Hid (wr = wa) ∧ Hid (Gap1 X)) (fun _ i _ => 100 - (intOf i).toNat)
    case atStart => exact ⟨0, [35], by omega, by omega, rfl, rfl, by simp, rfl, ⟨[], rfl, by simp⟩⟩
    case round =>
      obtain ⟨k, X, hkT, hk1, rfl, rfl, hX, HW, HX⟩ := hrel
      obtain ⟨N, hN⟩ : ∃ N, X.length = N := ⟨_, rfl⟩
      have hzX : (⟨X.toArray⟩ : ByteArray).size = N := hN
      rw [hN] at hX
      by_cases hlt : k < T ∧ k < 100
      · obtain ⟨hlt1, hlt2⟩ := hlt
        obtain ⟨c, r, hd, hgc, hr, hrl⟩ := Lx.drop_cons (l := q) (k := k) (by rw [HT.out]; exact hlt1)
        have hx : ∀ h, (⟨q.toArray⟩ : ByteArray)[k]'h = c := fun h => by rw [byte_at]; exact hgc
        have hE := ext_one hd
        have hk3 : ((k : Int) < (T : Int)) = True := eq_true (by omega)
        have hk4 : ((k : Int) < 100) = True := eq_true (by omega)
        have hk5 : (k : Int) + 1 ≤ (T : Int) := by omega
        have hk6 : k + 1 ≤ T := by omega
        clear hgc hr hd hrl
        by_cases h10 : c = 10
        · subst h10
          clear hE
          go_wp2
          go_roundw
          case rel => exact ⟨k + 1, X, hk6, by omega, by first | rfl | go_num, rfl, by omega, HW, HX⟩
          case measure => simp [intOf]; omega
        · have h10b : ((c.toNat : Int) == 10) = false := beq_eq_false_iff_ne.2 fun e => h10 (UInt8.toNat_inj.1 (show c.toNat = (10 : UInt8).toNat by show c.toNat = 10; omega))
          obtain ⟨X2, hX2, hlen, hX3⟩ := ba_snoc X c
          have hz1 : (⟨#[c]⟩ : ByteArray).size = 1 := rfl
          have HX2 : Hid (Gap1 X2) := Lib.hid (by rw [hX3]; exact HX.out.more h10)
          rw [hN] at hlen
          have hsm : (9223372036854775807 < N + 1) = False := eq_false (by omega)
          have hlen2 : X2.length ≤ k + 1 + 1 := by omega
          clear hX3 h10 hN hlen HX
          go_wp2
          go_roundw
          case rel => exact ⟨k + 1, X2, hk6, by omega, by first | rfl | go_num, by first | rfl | simp only [hX2], hlen2, HW, HX2⟩
          case measure => simp [intOf]; omega
      · have hend : ((k : Int) < (T : Int)) = False ∨ (((k : Int) < (T : Int)) = True ∧ ((k : Int) < 100) = False) := by
          by_cases h : k < T
          · exact .inr ⟨eq_true (by omega), eq_false (by omega)⟩
          · exact .inl (eq_false (by omega))
        obtain ⟨X2, hX2, hlen, hX3⟩ := ba_snoc X 10
        have hz1 : (⟨#[10]⟩ : ByteArray).size = 1 := rfl
        have HX2 : Hid (Gap2 X2) := Lib.hid (by rw [hX3]; exact HX.out.done)
        rw [hN] at hlen
        have hsm : (9223372036854775807 < N + 1) = False := eq_false (by omega)
        have hlen2 : X2.length ≤ 102 := by omega
        clear hX3 hN hlen HX hlt
        obtain ⟨w2, hw2⟩ : ∃ w2, w2 = wr := ⟨_, rfl⟩
        have HBA : Hid (Below w.heap.size w w2) := Lib.hid (by rw [hw2, HW.out]; exact HBA.out)
        rw [← hw2]
        clear hw2 HW
        rcases hend with hend | ⟨hend, hend2⟩
        skip
        all_goals
          go_wp2
          go_loopw [8, 10] (fun s8 s10 wx => ∃ (j : Nat) (Y : List UInt8), j ≤ J ∧ s10 = .int .i64 j ∧ s8 = .string ⟨Y.toArray⟩ ∧ Y.length ≤ 102 + j ∧ Hid (wx = w2) ∧ Hid (Gap2 Y)) (fun _ i _ => J - (intOf i).toNat)
          case atStart => exact ⟨0, X2, Nat.zero_le _, rfl, by first | rfl | simp only [hX2], by omega, rfl, HX2⟩
          case round =>
            obtain ⟨j, Y, hj, rfl, rfl, hY, HW, HY⟩ := hrel
            obtain ⟨M, hM⟩ : ∃ M, Y.length = M := ⟨_, rfl⟩
            have hzy : (⟨Y.toArray⟩ : ByteArray).size = M := hM
            rw [hM] at hY
            clear HX2 hX2 hlen2
            by_cases hlt : j < J
            · obtain ⟨p, hp⟩ : ∃ p, j % 4 = p := ⟨_, rfl⟩
              have hp4 : p < 4 := by omega
              obtain ⟨d, hd, hdb⟩ := ws_at p hp4
              have p1 : (j : Int) % 4 = (p : Int) := by omega
              have p2 : (j : Int).tmod 4 = (p : Int) := by rw [Int.tmod_eq_emod_of_nonneg (by omega)]; exact p1
              obtain ⟨X3, hX3, hlen, hX4⟩ := ba_snoc Y d
              have hz1 : (⟨#[d]⟩ : ByteArray).size = 1 := rfl
              rw [hM] at hlen
              have HX3 : Hid (Gap2 X3) := Lib.hid (by rw [hX4]; exact HY.out.more hdb)
              have hsm : (9223372036854775807 < M + 1) = False := eq_false (by omega)
              have hlen3 : X3.length ≤ 102 + (j + 1) := by omega
              have hp5 : (p : Int) + 1 ≤ 4 := by omega
              have hp0 : (0 : Int) ≤ (p : Int) := by omega
              clear hX4 hlen hp hM HY hdb
              go_wp2
              go_roundw
              case rel => exact ⟨j + 1, X3, by omega, by first | rfl | go_num, by first | rfl | simp only [hX3], hlen3, HW, HX3⟩
              case measure => simp [intOf]; omega
            · have hjM : j = J := by omega
              subst hjM
              obtain rfl : w2 = wr := HW.out.symm
              have HBW : Hid (Below w.heap.size w w2) := HBA
              obtain ⟨V, hV⟩ : ∃ V : List UInt8, (⟨Y.toArray⟩ : ByteArray) ++ ⟨l.toArray⟩ = ⟨V.toArray⟩ := ⟨_, ByteArray.mk_append_mk Y l⟩
              have hV2 : V = Y ++ l := ba_inj (hV.symm.trans (ByteArray.mk_append_mk Y l))
              have hsm : (9223372036854775807 < M + L) = False := eq_false (by omega)
              have hVl : V.length = M + L := by rw [hV2, List.length_append, hM, HL.out]
              have AL1 := Lib.hid (fun wx => all_any l (by rw [HL.out]; omega) wx)
              have AL2 := Lib.hid (fun wx => all_any V (by rw [hVl]; omega) wx)
              have hgap := Lx.all_gap Y l (HY.out.skip l) (by rw [← hV2, hVl]; omega)
              rw [← hV2, hM] at hgap
              have HG := Lib.hid hgap
              have hM1 : (M : Int) ≤ 117 := by omega
              clear hgap hVl hV2 HY hM hlt hY HW
              cases hall : Lx.all l with
              | error x =>
                obtain ⟨p, e⟩ := x
                obtain ⟨he0, hpl⟩ := Lx.all_err hall
                rw [HL.out] at hpl
                have hgap := HG.out
                rw [hall] at AL1 hgap
                clear HG
                have g1 : ((e : Int) == 0) = false := beq_eq_false_iff_ne.2 (by omega)
                have g2 : ((e : Int) = 0) = False := eq_false (by omega)
                have g5 : (e = 0) = False := eq_false he0
                clear hall he0
                by_cases h4 : e = 4
                · subst h4
                  rw [show Lx.all V = .error (p, 4) by rw [hgap, Lx.shiftE, if_pos rfl]] at AL2
                  clear hgap
                  go_wp2_with fail
                  refine (AL1.out _).mono ?_
                  rintro e w3 ⟨hb3, rfl⟩
                  go_wp2_with fail
                  refine (AL2.out _).mono ?_
                  rintro e w4 ⟨hb4, rfl⟩
                  have h3 := HBW.out.trans (hb3.mono HBW.out.size)
                  have HB4 := Lib.hid (h3.trans (hb4.mono h3.size))
                  clear h3 hb3 hb4 AL1 AL2 g1 g2 g5
                  go_wp2
                  go_loopw [17] (fun s17 wx => s17 = .int .i64 0 ∧ Hid (wx = w4)) (fun _ _ => 0)
                  case atStart => exact ⟨rfl, rfl⟩
                  case round =>
                    obtain ⟨rfl, HW⟩ := hrel
                    go_wp2
                    go_ret
                    exact ⟨rfl, by rw [HW.out]; exact HB4.out⟩
                · rw [show Lx.all V = .error (p + M, e) by rw [hgap, Lx.shiftE, if_neg h4]] at AL2
                  clear hgap
                  have g3 : ((e : Int) == 4) = false := beq_eq_false_iff_ne.2 (by omega)
                  have g4 : ((e : Int) = 4) = False := eq_false (by omega)
                  have g6 : (e = 4) = False := eq_false h4
                  clear h4
                  go_wp2_with fail
                  refine (AL1.out _).mono ?_
                  rintro e w3 ⟨hb3, rfl⟩
                  go_wp2_with fail
                  refine (AL2.out _).mono ?_
                  rintro e w4 ⟨hb4, rfl⟩
                  have h3 := HBW.out.trans (hb3.mono HBW.out.size)
                  have HB4 := Lib.hid (h3.trans (hb4.mono h3.size))
                  clear h3 hb3 hb4 AL1 AL2
                  go_wp2
                  go_loopw [17] (fun s17 wx => s17 = .int .i64 0 ∧ Hid (wx = w4)) (fun _ _ => 0)
                  case atStart => exact ⟨rfl, rfl⟩
                  case round =>
                    obtain ⟨rfl, HW⟩ := hrel
                    go_wp2
                    go_ret
                    exact ⟨rfl, by rw [HW.out]; exact HB4.out⟩
              | ok ts =>
                have hpl := Lib.hid (Lx.all_place hall)
                have hfew := Lx.all_few hall
                rw [show Lx.all V = .ok (ts.map (Lx.shift M)) by rw [HG.out, hall]; rfl] at AL2
                rw [hall] at AL1
                clear hall HG
                go_wp2_with fail
                refine (AL1.out _).mono ?_
                rintro e w3 ⟨hb3, va, rfl, hva⟩
                go_wp2_with fail
                refine (AL2.out _).mono ?_
                rintro e w4 ⟨hb4, vb, rfl, hvb⟩
                have h3 := HBW.out.trans (hb3.mono HBW.out.size)
                have HB4 := Lib.hid (h3.trans (hb4.mono h3.size))
                have HA4 := Lib.hid (hva.below hb4)
                have HV4 := Lib.hid hvb
                obtain ⟨ao, acap, rfl, _⟩ := hva.form
                obtain ⟨bo, bcap, rfl, _⟩ := hvb.form
                rw [List.length_map] at HV4 ⊢
                obtain ⟨n, hn⟩ : ∃ n, ts.length = n := ⟨_, rfl⟩
                rw [hn] at hfew HA4 HV4 ⊢
                have HN := Lib.hid hn
                clear h3 hb3 hb4 AL1 AL2 hva hvb hn
                go_wp2
                go_loopw [17, 18] (fun s17 s18 wx => ∃ k : Nat, k ≤ n ∧ s17 = .int .i64 k ∧ Hid (Below w.heap.size w wx) ∧ Hid (TO wx w2.heap.size 31 (.slice ao n acap) ts) ∧ Hid (TO wx w3.heap.size 31 (.slice bo n bcap) (ts.map (Lx.shift M)))) (fun i _ _ => n - (intOf i).toNat)
                case atStart => exact ⟨0, Nat.zero_le _, rfl, HB4, HA4, HV4⟩
                case round =>
                  obtain ⟨k, hk, rfl, HB, HA, HV⟩ := hrel
                  clear HA4 HV4 HB4
                  by_cases hlt : k < n
                  · obtain ⟨u, hu⟩ : ∃ u, ts[k]? = some u := ⟨_, List.getElem?_eq_getElem (by rw [HN.out]; exact hlt)⟩
                    have hup := hpl.out u (List.mem_of_getElem? hu)
                    rw [HL.out] at hup
                    obtain ⟨ao', cap', hfe, hca⟩ := HA.out.form
                    rw [HN.out] at hfe
                    cases hfe
                    obtain ⟨g, rfl, c0, c1, c2⟩ := hca k u hu
                    obtain ⟨ao', cap', hfe, hcb⟩ := HV.out.form
                    rw [List.length_map, HN.out] at hfe
                    cases hfe
                    obtain ⟨g', rfl, d0, d1, d2⟩ := hcb k (Lx.shift M u) (by rw [List.getElem?_map, hu]; rfl)
                    clear hca hcb
                    obtain ⟨kd, tx, pl⟩ := u
                    dsimp only [Lx.shift] at c0 c1 c2 d0 d1 d2 hup
                    obtain ⟨b3, hb3⟩ : ∃ b3, b3 = wr.heap.size := ⟨_, rfl⟩
                    have hsz := HB.out.size
                    have ecast : ((pl + M : Nat) : Int) = (pl : Int) + (M : Int) := by omega
                    rw [ecast] at d2
                    obtain ⟨w5, hw5⟩ : ∃ w5, w5 = wr.alloc (.cells #[.int .i64 (kd : Int), .string ⟨tx.toArray⟩, .int .i64 ((pl : Int) + (M : Int))] 31) := ⟨_, rfl⟩
                    have hbw : Below wr.heap.size wr w5 := by rw [hw5]; exact (Below.refl _ _).alloc (Nat.le_refl _) _
                    have hnw : w5.heap[wr.heap.size]? = some (.cells #[.int .i64 (kd : Int), .string ⟨tx.toArray⟩, .int .i64 ((pl : Int) + (M : Int))] 31 (0, 0)) := by rw [hw5]; exact heap_alloc_new _ _
                    have far : ∀ a v, wr.cell? a = some v → ∀ q, (w5.drewN q).cell? a = some v := fun a v h q => (hbw.cell (World.block_lt_of_cell? wr _ h)).trans h
                    have k0 := far _ _ d0
                    have k1 := far _ _ d1
                    have k2 := far _ _ d2
                    have e0 : ∀ q, (w5.drewN q).cell? ⟨wr.heap.size, 0, none⟩ = some (.int .i64 (kd : Int)) := fun q => by show w5.cell? _ = _; simp [World.cell?, hnw]
                    have e1 : ∀ q, (w5.drewN q).cell? ⟨wr.heap.size, 1, none⟩ = some (.string ⟨tx.toArray⟩) := fun q => by show w5.cell? _ = _; simp [World.cell?, hnw]
                    have e2 : ∀ q, (w5.drewN q).cell? ⟨wr.heap.size, 2, none⟩ = some (.int .i64 ((pl : Int) + (M : Int))) := fun q => by show w5.cell? _ = _; simp [World.cell?, hnw]
                    have q2 := tokHeld
                    have q3 := tokGuard
                    have q4 := fun wx => tok_same (kd : Int) ⟨tx.toArray⟩ ((pl : Int) + (M : Int)) wx
                    have HN5 : Hid (∀ q, Below w.heap.size w (w5.drewN q) ∧ TO (w5.drewN q) w2.heap.size 31 (.slice (some ⟨g, 0, none⟩) n acap) ts ∧ TO (w5.drewN q) w3.heap.size 31 (.slice (some ⟨g', 0, none⟩) n bcap) (ts.map (Lx.shift M))) := Lib.hid fun q =>
                      have hq := below_dn hbw q
                      ⟨HB.out.trans (hq.mono hsz), HA.out.below hq, HV.out.below hq⟩
                    clear d0 d1 d2 far hbw hnw HA HV HB hu ecast
                    have HW5 := Lib.hid hw5
                    clear hw5
                    go_wp2_with fail
                    rw [← HW5.out]
                    clear HW5
                    generalize wr.heap.size = b3 at *
                    clear c0 c1 c2
                    go_quiet (fail)
                    simp only [Exit.then]
                    go_wp2
                    go_roundw
                    case rel => exact ⟨k + 1, by omega, by first | rfl | go_num, (HN5.out _).1, (HN5.out _).2.1, (HN5.out _).2.2⟩
                    case measure => simp [intOf]; omega
                  · have hkn : k = n := by omega
                    subst hkn
                    go_wp2
                    go_ret
                    exact ⟨rfl, HB.out⟩
  · subst hx
    have hLS : L = S0 := hzl.symm.trans hS0
    subst hLS
    have hb1 : ((900 : Int) < (L : Int)) = False := eq_false (by omega)
    clear hbig
    go_wp2
    clear hb1
    go_loopw [8, 9] (fun s8 s9 wr => ∃ (k : Nat) (X : List UInt8), k ≤ T ∧ k ≤ 100 ∧ s9 = .int .i64 k ∧ s8 = .string ⟨X.toArray⟩ ∧ X.length ≤ k + 1 ∧ Hid (wr = wa) ∧ Hid (Gap1 X)) (fun _ i _ => 100 - (intOf i).toNat)
    case atStart => exact ⟨0, [35], by omega, by omega, rfl, rfl, by simp, rfl, ⟨[], rfl, by simp⟩⟩
    case round =>
      obtain ⟨k, X, hkT, hk1, rfl, rfl, hX, HW, HX⟩ := hrel
      obtain ⟨N, hN⟩ : ∃ N, X.length = N := ⟨_, rfl⟩
      have hzX : (⟨X.toArray⟩ : ByteArray).size = N := hN
      rw [hN] at hX
      by_cases hlt : k < T ∧ k < 100
      · obtain ⟨hlt1, hlt2⟩ := hlt
        obtain ⟨c, r, hd, hgc, hr, hrl⟩ := Lx.drop_cons (l := q) (k := k) (by rw [HT.out]; exact hlt1)
        have hx : ∀ h, (⟨q.toArray⟩ : ByteArray)[k]'h = c := fun h => by rw [byte_at]; exact hgc
        have hE := ext_one hd
        have hk3 : ((k : Int) < (T : Int)) = True := eq_true (by omega)
        have hk4 : ((k : Int) < 100) = True := eq_true (by omega)
        have hk5 : (k : Int) + 1 ≤ (T : Int) := by omega
        have hk6 : k + 1 ≤ T := by omega
        clear hgc hr hd hrl
        by_cases h10 : c = 10
        · subst h10
          clear hE
          go_wp2
          go_roundw
          case rel => exact ⟨k + 1, X, hk6, by omega, by first | rfl | go_num, rfl, by omega, HW, HX⟩
          case measure => simp [intOf]; omega
        · have h10b : ((c.toNat : Int) == 10) = false := beq_eq_false_iff_ne.2 fun e => h10 (UInt8.toNat_inj.1 (show c.toNat = (10 : UInt8).toNat by show c.toNat = 10; omega))
          obtain ⟨X2, hX2, hlen, hX3⟩ := ba_snoc X c
          have hz1 : (⟨#[c]⟩ : ByteArray).size = 1 := rfl
          have HX2 : Hid (Gap1 X2) := Lib.hid (by rw [hX3]; exact HX.out.more h10)
          rw [hN] at hlen
          have hsm : (9223372036854775807 < N + 1) = False := eq_false (by omega)
          have hlen2 : X2.length ≤ k + 1 + 1 := by omega
          clear hX3 h10 hN hlen HX
          go_wp2
          go_roundw
          case rel => exact ⟨k + 1, X2, hk6, by omega, by first | rfl | go_num, by first | rfl | simp only [hX2], hlen2, HW, HX2⟩
          case measure => simp [intOf]; omega
      · have hend : ((k : Int) < (T : Int)) = False ∨ (((k : Int) < (T : Int)) = True ∧ ((k : Int) < 100) = False) := by
          by_cases h : k < T
          · exact .inr ⟨eq_true (by omega), eq_false (by omega)⟩
          · exact .inl (eq_false (by omega))
        obtain ⟨X2, hX2, hlen, hX3⟩ := ba_snoc X 10
        have hz1 : (⟨#[10]⟩ : ByteArray).size = 1 := rfl
        have HX2 : Hid (Gap2 X2) := Lib.hid (by rw [hX3]; exact HX.out.done)
        rw [hN] at hlen
        have hsm : (9223372036854775807 < N + 1) = False := eq_false (by omega)
        have hlen2 : X2.length ≤ 102 := by omega
        clear hX3 hN hlen HX hlt
        obtain ⟨w2, hw2⟩ : ∃ w2, w2 = wr := ⟨_, rfl⟩
        have HBA : Hid (Below w.heap.size w w2) := Lib.hid (by rw [hw2, HW.out]; exact HBA.out)
        rw [← hw2]
        clear hw2 HW
        rcases hend with hend | ⟨hend, hend2⟩
        skip
        all_goals
          go_wp2
          go_loopw [8, 10] (fun s8 s10 wx => ∃ (j : Nat) (Y : List UInt8), j ≤ J ∧ s10 = .int .i64 j ∧ s8 = .string ⟨Y.toArray⟩ ∧ Y.length ≤ 102 + j ∧ Hid (wx = w2) ∧ Hid (Gap2 Y)) (fun _ i _ => J - (intOf i).toNat)
          case atStart => exact ⟨0, X2, Nat.zero_le _, rfl, by first | rfl | simp only [hX2], by omega, rfl, HX2⟩
          case round =>
            obtain ⟨j, Y, hj, rfl, rfl, hY, HW, HY⟩ := hrel
            obtain ⟨M, hM⟩ : ∃ M, Y.length = M := ⟨_, rfl⟩
            have hzy : (⟨Y.toArray⟩ : ByteArray).size = M := hM
            rw [hM] at hY
            clear HX2 hX2 hlen2
            by_cases hlt : j < J
            · obtain ⟨p, hp⟩ : ∃ p, j % 4 = p := ⟨_, rfl⟩
              have hp4 : p < 4 := by omega
              obtain ⟨d, hd, hdb⟩ := ws_at p hp4
              have p1 : (j : Int) % 4 = (p : Int) := by omega
              have p2 : (j : Int).tmod 4 = (p : Int) := by rw [Int.tmod_eq_emod_of_nonneg (by omega)]; exact p1
              obtain ⟨X3, hX3, hlen, hX4⟩ := ba_snoc Y d
              have hz1 : (⟨#[d]⟩ : ByteArray).size = 1 := rfl
              rw [hM] at hlen
              have HX3 : Hid (Gap2 X3) := Lib.hid (by rw [hX4]; exact HY.out.more hdb)
              have hsm : (9223372036854775807 < M + 1) = False := eq_false (by omega)
              have hlen3 : X3.length ≤ 102 + (j + 1) := by omega
              have hp5 : (p : Int) + 1 ≤ 4 := by omega
              have hp0 : (0 : Int) ≤ (p : Int) := by omega
              clear hX4 hlen hp hM HY hdb
              go_wp2
              go_roundw
              case rel => exact ⟨j + 1, X3, by omega, by first | rfl | go_num, by first | rfl | simp only [hX3], hlen3, HW, HX3⟩
              case measure => simp [intOf]; omega
            · have hjM : j = J := by omega
              subst hjM
              obtain rfl : w2 = wr := HW.out.symm
              have HBW : Hid (Below w.heap.size w w2) := HBA
              obtain ⟨V, hV⟩ : ∃ V : List UInt8, (⟨Y.toArray⟩ : ByteArray) ++ ⟨l.toArray⟩ = ⟨V.toArray⟩ := ⟨_, ByteArray.mk_append_mk Y l⟩
              have hV2 : V = Y ++ l := ba_inj (hV.symm.trans (ByteArray.mk_append_mk Y l))
              have hsm : (9223372036854775807 < M + L) = False := eq_false (by omega)
              have hVl : V.length = M + L := by rw [hV2, List.length_append, hM, HL.out]
              have AL1 := Lib.hid (fun wx => all_any l (by rw [HL.out]; omega) wx)
              have AL2 := Lib.hid (fun wx => all_any V (by rw [hVl]; omega) wx)
              have hgap := Lx.all_gap Y l (HY.out.skip l) (by rw [← hV2, hVl]; omega)
              rw [← hV2, hM] at hgap
              have HG := Lib.hid hgap
              have hM1 : (M : Int) ≤ 117 := by omega
              clear hgap hVl hV2 HY hM hlt hY HW
              cases hall : Lx.all l with
              | error x =>
                obtain ⟨p, e⟩ := x
                obtain ⟨he0, hpl⟩ := Lx.all_err hall
                rw [HL.out] at hpl
                have hgap := HG.out
                rw [hall] at AL1 hgap
                clear HG
                have g1 : ((e : Int) == 0) = false := beq_eq_false_iff_ne.2 (by omega)
                have g2 : ((e : Int) = 0) = False := eq_false (by omega)
                have g5 : (e = 0) = False := eq_false he0
                clear hall he0
                by_cases h4 : e = 4
                · subst h4
                  rw [show Lx.all V = .error (p, 4) by rw [hgap, Lx.shiftE, if_pos rfl]] at AL2
                  clear hgap
                  go_wp2_with fail
                  refine (AL1.out _).mono ?_
                  rintro e w3 ⟨hb3, rfl⟩
                  go_wp2_with fail
                  refine (AL2.out _).mono ?_
                  rintro e w4 ⟨hb4, rfl⟩
                  have h3 := HBW.out.trans (hb3.mono HBW.out.size)
                  have HB4 := Lib.hid (h3.trans (hb4.mono h3.size))
                  clear h3 hb3 hb4 AL1 AL2 g1 g2 g5
                  go_wp2
                  go_loopw [17] (fun s17 wx => s17 = .int .i64 0 ∧ Hid (wx = w4)) (fun _ _ => 0)
                  case atStart => exact ⟨rfl, rfl⟩
                  case round =>
                    obtain ⟨rfl, HW⟩ := hrel
                    go_wp2
                    go_ret
                    exact ⟨rfl, by rw [HW.out]; exact HB4.out⟩
                · rw [show Lx.all V = .error (p + M, e) by rw [hgap, Lx.shiftE, if_neg h4]] at AL2
                  clear hgap
                  have g3 : ((e : Int) == 4) = false := beq_eq_false_iff_ne.2 (by omega)
                  have g4 : ((e : Int) = 4) = False := eq_false (by omega)
                  have g6 : (e = 4) = False := eq_false h4
                  clear h4
                  go_wp2_with fail
                  refine (AL1.out _).mono ?_
                  rintro e w3 ⟨hb3, rfl⟩
                  go_wp2_with fail
                  refine (AL2.out _).mono ?_
                  rintro e w4 ⟨hb4, rfl⟩
                  have h3 := HBW.out.trans (hb3.mono HBW.out.size)
                  have HB4 := Lib.hid (h3.trans (hb4.mono h3.size))
                  clear h3 hb3 hb4 AL1 AL2
                  go_wp2
                  go_loopw [17] (fun s17 wx => s17 = .int .i64 0 ∧ Hid (wx = w4)) (fun _ _ => 0)
                  case atStart => exact ⟨rfl, rfl⟩
                  case round =>
                    obtain ⟨rfl, HW⟩ := hrel
                    go_wp2
                    go_ret
                    exact ⟨rfl, by rw [HW.out]; exact HB4.out⟩
              | ok ts =>
                have hpl := Lib.hid (Lx.all_place hall)
                have hfew := Lx.all_few hall
                rw [show Lx.all V = .ok (ts.map (Lx.shift M)) by rw [HG.out, hall]; rfl] at AL2
                rw [hall] at AL1
                clear hall HG
                go_wp2_with fail
                refine (AL1.out _).mono ?_
                rintro e w3 ⟨hb3, va, rfl, hva⟩
                go_wp2_with fail
                refine (AL2.out _).mono ?_
                rintro e w4 ⟨hb4, vb, rfl, hvb⟩
                have h3 := HBW.out.trans (hb3.mono HBW.out.size)
                have HB4 := Lib.hid (h3.trans (hb4.mono h3.size))
                have HA4 := Lib.hid (hva.below hb4)
                have HV4 := Lib.hid hvb
                obtain ⟨ao, acap, rfl, _⟩ := hva.form
                obtain ⟨bo, bcap, rfl, _⟩ := hvb.form
                rw [List.length_map] at HV4 ⊢
                obtain ⟨n, hn⟩ : ∃ n, ts.length = n := ⟨_, rfl⟩
                rw [hn] at hfew HA4 HV4 ⊢
                have HN := Lib.hid hn
                clear h3 hb3 hb4 AL1 AL2 hva hvb hn
                go_wp2
                go_loopw [17, 18] (fun s17 s18 wx => ∃ k : Nat, k ≤ n ∧ s17 = .int .i64 k ∧ Hid (Below w.heap.size w wx) ∧ Hid (TO wx w2.heap.size 31 (.slice ao n acap) ts) ∧ Hid (TO wx w3.heap.size 31 (.slice bo n bcap) (ts.map (Lx.shift M)))) (fun i _ _ => n - (intOf i).toNat)
                case atStart => exact ⟨0, Nat.zero_le _, rfl, HB4, HA4, HV4⟩
                case round =>
                  obtain ⟨k, hk, rfl, HB, HA, HV⟩ := hrel
                  clear HA4 HV4 HB4
                  by_cases hlt : k < n
                  · obtain ⟨u, hu⟩ : ∃ u, ts[k]? = some u := ⟨_, List.getElem?_eq_getElem (by rw [HN.out]; exact hlt)⟩
                    have hup := hpl.out u (List.mem_of_getElem? hu)
                    rw [HL.out] at hup
                    obtain ⟨ao', cap', hfe, hca⟩ := HA.out.form
                    rw [HN.out] at hfe
                    cases hfe
                    obtain ⟨g, rfl, c0, c1, c2⟩ := hca k u hu
                    obtain ⟨ao', cap', hfe, hcb⟩ := HV.out.form
                    rw [List.length_map, HN.out] at hfe
                    cases hfe
                    obtain ⟨g', rfl, d0, d1, d2⟩ := hcb k (Lx.shift M u) (by rw [List.getElem?_map, hu]; rfl)
                    clear hca hcb
                    obtain ⟨kd, tx, pl⟩ := u
                    dsimp only [Lx.shift] at c0 c1 c2 d0 d1 d2 hup
                    obtain ⟨b3, hb3⟩ : ∃ b3, b3 = wr.heap.size := ⟨_, rfl⟩
                    have hsz := HB.out.size
                    have ecast : ((pl + M : Nat) : Int) = (pl : Int) + (M : Int) := by omega
                    rw [ecast] at d2
                    obtain ⟨w5, hw5⟩ : ∃ w5, w5 = wr.alloc (.cells #[.int .i64 (kd : Int), .string ⟨tx.toArray⟩, .int .i64 ((pl : Int) + (M : Int))] 31) := ⟨_, rfl⟩
                    have hbw : Below wr.heap.size wr w5 := by rw [hw5]; exact (Below.refl _ _).alloc (Nat.le_refl _) _
                    have hnw : w5.heap[wr.heap.size]? = some (.cells #[.int .i64 (kd : Int), .string ⟨tx.toArray⟩, .int .i64 ((pl : Int) + (M : Int))] 31 (0, 0)) := by rw [hw5]; exact heap_alloc_new _ _
                    have far : ∀ a v, wr.cell? a = some v → ∀ q, (w5.drewN q).cell? a = some v := fun a v h q => (hbw.cell (World.block_lt_of_cell? wr _ h)).trans h
                    have k0 := far _ _ d0
                    have k1 := far _ _ d1
                    have k2 := far _ _ d2
                    have e0 : ∀ q, (w5.drewN q).cell? ⟨wr.heap.size, 0, none⟩ = some (.int .i64 (kd : Int)) := fun q => by show w5.cell? _ = _; simp [World.cell?, hnw]
                    have e1 : ∀ q, (w5.drewN q).cell? ⟨wr.heap.size, 1, none⟩ = some (.string ⟨tx.toArray⟩) := fun q => by show w5.cell? _ = _; simp [World.cell?, hnw]
                    have e2 : ∀ q, (w5.drewN q).cell? ⟨wr.heap.size, 2, none⟩ = some (.int .i64 ((pl : Int) + (M : Int))) := fun q => by show w5.cell? _ = _; simp [World.cell?, hnw]
                    have q2 := tokHeld
                    have q3 := tokGuard
                    have q4 := fun wx => tok_same (kd : Int) ⟨tx.toArray⟩ ((pl : Int) + (M : Int)) wx
                    have HN5 : Hid (∀ q, Below w.heap.size w (w5.drewN q) ∧ TO (w5.drewN q) w2.heap.size 31 (.slice (some ⟨g, 0, none⟩) n acap) ts ∧ TO (w5.drewN q) w3.heap.size 31 (.slice (some ⟨g', 0, none⟩) n bcap) (ts.map (Lx.shift M))) := Lib.hid fun q =>
                      have hq := below_dn hbw q
                      ⟨HB.out.trans (hq.mono hsz), HA.out.below hq, HV.out.below hq⟩
                    clear d0 d1 d2 far hbw hnw HA HV HB hu ecast
                    have HW5 := Lib.hid hw5
                    clear hw5
                    go_wp2_with fail
                    rw [← HW5.out]
                    clear HW5
                    generalize wr.heap.size = b3 at *
                    clear c0 c1 c2
                    go_quiet (fail)
                    simp only [Exit.then]
                    go_wp2
                    go_roundw
                    case rel => exact ⟨k + 1, by omega, by first | rfl | go_num, (HN5.out _).1, (HN5.out _).2.1, (HN5.out _).2.2⟩
                    case measure => simp [intOf]; omega
                  · have hkn : k = n := by omega
                    subst hkn
                    go_wp2
                    go_ret
                    exact ⟨rfl, HB.out⟩
end Go.Proofs.YtdeocejjneghjaaDoor
