/- The law FrameCuts walked. -/
import Derived.Test.YtagedockmlbebaaDoorFrameThree
import Derived.ProofKit
import Derived.OpenShut
namespace Go.Proofs.YtagedockmlbebaaDoor
open Go.RowKit

set_option maxRecDepth 20000 in
set_option maxHeartbeats 8000000 in
theorem lawCutsF (m : Int) (v1 : Value) (x1 : List UInt8) (a2 : Int) (hm : (Lit.int .i64 m).wf = true) (h1 : x1.length ≤ maxLen) (h2 : (Lit.int .u16 a2).wf = true) (w : World) (r1 : Rd w v1 (x1.map bv)) (ht : LT w) :
    Calls Tryd.prog 4 #[.int .i64 m, v1, .int .u16 a2] w fun e w' => e = .returned (.bool true) ∧ Below w.heap.size w w' := by
  have hmb := bounds_i64 hm
  have hab := bounds_u16 h2
  obtain ⟨A, rfl⟩ := Int.eq_ofNat_of_zero_le hab.1
  have hA : A < 65536 := by omega
  have kc := fun (w : World) (C : Array Value) (n c : Nat) => Lib.run_convert_bytes_const (P := Tryd.prog) w 26 5 C n c Tryd.underlying26 Tryd.underlying5
  have HT := Lib.hid ht
  have HMM := Lib.hid hmb
  have R1 := Lib.hid r1
  have H1 := Lib.hid h1
  obtain ⟨M, hM⟩ : ∃ M, M = max 0 m := ⟨_, rfl⟩
  have HM := Lib.hid hM
  clear ht r1 h1 hm hmb hM h2 hab
  go_enter Tryd.func4, Tryd.ntmps4
  go_wp2_with fail
  refine (shown_any w HT.out).mono ?_
  rintro e wa ⟨rfl, hba⟩
  have HBA := Lib.hid hba
  clear hba
  go_wp2_with fail
  refine (FL.new HBA.out m (by have := HMM.out; omega)).mono ?_
  rintro e w1 ⟨rfl, f1, _⟩
  have F1 := Lib.hid f1
  obtain ⟨g1, hg1⟩ : ∃ g, g = wa.heap.size := ⟨_, rfl⟩
  rw [← hg1] at F1 ⊢
  clear f1 hg1 HBA
  go_wp2_with fail
  refine (FL.new F1.out.b m (by have := HMM.out; omega)).mono ?_
  rintro e w2 ⟨rfl, f2, hb2⟩
  have F12 := Lib.hid (F1.out.next hb2)
  have F2 := Lib.hid f2
  have hl1 := F1.out.o.lt
  obtain ⟨g2, hg2⟩ : ∃ g, g = w1.heap.size := ⟨_, rfl⟩
  rw [← hg2] at F2 hl1 ⊢
  have HL1 := Lib.hid hl1
  clear f2 hg2 F1 hb2 hl1
  go_wp2_with fail
  refine (FL.new F2.out.b m (by have := HMM.out; omega)).mono ?_
  rintro e w3 ⟨rfl, f3, hb3⟩
  have hl2 := F2.out.o.lt
  obtain ⟨g3, hg3⟩ : ∃ g, g = w2.heap.size := ⟨_, rfl⟩
  rw [← hg3] at f3 hl2 ⊢
  have c3 : C3 w M g1 g2 g3 (.slice none 0 0) (.slice none 0 0) (.slice none 0 0) Li.start Li.start Li.start [] w3 := by
    have f12 := F12.out.next hb3
    have f22 := F2.out.next hb3
    rw [← HM.out] at f12 f22 f3
    have := HL1.out
    exact ⟨f3.b, f12.o, f22.o, f3.o, by omega, by omega, by omega, Ap.none rfl, Ap.none rfl, Ap.none rfl, fun x hx => by cases hx⟩
  have C := Lib.hid c3
  clear f3 hg3 F12 F2 hb3 hl2 HL1 c3
  go_wp2_with fail
  refine (short_any v1 x1 w3 (R1.out.below C.out.b) H1.out).mono ?_
  rintro e wc ⟨vx, rfl, rx, rfl⟩
  obtain ⟨X, hX⟩ : ∃ X, X = x1.take 200 := ⟨_, rfl⟩
  have lX : X.length ≤ 200 := by rw [hX]; exact List.length_take_le _ _
  rw [← hX] at rx
  have rx := rx w R1.out
  obtain ⟨ao, cap, rfl, hcap, hcell⟩ := rx.form
  obtain ⟨L, hL⟩ : ∃ L, L = X.length := ⟨_, rfl⟩
  rw [← hL] at lX rx hcap hcell ⊢
  have HL := Lib.hid hL
  have HC := Lib.hid hcell
  have HX := Lib.hid rx
  obtain ⟨K, hK⟩ : ∃ K, K = A % (L + 1) := ⟨_, rfl⟩
  have hKL : K ≤ L := by have := Nat.mod_lt A (show 0 < L + 1 by omega); omega
  have hk1 : (A : Int) % ((L : Int) + 1) = (K : Int) := by rw [hK]; simp
  have hk2 : (A : Int).tmod ((L : Int) + 1) = (K : Int) := by rw [Int.tmod_eq_emod_of_nonneg (by omega)]; exact hk1
  clear hX rx hcell hL hK
  obtain ⟨P, F, hp⟩ : ∃ P F, Li.start.put M X = (P, F) := ⟨_, _, rfl⟩
  have HP := Lib.hid hp
  go_wp2_with fail
  refine (FL.put ⟨C.out.a1, C.out.b⟩ HT.out _ X (fun wx hx => HX.out.below (C.out.b.trans (C.out.a1.turn hx C.out.b.size))) (by have := HL.out; simp [Li.start]; omega) hp).mono ?_
  rintro e w4 ⟨s1, xo, xc, rfl, fl, ox, hT, hn⟩
  have C4 := Lib.hid ((C.out.turn1 fl.o hT hn).push (ownsRow_lower ox C.out.b.size))
  clear fl ox hT hn C hp
  have hcut := Lib.hid (fun wx (hb : Below w.heap.size w wx) => (HX.out.below hb).cut HL.out hKL)
  obtain ⟨PY, FY, hp2⟩ : ∃ PY FY, Li.start.put M (X.take K) = (PY, FY) := ⟨_, _, rfl⟩
  have HP2 := Lib.hid hp2
  go_wp2_with fail
  refine (FL.put ⟨C4.out.a2, C4.out.b⟩ HT.out _ (X.take K) (fun wx hx => hcut.out wx (C4.out.b.trans (C4.out.a2.turn hx C4.out.b.size))) (by have := HL.out; rw [List.length_take]; simp [Li.start]; omega) hp2).mono ?_
  rintro e w5 ⟨s2, yo, yc, rfl, fl, oy, hT, hn⟩
  have C5 := Lib.hid ((C4.out.turn2 fl.o hT hn).push (ownsRow_lower oy C4.out.b.size))
  have hfy : FY.ls.length ≤ 200 := by
    have := Li.put_rest (m := M) (X.take K) Li.start
    rw [hp2, List.length_take] at this
    simp [Li.start] at this
    omega
  have HFY := Lib.hid hfy
  clear fl oy hT hn C4 hcut hp2 hfy
  go_wp2_with fail
  refine (fclone_any C5.out.a2).mono ?_
  rintro e w6 ⟨g4, s4, rfl, hb6, q4⟩
  have C6 := Lib.hid (C5.out.next hb6)
  have Q4 := Lib.hid q4
  clear hb6 q4
  go_wp2_with fail
  have hfr := (FL.mk (W := w) (Q4.out.lower C5.out.b.size) C6.out.b).fresh [122, 122, 13, 10, 10] 5 (5, 6) 5 rfl (by decide)
  have ha := (Below.refl w6.heap.size w6).alloc (Nat.le_refl _) (.cells ([122, 122, 13, 10, 10].map bv).toArray 5 (5, 6))
  obtain ⟨PC, FC, hpc⟩ : ∃ PC FC, FY.put M [122, 122, 13, 10, 10] = (PC, FC) := ⟨_, _, rfl⟩
  refine (hfr.1.put HT.out _ [122, 122, 13, 10, 10] hfr.2 (by have := HFY.out; simp; omega) hpc).mono ?_
  rintro e w7 ⟨s4', co, cc, rfl, _, _, hT4, _⟩
  have C7 := Lib.hid ((C6.out.next ha).other (Q4.out.next ha) C5.out.b.size C5.out.a1.lt C5.out.a2.lt C5.out.a3.lt (fun k hk => (C5.out.a1.slt k hk).2) (fun k hk => (C5.out.a2.slt k hk).2) (fun k hk => (C5.out.a3.slt k hk).2) hT4)
  clear hfr ha hT4 hpc C6 Q4 C5 kc
  obtain ⟨A', hA'⟩ : ∃ A', (if cap = K then ao else Option.map (fun x => x.add K) ao) = A' := ⟨_, rfl⟩
  have htl := Lib.hid (show ∀ wx, Below w.heap.size w wx → Rd wx (.slice A' (L - K) (cap - K)) ((X.drop K).map bv) from fun wx hb => by
    have := (HX.out.below hb).tailAny HL.out hKL
    rw [hA'] at this
    exact this)
  obtain ⟨PZ, FZ, hp3⟩ : ∃ PZ FZ, FY.put M (X.drop K) = (PZ, FZ) := ⟨_, _, rfl⟩
  have hall : (P, F) = (PY ++ PZ, FZ) := by
    have := Li.put_append M (X.take K) (X.drop K) Li.start
    rw [List.take_append_drop, HP.out, HP2.out] at this
    dsimp only at this
    rw [hp3] at this
    exact this
  have hPe : P = PY ++ PZ := congrArg Prod.fst hall
  have hFe : F = FZ := congrArg Prod.snd hall
  clear hall
  subst hPe
  subst hFe
  go_wp2_with fail
  refine (FL.put ⟨C7.out.a2, C7.out.b⟩ HT.out _ (X.drop K) (fun wx hx => htl.out wx (C7.out.b.trans (C7.out.a2.turn hx C7.out.b.size))) (by have := HFY.out; have := HL.out; rw [List.length_drop]; omega) hp3).mono ?_
  rintro e w8 ⟨s2', zo, zc, rfl, fl, oz, hT, hn⟩
  have C8 := Lib.hid ((C7.out.turn2 fl.o hT hn).push (ownsRow_lower oz C7.out.b.size))
  clear fl oz hT hn C7 htl hA' hp3
  have ha := (Below.refl w8.heap.size w8).alloc (Nat.le_refl _) (.cells #[] 9)
  have PS0 := Lib.hid (show PS w8 (w8.alloc (.cells #[] 9)) w.heap.size g3 (.slice none 0 0) (.slice none 0 0) (.slice (some ⟨w8.heap.size, 0, none⟩) 0 0) M Li.start [] from
    ⟨C8.out.a3.next ha, World.ownsRow_made (base := w8.heap.size) w8 #[] 0 (Nat.le_refl _) (Nat.zero_le _) rfl, .of_below ha, Nx.refl _ _⟩)
  clear ha
  obtain ⟨xL, hxL⟩ : ∃ n, n = PY.length + PZ.length := ⟨_, rfl⟩
  obtain ⟨yL, hyL⟩ : ∃ n, n = PY.length := ⟨_, rfl⟩
  obtain ⟨zL, hzL⟩ : ∃ n, n = PZ.length := ⟨_, rfl⟩
  rw [List.length_append, ← hxL, ← hyL, ← hzL] at C8
  rw [← hxL, ← hyL, ← hzL]
  have HSM := Lib.hid (show xL ≤ 200 ∧ yL ≤ 200 ∧ zL ≤ 200 by
    have h9 := Li.put_few (m := M) X Li.start
    rw [HP.out] at h9
    dsimp only at h9
    have h8 := HL.out
    rw [List.length_append] at h9
    omega)
  have HXL := Lib.hid hxL
  have HYL := Lib.hid hyL
  have HZL := Lib.hid hzL
  clear hxL hyL hzL
  go_wp2
  go_loopw [19, 20] (fun q i wr => ∃ (n : Nat) (s3 : Value), n ≤ L ∧ i = .int .i64 n ∧ Hid (PS w8 wr w.heap.size g3 (.slice none 0 0) s3 q M (Li.start.put M (X.take n)).2 (Li.start.put M (X.take n)).1)) (fun _ i _ => L - (intOf i).toNat)
  case atStart => exact ⟨0, _, Nat.zero_le _, rfl, PS0.out⟩
  case round =>
    obtain ⟨n, s3, hnL, rfl, HPS⟩ := hrel
    clear PS0
    obtain ⟨so, sc, rfl⟩ := own_form HPS.out.l
    have hbw := C8.out.b.trans (C8.out.a3.turn HPS.out.t C8.out.b.size)
    have HBW := Lib.hid hbw
    clear hbw
    by_cases hlt : n < L
    · obtain ⟨b, o, rfl, hmx, hx⟩ := HC.out (by omega)
      have hone := Lib.hid (show ∀ wx, Below w.heap.size w wx → Rd wx (.slice (some ⟨b, o + n, none⟩) 1 (cap - n)) ([X.getD n 0].map bv) from fun wx hb => by
        have := ((HX.out.below hb).rest (m := n) HL.out hlt).head (m := 1) (by rw [List.length_drop, HL.out]) (by omega) (by omega)
        have e : (X.drop n).take 1 = [X.getD n 0] := by
          rw [List.drop_eq_getElem_cons (by rw [← HL.out]; exact hlt), List.getD_eq_getElem?_getD, List.getElem?_eq_getElem (by rw [← HL.out]; exact hlt)]; rfl
        rw [e] at this
        exact this)
      have e2 : X.take (n + 1) = X.take n ++ [X.getD n 0] := by
        rw [List.take_succ_eq_append_getElem (by rw [← HL.out]; exact hlt), List.getD_eq_getElem?_getD, List.getElem?_eq_getElem (by rw [← HL.out]; exact hlt)]; rfl
      obtain ⟨x, hxx⟩ : ∃ x, x = X.getD n 0 := ⟨_, rfl⟩
      rw [← hxx] at hone e2
      obtain ⟨fn, hfn⟩ : ∃ fn, fn = (Li.start.put M (X.take n)).2 := ⟨_, rfl⟩
      obtain ⟨ln, hln⟩ : ∃ ln, ln = (Li.start.put M (X.take n)).1 := ⟨_, rfl⟩
      obtain ⟨ls, f', hp⟩ : ∃ ls f', fn.put M [x] = (ls, f') := ⟨_, _, rfl⟩
      have hnext : Li.start.put M (X.take (n + 1)) = (ln ++ ls, f') := by
        rw [e2, Li.put_append, ← hfn, ← hln, hp]
      have hr1 := Li.put_rest (m := M) (X.take n) Li.start
      have hr2 := Li.put_few (m := M) (X.take n) Li.start
      have hr3 := Li.put_few (m := M) [x] fn
      rw [← hfn, List.length_take] at hr1
      rw [← hln, List.length_take] at hr2
      rw [hp] at hr3
      rw [← hfn, ← hln] at HPS
      rw [← hln]
      obtain ⟨nL, hnl⟩ : ∃ k, k = ln.length := ⟨_, rfl⟩
      rw [← hnl] at HPS hr2 ⊢
      have HNL := Lib.hid hnl
      have HNX := Lib.hid hnext
      have HR1 := Lib.hid (show fn.ls.length ≤ 200 by simp [Li.start] at hr1; omega)
      have HR2 := Lib.hid (show nL ≤ 200 by omega)
      have HR3 := Lib.hid (show ls.length ≤ 1 from hr3)
      have hcn : (cap = n) = False := eq_false (by omega)
      unfold maxLen at hmx
      clear hx hxx e2 hfn hln hnext hr1 hr2 hr3 hnl HC
      go_wp2_with fail
      refine (FL.put ⟨HPS.out.o, HBW.out⟩ HT.out _ [x] (fun wx hx => hone.out wx (HBW.out.trans (HPS.out.o.turn hx HBW.out.size))) (by have := HR1.out; simp; omega) hp).mono ?_
      rintro e wt ⟨s3', uo, uc, rfl, fl, ou, hT, hn⟩
      have HPT := Lib.hid (HPS.out.turn fl.o hT hn)
      have HU := Lib.hid (Rd.of_own ou)
      clear fl ou hT hn hp HPS
      obtain ⟨uL, huL⟩ : ∃ k, k = ls.length := ⟨_, rfl⟩
      rw [← huL] at HU HR3 ⊢
      have HUL := Lib.hid huL
      clear huL
      go_wp2_with (at_builtin; refine append_strs rfl (.tmp 102) (.tmp 103) rfl rfl HPT.out.l (ls.map sv) ?hx ?h1 ?hn HPT.out.t.size ?_)
      case hx => exact HU.out
      case h1 => exact sv_cell ls
      case hn => rw [List.length_map, ← HUL.out, ← HNL.out]; have := HR3.out; have := HR2.out; omega
      intro vs wu ho hg
      have HPU := Lib.hid (HPT.out.lines (ls := ls) ho hg)
      clear ho hg HPT HU
      go_wp2
      go_roundw
      case rel =>
        refine ⟨n + 1, s3', by omega, by go_num, ?_⟩
        show PS _ _ _ _ _ _ _ _ _ _
        rw [HNX.out]
        exact HPU.out
      case measure => simp [intOf]; omega
    · obtain rfl : n = L := by omega
      have e : X.take n = X := List.take_of_length_le (by rw [HL.out]; exact Nat.le_refl _)
      rw [e, HP.out] at HPS
      rw [e, HP.out]
      dsimp only at HPS ⊢
      have HC9 := Lib.hid ((C8.out.turn3 HPS.out.o HPS.out.t HPS.out.n).push (ownsRow_lower HPS.out.l C8.out.b.size))
      rw [List.length_append, ← HXL.out] at HC9 ⊢
      have ha := (Below.refl wr.heap.size wr).alloc (Nat.le_refl _) (.cells #[] 9)
      have HAL := Lib.hid ha
      have HY := Lib.hid (Rd.of_own (own_below (HC9.out.r (.slice yo yL yc, PY) (by simp)) ha))
      clear ha e HPS C8 HC hnL hlt
      go_wp2_with (at_builtin; refine append_strs rfl (.tmp 105) (.tmp 106) rfl rfl (World.ownsRow_made (base := wr.heap.size) wr #[] 0 (Nat.le_refl _) (Nat.zero_le _) rfl) (PY.map sv) ?hx ?h1 ?hn HAL.out.size ?_)
      case hx => exact HY.out
      case h1 => exact fun a _ => rfl
      case hn => rw [← HYL.out]; have := HSM.out; omega
      intro v5 w9 ho5 hg5
      rw [← HYL.out] at ho5
      have HB9 := Lib.hid (show Below wr.heap.size wr w9 from HAL.out.grown hg5 HAL.out.size (fun k hk => by cases hk; exact Nat.le_refl _))
      obtain ⟨o5, c5, rfl⟩ := own_form ho5
      have HO5 := Lib.hid ho5
      have HZ := Lib.hid (Rd.of_own (own_below (HC9.out.r (.slice zo zL zc, PZ) (by simp)) HB9.out))
      clear ho5 hg5 HY HAL
      go_wp2_with (at_builtin; refine append_strs rfl (.tmp 107) (.tmp 108) rfl rfl HO5.out (PZ.map sv) ?hx ?h1 ?hn HB9.out.size ?_)
      case hx => exact HZ.out
      case h1 => exact fun a _ => rfl
      case hn => rw [← HZL.out]; have := HSM.out; omega
      intro v6 w10 ho6 hg6
      rw [← List.map_append] at ho6
      have HC10 := Lib.hid (HC9.out.next (HB9.out.grown hg6 HB9.out.size (fun k hk => (HO5.out.lt k hk).1)))
      obtain ⟨o6, c6, rfl⟩ := own_form ho6
      have HO6 := Lib.hid ho6
      clear ho6 hg6 HZ HO5 HB9 HC9
      have CS := Lib.hid (same_any (PY ++ PZ) (PY ++ PZ) _ _ w10 (Rd.of_own (HC10.out.r (.slice xo xL xc, PY ++ PZ) (by simp))) (Rd.of_own HO6.out))
      go_wp2_with fail
      refine CS.out.mono ?_
      rintro e w11 ⟨rfl, hb11⟩
      rw [beq_self_eq_true]
      have HC11 := Lib.hid (HC10.out.next hb11)
      clear hb11 CS HO6 HC10
      have CS := Lib.hid (same_any (PY ++ PZ) (PY ++ PZ) _ _ w11 (Rd.of_own (HC11.out.r (.slice xo xL xc, PY ++ PZ) (by simp))) (Rd.of_own (HC11.out.r (.slice so xL sc, PY ++ PZ) (by simp))))
      go_wp2_with fail
      refine CS.out.mono ?_
      rintro e w12 ⟨rfl, hb12⟩
      rw [beq_self_eq_true]
      have HC12 := Lib.hid (HC11.out.next hb12)
      clear hb12 CS HC11
      obtain ⟨E, hE⟩ : ∃ E : Int, E = (F.err : Int) := ⟨_, rfl⟩
      obtain ⟨R, hR⟩ : ∃ R, R = F.ls.length := ⟨_, rfl⟩
      have CE := Lib.hid (FL.error ⟨HC12.out.a3, HC12.out.b⟩ hE)
      have CR1 := Lib.hid (FL.rest ⟨HC12.out.a1, HC12.out.b⟩ hR)
      have CR2 := Lib.hid (FL.rest ⟨HC12.out.a2, HC12.out.b⟩ hR)
      have CR3 := Lib.hid (FL.rest ⟨HC12.out.a3, HC12.out.b⟩ hR)
      rw [← hE]
      clear hE hR
      go_wp2_with fail
      refine CE.out.mono ?_
      rintro e w13 ⟨rfl, rfl⟩
      go_wp2_with fail
      refine CR1.out.mono ?_
      rintro e w13 ⟨rfl, rfl⟩
      go_wp2_with fail
      refine CR2.out.mono ?_
      rintro e w13 ⟨rfl, rfl⟩
      go_wp2_with fail
      refine CR1.out.mono ?_
      rintro e w13 ⟨rfl, rfl⟩
      go_wp2_with fail
      refine CR3.out.mono ?_
      rintro e w13 ⟨rfl, rfl⟩
      go_wp2
      go_ret
      exact ⟨rfl, HC12.out.b⟩
end Go.Proofs.YtagedockmlbebaaDoor
