/- The law ReplyBodies walked. -/
import Derived.Test.YtnodngcfjdghcaaDoorShortR
import Derived.Test.YtnodngcfjdghcaaDoorBodR
import Derived.Test.YtnodngcfjdghcaaDoorRdB
import Derived.OpenShut
namespace Go.Proofs.YtnodngcfjdghcaaDoor
open Go.RowKit Go.ChangeShapes

theorem own_slice (ao : Option Addr) (n m c : Nat) : (Value.slice ao n c).ownBlock = (Value.slice ao m c).ownBlock := by
  rcases ao with _ | ⟨b, o, _ | r⟩ <;> rfl
set_option maxHeartbeats 8000000 in
set_option maxRecDepth 20000 in
theorem bodies_short (v1 : Value) (y1 : List ByteArray) (h1 : y1.length ≤ maxLen) (hw : (cut40 y1).length ≤ 30) (w : World) (r1 : RdN 1 w v1 (y1.map fun y => [.string y])) :
    Calls Tryd.prog 5 #[v1] w fun e w' => e = .returned (.bool true) ∧ Below w.heap.size w w' := by
  have R1 := Lib.hid r1
  have H1 := Lib.hid h1
  obtain ⟨ao1, cp1, rfl, _⟩ := r1.form
  clear r1 h1
  simp only [List.length_map] at *
  generalize hq1 : y1.length = q1 at *
  have HQ1 := Lib.hid hq1
  have HW := Lib.hid hw
  clear hq1 hw
  go_enter Tryd.func5, Tryd.ntmps5
  go_wp2_with fail
  refine (shown_any w).mono ?_
  rintro e w1 ⟨rfl, hb1⟩
  go_wp2_with fail
  refine (ML.new hb1 2).mono ?_
  rintro e w2 ⟨rfl, hm2, hb2⟩
  generalize w1.heap.size = gm at *
  go_wp2_with fail
  refine (M2.new hm2.b hm2 2).mono ?_
  rintro e w3 ⟨rfl, hm3, hb3⟩
  generalize w2.heap.size = go at *
  have HM3 := Lib.hid hm3
  clear hm2 hb2 hm3 hb3 hb1
  go_wp2_with fail
  refine (shorts_any _ y1 w3 (R1.out.below HM3.out.m.b) (HQ1.out ▸ H1.out)).mono ?_
  rintro e w4 ⟨ao, ac, rfl, ho4, hb4⟩
  have hk4 := HM3.out.row ho4
  have HM4 := Lib.hid (HM3.out.next hb4)
  clear hb4 HM3 R1 H1
  obtain ⟨XA, hXA⟩ : ∃ X, X = cut40 y1 := ⟨_, rfl⟩
  rw [← hXA] at hk4 HW ⊢
  have lA : ∀ x ∈ XA, x.length ≤ 200 := by rw [hXA]; exact cut40_each y1
  have hw := HW.out
  obtain ⟨N, hN⟩ : ∃ n, n = XA.length := ⟨_, rfl⟩
  rw [← hN] at hk4 hw ⊢
  have t0 : ((30 : Int) < (N : Int)) = False := eq_false (by omega)
  have HK4 := Lib.hid hk4
  have HNA := Lib.hid hN
  have LA := Lib.hid lA
  clear hXA lA hN hk4 ho4 HW
  have C5 := Lib.hid (B3.new HM4.out HK4.out)
  clear HM4 HK4
  go_wp2_with fail
  refine C5.out.mono ?_
  rintro e w5 ⟨rfl, hB5⟩
  generalize w4.heap.size = gw at *
  have C6 := Lib.hid (hB5.line [43, 79, 75, 32, 104, 101, 114, 101] (by decide) true (Rp.pop_first [104, 101, 114, 101]))
  clear C5 hB5
  go_wp2_with fail
  refine C6.out.mono ?_
  rintro e w6 ⟨F6, lo6, lc6, bo6, bc6, rfl, hB6, _, _⟩
  simp only [Rp.outRe, Rp.outDone, Rp.outErr, List.length_nil, List.length_cons, Nat.zero_add, show ((0 : Nat) : Int) = 0 from rfl, show ba [] = (⟨#[]⟩ : ByteArray) from rfl]
  have hbA := (Below.refl w6.heap.size w6).alloc (Nat.le_refl _) (.cells #[.string ⟨#[]⟩, .slice lo6 0 lc6, .slice bo6 0 bc6] 30)
  have hB6' := (hB6.next hbA).swap
  have C7 := Lib.hid (hB6'.line [43, 79, 75, 32, 104, 101, 114, 101] (by decide) false (Rp.pop_plain [104, 101, 114, 101]))
  clear C6 hB6 hB6' hbA
  go_wp2_with fail
  refine C7.out.mono ?_
  rintro e w7 ⟨F7, lo7, lc7, bo7, bc7, rfl, hB7, _, _⟩
  simp only [Rp.outRe, Rp.outDone, Rp.outErr, List.length_nil, List.length_cons, Nat.zero_add, show ((0 : Nat) : Int) = 0 from rfl, show ba [43] = (⟨#[43]⟩ : ByteArray) from rfl]
  have hbA := (Below.refl w7.heap.size w7).alloc (Nat.le_refl _) (.cells #[.string ⟨#[43]⟩, .slice lo7 1 lc7, .slice bo7 0 bc7] 30)
  have hrA : Rb (w7.alloc (.cells #[.string ⟨#[43]⟩, .slice lo7 1 lc7, .slice bo7 0 bc7] 30)) w7.heap.size ⟨#[43]⟩ (.slice lo7 1 lc7) (.slice bo7 0 bc7) := World.alloc_heap_new w7 _
  have hnA : ¬ F7 w7.heap.size := fun e => by have := (hB7.m.m.o.lt _ e).2; omega
  have hB7' := hB7.next hbA
  have C8 := hB7'.line2 [45, 69, 82, 82, 32, 110, 111] (by decide) true (Rp.pop_err [110, 111] true)
  have C8 := Lib.hid C8
  have HRA := Lib.hid hrA
  have HNA7 := Lib.hid hnA
  clear C7 hB7 hB7' hbA hrA hnA
  go_wp2_with fail
  refine C8.out.mono ?_
  rintro e w8 ⟨F8, lo8, lc8, bo8, bc8, rfl, hB8, hT8⟩
  simp only [Rp.outRe, Rp.outDone, Rp.outErr, List.length_nil, List.length_cons, Nat.zero_add, show ((0 : Nat) : Int) = 0 from rfl, show ba [45] = (⟨#[45]⟩ : ByteArray) from rfl]
  have hbB := (Below.refl w8.heap.size w8).alloc (Nat.le_refl _) (.cells #[.string ⟨#[45]⟩, .slice lo8 1 lc8, .slice bo8 0 bc8] 30)
  have hrB : Rb (w8.alloc (.cells #[.string ⟨#[45]⟩, .slice lo8 1 lc8, .slice bo8 0 bc8] 30)) w8.heap.size ⟨#[45]⟩ (.slice lo8 1 lc8) (.slice bo8 0 bc8) := World.alloc_heap_new w8 _
  have hr8 := HRA.out.same (hT8.block _ HRA.out.lt HNA7.out)
  have hr9 := hr8.same (hbB.block _ hr8.lt)
  have a0 := hr9.c0
  have a2 := hr9.c2
  have b0 := hrB.c0
  have HS := Lib.hid (show NBo w gm gw (.slice ao N ac) XA [104, 101, 114, 101] 0 _ from ⟨_, _, _, _, _, (hB8.next hbB).swap, Nat.zero_le _⟩)
  clear C8 HRA HNA7 hB8 hT8 hbB hrB hr8 hr9
  generalize w7.heap.size = ga at *
  go_wp2
  go_loopw [16, 17, 18, 19, 20, 21, 22] (fun s16 _ _ _ _ _ _ wr => ∃ k : Nat, k ≤ N ∧ s16 = .int .i64 (k : Int) ∧ Hid (NBo w gm gw (.slice ao N ac) XA [104, 101, 114, 101] k wr)) (fun s16 _ _ _ _ _ _ _ => N + 1 - (intOf s16).toNat)
  case atStart => exact ⟨0, Nat.zero_le _, rfl, HS.out⟩
  case round =>
    clear a0 a2 b0
    obtain ⟨k, hk, rfl, HR⟩ := hrel
    by_cases hlt : k < N
    · have t1 : (k : Int) < ((N : Nat) : Int) := by omega
      obtain ⟨b, o, rfl, g1, g2, g3⟩ := rd_at HR.out.row (by omega)
      replace g3 := g3 k _ (svs_at (by rw [← HNA.out]; exact hlt))
      have hlen : (XA.getD k []).length ≤ 200 := LA.out _ (getD_mem (by rw [← HNA.out]; exact hlt))
      have hdd : ∀ D, D = ba (St.dotted (XA.getD k [])) → _ := fun D hD => body_round HR.out (by rw [← HNA.out]; exact hlt) (by rw [← HNA.out]; omega) (D := D) hD (by omega)
      obtain ⟨x, hx⟩ : ∃ x, x = XA.getD k [] := ⟨_, rfl⟩
      rw [← hx] at g3 hlen hdd
      replace g3 : wr.cell? ⟨b, o + k, none⟩ = some (.string (ba x)) := g3
      unfold maxLen at g2
      have hrw : Rd wr _ _ := HR.out.row
      clear hx HR hrw
      have hway : (x = [] ∧ St.dotted x = x) ∨ (∃ r, x = 46 :: r ∧ St.dotted x = 46 :: x) ∨ (∃ c r, x = c :: r ∧ c ≠ 46 ∧ St.dotted x = x) := by
        cases x with
        | nil => exact .inl ⟨rfl, rfl⟩
        | cons c r =>
          by_cases hc : c = 46
          · subst hc
            exact .inr (.inl ⟨r, rfl, rfl⟩)
          · refine .inr (.inr ⟨c, r, rfl, hc, ?_⟩)
            unfold St.dotted
            rw [if_neg (by simpa using hc)]
      rcases hway with ⟨rfl, e2⟩ | hway
      · rw [e2] at hdd
        obtain ⟨er, her, CL, CW⟩ := hdd _ rfl
        have e0 : ba ([] : List UInt8) = ⟨#[]⟩ := rfl
        rw [e0] at g3 CL CW
        have CL := Lib.hid CL
        have CW := Lib.hid CW
        clear hlen
        rcases her with rfl | rfl
        · go_wp2_with fail
          refine CL.out.mono ?_
          rintro e w6 ⟨c6, lo, n6, lc, bo, k6, bc, rfl, hn6⟩
          have C7 := Lib.hid (CW.out _ (hn6.next ((Below.refl w6.heap.size w6).alloc (Nat.le_refl _) (.cells #[.string c6, .slice lo n6 lc, .slice bo k6 bc] 30))))
          clear CL CW hn6 g3
          go_wp2_with fail
          refine C7.out.mono ?_
          rintro e w7 ⟨rfl, hn7⟩
          have HN7 := Lib.hid (show NBo w gm gw (.slice (some ⟨b, o, none⟩) N ac) XA _ (k + 1) w7 from hn7)
          clear hn7 C7
          go_wp2
          go_roundw
          case rel => exact ⟨k + 1, by omega, by go_num, HN7.out⟩
          case measure => simp [intOf]; omega
        · go_wp2_with fail
          refine CL.out.mono ?_
          rintro e w6 ⟨c6, lo, n6, lc, bo, k6, bc, rfl, hn6⟩
          have C7 := Lib.hid (CW.out _ (hn6.next ((Below.refl w6.heap.size w6).alloc (Nat.le_refl _) (.cells #[.string c6, .slice lo n6 lc, .slice bo k6 bc] 30))))
          clear CL CW hn6 g3
          go_wp2_with fail
          refine C7.out.mono ?_
          rintro e w7 ⟨rfl, hn7⟩
          obtain ⟨F7, hm7⟩ : ∃ Fm, ML w gm Fm 2 none w7 := hn7
          have C8 := Lib.hid hm7.busy
          have HB7 := Lib.hid hm7.b
          clear C7 hm7
          go_wp2_with (go_at_call 15; refine C8.out.mono ?_; rintro e w8 ⟨rfl, hw⟩; rw [← hw]; clear hw)
          go_ret
          exact ⟨rfl, HB7.out⟩
      rcases hway with ⟨r, e1, e2⟩ | ⟨c, r, e1, hc, e2⟩
      · obtain ⟨D, hD⟩ : ∃ D, (⟨#[46]⟩ : ByteArray) ++ ba x = D := ⟨_, rfl⟩
        have eD : D = ba (St.dotted x) := by rw [← hD, e2, show (⟨#[46]⟩ : ByteArray) = ba [46] from rfl, ba_append]; rfl
        obtain ⟨er, her, CL, CW⟩ := hdd D eD
        obtain ⟨X, hX⟩ : ∃ X, X = ba x := ⟨_, rfl⟩
        have z0 : 0 < X.size := by rw [hX, e1]; exact Nat.succ_pos _
        have z1 : (X[0]'z0).toNat = 46 := by simp only [hX, e1]; rfl
        have z2 : X.size = x.length := by rw [hX]; rfl
        have i1 : (9223372036854775807 < 1 + X.size) = False := eq_false (by omega)
        have i2 : (⟨#[46]⟩ : ByteArray).size = 1 := rfl
        rw [← hX] at hD g3
        clear hX eD e1 e2 hdd z2
        have CL := Lib.hid CL
        have CW := Lib.hid CW
        clear hlen
        rcases her with rfl | rfl
        · go_wp2_with fail
          refine CL.out.mono ?_
          rintro e w6 ⟨c6, lo, n6, lc, bo, k6, bc, rfl, hn6⟩
          have C7 := Lib.hid (CW.out _ (hn6.next ((Below.refl w6.heap.size w6).alloc (Nat.le_refl _) (.cells #[.string c6, .slice lo n6 lc, .slice bo k6 bc] 30))))
          clear CL CW hn6 g3
          go_wp2_with fail
          refine C7.out.mono ?_
          rintro e w7 ⟨rfl, hn7⟩
          have HN7 := Lib.hid (show NBo w gm gw (.slice (some ⟨b, o, none⟩) N ac) XA _ (k + 1) w7 from hn7)
          clear hn7 C7
          go_wp2
          go_roundw
          case rel => exact ⟨k + 1, by omega, by go_num, HN7.out⟩
          case measure => simp [intOf]; omega
        · go_wp2_with fail
          refine CL.out.mono ?_
          rintro e w6 ⟨c6, lo, n6, lc, bo, k6, bc, rfl, hn6⟩
          have C7 := Lib.hid (CW.out _ (hn6.next ((Below.refl w6.heap.size w6).alloc (Nat.le_refl _) (.cells #[.string c6, .slice lo n6 lc, .slice bo k6 bc] 30))))
          clear CL CW hn6 g3
          go_wp2_with fail
          refine C7.out.mono ?_
          rintro e w7 ⟨rfl, hn7⟩
          obtain ⟨F7, hm7⟩ : ∃ Fm, ML w gm Fm 2 none w7 := hn7
          have C8 := Lib.hid hm7.busy
          have HB7 := Lib.hid hm7.b
          clear C7 hm7
          go_wp2_with (go_at_call 15; refine C8.out.mono ?_; rintro e w8 ⟨rfl, hw⟩; rw [← hw]; clear hw)
          go_ret
          exact ⟨rfl, HB7.out⟩
      · rw [e2] at hdd
        obtain ⟨er, her, CL, CW⟩ := hdd _ rfl
        obtain ⟨X, hX⟩ : ∃ X, X = ba x := ⟨_, rfl⟩
        have z0 : 0 < X.size := by rw [hX, e1]; exact Nat.succ_pos _
        have z1 : (((X[0]'z0).toNat : Int) == 46) = false := beq_eq_false_iff_ne.2 (fun e => hc (UInt8.toNat_inj.1 (by
          have : X[0]'z0 = c := by simp only [hX, e1]; rfl
          rw [← this]
          exact Int.ofNat_inj.1 e)))
        have z2 : (((X[0]'z0).toNat : Int) = 46) = False := eq_false (fun e => by simp [e] at z1)
        rw [← hX] at g3 CL CW
        clear hX e1 e2 hdd hc
        have CL := Lib.hid CL
        have CW := Lib.hid CW
        clear hlen
        rcases her with rfl | rfl
        · go_wp2_with fail
          refine CL.out.mono ?_
          rintro e w6 ⟨c6, lo, n6, lc, bo, k6, bc, rfl, hn6⟩
          have C7 := Lib.hid (CW.out _ (hn6.next ((Below.refl w6.heap.size w6).alloc (Nat.le_refl _) (.cells #[.string c6, .slice lo n6 lc, .slice bo k6 bc] 30))))
          clear CL CW hn6 g3
          go_wp2_with fail
          refine C7.out.mono ?_
          rintro e w7 ⟨rfl, hn7⟩
          have HN7 := Lib.hid (show NBo w gm gw (.slice (some ⟨b, o, none⟩) N ac) XA _ (k + 1) w7 from hn7)
          clear hn7 C7
          go_wp2
          go_roundw
          case rel => exact ⟨k + 1, by omega, by go_num, HN7.out⟩
          case measure => simp [intOf]; omega
        · go_wp2_with fail
          refine CL.out.mono ?_
          rintro e w6 ⟨c6, lo, n6, lc, bo, k6, bc, rfl, hn6⟩
          have C7 := Lib.hid (CW.out _ (hn6.next ((Below.refl w6.heap.size w6).alloc (Nat.le_refl _) (.cells #[.string c6, .slice lo n6 lc, .slice bo k6 bc] 30))))
          clear CL CW hn6 g3
          go_wp2_with fail
          refine C7.out.mono ?_
          rintro e w7 ⟨rfl, hn7⟩
          obtain ⟨F7, hm7⟩ : ∃ Fm, ML w gm Fm 2 none w7 := hn7
          have C8 := Lib.hid hm7.busy
          have HB7 := Lib.hid hm7.b
          clear C7 hm7
          go_wp2_with (go_at_call 15; refine C8.out.mono ?_; rintro e w8 ⟨rfl, hw⟩; rw [← hw]; clear hw)
          go_ret
          exact ⟨rfl, HB7.out⟩
    · have t1 : ((k : Int) < ((N : Nat) : Int)) = False := eq_false (by omega)
      obtain rfl : N = k := by omega
      have hE : NBo w gm gw (.slice ao N ac) XA [104, 101, 114, 101] XA.length wr := by have := HR.out; rwa [HNA.out] at this ⊢
      have HJ := Lib.hid (show (St.join XA).length ≤ 1000 by
        obtain ⟨_, _, _, _, _, _, h⟩ := hE
        rwa [List.take_length] at h)
      have CE := Lib.hid (body_end hE)
      clear hE HR hlt
      go_wp2_with fail
      refine CE.out.mono ?_
      rintro e w6 ⟨c6, lo6, lc6, bo6, bc6, rfl, ⟨F6, hm6⟩, hd6, hr6⟩
      obtain ⟨J, hJ⟩ : ∃ J, J = St.join XA := ⟨_, rfl⟩
      rw [← hJ] at hd6 HJ ⊢
      obtain ⟨JL, hJL⟩ : ∃ JL, JL = J.length := ⟨_, rfl⟩
      rw [← hJL] at hd6 HJ ⊢
      have hbA := (Below.refl w6.heap.size w6).alloc (Nat.le_refl _) (.cells #[.string c6, .slice lo6 1 lc6, .slice bo6 JL bc6] 30)
      have hrA : Rb (w6.alloc (.cells #[.string c6, .slice lo6 1 lc6, .slice bo6 JL bc6] 30)) w6.heap.size c6 (.slice lo6 1 lc6) (.slice bo6 JL bc6) := World.alloc_heap_new w6 _
      have HRA := Lib.hid hrA
      have HD6 := Lib.hid (hd6.below hbA)
      have HR6 := Lib.hid (hr6.below hbA)
      have HM6 := Lib.hid (hm6.next hbA)
      have HJE := Lib.hid hJ
      have HJLE := Lib.hid hJL
      clear hbA hrA hd6 hr6 hm6 CE hJ hJL
      go_wp2
      generalize hwz : w6.alloc _ = wz at *
      clear hwz
      go_loopw [26, 27] (fun s26 s27 wr => ∃ (k : Nat) (TX : ByteArray), k ≤ N ∧ s27 = .int .i64 (k : Int) ∧ s26 = .string TX ∧ Hid (TX = ba (St.join (XA.take k))) ∧ wr = wz) (fun _ s27 _ => N + 1 - (intOf s27).toNat)
      case atStart => exact ⟨0, ⟨#[]⟩, Nat.zero_le _, rfl, rfl, rfl, rfl⟩
      case round =>
        obtain ⟨k, TX, hk, rfl, rfl, HTX, rfl⟩ := hrel
        by_cases hlt : k < N
        · have t1 : (k : Int) < ((N : Nat) : Int) := by omega
          obtain ⟨b, o, rfl, g1, g2, g3⟩ := rd_at HR6.out (by omega)
          have hkx : k < XA.length := by rw [← HNA.out]; exact hlt
          replace g3 := g3 k _ (svs_at hkx)
          have e1 : St.join (XA.take (k + 1)) = St.join (XA.take k) ++ XA.getD k [] ++ [13, 10] := by
            rw [List.take_succ_eq_append_getElem hkx, St.join_append, List.getD_eq_getElem?_getD, List.getElem?_eq_getElem hkx]
            simp [St.join]
          have hz := St.join_take_len XA (k + 1)
          rw [← HJE.out, ← HJLE.out, e1, List.length_append, List.length_append] at hz
          obtain ⟨x, hx⟩ : ∃ x, x = XA.getD k [] := ⟨_, rfl⟩
          rw [← hx] at g3 e1 hz
          replace g3 : wr.cell? ⟨b, o + k, none⟩ = some (.string (ba x)) := g3
          obtain ⟨X, hX⟩ : ∃ X, X = ba x := ⟨_, rfl⟩
          rw [← hX] at g3
          obtain ⟨K, hK⟩ : ∃ K, TX ++ X = K := ⟨_, rfl⟩
          obtain ⟨Y, hY⟩ : ∃ Y, K ++ (⟨#[13, 10]⟩ : ByteArray) = Y := ⟨_, rfl⟩
          have hYE : Y = ba (St.join (XA.take (k + 1))) := by
            rw [← hY, ← hK, HTX.out, hX, e1, show (⟨#[13, 10]⟩ : ByteArray) = ba [13, 10] from rfl, ba_append, ba_append]
          have HY := Lib.hid hYE
          have hj := HJ.out
          obtain ⟨A, hA⟩ : ∃ A, TX.size = A := ⟨_, rfl⟩
          obtain ⟨B, hB⟩ : ∃ B, X.size = B := ⟨_, rfl⟩
          have s1 : A = (St.join (XA.take k)).length := by rw [← hA, HTX.out]; rfl
          have s2 : B = x.length := by rw [← hB, hX]; rfl
          obtain ⟨C, hC⟩ : ∃ C, K.size = C := ⟨_, rfl⟩
          have s3 : C = A + B := by rw [← hC, ← hK, ByteArray.size_append, hA, hB]
          have i0 : (⟨#[13, 10]⟩ : ByteArray).size = 2 := rfl
          have i1 : (9223372036854775807 < A + B) = False := eq_false (by omega)
          have i2 : (9223372036854775807 < C + 2) = False := eq_false (by omega)
          unfold maxLen at g2
          clear e1 hz hx hX hYE hj s1 s2 s3 hkx
          go_wp2
          go_roundw
          case rel => exact ⟨k + 1, Y, by omega, by go_num, rfl, HY, by simp⟩
          case measure => simp [intOf]; omega
        · have t1 : ((k : Int) < ((N : Nat) : Int)) = False := eq_false (by omega)
          obtain rfl : N = k := by omega
          have hTX : TX = ba J := by rw [HTX.out, HNA.out, List.take_length, HJE.out]
          subst hTX
          have r2 := HRA.out.c2
          have v1 := bytes_string HD6.out
          rw [show sv J = .string (ba J) from rfl] at v1
          generalize ba J = BJ at *
          have CB := Lib.hid HM6.out.busy
          have HB6 := Lib.hid HM6.out.b
          clear hlt HTX HRA HD6 HR6 HM6
          go_wp2_with (go_at_call 15; refine CB.out.mono ?_; rintro e w8 ⟨rfl, hw⟩; rw [← hw]; clear hw)
          go_ret
          exact ⟨rfl, HB6.out⟩

set_option maxHeartbeats 8000000 in
set_option maxRecDepth 20000 in
theorem bodies_long (v1 : Value) (y1 : List ByteArray) (h1 : y1.length ≤ maxLen) (hw : 30 < (cut40 y1).length) (w : World) (r1 : RdN 1 w v1 (y1.map fun y => [.string y])) :
    Calls Tryd.prog 5 #[v1] w fun e w' => e = .returned (.bool true) ∧ Below w.heap.size w w' := by
  have R1 := Lib.hid r1
  have H1 := Lib.hid h1
  obtain ⟨ao1, cp1, rfl, _⟩ := r1.form
  clear r1 h1
  simp only [List.length_map] at *
  generalize hq1 : y1.length = q1 at *
  have HQ1 := Lib.hid hq1
  have HW := Lib.hid hw
  clear hq1 hw
  go_enter Tryd.func5, Tryd.ntmps5
  go_wp2_with fail
  refine (shown_any w).mono ?_
  rintro e w1 ⟨rfl, hb1⟩
  go_wp2_with fail
  refine (ML.new hb1 2).mono ?_
  rintro e w2 ⟨rfl, hm2, hb2⟩
  generalize w1.heap.size = gm at *
  go_wp2_with fail
  refine (M2.new hm2.b hm2 2).mono ?_
  rintro e w3 ⟨rfl, hm3, hb3⟩
  generalize w2.heap.size = go at *
  have HM3 := Lib.hid hm3
  clear hm2 hb2 hm3 hb3 hb1
  go_wp2_with fail
  refine (shorts_any _ y1 w3 (R1.out.below HM3.out.m.b) (HQ1.out ▸ H1.out)).mono ?_
  rintro e w4 ⟨ao, ac, rfl, ho4, hb4⟩
  have hk4 := HM3.out.row ho4
  have HM4 := Lib.hid (HM3.out.next hb4)
  clear hb4 HM3 R1 H1
  have cap4 : (cut40 y1).length ≤ ac := by
    rcases hk4.1 with ⟨e, _⟩ | ⟨b, o, cap, e, g1, _⟩
    · have e : (cut40 y1).map sv = [] := e
      have := congrArg List.length e
      rw [List.length_map, List.length_nil] at this
      have := HW.out
      omega
    · simp only [Value.slice.injEq] at e
      obtain ⟨_, _, rfl⟩ := e
      rw [List.length_map] at g1
      exact g1
  have hkc : Tk w4 (fun k => k = gm) (fun k => k = go) (.slice ao 30 ac) (((cut40 y1).take 30).map sv) := by
    rw [List.map_take]
    exact ⟨Rd.cutV hk4.1 (by rw [List.length_map]) (by have := HW.out; omega), fun k hk => hk4.2 k ((own_slice ao 30 (cut40 y1).length ac) ▸ hk)⟩
  obtain ⟨XA, hXA⟩ : ∃ X, X = (cut40 y1).take 30 := ⟨_, rfl⟩
  rw [← hXA] at hkc
  have lA : ∀ x ∈ XA, x.length ≤ 200 := fun x hx => cut40_each y1 x (List.mem_of_mem_take (hXA ▸ hx))
  have nA : 30 = XA.length := by rw [hXA, List.length_take]; have := HW.out; omega
  have hw := HW.out
  generalize (cut40 y1).length = N0 at *
  have t0 : (30 : Int) < (N0 : Int) := by omega
  have t01 : (30 : Int) ≤ (N0 : Int) := by omega
  have t02 : (30 : Int) ≤ (ac : Int) := by omega
  have HK4 := Lib.hid hkc
  have HNA := Lib.hid nA
  have LA := Lib.hid lA
  clear hXA lA nA hw hkc hk4 ho4 HW cap4
  have C5 := Lib.hid (B3.new HM4.out HK4.out)
  clear HM4 HK4
  go_wp2_with fail
  refine C5.out.mono ?_
  rintro e w5 ⟨rfl, hB5⟩
  generalize w4.heap.size = gw at *
  have C6 := Lib.hid (hB5.line [43, 79, 75, 32, 104, 101, 114, 101] (by decide) true (Rp.pop_first [104, 101, 114, 101]))
  clear C5 hB5
  go_wp2_with fail
  refine C6.out.mono ?_
  rintro e w6 ⟨F6, lo6, lc6, bo6, bc6, rfl, hB6, _, _⟩
  simp only [Rp.outRe, Rp.outDone, Rp.outErr, List.length_nil, List.length_cons, Nat.zero_add, show ((0 : Nat) : Int) = 0 from rfl, show ba [] = (⟨#[]⟩ : ByteArray) from rfl]
  have hbA := (Below.refl w6.heap.size w6).alloc (Nat.le_refl _) (.cells #[.string ⟨#[]⟩, .slice lo6 0 lc6, .slice bo6 0 bc6] 30)
  have hB6' := (hB6.next hbA).swap
  have C7 := Lib.hid (hB6'.line [43, 79, 75, 32, 104, 101, 114, 101] (by decide) false (Rp.pop_plain [104, 101, 114, 101]))
  clear C6 hB6 hB6' hbA
  go_wp2_with fail
  refine C7.out.mono ?_
  rintro e w7 ⟨F7, lo7, lc7, bo7, bc7, rfl, hB7, _, _⟩
  simp only [Rp.outRe, Rp.outDone, Rp.outErr, List.length_nil, List.length_cons, Nat.zero_add, show ((0 : Nat) : Int) = 0 from rfl, show ba [43] = (⟨#[43]⟩ : ByteArray) from rfl]
  have hbA := (Below.refl w7.heap.size w7).alloc (Nat.le_refl _) (.cells #[.string ⟨#[43]⟩, .slice lo7 1 lc7, .slice bo7 0 bc7] 30)
  have hrA : Rb (w7.alloc (.cells #[.string ⟨#[43]⟩, .slice lo7 1 lc7, .slice bo7 0 bc7] 30)) w7.heap.size ⟨#[43]⟩ (.slice lo7 1 lc7) (.slice bo7 0 bc7) := World.alloc_heap_new w7 _
  have hnA : ¬ F7 w7.heap.size := fun e => by have := (hB7.m.m.o.lt _ e).2; omega
  have hB7' := hB7.next hbA
  have C8 := hB7'.line2 [45, 69, 82, 82, 32, 110, 111] (by decide) true (Rp.pop_err [110, 111] true)
  have C8 := Lib.hid C8
  have HRA := Lib.hid hrA
  have HNA7 := Lib.hid hnA
  clear C7 hB7 hB7' hbA hrA hnA
  go_wp2_with fail
  refine C8.out.mono ?_
  rintro e w8 ⟨F8, lo8, lc8, bo8, bc8, rfl, hB8, hT8⟩
  simp only [Rp.outRe, Rp.outDone, Rp.outErr, List.length_nil, List.length_cons, Nat.zero_add, show ((0 : Nat) : Int) = 0 from rfl, show ba [45] = (⟨#[45]⟩ : ByteArray) from rfl]
  have hbB := (Below.refl w8.heap.size w8).alloc (Nat.le_refl _) (.cells #[.string ⟨#[45]⟩, .slice lo8 1 lc8, .slice bo8 0 bc8] 30)
  have hrB : Rb (w8.alloc (.cells #[.string ⟨#[45]⟩, .slice lo8 1 lc8, .slice bo8 0 bc8] 30)) w8.heap.size ⟨#[45]⟩ (.slice lo8 1 lc8) (.slice bo8 0 bc8) := World.alloc_heap_new w8 _
  have hr8 := HRA.out.same (hT8.block _ HRA.out.lt HNA7.out)
  have hr9 := hr8.same (hbB.block _ hr8.lt)
  have a0 := hr9.c0
  have a2 := hr9.c2
  have b0 := hrB.c0
  have HS := Lib.hid (show NBo w gm gw (.slice ao 30 ac) XA [104, 101, 114, 101] 0 _ from ⟨_, _, _, _, _, (hB8.next hbB).swap, Nat.zero_le _⟩)
  clear C8 HRA HNA7 hB8 hT8 hbB hrB hr8 hr9
  generalize w7.heap.size = ga at *
  go_wp2
  go_loopw [16, 17, 18, 19, 20, 21, 22] (fun s16 _ _ _ _ _ _ wr => ∃ k : Nat, k ≤ 30 ∧ s16 = .int .i64 (k : Int) ∧ Hid (NBo w gm gw (.slice ao 30 ac) XA [104, 101, 114, 101] k wr)) (fun s16 _ _ _ _ _ _ _ => 30 + 1 - (intOf s16).toNat)
  case atStart => exact ⟨0, Nat.zero_le _, rfl, HS.out⟩
  case round =>
    clear a0 a2 b0
    obtain ⟨k, hk, rfl, HR⟩ := hrel
    by_cases hlt : k < 30
    · have t1 : (k : Int) < ((30 : Nat) : Int) := by omega
      obtain ⟨b, o, rfl, g1, g2, g3⟩ := rd_at HR.out.row (by omega)
      replace g3 := g3 k _ (svs_at (by rw [← HNA.out]; exact hlt))
      have hlen : (XA.getD k []).length ≤ 200 := LA.out _ (getD_mem (by rw [← HNA.out]; exact hlt))
      have hdd : ∀ D, D = ba (St.dotted (XA.getD k [])) → _ := fun D hD => body_round HR.out (by rw [← HNA.out]; exact hlt) (by rw [← HNA.out]; omega) (D := D) hD (by omega)
      obtain ⟨x, hx⟩ : ∃ x, x = XA.getD k [] := ⟨_, rfl⟩
      rw [← hx] at g3 hlen hdd
      replace g3 : wr.cell? ⟨b, o + k, none⟩ = some (.string (ba x)) := g3
      unfold maxLen at g2
      have hrw : Rd wr _ _ := HR.out.row
      clear hx HR hrw
      have hway : (x = [] ∧ St.dotted x = x) ∨ (∃ r, x = 46 :: r ∧ St.dotted x = 46 :: x) ∨ (∃ c r, x = c :: r ∧ c ≠ 46 ∧ St.dotted x = x) := by
        cases x with
        | nil => exact .inl ⟨rfl, rfl⟩
        | cons c r =>
          by_cases hc : c = 46
          · subst hc
            exact .inr (.inl ⟨r, rfl, rfl⟩)
          · refine .inr (.inr ⟨c, r, rfl, hc, ?_⟩)
            unfold St.dotted
            rw [if_neg (by simpa using hc)]
      rcases hway with ⟨rfl, e2⟩ | hway
      · rw [e2] at hdd
        obtain ⟨er, her, CL, CW⟩ := hdd _ rfl
        have e0 : ba ([] : List UInt8) = ⟨#[]⟩ := rfl
        rw [e0] at g3 CL CW
        have CL := Lib.hid CL
        have CW := Lib.hid CW
        clear hlen
        rcases her with rfl | rfl
        · go_wp2_with fail
          refine CL.out.mono ?_
          rintro e w6 ⟨c6, lo, n6, lc, bo, k6, bc, rfl, hn6⟩
          have C7 := Lib.hid (CW.out _ (hn6.next ((Below.refl w6.heap.size w6).alloc (Nat.le_refl _) (.cells #[.string c6, .slice lo n6 lc, .slice bo k6 bc] 30))))
          clear CL CW hn6 g3
          go_wp2_with fail
          refine C7.out.mono ?_
          rintro e w7 ⟨rfl, hn7⟩
          have HN7 := Lib.hid (show NBo w gm gw (.slice (some ⟨b, o, none⟩) 30 ac) XA _ (k + 1) w7 from hn7)
          clear hn7 C7
          go_wp2
          go_roundw
          case rel => exact ⟨k + 1, by omega, by go_num, HN7.out⟩
          case measure => simp [intOf]; omega
        · go_wp2_with fail
          refine CL.out.mono ?_
          rintro e w6 ⟨c6, lo, n6, lc, bo, k6, bc, rfl, hn6⟩
          have C7 := Lib.hid (CW.out _ (hn6.next ((Below.refl w6.heap.size w6).alloc (Nat.le_refl _) (.cells #[.string c6, .slice lo n6 lc, .slice bo k6 bc] 30))))
          clear CL CW hn6 g3
          go_wp2_with fail
          refine C7.out.mono ?_
          rintro e w7 ⟨rfl, hn7⟩
          obtain ⟨F7, hm7⟩ : ∃ Fm, ML w gm Fm 2 none w7 := hn7
          have C8 := Lib.hid hm7.busy
          have HB7 := Lib.hid hm7.b
          clear C7 hm7
          go_wp2_with (go_at_call 15; refine C8.out.mono ?_; rintro e w8 ⟨rfl, hw⟩; rw [← hw]; clear hw)
          go_ret
          exact ⟨rfl, HB7.out⟩
      rcases hway with ⟨r, e1, e2⟩ | ⟨c, r, e1, hc, e2⟩
      · obtain ⟨D, hD⟩ : ∃ D, (⟨#[46]⟩ : ByteArray) ++ ba x = D := ⟨_, rfl⟩
        have eD : D = ba (St.dotted x) := by rw [← hD, e2, show (⟨#[46]⟩ : ByteArray) = ba [46] from rfl, ba_append]; rfl
        obtain ⟨er, her, CL, CW⟩ := hdd D eD
        obtain ⟨X, hX⟩ : ∃ X, X = ba x := ⟨_, rfl⟩
        have z0 : 0 < X.size := by rw [hX, e1]; exact Nat.succ_pos _
        have z1 : (X[0]'z0).toNat = 46 := by simp only [hX, e1]; rfl
        have z2 : X.size = x.length := by rw [hX]; rfl
        have i1 : (9223372036854775807 < 1 + X.size) = False := eq_false (by omega)
        have i2 : (⟨#[46]⟩ : ByteArray).size = 1 := rfl
        rw [← hX] at hD g3
        clear hX eD e1 e2 hdd z2
        have CL := Lib.hid CL
        have CW := Lib.hid CW
        clear hlen
        rcases her with rfl | rfl
        · go_wp2_with fail
          refine CL.out.mono ?_
          rintro e w6 ⟨c6, lo, n6, lc, bo, k6, bc, rfl, hn6⟩
          have C7 := Lib.hid (CW.out _ (hn6.next ((Below.refl w6.heap.size w6).alloc (Nat.le_refl _) (.cells #[.string c6, .slice lo n6 lc, .slice bo k6 bc] 30))))
          clear CL CW hn6 g3
          go_wp2_with fail
          refine C7.out.mono ?_
          rintro e w7 ⟨rfl, hn7⟩
          have HN7 := Lib.hid (show NBo w gm gw (.slice (some ⟨b, o, none⟩) 30 ac) XA _ (k + 1) w7 from hn7)
          clear hn7 C7
          go_wp2
          go_roundw
          case rel => exact ⟨k + 1, by omega, by go_num, HN7.out⟩
          case measure => simp [intOf]; omega
        · go_wp2_with fail
          refine CL.out.mono ?_
          rintro e w6 ⟨c6, lo, n6, lc, bo, k6, bc, rfl, hn6⟩
          have C7 := Lib.hid (CW.out _ (hn6.next ((Below.refl w6.heap.size w6).alloc (Nat.le_refl _) (.cells #[.string c6, .slice lo n6 lc, .slice bo k6 bc] 30))))
          clear CL CW hn6 g3
          go_wp2_with fail
          refine C7.out.mono ?_
          rintro e w7 ⟨rfl, hn7⟩
          obtain ⟨F7, hm7⟩ : ∃ Fm, ML w gm Fm 2 none w7 := hn7
          have C8 := Lib.hid hm7.busy
          have HB7 := Lib.hid hm7.b
          clear C7 hm7
          go_wp2_with (go_at_call 15; refine C8.out.mono ?_; rintro e w8 ⟨rfl, hw⟩; rw [← hw]; clear hw)
          go_ret
          exact ⟨rfl, HB7.out⟩
      · rw [e2] at hdd
        obtain ⟨er, her, CL, CW⟩ := hdd _ rfl
        obtain ⟨X, hX⟩ : ∃ X, X = ba x := ⟨_, rfl⟩
        have z0 : 0 < X.size := by rw [hX, e1]; exact Nat.succ_pos _
        have z1 : (((X[0]'z0).toNat : Int) == 46) = false := beq_eq_false_iff_ne.2 (fun e => hc (UInt8.toNat_inj.1 (by
          have : X[0]'z0 = c := by simp only [hX, e1]; rfl
          rw [← this]
          exact Int.ofNat_inj.1 e)))
        have z2 : (((X[0]'z0).toNat : Int) = 46) = False := eq_false (fun e => by simp [e] at z1)
        rw [← hX] at g3 CL CW
        clear hX e1 e2 hdd hc
        have CL := Lib.hid CL
        have CW := Lib.hid CW
        clear hlen
        rcases her with rfl | rfl
        · go_wp2_with fail
          refine CL.out.mono ?_
          rintro e w6 ⟨c6, lo, n6, lc, bo, k6, bc, rfl, hn6⟩
          have C7 := Lib.hid (CW.out _ (hn6.next ((Below.refl w6.heap.size w6).alloc (Nat.le_refl _) (.cells #[.string c6, .slice lo n6 lc, .slice bo k6 bc] 30))))
          clear CL CW hn6 g3
          go_wp2_with fail
          refine C7.out.mono ?_
          rintro e w7 ⟨rfl, hn7⟩
          have HN7 := Lib.hid (show NBo w gm gw (.slice (some ⟨b, o, none⟩) 30 ac) XA _ (k + 1) w7 from hn7)
          clear hn7 C7
          go_wp2
          go_roundw
          case rel => exact ⟨k + 1, by omega, by go_num, HN7.out⟩
          case measure => simp [intOf]; omega
        · go_wp2_with fail
          refine CL.out.mono ?_
          rintro e w6 ⟨c6, lo, n6, lc, bo, k6, bc, rfl, hn6⟩
          have C7 := Lib.hid (CW.out _ (hn6.next ((Below.refl w6.heap.size w6).alloc (Nat.le_refl _) (.cells #[.string c6, .slice lo n6 lc, .slice bo k6 bc] 30))))
          clear CL CW hn6 g3
          go_wp2_with fail
          refine C7.out.mono ?_
          rintro e w7 ⟨rfl, hn7⟩
          obtain ⟨F7, hm7⟩ : ∃ Fm, ML w gm Fm 2 none w7 := hn7
          have C8 := Lib.hid hm7.busy
          have HB7 := Lib.hid hm7.b
          clear C7 hm7
          go_wp2_with (go_at_call 15; refine C8.out.mono ?_; rintro e w8 ⟨rfl, hw⟩; rw [← hw]; clear hw)
          go_ret
          exact ⟨rfl, HB7.out⟩
    · have t1 : ((k : Int) < ((30 : Nat) : Int)) = False := eq_false (by omega)
      obtain rfl : 30 = k := by omega
      have hE : NBo w gm gw (.slice ao 30 ac) XA [104, 101, 114, 101] XA.length wr := by have := HR.out; rwa [HNA.out] at this ⊢
      have HJ := Lib.hid (show (St.join XA).length ≤ 1000 by
        obtain ⟨_, _, _, _, _, _, h⟩ := hE
        rwa [List.take_length] at h)
      have CE := Lib.hid (body_end hE)
      clear hE HR hlt
      go_wp2_with fail
      refine CE.out.mono ?_
      rintro e w6 ⟨c6, lo6, lc6, bo6, bc6, rfl, ⟨F6, hm6⟩, hd6, hr6⟩
      obtain ⟨J, hJ⟩ : ∃ J, J = St.join XA := ⟨_, rfl⟩
      rw [← hJ] at hd6 HJ ⊢
      obtain ⟨JL, hJL⟩ : ∃ JL, JL = J.length := ⟨_, rfl⟩
      rw [← hJL] at hd6 HJ ⊢
      have hbA := (Below.refl w6.heap.size w6).alloc (Nat.le_refl _) (.cells #[.string c6, .slice lo6 1 lc6, .slice bo6 JL bc6] 30)
      have hrA : Rb (w6.alloc (.cells #[.string c6, .slice lo6 1 lc6, .slice bo6 JL bc6] 30)) w6.heap.size c6 (.slice lo6 1 lc6) (.slice bo6 JL bc6) := World.alloc_heap_new w6 _
      have HRA := Lib.hid hrA
      have HD6 := Lib.hid (hd6.below hbA)
      have HR6 := Lib.hid (hr6.below hbA)
      have HM6 := Lib.hid (hm6.next hbA)
      have HJE := Lib.hid hJ
      have HJLE := Lib.hid hJL
      clear hbA hrA hd6 hr6 hm6 CE hJ hJL
      go_wp2
      generalize hwz : w6.alloc _ = wz at *
      clear hwz
      go_loopw [26, 27] (fun s26 s27 wr => ∃ (k : Nat) (TX : ByteArray), k ≤ 30 ∧ s27 = .int .i64 (k : Int) ∧ s26 = .string TX ∧ Hid (TX = ba (St.join (XA.take k))) ∧ wr = wz) (fun _ s27 _ => 30 + 1 - (intOf s27).toNat)
      case atStart => exact ⟨0, ⟨#[]⟩, Nat.zero_le _, rfl, rfl, rfl, rfl⟩
      case round =>
        obtain ⟨k, TX, hk, rfl, rfl, HTX, rfl⟩ := hrel
        by_cases hlt : k < 30
        · have t1 : (k : Int) < ((30 : Nat) : Int) := by omega
          obtain ⟨b, o, rfl, g1, g2, g3⟩ := rd_at HR6.out (by omega)
          have hkx : k < XA.length := by rw [← HNA.out]; exact hlt
          replace g3 := g3 k _ (svs_at hkx)
          have e1 : St.join (XA.take (k + 1)) = St.join (XA.take k) ++ XA.getD k [] ++ [13, 10] := by
            rw [List.take_succ_eq_append_getElem hkx, St.join_append, List.getD_eq_getElem?_getD, List.getElem?_eq_getElem hkx]
            simp [St.join]
          have hz := St.join_take_len XA (k + 1)
          rw [← HJE.out, ← HJLE.out, e1, List.length_append, List.length_append] at hz
          obtain ⟨x, hx⟩ : ∃ x, x = XA.getD k [] := ⟨_, rfl⟩
          rw [← hx] at g3 e1 hz
          replace g3 : wr.cell? ⟨b, o + k, none⟩ = some (.string (ba x)) := g3
          obtain ⟨X, hX⟩ : ∃ X, X = ba x := ⟨_, rfl⟩
          rw [← hX] at g3
          obtain ⟨K, hK⟩ : ∃ K, TX ++ X = K := ⟨_, rfl⟩
          obtain ⟨Y, hY⟩ : ∃ Y, K ++ (⟨#[13, 10]⟩ : ByteArray) = Y := ⟨_, rfl⟩
          have hYE : Y = ba (St.join (XA.take (k + 1))) := by
            rw [← hY, ← hK, HTX.out, hX, e1, show (⟨#[13, 10]⟩ : ByteArray) = ba [13, 10] from rfl, ba_append, ba_append]
          have HY := Lib.hid hYE
          have hj := HJ.out
          obtain ⟨A, hA⟩ : ∃ A, TX.size = A := ⟨_, rfl⟩
          obtain ⟨B, hB⟩ : ∃ B, X.size = B := ⟨_, rfl⟩
          have s1 : A = (St.join (XA.take k)).length := by rw [← hA, HTX.out]; rfl
          have s2 : B = x.length := by rw [← hB, hX]; rfl
          obtain ⟨C, hC⟩ : ∃ C, K.size = C := ⟨_, rfl⟩
          have s3 : C = A + B := by rw [← hC, ← hK, ByteArray.size_append, hA, hB]
          have i0 : (⟨#[13, 10]⟩ : ByteArray).size = 2 := rfl
          have i1 : (9223372036854775807 < A + B) = False := eq_false (by omega)
          have i2 : (9223372036854775807 < C + 2) = False := eq_false (by omega)
          unfold maxLen at g2
          clear e1 hz hx hX hYE hj s1 s2 s3 hkx
          go_wp2
          go_roundw
          case rel => exact ⟨k + 1, Y, by omega, by go_num, rfl, HY, by simp⟩
          case measure => simp [intOf]; omega
        · have t1 : ((k : Int) < ((30 : Nat) : Int)) = False := eq_false (by omega)
          obtain rfl : 30 = k := by omega
          have hTX : TX = ba J := by rw [HTX.out, HNA.out, List.take_length, HJE.out]
          subst hTX
          have r2 := HRA.out.c2
          have v1 := bytes_string HD6.out
          rw [show sv J = .string (ba J) from rfl] at v1
          generalize ba J = BJ at *
          have CB := Lib.hid HM6.out.busy
          have HB6 := Lib.hid HM6.out.b
          clear hlt HTX HRA HD6 HR6 HM6
          go_wp2_with (go_at_call 15; refine CB.out.mono ?_; rintro e w8 ⟨rfl, hw⟩; rw [← hw]; clear hw)
          go_ret
          exact ⟨rfl, HB6.out⟩

theorem lawBodies (v1 : Value) (y1 : List ByteArray) (h1 : y1.length ≤ maxLen) (w : World) (r1 : RdN 1 w v1 (y1.map fun y => [.string y])) (_z1 : ∀ y ∈ y1, y.size ≤ maxLen) :
    Calls Tryd.prog 5 #[v1] w fun e w' => e = .returned (.bool true) ∧ Below w.heap.size w w' := by
  by_cases h : 30 < (cut40 y1).length
  · exact bodies_long v1 y1 h1 h w r1
  · exact bodies_short v1 y1 h1 (by omega) w r1
end Go.Proofs.YtnodngcfjdghcaaDoor
