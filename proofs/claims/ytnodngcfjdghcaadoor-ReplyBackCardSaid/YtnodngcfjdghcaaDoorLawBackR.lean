/- The law ReplyBack walked. -/
import Derived.Test.YtnodngcfjdghcaaDoorShortR
import Derived.Test.YtnodngcfjdghcaaDoorBackR
import Derived.Test.YtnodngcfjdghcaaDoorStrsSame
import Derived.Test.YtnodngcfjdghcaaDoorRefCode
import Derived.OpenShut
namespace Go.Proofs.YtnodngcfjdghcaaDoor
open Go.RowKit Go.ChangeShapes

theorem own_slice (ao : Option Addr) (n m c : Nat) : (Value.slice ao n c).ownBlock = (Value.slice ao m c).ownBlock := by
  rcases ao with _ | ⟨b, o, _ | r⟩ <;> rfl
/-- The inner loop: what was there stays, the wanted row grows. -/
def BW (wB : World) (g1 cap N : Nat) (k : List UInt8) (xa : List (List UInt8)) (i : Nat) (wr : World) : Prop := Below wB.heap.size wB wr ∧ wr.ownsRow wB.heap.size 9 1 (.slice (some ⟨g1, 0, none⟩) N cap) N ((Rp.wantAt k xa i).map sv)
set_option maxHeartbeats 8000000 in
set_option maxRecDepth 20000 in
theorem back_short_smtp (n : Int) (v1 : Value) (y1 : List ByteArray) (hn : (Lit.int .i64 n).wf = true) (h1 : y1.length ≤ maxLen) (hw : (cut40 y1).length ≤ 30) (w : World) (r1 : RdN 1 w v1 (y1.map fun y => [.string y])) :
    Calls Tryd.prog 4 #[.int .i64 n, v1, .bool false] w fun e w' => e = .returned (.bool true) ∧ Below w.heap.size w w' := by
  obtain ⟨cm, cr, CN, e1, e2, e3, q1, q2⟩ := code_of n hn
  obtain ⟨ca, cb, cc, hkx, ha, hb, hc⟩ := code_shape CN q1 q2
  have DX := Lib.hid (fun w => rcode_any CN q1 (by omega) w)
  obtain ⟨x, hx⟩ : ∃ x, x = Ln.codeOf CN := ⟨_, rfl⟩
  rw [← hx] at DX hkx
  have lx : x.length = 3 := by rw [hkx]; rfl
  have HKX := Lib.hid hkx
  have HAB := Lib.hid (And.intro ha (And.intro hb hc))
  clear hx hkx ha hb hc hn
  have R1 := Lib.hid r1
  have H1 := Lib.hid h1
  obtain ⟨ao1, cp1, rfl, _⟩ := r1.form
  clear r1 h1
  simp only [List.length_map] at *
  generalize hq1 : y1.length = q1 at *
  have HQ1 := Lib.hid hq1
  have HW := Lib.hid hw
  clear hq1 hw
  go_enter Tryd.func4, Tryd.ntmps4
  go_wp2_with fail
  refine (shown_any w).mono ?_
  rintro e w1 ⟨rfl, hb1⟩
  go_wp2_with fail
  refine (ML.new hb1 1).mono ?_
  rintro e w2 ⟨rfl, hm2, hb2⟩
  generalize w1.heap.size = gm at *
  have HM2 := Lib.hid hm2
  clear hm2 hb2 hb1
  go_wp2_with fail
  refine (shorts_any _ y1 w2 (R1.out.below HM2.out.b) (HQ1.out ▸ H1.out)).mono ?_
  rintro e w4 ⟨ao, ac, rfl, ho4, hb4⟩
  have hk4 : MT w gm (fun k => k = gm) 1 none (.slice ao (cut40 y1).length ac) ((cut40 y1).map sv) w4 := ⟨HM2.out.next hb4, .of_own ho4, fun k hk => ⟨(ho4.lt k hk).2, fun e => by
    have e : k = gm := e
    have h5 := (HM2.out.o.lt gm HM2.out.o.fg).2
    have h6 := (ho4.lt k hk).1
    omega⟩⟩
  clear hb4 HM2 R1 H1
  obtain ⟨XA, hXA⟩ : ∃ X, X = cut40 y1 := ⟨_, rfl⟩
  rw [← hXA] at hk4 HW ⊢
  have lA : ∀ x ∈ XA, x.length ≤ 200 := by rw [hXA]; exact cut40_each y1
  have hw := HW.out
  obtain ⟨N, hN⟩ : ∃ n, n = XA.length := ⟨_, rfl⟩
  rw [← hN] at hk4 hw ⊢
  have t0 : ((30 : Int) < (N : Int)) = False := eq_false (by omega)
  have HK4 := Lib.hid hk4
  have HNA := Lib.hid hN
  have LA := Lib.hid lA
  clear hXA lA hN hk4 ho4 HW
  go_wp2_with fail
  refine (DX.out _).mono ?_
  rintro e w5 ⟨rfl, hw5⟩
  rw [← hw5]
  clear hw5 w5 DX
  obtain ⟨bx, hbx⟩ : ∃ bx, bx = ba x := ⟨_, rfl⟩
  rw [← hbx]
  have zx : bx.size = 3 := by rw [hbx]; exact lx
  have zd : (⟨#[45]⟩ : ByteArray).size = 1 := rfl
  have zb : (⟨#[32]⟩ : ByteArray).size = 1 := rfl
  obtain ⟨XD, hXD⟩ : ∃ XD, bx ++ (⟨#[45]⟩ : ByteArray) = XD := ⟨_, rfl⟩
  obtain ⟨XB, hXB⟩ : ∃ XB, bx ++ (⟨#[32]⟩ : ByteArray) = XB := ⟨_, rfl⟩
  have zXD : XD.size = 4 := by rw [← hXD, ByteArray.size_append, zx]; rfl
  have zXB : XB.size = 4 := by rw [← hXB, ByteArray.size_append, zx]; rfl
  have HXD := Lib.hid (show ∀ t, XD ++ ba t = ba (x ++ 45 :: t) from fun t => by
    rw [← hXD, hbx, show (⟨#[45]⟩ : ByteArray) = ba [45] from rfl, ba_append, ba_append, List.append_assoc]; rfl)
  have HXB := Lib.hid (show ∀ t, XB ++ ba t = ba (x ++ 32 :: t) from fun t => by
    rw [← hXB, hbx, show (⟨#[32]⟩ : ByteArray) = ba [32] from rfl, ba_append, ba_append, List.append_assoc]; rfl)
  have HBX := Lib.hid hbx
  have HS := Lib.hid (show BK w gm false 1 x (.slice ao N ac) XA 0 w4 from ⟨_, HK4.out⟩)
  clear HK4 hbx lx e1 e2 e3
  go_wp2
  go_loopw [11, 12, 13, 14, 15, 16, 17] (fun s11 _ _ _ _ _ _ wr => ∃ j : Nat, j ≤ N ∧ s11 = .int .i64 (j : Int) ∧ Hid (BK w gm false 1 x (.slice ao N ac) XA j wr)) (fun s11 _ _ _ _ _ _ _ => N + 1 - (intOf s11).toNat)
  case atStart => exact ⟨0, Nat.zero_le _, rfl, HS.out⟩
  case round =>
    obtain ⟨j, hj, rfl, HR⟩ := hrel
    by_cases hlt : j < N
    · have t1 : (j : Int) < (N : Int) := by omega
      obtain ⟨F0, hF0⟩ := HR.out
      obtain ⟨b, o, rfl, g1, g2, g3⟩ := rd_at hF0.r (by omega)
      have hjx : j < XA.length := by rw [← HNA.out]; exact hlt
      replace g3 := g3 j _ (svs_at hjx)
      have hlen : (XA.getD j []).length ≤ 200 := LA.out _ (getD_mem hjx)
      have CE := Lib.hid (fun h20 (D : ByteArray) hD => back_err (D := D) HKX.out HAB.out.1 HAB.out.2.1 HAB.out.2.2 (p := 1) rfl HR.out hjx h20 (by omega) hD)
      have CN1 := Lib.hid (fun h20 (D : ByteArray) hD => back_next (D := D) HKX.out HAB.out.1 HAB.out.2.1 HAB.out.2.2 (p := 1) rfl HR.out hjx h20 (by omega) hD)
      have CW := Lib.hid (fun hj1 h20 (D : ByteArray) hD => back_whole (D := D) (N := N) HKX.out HAB.out.1 HAB.out.2.1 HAB.out.2.2 (p := 1) rfl HR.out hj1 HNA.out h20 (by omega) hD)
      obtain ⟨t, ht⟩ : ∃ t, t = XA.getD j [] := ⟨_, rfl⟩
      rw [← ht] at g3 hlen CE CN1 CW
      replace g3 : wr.cell? ⟨b, o + j, none⟩ = some (.string (ba t)) := g3
      obtain ⟨X, hX⟩ : ∃ X, X = ba t := ⟨_, rfl⟩
      obtain ⟨XL, hXL⟩ : ∃ XL, X.size = XL := ⟨_, rfl⟩
      have hXL2 : XL ≤ 200 := by rw [← hXL, hX]; exact hlen
      have i1 : (9223372036854775807 < 4 + XL) = False := eq_false (by omega)
      rw [← hX] at g3
      obtain ⟨DA, hDA⟩ : ∃ D, XD ++ X = D := ⟨_, rfl⟩
      obtain ⟨DB, hDB⟩ : ∃ D, XB ++ X = D := ⟨_, rfl⟩
      have EDA := Lib.hid (show DA = ba (x ++ 45 :: t) by rw [← hDA, hX, HXD.out])
      have EDB := Lib.hid (show DB = ba (x ++ 32 :: t) by rw [← hDB, hX, HXB.out])
      unfold maxLen at g2
      clear ht hX hF0 hjx hlen
      obtain ⟨N1, hN1⟩ : ∃ N1, N1 + 1 = N := ⟨N - 1, by omega⟩
      have eN : (N : Int) - 1 = (N1 : Int) := by omega
      by_cases hl : j + 1 = N
      · have z2 : ((j : Int) == (N1 : Int)) = true := beq_iff_eq.2 (by omega)
        have z3 : ((j : Int) = (N1 : Int)) = True := eq_true (by omega)
        have HL := Lib.hid hl
        clear hl hN1
        by_cases h20 : 20 ≤ j
        · have z4 : (20 : Int) ≤ (j : Int) := by omega
          have C6 := Lib.hid (CE.out h20 DB (Or.inr EDB.out))
          clear CE CN1 CW HR
          go_wp2_with fail
          refine C6.out.mono ?_
          rintro e w6 ⟨F6, lo, lc, bo, bc, rfl, hm6⟩
          have hmA := hm6.next ((Below.refl w6.heap.size w6).alloc (Nat.le_refl _) (.cells #[.string ⟨#[]⟩, .slice lo 0 lc, .slice bo 0 bc] 30))
          have C7 := Lib.hid hmA.m.busy
          have HB7 := Lib.hid hmA.m.b
          clear hm6 hmA C6 g3
          go_wp2_with (go_at_call 15; refine C7.out.mono ?_; rintro e w8 ⟨rfl, hw⟩; rw [← hw]; clear hw)
          go_ret
          exact ⟨rfl, HB7.out⟩
        · have z4 : ((20 : Int) ≤ (j : Int)) = False := eq_false (by omega)
          have C6 := Lib.hid (CW.out (by rw [← HNA.out]; exact HL.out) (by omega) DB EDB.out)
          clear CE CN1 CW HR
          go_wp2_with fail
          refine C6.out.mono ?_
          rintro e w6 ⟨F6, lo, lc, bo, bc, rfl, hm6, hl6⟩
          rw [← HBX.out]
          have hbA := (Below.refl w6.heap.size w6).alloc (Nat.le_refl _) (.cells #[.string bx, .slice lo N lc, .slice bo 0 bc] 30)
          have hmA := hm6.next hbA
          have hrA : Rb (w6.alloc (.cells #[.string bx, .slice lo N lc, .slice bo 0 bc] 30)) w6.heap.size bx (.slice lo N lc) (.slice bo 0 bc) := World.alloc_heap_new w6 _
          have C7 := Lib.hid hmA.m.busy
          have HM6 := Lib.hid hmA
          have HR6 := Lib.hid hrA
          have HL6 := Lib.hid (hl6.below hbA)
          clear hm6 hl6 hmA hrA C6 g3 hbA
          have hmade : ∀ m, (w6.alloc (.cells #[.string bx, .slice lo N lc, .slice bo 0 bc] 30)).heap.size = m → ((w6.alloc (.cells #[.string bx, .slice lo N lc, .slice bo 0 bc] 30)).alloc (.cells #[] 9)).ownsRow (w6.alloc (.cells #[.string bx, .slice lo N lc, .slice bo 0 bc] 30)).heap.size 9 1 (.slice (some ⟨m, 0, none⟩) 0 0) 0 [] := by
            rintro m rfl
            exact World.ownsRow_made (base := (w6.alloc (.cells #[.string bx, .slice lo N lc, .slice bo 0 bc] 30)).heap.size) (e := 9) (size := 1) (w6.alloc (.cells #[.string bx, .slice lo N lc, .slice bo 0 bc] 30)) #[] 0 (Nat.le_refl _) (Nat.zero_le _) rfl
          have HMD := Lib.hid (hmade (w6.heap.size + 1) (World.size_alloc _ _))
          have hal := (Below.refl (w6.alloc (.cells #[.string bx, .slice lo N lc, .slice bo 0 bc] 30)).heap.size (w6.alloc (.cells #[.string bx, .slice lo N lc, .slice bo 0 bc] 30))).alloc (Nat.le_refl _) (.cells #[] 9)
          have HAL := Lib.hid hal
          have HRX := Lib.hid (HM6.out.r.below hal)
          clear hmade hal
          go_wp2_with (first | (go_at_call 15; refine C7.out.mono ?_; rintro e w8 ⟨rfl, hw⟩; rw [← hw]; clear hw) | (at_builtin; refine append_strs rfl (.tmp 96) (.tmp 97) rfl rfl HMD.out (XA.map sv) HRX.out (sv_cell _) ?cz HAL.out.size ?_))
          case cz => rw [List.length_map, ← HNA.out]; omega
          intro v2 w2 ho2 hg2
          rw [← HNA.out] at ho2
          replace ho2 : w2.ownsRow (w6.alloc (.cells #[.string bx, .slice lo N lc, .slice bo 0 bc] 30)).heap.size 9 1 v2 N (XA.map sv) := by rw [World.size_alloc]; exact ho2
          obtain ⟨g1', cap, _, e5, gb, _, _, _, _⟩ := own_open ho2 (by omega)
          subst e5
          have hb2 := HAL.out.grown hg2 HAL.out.size (fun k hk => by
            have hk : w6.heap.size + 1 = k := by simpa [Value.ownBlock] using hk
            rw [World.size_alloc]; omega)
          generalize w6.heap.size = gr at *
          generalize w6.alloc _ = wB at *
          have HW2 := Lib.hid (show BW wB g1' cap N x XA 1 w2 from ⟨hb2, by rw [Rp.wantAt_one x (by rw [← HNA.out]; omega)]; exact ho2⟩)
          have HO2 := Lib.hid ho2
          clear ho2 hg2 hb2 HMD HAL HRX C7 gb
          go_wp2
          go_loopw [17] (fun s17 wr => s17 = .int .i64 1 ∧ wr = w2) (fun _ _ => 0)
          case atStart => exact ⟨rfl, rfl⟩
          case round =>
            obtain ⟨rfl, rfl⟩ := hrel
            have hbw := HW2.out.1
            have hr9 := HR6.out.same (hbw.block _ HR6.out.lt)
            have r0 := hr9.c0
            have r1 := hr9.c1
            have r2 := hr9.c2
            have hs := same_any (wantOf false x XA) XA _ _ _ (HL6.out.below hbw) (.of_own HO2.out)
            rw [show (wantOf false x XA == XA) = true from beq_self_eq_true _] at hs
            have HSM := Lib.hid hs
            have HBW := Lib.hid (HM6.out.m.b.trans (hbw.mono HM6.out.m.b.size))
            clear hs hbw hr9 HL6 HR6 HM6 HW2 HO2
            go_wp2_with (go_at_call 17; refine HSM.out.mono ?_; rintro e w9 ⟨rfl, hb9⟩)
            go_ret
            exact ⟨rfl, HBW.out.trans (hb9.mono HBW.out.size)⟩

      · have z2 : ((j : Int) == (N1 : Int)) = false := beq_eq_false_iff_ne.2 (by omega)
        have z3 : ((j : Int) = (N1 : Int)) = False := eq_false (by omega)
        have HL := Lib.hid hl
        clear hl hN1
        by_cases h20 : 20 ≤ j
        · have z4 : (20 : Int) ≤ (j : Int) := by omega
          have C6 := Lib.hid (CE.out h20 DA (Or.inl EDA.out))
          clear CE CN1 CW HR
          go_wp2_with fail
          refine C6.out.mono ?_
          rintro e w6 ⟨F6, lo, lc, bo, bc, rfl, hm6⟩
          have hmA := hm6.next ((Below.refl w6.heap.size w6).alloc (Nat.le_refl _) (.cells #[.string ⟨#[]⟩, .slice lo 0 lc, .slice bo 0 bc] 30))
          have C7 := Lib.hid hmA.m.busy
          have HB7 := Lib.hid hmA.m.b
          clear hm6 hmA C6 g3
          go_wp2_with (go_at_call 15; refine C7.out.mono ?_; rintro e w8 ⟨rfl, hw⟩; rw [← hw]; clear hw)
          go_ret
          exact ⟨rfl, HB7.out⟩
        · have z4 : ((20 : Int) ≤ (j : Int)) = False := eq_false (by omega)
          have C6 := Lib.hid (CN1.out (by omega) DA EDA.out)
          clear CE CN1 CW HR
          go_wp2_with fail
          refine C6.out.mono ?_
          rintro e w6 ⟨F6, lo, lc, bo, bc, rfl, hm6⟩
          have hmA := hm6.next ((Below.refl w6.heap.size w6).alloc (Nat.le_refl _) (.cells #[.string ⟨#[]⟩, .slice lo 0 lc, .slice bo 0 bc] 30))
          have C7 := Lib.hid hmA.m.busy
          have HK7 := Lib.hid (BK.more hmA)
          clear hm6 hmA C6 g3
          go_wp2_with (go_at_call 15; refine C7.out.mono ?_; rintro e w8 ⟨rfl, hw⟩; rw [← hw]; clear hw)
          go_roundw
          case rel => exact ⟨j + 1, by omega, by go_num, HK7.out⟩
          case measure => simp [intOf]; omega
    · have t1 : ((j : Int) < (N : Int)) = False := eq_false (by omega)
      obtain ⟨F0, hF0⟩ := HR.out
      have HB0 := Lib.hid hF0.m.b
      clear hF0 HR hlt
      go_wp2
      go_ret
      exact ⟨rfl, HB0.out⟩

set_option maxHeartbeats 8000000 in
set_option maxRecDepth 20000 in
theorem back_short_ftp (n : Int) (v1 : Value) (y1 : List ByteArray) (hn : (Lit.int .i64 n).wf = true) (h1 : y1.length ≤ maxLen) (hw : (cut40 y1).length ≤ 30) (w : World) (r1 : RdN 1 w v1 (y1.map fun y => [.string y])) :
    Calls Tryd.prog 4 #[.int .i64 n, v1, .bool true] w fun e w' => e = .returned (.bool true) ∧ Below w.heap.size w w' := by
  obtain ⟨cm, cr, CN, e1, e2, e3, q1, q2⟩ := code_of n hn
  obtain ⟨ca, cb, cc, hkx, ha, hb, hc⟩ := code_shape CN q1 q2
  have DX := Lib.hid (fun w => rcode_any CN q1 (by omega) w)
  obtain ⟨x, hx⟩ : ∃ x, x = Ln.codeOf CN := ⟨_, rfl⟩
  rw [← hx] at DX hkx
  have lx : x.length = 3 := by rw [hkx]; rfl
  have HKX := Lib.hid hkx
  have HAB := Lib.hid (And.intro ha (And.intro hb hc))
  clear hx hkx ha hb hc hn
  have R1 := Lib.hid r1
  have H1 := Lib.hid h1
  obtain ⟨ao1, cp1, rfl, _⟩ := r1.form
  clear r1 h1
  simp only [List.length_map] at *
  generalize hq1 : y1.length = q1 at *
  have HQ1 := Lib.hid hq1
  have HW := Lib.hid hw
  clear hq1 hw
  go_enter Tryd.func4, Tryd.ntmps4
  go_wp2_with fail
  refine (shown_any w).mono ?_
  rintro e w1 ⟨rfl, hb1⟩
  go_wp2_with fail
  refine (ML.new hb1 3).mono ?_
  rintro e w2 ⟨rfl, hm2, hb2⟩
  generalize w1.heap.size = gm at *
  have HM2 := Lib.hid hm2
  clear hm2 hb2 hb1
  go_wp2_with fail
  refine (shorts_any _ y1 w2 (R1.out.below HM2.out.b) (HQ1.out ▸ H1.out)).mono ?_
  rintro e w4 ⟨ao, ac, rfl, ho4, hb4⟩
  have hk4 : MT w gm (fun k => k = gm) 3 none (.slice ao (cut40 y1).length ac) ((cut40 y1).map sv) w4 := ⟨HM2.out.next hb4, .of_own ho4, fun k hk => ⟨(ho4.lt k hk).2, fun e => by
    have e : k = gm := e
    have h5 := (HM2.out.o.lt gm HM2.out.o.fg).2
    have h6 := (ho4.lt k hk).1
    omega⟩⟩
  clear hb4 HM2 R1 H1
  obtain ⟨XA, hXA⟩ : ∃ X, X = cut40 y1 := ⟨_, rfl⟩
  rw [← hXA] at hk4 HW ⊢
  have lA : ∀ x ∈ XA, x.length ≤ 200 := by rw [hXA]; exact cut40_each y1
  have hw := HW.out
  obtain ⟨N, hN⟩ : ∃ n, n = XA.length := ⟨_, rfl⟩
  rw [← hN] at hk4 hw ⊢
  have t0 : ((30 : Int) < (N : Int)) = False := eq_false (by omega)
  have HK4 := Lib.hid hk4
  have HNA := Lib.hid hN
  have LA := Lib.hid lA
  clear hXA lA hN hk4 ho4 HW
  go_wp2_with fail
  refine (DX.out _).mono ?_
  rintro e w5 ⟨rfl, hw5⟩
  rw [← hw5]
  clear hw5 w5 DX
  obtain ⟨bx, hbx⟩ : ∃ bx, bx = ba x := ⟨_, rfl⟩
  rw [← hbx]
  have zx : bx.size = 3 := by rw [hbx]; exact lx
  have zd : (⟨#[45]⟩ : ByteArray).size = 1 := rfl
  have zb : (⟨#[32]⟩ : ByteArray).size = 1 := rfl
  obtain ⟨XD, hXD⟩ : ∃ XD, bx ++ (⟨#[45]⟩ : ByteArray) = XD := ⟨_, rfl⟩
  obtain ⟨XB, hXB⟩ : ∃ XB, bx ++ (⟨#[32]⟩ : ByteArray) = XB := ⟨_, rfl⟩
  have zXD : XD.size = 4 := by rw [← hXD, ByteArray.size_append, zx]; rfl
  have zXB : XB.size = 4 := by rw [← hXB, ByteArray.size_append, zx]; rfl
  have HXD := Lib.hid (show ∀ t, XD ++ ba t = ba (x ++ 45 :: t) from fun t => by
    rw [← hXD, hbx, show (⟨#[45]⟩ : ByteArray) = ba [45] from rfl, ba_append, ba_append, List.append_assoc]; rfl)
  have HXB := Lib.hid (show ∀ t, XB ++ ba t = ba (x ++ 32 :: t) from fun t => by
    rw [← hXB, hbx, show (⟨#[32]⟩ : ByteArray) = ba [32] from rfl, ba_append, ba_append, List.append_assoc]; rfl)
  have HBX := Lib.hid hbx
  have HS := Lib.hid (show BK w gm true 3 x (.slice ao N ac) XA 0 w4 from ⟨_, HK4.out⟩)
  clear HK4 hbx lx e1 e2 e3
  go_wp2
  go_loopw [11, 12, 13, 14, 15, 16, 17] (fun s11 _ _ _ _ _ _ wr => ∃ j : Nat, j ≤ N ∧ s11 = .int .i64 (j : Int) ∧ Hid (BK w gm true 3 x (.slice ao N ac) XA j wr)) (fun s11 _ _ _ _ _ _ _ => N + 1 - (intOf s11).toNat)
  case atStart => exact ⟨0, Nat.zero_le _, rfl, HS.out⟩
  case round =>
    obtain ⟨j, hj, rfl, HR⟩ := hrel
    by_cases hlt : j < N
    · have t1 : (j : Int) < (N : Int) := by omega
      obtain ⟨F0, hF0⟩ := HR.out
      obtain ⟨b, o, rfl, g1, g2, g3⟩ := rd_at hF0.r (by omega)
      have hjx : j < XA.length := by rw [← HNA.out]; exact hlt
      replace g3 := g3 j _ (svs_at hjx)
      have hlen : (XA.getD j []).length ≤ 200 := LA.out _ (getD_mem hjx)
      have CE := Lib.hid (fun h20 (D : ByteArray) hD => back_err (D := D) HKX.out HAB.out.1 HAB.out.2.1 HAB.out.2.2 (p := 3) rfl HR.out hjx h20 (by omega) hD)
      have CN1 := Lib.hid (fun h20 (D : ByteArray) hD => back_next (D := D) HKX.out HAB.out.1 HAB.out.2.1 HAB.out.2.2 (p := 3) rfl HR.out hjx h20 (by omega) hD)
      have CW := Lib.hid (fun hj1 h20 (D : ByteArray) hD => back_whole (D := D) (N := N) HKX.out HAB.out.1 HAB.out.2.1 HAB.out.2.2 (p := 3) rfl HR.out hj1 HNA.out h20 (by omega) hD)
      obtain ⟨t, ht⟩ : ∃ t, t = XA.getD j [] := ⟨_, rfl⟩
      rw [← ht] at g3 hlen CE CN1 CW
      replace g3 : wr.cell? ⟨b, o + j, none⟩ = some (.string (ba t)) := g3
      obtain ⟨X, hX⟩ : ∃ X, X = ba t := ⟨_, rfl⟩
      obtain ⟨XL, hXL⟩ : ∃ XL, X.size = XL := ⟨_, rfl⟩
      have hXL2 : XL ≤ 200 := by rw [← hXL, hX]; exact hlen
      have i1 : (9223372036854775807 < 4 + XL) = False := eq_false (by omega)
      rw [← hX] at g3
      obtain ⟨DA, hDA⟩ : ∃ D, XD ++ X = D := ⟨_, rfl⟩
      obtain ⟨DB, hDB⟩ : ∃ D, XB ++ X = D := ⟨_, rfl⟩
      have EDA := Lib.hid (show DA = ba (x ++ 45 :: t) by rw [← hDA, hX, HXD.out])
      have EDB := Lib.hid (show DB = ba (x ++ 32 :: t) by rw [← hDB, hX, HXB.out])
      unfold maxLen at g2
      clear ht hX hF0 hjx hlen
      obtain ⟨N1, hN1⟩ : ∃ N1, N1 + 1 = N := ⟨N - 1, by omega⟩
      have eN : (N : Int) - 1 = (N1 : Int) := by omega
      by_cases hl : j + 1 = N
      · have z2 : ((j : Int) == (N1 : Int)) = true := beq_iff_eq.2 (by omega)
        have z3 : ((j : Int) = (N1 : Int)) = True := eq_true (by omega)
        have HL := Lib.hid hl
        clear hl hN1
        by_cases h20 : 20 ≤ j
        · have z4 : (20 : Int) ≤ (j : Int) := by omega
          have C6 := Lib.hid (CE.out h20 DB (Or.inr EDB.out))
          clear CE CN1 CW HR
          go_wp2_with fail
          refine C6.out.mono ?_
          rintro e w6 ⟨F6, lo, lc, bo, bc, rfl, hm6⟩
          have hmA := hm6.next ((Below.refl w6.heap.size w6).alloc (Nat.le_refl _) (.cells #[.string ⟨#[]⟩, .slice lo 0 lc, .slice bo 0 bc] 30))
          have C7 := Lib.hid hmA.m.busy
          have HB7 := Lib.hid hmA.m.b
          clear hm6 hmA C6 g3
          go_wp2_with (go_at_call 15; refine C7.out.mono ?_; rintro e w8 ⟨rfl, hw⟩; rw [← hw]; clear hw)
          go_ret
          exact ⟨rfl, HB7.out⟩
        · have z4 : ((20 : Int) ≤ (j : Int)) = False := eq_false (by omega)
          have C6 := Lib.hid (CW.out (by rw [← HNA.out]; exact HL.out) (by omega) DB EDB.out)
          clear CE CN1 CW HR
          go_wp2_with fail
          refine C6.out.mono ?_
          rintro e w6 ⟨F6, lo, lc, bo, bc, rfl, hm6, hl6⟩
          rw [← HBX.out]
          have hbA := (Below.refl w6.heap.size w6).alloc (Nat.le_refl _) (.cells #[.string bx, .slice lo N lc, .slice bo 0 bc] 30)
          have hmA := hm6.next hbA
          have hrA : Rb (w6.alloc (.cells #[.string bx, .slice lo N lc, .slice bo 0 bc] 30)) w6.heap.size bx (.slice lo N lc) (.slice bo 0 bc) := World.alloc_heap_new w6 _
          have C7 := Lib.hid hmA.m.busy
          have HM6 := Lib.hid hmA
          have HR6 := Lib.hid hrA
          have HL6 := Lib.hid (hl6.below hbA)
          clear hm6 hl6 hmA hrA C6 g3 hbA
          have hmade : ∀ m, (w6.alloc (.cells #[.string bx, .slice lo N lc, .slice bo 0 bc] 30)).heap.size = m → ((w6.alloc (.cells #[.string bx, .slice lo N lc, .slice bo 0 bc] 30)).alloc (.cells #[] 9)).ownsRow (w6.alloc (.cells #[.string bx, .slice lo N lc, .slice bo 0 bc] 30)).heap.size 9 1 (.slice (some ⟨m, 0, none⟩) 0 0) 0 [] := by
            rintro m rfl
            exact World.ownsRow_made (base := (w6.alloc (.cells #[.string bx, .slice lo N lc, .slice bo 0 bc] 30)).heap.size) (e := 9) (size := 1) (w6.alloc (.cells #[.string bx, .slice lo N lc, .slice bo 0 bc] 30)) #[] 0 (Nat.le_refl _) (Nat.zero_le _) rfl
          have HMD := Lib.hid (hmade (w6.heap.size + 1) (World.size_alloc _ _))
          have hal := (Below.refl (w6.alloc (.cells #[.string bx, .slice lo N lc, .slice bo 0 bc] 30)).heap.size (w6.alloc (.cells #[.string bx, .slice lo N lc, .slice bo 0 bc] 30))).alloc (Nat.le_refl _) (.cells #[] 9)
          have HAL := Lib.hid hal
          have HRX := Lib.hid (HM6.out.r.below hal)
          clear hmade hal
          go_wp2_with (first | (go_at_call 15; refine C7.out.mono ?_; rintro e w8 ⟨rfl, hw⟩; rw [← hw]; clear hw) | (at_builtin; refine append_strs rfl (.tmp 96) (.tmp 97) rfl rfl HMD.out (XA.map sv) HRX.out (sv_cell _) ?cz HAL.out.size ?_))
          case cz => rw [List.length_map, ← HNA.out]; omega
          intro v2 w2 ho2 hg2
          rw [← HNA.out] at ho2
          replace ho2 : w2.ownsRow (w6.alloc (.cells #[.string bx, .slice lo N lc, .slice bo 0 bc] 30)).heap.size 9 1 v2 N (XA.map sv) := by rw [World.size_alloc]; exact ho2
          obtain ⟨g1', cap, _, e5, gb, _, _, _, _⟩ := own_open ho2 (by omega)
          subst e5
          have hb2 := HAL.out.grown hg2 HAL.out.size (fun k hk => by
            have hk : w6.heap.size + 1 = k := by simpa [Value.ownBlock] using hk
            rw [World.size_alloc]; omega)
          generalize w6.heap.size = gr at *
          generalize w6.alloc _ = wB at *
          have HW2 := Lib.hid (show BW wB g1' cap N x XA 1 w2 from ⟨hb2, by rw [Rp.wantAt_one x (by rw [← HNA.out]; omega)]; exact ho2⟩)
          have HO2 := Lib.hid ho2
          clear ho2 hg2 hb2 HMD HAL HRX C7 gb
          go_wp2
          go_loopw [17] (fun s17 wr => ∃ i : Nat, 1 ≤ i ∧ i ≤ max 1 (N - 1) ∧ s17 = .int .i64 (i : Int) ∧ Hid (BW wB g1' cap N x XA i wr)) (fun s17 _ => N + 1 - (intOf s17).toNat)
          case atStart => exact ⟨1, Nat.le_refl _, Nat.le_max_left _ _, rfl, HW2.out⟩
          case round =>
            obtain ⟨i, hi1, hi2, rfl, HI⟩ := hrel
            by_cases hgo : i < N - 1
            · have z6 : (i : Int) < (N1 : Int) := by omega
              have z7 : ((i : Int) < (N1 : Int)) = True := eq_true z6
              have hix : i < XA.length := by rw [← HNA.out]; omega
              obtain ⟨b', o', e', k1, k2, k3⟩ := rd_at (HM6.out.r.below HI.out.1) (by omega)
              simp only [Option.some.injEq, Addr.mk.injEq, and_true] at e'
              obtain ⟨rfl, rfl⟩ := e'
              replace k3 := k3 i _ (svs_at hix)
              have hlen : (XA.getD i []).length ≤ 200 := LA.out _ (getD_mem hix)
              obtain ⟨t', ht'⟩ : ∃ t', t' = XA.getD i [] := ⟨_, rfl⟩
              rw [← ht'] at k3 hlen
              replace k3 : wr.cell? ⟨b, o + i, none⟩ = some (.string (ba t')) := k3
              obtain ⟨Y, hY⟩ : ∃ Y, Y = ba t' := ⟨_, rfl⟩
              obtain ⟨YL, hYL⟩ : ∃ YL, Y.size = YL := ⟨_, rfl⟩
              have hYL2 : YL ≤ 200 := by rw [← hYL, hY]; exact hlen
              have i2 : (9223372036854775807 < 4 + YL) = False := eq_false (by omega)
              rw [← hY] at k3
              obtain ⟨DY, hDY⟩ : ∃ D, XD ++ Y = D := ⟨_, rfl⟩
              have eDY : DY = ba (x ++ 45 :: t') := by rw [← hDY, hY, HXD.out]
              obtain ⟨f1, ⟨u0, f2⟩, f3, f4, f5⟩ := own_store HI.out.2 (k := i) (by omega) (.string DY)
              have hset : ((Rp.wantAt x XA i).map sv).set i (.string DY) = (Rp.wantAt x XA (i + 1)).map sv := by
                rw [← Rp.wantAt_more x XA (by omega) hix, List.map_set, ← ht', eDY]
                rfl
              rw [hset] at f3
              have HI2 := Lib.hid (show BW wB g1' cap N x XA (i + 1) _ from ⟨HI.out.1.setCell (p := ⟨g1', i, none⟩) f4 (.string DY), f3⟩)
              unfold maxLen at k2
              clear f3 hset eDY hY ht' hix hlen HI hgo HW2
              go_wp2
              go_roundw
              case rel => exact ⟨i + 1, by omega, by omega, by go_num, HI2.out⟩
              case measure => simp [intOf]; omega
            · have z6 : ((i : Int) < (N1 : Int)) = False := eq_false (by omega)
              have hfin : (Rp.wantAt x XA i) = wantOf true x XA := by
                unfold wantOf
                rw [if_pos rfl, ← HNA.out]
                rcases Nat.lt_or_ge 1 N with h | h
                · rw [show i = N - 1 by omega]
                · obtain rfl : i = 1 := by omega
                  have h0 : N - 1 = 0 := by omega
                  rw [h0]
                  have h1 : XA.length = 1 := by rw [← HNA.out]; omega
                  rw [Rp.wantAt_one x (by omega)]
                  unfold Rp.wantAt
                  rw [show Rp.backLines true x XA 0 = [] from rfl]
                  rfl
              have hbw := HI.out.1
              have hr9 := HR6.out.same (hbw.block _ HR6.out.lt)
              have r0 := hr9.c0
              have r1 := hr9.c1
              have r2 := hr9.c2
              have hs := same_any (wantOf true x XA) (Rp.wantAt x XA i) _ _ _ (HL6.out.below hbw) (.of_own HI.out.2)
              rw [hfin, show (wantOf true x XA == wantOf true x XA) = true from beq_self_eq_true _] at hs
              have HSM := Lib.hid hs
              have HBW := Lib.hid (HM6.out.m.b.trans (hbw.mono HM6.out.m.b.size))
              clear hs hbw hr9 hfin HI HL6 HR6 HM6 HW2 hgo
              go_wp2_with (go_at_call 17; refine HSM.out.mono ?_; rintro e w9 ⟨rfl, hb9⟩)
              go_ret
              exact ⟨rfl, HBW.out.trans (hb9.mono HBW.out.size)⟩

      · have z2 : ((j : Int) == (N1 : Int)) = false := beq_eq_false_iff_ne.2 (by omega)
        have z3 : ((j : Int) = (N1 : Int)) = False := eq_false (by omega)
        have HL := Lib.hid hl
        clear hl hN1
        by_cases h20 : 20 ≤ j
        · have z4 : (20 : Int) ≤ (j : Int) := by omega
          have C6 := Lib.hid (CE.out h20 DA (Or.inl EDA.out))
          clear CE CN1 CW HR
          go_wp2_with fail
          refine C6.out.mono ?_
          rintro e w6 ⟨F6, lo, lc, bo, bc, rfl, hm6⟩
          have hmA := hm6.next ((Below.refl w6.heap.size w6).alloc (Nat.le_refl _) (.cells #[.string ⟨#[]⟩, .slice lo 0 lc, .slice bo 0 bc] 30))
          have C7 := Lib.hid hmA.m.busy
          have HB7 := Lib.hid hmA.m.b
          clear hm6 hmA C6 g3
          go_wp2_with (go_at_call 15; refine C7.out.mono ?_; rintro e w8 ⟨rfl, hw⟩; rw [← hw]; clear hw)
          go_ret
          exact ⟨rfl, HB7.out⟩
        · have z4 : ((20 : Int) ≤ (j : Int)) = False := eq_false (by omega)
          have C6 := Lib.hid (CN1.out (by omega) DA EDA.out)
          clear CE CN1 CW HR
          go_wp2_with fail
          refine C6.out.mono ?_
          rintro e w6 ⟨F6, lo, lc, bo, bc, rfl, hm6⟩
          have hmA := hm6.next ((Below.refl w6.heap.size w6).alloc (Nat.le_refl _) (.cells #[.string ⟨#[]⟩, .slice lo 0 lc, .slice bo 0 bc] 30))
          have C7 := Lib.hid hmA.m.busy
          have HK7 := Lib.hid (BK.more hmA)
          clear hm6 hmA C6 g3
          go_wp2_with (go_at_call 15; refine C7.out.mono ?_; rintro e w8 ⟨rfl, hw⟩; rw [← hw]; clear hw)
          go_roundw
          case rel => exact ⟨j + 1, by omega, by go_num, HK7.out⟩
          case measure => simp [intOf]; omega
    · have t1 : ((j : Int) < (N : Int)) = False := eq_false (by omega)
      obtain ⟨F0, hF0⟩ := HR.out
      have HB0 := Lib.hid hF0.m.b
      clear hF0 HR hlt
      go_wp2
      go_ret
      exact ⟨rfl, HB0.out⟩

set_option maxHeartbeats 8000000 in
set_option maxRecDepth 20000 in
theorem back_long_smtp (n : Int) (v1 : Value) (y1 : List ByteArray) (hn : (Lit.int .i64 n).wf = true) (h1 : y1.length ≤ maxLen) (hw : 30 < (cut40 y1).length) (w : World) (r1 : RdN 1 w v1 (y1.map fun y => [.string y])) :
    Calls Tryd.prog 4 #[.int .i64 n, v1, .bool false] w fun e w' => e = .returned (.bool true) ∧ Below w.heap.size w w' := by
  obtain ⟨cm, cr, CN, e1, e2, e3, q1, q2⟩ := code_of n hn
  obtain ⟨ca, cb, cc, hkx, ha, hb, hc⟩ := code_shape CN q1 q2
  have DX := Lib.hid (fun w => rcode_any CN q1 (by omega) w)
  obtain ⟨x, hx⟩ : ∃ x, x = Ln.codeOf CN := ⟨_, rfl⟩
  rw [← hx] at DX hkx
  have lx : x.length = 3 := by rw [hkx]; rfl
  have HKX := Lib.hid hkx
  have HAB := Lib.hid (And.intro ha (And.intro hb hc))
  clear hx hkx ha hb hc hn
  have R1 := Lib.hid r1
  have H1 := Lib.hid h1
  obtain ⟨ao1, cp1, rfl, _⟩ := r1.form
  clear r1 h1
  simp only [List.length_map] at *
  generalize hq1 : y1.length = q1 at *
  have HQ1 := Lib.hid hq1
  have HW := Lib.hid hw
  clear hq1 hw
  go_enter Tryd.func4, Tryd.ntmps4
  go_wp2_with fail
  refine (shown_any w).mono ?_
  rintro e w1 ⟨rfl, hb1⟩
  go_wp2_with fail
  refine (ML.new hb1 1).mono ?_
  rintro e w2 ⟨rfl, hm2, hb2⟩
  generalize w1.heap.size = gm at *
  have HM2 := Lib.hid hm2
  clear hm2 hb2 hb1
  go_wp2_with fail
  refine (shorts_any _ y1 w2 (R1.out.below HM2.out.b) (HQ1.out ▸ H1.out)).mono ?_
  rintro e w4 ⟨ao, ac, rfl, ho4, hb4⟩
  have hk4 : MT w gm (fun k => k = gm) 1 none (.slice ao (cut40 y1).length ac) ((cut40 y1).map sv) w4 := ⟨HM2.out.next hb4, .of_own ho4, fun k hk => ⟨(ho4.lt k hk).2, fun e => by
    have e : k = gm := e
    have h5 := (HM2.out.o.lt gm HM2.out.o.fg).2
    have h6 := (ho4.lt k hk).1
    omega⟩⟩
  clear hb4 HM2 R1 H1
  have cap4 : (cut40 y1).length ≤ ac := by
    rcases hk4.r with ⟨e, _⟩ | ⟨b, o, cap, e, g1, _⟩
    · have e : (cut40 y1).map sv = [] := e
      have := congrArg List.length e
      rw [List.length_map, List.length_nil] at this
      have := HW.out
      omega
    · simp only [Value.slice.injEq] at e
      obtain ⟨_, _, rfl⟩ := e
      rw [List.length_map] at g1
      exact g1
  have hkc : MT w gm (fun k => k = gm) 1 none (.slice ao 30 ac) (((cut40 y1).take 30).map sv) w4 := by
    rw [List.map_take]
    exact ⟨hk4.m, Rd.cutV hk4.r (by rw [List.length_map]) (by have := HW.out; omega), fun k hk => hk4.a k ((own_slice ao 30 (cut40 y1).length ac) ▸ hk)⟩
  obtain ⟨XA, hXA⟩ : ∃ X, X = (cut40 y1).take 30 := ⟨_, rfl⟩
  rw [← hXA] at hkc
  have lA : ∀ x ∈ XA, x.length ≤ 200 := fun x hx => cut40_each y1 x (List.mem_of_mem_take (hXA ▸ hx))
  have nA : 30 = XA.length := by rw [hXA, List.length_take]; have := HW.out; omega
  have hw := HW.out
  generalize (cut40 y1).length = N0 at *
  have t0 : (30 : Int) < (N0 : Int) := by omega
  have t01 : (30 : Int) ≤ (N0 : Int) := by omega
  have t02 : (30 : Int) ≤ (ac : Int) := by omega
  have HK4 := Lib.hid hkc
  have HNA := Lib.hid nA
  have LA := Lib.hid lA
  clear hXA lA nA hw hkc hk4 ho4 HW cap4
  go_wp2_with fail
  refine (DX.out _).mono ?_
  rintro e w5 ⟨rfl, hw5⟩
  rw [← hw5]
  clear hw5 w5 DX
  obtain ⟨bx, hbx⟩ : ∃ bx, bx = ba x := ⟨_, rfl⟩
  rw [← hbx]
  have zx : bx.size = 3 := by rw [hbx]; exact lx
  have zd : (⟨#[45]⟩ : ByteArray).size = 1 := rfl
  have zb : (⟨#[32]⟩ : ByteArray).size = 1 := rfl
  obtain ⟨XD, hXD⟩ : ∃ XD, bx ++ (⟨#[45]⟩ : ByteArray) = XD := ⟨_, rfl⟩
  obtain ⟨XB, hXB⟩ : ∃ XB, bx ++ (⟨#[32]⟩ : ByteArray) = XB := ⟨_, rfl⟩
  have zXD : XD.size = 4 := by rw [← hXD, ByteArray.size_append, zx]; rfl
  have zXB : XB.size = 4 := by rw [← hXB, ByteArray.size_append, zx]; rfl
  have HXD := Lib.hid (show ∀ t, XD ++ ba t = ba (x ++ 45 :: t) from fun t => by
    rw [← hXD, hbx, show (⟨#[45]⟩ : ByteArray) = ba [45] from rfl, ba_append, ba_append, List.append_assoc]; rfl)
  have HXB := Lib.hid (show ∀ t, XB ++ ba t = ba (x ++ 32 :: t) from fun t => by
    rw [← hXB, hbx, show (⟨#[32]⟩ : ByteArray) = ba [32] from rfl, ba_append, ba_append, List.append_assoc]; rfl)
  have HBX := Lib.hid hbx
  have HS := Lib.hid (show BK w gm false 1 x (.slice ao 30 ac) XA 0 w4 from ⟨_, HK4.out⟩)
  clear HK4 hbx lx e1 e2 e3
  go_wp2
  go_loopw [11, 12, 13, 14, 15, 16, 17] (fun s11 _ _ _ _ _ _ wr => ∃ j : Nat, j ≤ 30 ∧ s11 = .int .i64 (j : Int) ∧ Hid (BK w gm false 1 x (.slice ao 30 ac) XA j wr)) (fun s11 _ _ _ _ _ _ _ => 30 + 1 - (intOf s11).toNat)
  case atStart => exact ⟨0, Nat.zero_le _, rfl, HS.out⟩
  case round =>
    obtain ⟨j, hj, rfl, HR⟩ := hrel
    by_cases hlt : j < 30
    · have t1 : (j : Int) < (30 : Int) := by omega
      obtain ⟨F0, hF0⟩ := HR.out
      obtain ⟨b, o, rfl, g1, g2, g3⟩ := rd_at hF0.r (by omega)
      have hjx : j < XA.length := by rw [← HNA.out]; exact hlt
      replace g3 := g3 j _ (svs_at hjx)
      have hlen : (XA.getD j []).length ≤ 200 := LA.out _ (getD_mem hjx)
      have CE := Lib.hid (fun h20 (D : ByteArray) hD => back_err (D := D) HKX.out HAB.out.1 HAB.out.2.1 HAB.out.2.2 (p := 1) rfl HR.out hjx h20 (by omega) hD)
      have CN1 := Lib.hid (fun h20 (D : ByteArray) hD => back_next (D := D) HKX.out HAB.out.1 HAB.out.2.1 HAB.out.2.2 (p := 1) rfl HR.out hjx h20 (by omega) hD)
      have CW := Lib.hid (fun hj1 h20 (D : ByteArray) hD => back_whole (D := D) (N := 30) HKX.out HAB.out.1 HAB.out.2.1 HAB.out.2.2 (p := 1) rfl HR.out hj1 HNA.out h20 (by omega) hD)
      obtain ⟨t, ht⟩ : ∃ t, t = XA.getD j [] := ⟨_, rfl⟩
      rw [← ht] at g3 hlen CE CN1 CW
      replace g3 : wr.cell? ⟨b, o + j, none⟩ = some (.string (ba t)) := g3
      obtain ⟨X, hX⟩ : ∃ X, X = ba t := ⟨_, rfl⟩
      obtain ⟨XL, hXL⟩ : ∃ XL, X.size = XL := ⟨_, rfl⟩
      have hXL2 : XL ≤ 200 := by rw [← hXL, hX]; exact hlen
      have i1 : (9223372036854775807 < 4 + XL) = False := eq_false (by omega)
      rw [← hX] at g3
      obtain ⟨DA, hDA⟩ : ∃ D, XD ++ X = D := ⟨_, rfl⟩
      obtain ⟨DB, hDB⟩ : ∃ D, XB ++ X = D := ⟨_, rfl⟩
      have EDA := Lib.hid (show DA = ba (x ++ 45 :: t) by rw [← hDA, hX, HXD.out])
      have EDB := Lib.hid (show DB = ba (x ++ 32 :: t) by rw [← hDB, hX, HXB.out])
      unfold maxLen at g2
      clear ht hX hF0 hjx hlen
      by_cases hl : j + 1 = 30
      · have z2 : ((j : Int) == (29 : Int)) = true := beq_iff_eq.2 (by omega)
        have z3 : ((j : Int) = (29 : Int)) = True := eq_true (by omega)
        have HL := Lib.hid hl
        clear hl
        by_cases h20 : 20 ≤ j
        · have z4 : (20 : Int) ≤ (j : Int) := by omega
          have C6 := Lib.hid (CE.out h20 DB (Or.inr EDB.out))
          clear CE CN1 CW HR
          go_wp2_with fail
          refine C6.out.mono ?_
          rintro e w6 ⟨F6, lo, lc, bo, bc, rfl, hm6⟩
          have hmA := hm6.next ((Below.refl w6.heap.size w6).alloc (Nat.le_refl _) (.cells #[.string ⟨#[]⟩, .slice lo 0 lc, .slice bo 0 bc] 30))
          have C7 := Lib.hid hmA.m.busy
          have HB7 := Lib.hid hmA.m.b
          clear hm6 hmA C6 g3
          go_wp2_with (go_at_call 15; refine C7.out.mono ?_; rintro e w8 ⟨rfl, hw⟩; rw [← hw]; clear hw)
          go_ret
          exact ⟨rfl, HB7.out⟩
        · have z4 : ((20 : Int) ≤ (j : Int)) = False := eq_false (by omega)
          have C6 := Lib.hid (CW.out (by rw [← HNA.out]; exact HL.out) (by omega) DB EDB.out)
          clear CE CN1 CW HR
          go_wp2_with fail
          refine C6.out.mono ?_
          rintro e w6 ⟨F6, lo, lc, bo, bc, rfl, hm6, hl6⟩
          rw [← HBX.out]
          have hbA := (Below.refl w6.heap.size w6).alloc (Nat.le_refl _) (.cells #[.string bx, .slice lo 30 lc, .slice bo 0 bc] 30)
          have hmA := hm6.next hbA
          have hrA : Rb (w6.alloc (.cells #[.string bx, .slice lo 30 lc, .slice bo 0 bc] 30)) w6.heap.size bx (.slice lo 30 lc) (.slice bo 0 bc) := World.alloc_heap_new w6 _
          have C7 := Lib.hid hmA.m.busy
          have HM6 := Lib.hid hmA
          have HR6 := Lib.hid hrA
          have HL6 := Lib.hid (hl6.below hbA)
          clear hm6 hl6 hmA hrA C6 g3 hbA
          have hmade : ∀ m, (w6.alloc (.cells #[.string bx, .slice lo 30 lc, .slice bo 0 bc] 30)).heap.size = m → ((w6.alloc (.cells #[.string bx, .slice lo 30 lc, .slice bo 0 bc] 30)).alloc (.cells #[] 9)).ownsRow (w6.alloc (.cells #[.string bx, .slice lo 30 lc, .slice bo 0 bc] 30)).heap.size 9 1 (.slice (some ⟨m, 0, none⟩) 0 0) 0 [] := by
            rintro m rfl
            exact World.ownsRow_made (base := (w6.alloc (.cells #[.string bx, .slice lo 30 lc, .slice bo 0 bc] 30)).heap.size) (e := 9) (size := 1) (w6.alloc (.cells #[.string bx, .slice lo 30 lc, .slice bo 0 bc] 30)) #[] 0 (Nat.le_refl _) (Nat.zero_le _) rfl
          have HMD := Lib.hid (hmade (w6.heap.size + 1) (World.size_alloc _ _))
          have hal := (Below.refl (w6.alloc (.cells #[.string bx, .slice lo 30 lc, .slice bo 0 bc] 30)).heap.size (w6.alloc (.cells #[.string bx, .slice lo 30 lc, .slice bo 0 bc] 30))).alloc (Nat.le_refl _) (.cells #[] 9)
          have HAL := Lib.hid hal
          have HRX := Lib.hid (HM6.out.r.below hal)
          clear hmade hal
          go_wp2_with (first | (go_at_call 15; refine C7.out.mono ?_; rintro e w8 ⟨rfl, hw⟩; rw [← hw]; clear hw) | (at_builtin; refine append_strs rfl (.tmp 96) (.tmp 97) rfl rfl HMD.out (XA.map sv) HRX.out (sv_cell _) ?cz HAL.out.size ?_))
          case cz => rw [List.length_map, ← HNA.out]; omega
          intro v2 w2 ho2 hg2
          rw [← HNA.out] at ho2
          replace ho2 : w2.ownsRow (w6.alloc (.cells #[.string bx, .slice lo 30 lc, .slice bo 0 bc] 30)).heap.size 9 1 v2 30 (XA.map sv) := by rw [World.size_alloc]; exact ho2
          obtain ⟨g1', cap, _, e5, gb, _, _, _, _⟩ := own_open ho2 (by omega)
          subst e5
          have hb2 := HAL.out.grown hg2 HAL.out.size (fun k hk => by
            have hk : w6.heap.size + 1 = k := by simpa [Value.ownBlock] using hk
            rw [World.size_alloc]; omega)
          generalize w6.heap.size = gr at *
          generalize w6.alloc _ = wB at *
          have HW2 := Lib.hid (show BW wB g1' cap 30 x XA 1 w2 from ⟨hb2, by rw [Rp.wantAt_one x (by rw [← HNA.out]; omega)]; exact ho2⟩)
          have HO2 := Lib.hid ho2
          clear ho2 hg2 hb2 HMD HAL HRX C7 gb
          go_wp2
          go_loopw [17] (fun s17 wr => s17 = .int .i64 1 ∧ wr = w2) (fun _ _ => 0)
          case atStart => exact ⟨rfl, rfl⟩
          case round =>
            obtain ⟨rfl, rfl⟩ := hrel
            have hbw := HW2.out.1
            have hr9 := HR6.out.same (hbw.block _ HR6.out.lt)
            have r0 := hr9.c0
            have r1 := hr9.c1
            have r2 := hr9.c2
            have hs := same_any (wantOf false x XA) XA _ _ _ (HL6.out.below hbw) (.of_own HO2.out)
            rw [show (wantOf false x XA == XA) = true from beq_self_eq_true _] at hs
            have HSM := Lib.hid hs
            have HBW := Lib.hid (HM6.out.m.b.trans (hbw.mono HM6.out.m.b.size))
            clear hs hbw hr9 HL6 HR6 HM6 HW2 HO2
            go_wp2_with (go_at_call 17; refine HSM.out.mono ?_; rintro e w9 ⟨rfl, hb9⟩)
            go_ret
            exact ⟨rfl, HBW.out.trans (hb9.mono HBW.out.size)⟩

      · have z2 : ((j : Int) == (29 : Int)) = false := beq_eq_false_iff_ne.2 (by omega)
        have z3 : ((j : Int) = (29 : Int)) = False := eq_false (by omega)
        have HL := Lib.hid hl
        clear hl
        by_cases h20 : 20 ≤ j
        · have z4 : (20 : Int) ≤ (j : Int) := by omega
          have C6 := Lib.hid (CE.out h20 DA (Or.inl EDA.out))
          clear CE CN1 CW HR
          go_wp2_with fail
          refine C6.out.mono ?_
          rintro e w6 ⟨F6, lo, lc, bo, bc, rfl, hm6⟩
          have hmA := hm6.next ((Below.refl w6.heap.size w6).alloc (Nat.le_refl _) (.cells #[.string ⟨#[]⟩, .slice lo 0 lc, .slice bo 0 bc] 30))
          have C7 := Lib.hid hmA.m.busy
          have HB7 := Lib.hid hmA.m.b
          clear hm6 hmA C6 g3
          go_wp2_with (go_at_call 15; refine C7.out.mono ?_; rintro e w8 ⟨rfl, hw⟩; rw [← hw]; clear hw)
          go_ret
          exact ⟨rfl, HB7.out⟩
        · have z4 : ((20 : Int) ≤ (j : Int)) = False := eq_false (by omega)
          have C6 := Lib.hid (CN1.out (by omega) DA EDA.out)
          clear CE CN1 CW HR
          go_wp2_with fail
          refine C6.out.mono ?_
          rintro e w6 ⟨F6, lo, lc, bo, bc, rfl, hm6⟩
          have hmA := hm6.next ((Below.refl w6.heap.size w6).alloc (Nat.le_refl _) (.cells #[.string ⟨#[]⟩, .slice lo 0 lc, .slice bo 0 bc] 30))
          have C7 := Lib.hid hmA.m.busy
          have HK7 := Lib.hid (BK.more hmA)
          clear hm6 hmA C6 g3
          go_wp2_with (go_at_call 15; refine C7.out.mono ?_; rintro e w8 ⟨rfl, hw⟩; rw [← hw]; clear hw)
          go_roundw
          case rel => exact ⟨j + 1, by omega, by go_num, HK7.out⟩
          case measure => simp [intOf]; omega
    · have t1 : ((j : Int) < (30 : Int)) = False := eq_false (by omega)
      obtain ⟨F0, hF0⟩ := HR.out
      have HB0 := Lib.hid hF0.m.b
      clear hF0 HR hlt
      go_wp2
      go_ret
      exact ⟨rfl, HB0.out⟩

set_option maxHeartbeats 8000000 in
set_option maxRecDepth 20000 in
theorem back_long_ftp (n : Int) (v1 : Value) (y1 : List ByteArray) (hn : (Lit.int .i64 n).wf = true) (h1 : y1.length ≤ maxLen) (hw : 30 < (cut40 y1).length) (w : World) (r1 : RdN 1 w v1 (y1.map fun y => [.string y])) :
    Calls Tryd.prog 4 #[.int .i64 n, v1, .bool true] w fun e w' => e = .returned (.bool true) ∧ Below w.heap.size w w' := by
  obtain ⟨cm, cr, CN, e1, e2, e3, q1, q2⟩ := code_of n hn
  obtain ⟨ca, cb, cc, hkx, ha, hb, hc⟩ := code_shape CN q1 q2
  have DX := Lib.hid (fun w => rcode_any CN q1 (by omega) w)
  obtain ⟨x, hx⟩ : ∃ x, x = Ln.codeOf CN := ⟨_, rfl⟩
  rw [← hx] at DX hkx
  have lx : x.length = 3 := by rw [hkx]; rfl
  have HKX := Lib.hid hkx
  have HAB := Lib.hid (And.intro ha (And.intro hb hc))
  clear hx hkx ha hb hc hn
  have R1 := Lib.hid r1
  have H1 := Lib.hid h1
  obtain ⟨ao1, cp1, rfl, _⟩ := r1.form
  clear r1 h1
  simp only [List.length_map] at *
  generalize hq1 : y1.length = q1 at *
  have HQ1 := Lib.hid hq1
  have HW := Lib.hid hw
  clear hq1 hw
  go_enter Tryd.func4, Tryd.ntmps4
  go_wp2_with fail
  refine (shown_any w).mono ?_
  rintro e w1 ⟨rfl, hb1⟩
  go_wp2_with fail
  refine (ML.new hb1 3).mono ?_
  rintro e w2 ⟨rfl, hm2, hb2⟩
  generalize w1.heap.size = gm at *
  have HM2 := Lib.hid hm2
  clear hm2 hb2 hb1
  go_wp2_with fail
  refine (shorts_any _ y1 w2 (R1.out.below HM2.out.b) (HQ1.out ▸ H1.out)).mono ?_
  rintro e w4 ⟨ao, ac, rfl, ho4, hb4⟩
  have hk4 : MT w gm (fun k => k = gm) 3 none (.slice ao (cut40 y1).length ac) ((cut40 y1).map sv) w4 := ⟨HM2.out.next hb4, .of_own ho4, fun k hk => ⟨(ho4.lt k hk).2, fun e => by
    have e : k = gm := e
    have h5 := (HM2.out.o.lt gm HM2.out.o.fg).2
    have h6 := (ho4.lt k hk).1
    omega⟩⟩
  clear hb4 HM2 R1 H1
  have cap4 : (cut40 y1).length ≤ ac := by
    rcases hk4.r with ⟨e, _⟩ | ⟨b, o, cap, e, g1, _⟩
    · have e : (cut40 y1).map sv = [] := e
      have := congrArg List.length e
      rw [List.length_map, List.length_nil] at this
      have := HW.out
      omega
    · simp only [Value.slice.injEq] at e
      obtain ⟨_, _, rfl⟩ := e
      rw [List.length_map] at g1
      exact g1
  have hkc : MT w gm (fun k => k = gm) 3 none (.slice ao 30 ac) (((cut40 y1).take 30).map sv) w4 := by
    rw [List.map_take]
    exact ⟨hk4.m, Rd.cutV hk4.r (by rw [List.length_map]) (by have := HW.out; omega), fun k hk => hk4.a k ((own_slice ao 30 (cut40 y1).length ac) ▸ hk)⟩
  obtain ⟨XA, hXA⟩ : ∃ X, X = (cut40 y1).take 30 := ⟨_, rfl⟩
  rw [← hXA] at hkc
  have lA : ∀ x ∈ XA, x.length ≤ 200 := fun x hx => cut40_each y1 x (List.mem_of_mem_take (hXA ▸ hx))
  have nA : 30 = XA.length := by rw [hXA, List.length_take]; have := HW.out; omega
  have hw := HW.out
  generalize (cut40 y1).length = N0 at *
  have t0 : (30 : Int) < (N0 : Int) := by omega
  have t01 : (30 : Int) ≤ (N0 : Int) := by omega
  have t02 : (30 : Int) ≤ (ac : Int) := by omega
  have HK4 := Lib.hid hkc
  have HNA := Lib.hid nA
  have LA := Lib.hid lA
  clear hXA lA nA hw hkc hk4 ho4 HW cap4
  go_wp2_with fail
  refine (DX.out _).mono ?_
  rintro e w5 ⟨rfl, hw5⟩
  rw [← hw5]
  clear hw5 w5 DX
  obtain ⟨bx, hbx⟩ : ∃ bx, bx = ba x := ⟨_, rfl⟩
  rw [← hbx]
  have zx : bx.size = 3 := by rw [hbx]; exact lx
  have zd : (⟨#[45]⟩ : ByteArray).size = 1 := rfl
  have zb : (⟨#[32]⟩ : ByteArray).size = 1 := rfl
  obtain ⟨XD, hXD⟩ : ∃ XD, bx ++ (⟨#[45]⟩ : ByteArray) = XD := ⟨_, rfl⟩
  obtain ⟨XB, hXB⟩ : ∃ XB, bx ++ (⟨#[32]⟩ : ByteArray) = XB := ⟨_, rfl⟩
  have zXD : XD.size = 4 := by rw [← hXD, ByteArray.size_append, zx]; rfl
  have zXB : XB.size = 4 := by rw [← hXB, ByteArray.size_append, zx]; rfl
  have HXD := Lib.hid (show ∀ t, XD ++ ba t = ba (x ++ 45 :: t) from fun t => by
    rw [← hXD, hbx, show (⟨#[45]⟩ : ByteArray) = ba [45] from rfl, ba_append, ba_append, List.append_assoc]; rfl)
  have HXB := Lib.hid (show ∀ t, XB ++ ba t = ba (x ++ 32 :: t) from fun t => by
    rw [← hXB, hbx, show (⟨#[32]⟩ : ByteArray) = ba [32] from rfl, ba_append, ba_append, List.append_assoc]; rfl)
  have HBX := Lib.hid hbx
  have HS := Lib.hid (show BK w gm true 3 x (.slice ao 30 ac) XA 0 w4 from ⟨_, HK4.out⟩)
  clear HK4 hbx lx e1 e2 e3
  go_wp2
  go_loopw [11, 12, 13, 14, 15, 16, 17] (fun s11 _ _ _ _ _ _ wr => ∃ j : Nat, j ≤ 30 ∧ s11 = .int .i64 (j : Int) ∧ Hid (BK w gm true 3 x (.slice ao 30 ac) XA j wr)) (fun s11 _ _ _ _ _ _ _ => 30 + 1 - (intOf s11).toNat)
  case atStart => exact ⟨0, Nat.zero_le _, rfl, HS.out⟩
  case round =>
    obtain ⟨j, hj, rfl, HR⟩ := hrel
    by_cases hlt : j < 30
    · have t1 : (j : Int) < (30 : Int) := by omega
      obtain ⟨F0, hF0⟩ := HR.out
      obtain ⟨b, o, rfl, g1, g2, g3⟩ := rd_at hF0.r (by omega)
      have hjx : j < XA.length := by rw [← HNA.out]; exact hlt
      replace g3 := g3 j _ (svs_at hjx)
      have hlen : (XA.getD j []).length ≤ 200 := LA.out _ (getD_mem hjx)
      have CE := Lib.hid (fun h20 (D : ByteArray) hD => back_err (D := D) HKX.out HAB.out.1 HAB.out.2.1 HAB.out.2.2 (p := 3) rfl HR.out hjx h20 (by omega) hD)
      have CN1 := Lib.hid (fun h20 (D : ByteArray) hD => back_next (D := D) HKX.out HAB.out.1 HAB.out.2.1 HAB.out.2.2 (p := 3) rfl HR.out hjx h20 (by omega) hD)
      have CW := Lib.hid (fun hj1 h20 (D : ByteArray) hD => back_whole (D := D) (N := 30) HKX.out HAB.out.1 HAB.out.2.1 HAB.out.2.2 (p := 3) rfl HR.out hj1 HNA.out h20 (by omega) hD)
      obtain ⟨t, ht⟩ : ∃ t, t = XA.getD j [] := ⟨_, rfl⟩
      rw [← ht] at g3 hlen CE CN1 CW
      replace g3 : wr.cell? ⟨b, o + j, none⟩ = some (.string (ba t)) := g3
      obtain ⟨X, hX⟩ : ∃ X, X = ba t := ⟨_, rfl⟩
      obtain ⟨XL, hXL⟩ : ∃ XL, X.size = XL := ⟨_, rfl⟩
      have hXL2 : XL ≤ 200 := by rw [← hXL, hX]; exact hlen
      have i1 : (9223372036854775807 < 4 + XL) = False := eq_false (by omega)
      rw [← hX] at g3
      obtain ⟨DA, hDA⟩ : ∃ D, XD ++ X = D := ⟨_, rfl⟩
      obtain ⟨DB, hDB⟩ : ∃ D, XB ++ X = D := ⟨_, rfl⟩
      have EDA := Lib.hid (show DA = ba (x ++ 45 :: t) by rw [← hDA, hX, HXD.out])
      have EDB := Lib.hid (show DB = ba (x ++ 32 :: t) by rw [← hDB, hX, HXB.out])
      unfold maxLen at g2
      clear ht hX hF0 hjx hlen
      by_cases hl : j + 1 = 30
      · have z2 : ((j : Int) == (29 : Int)) = true := beq_iff_eq.2 (by omega)
        have z3 : ((j : Int) = (29 : Int)) = True := eq_true (by omega)
        have HL := Lib.hid hl
        clear hl
        by_cases h20 : 20 ≤ j
        · have z4 : (20 : Int) ≤ (j : Int) := by omega
          have C6 := Lib.hid (CE.out h20 DB (Or.inr EDB.out))
          clear CE CN1 CW HR
          go_wp2_with fail
          refine C6.out.mono ?_
          rintro e w6 ⟨F6, lo, lc, bo, bc, rfl, hm6⟩
          have hmA := hm6.next ((Below.refl w6.heap.size w6).alloc (Nat.le_refl _) (.cells #[.string ⟨#[]⟩, .slice lo 0 lc, .slice bo 0 bc] 30))
          have C7 := Lib.hid hmA.m.busy
          have HB7 := Lib.hid hmA.m.b
          clear hm6 hmA C6 g3
          go_wp2_with (go_at_call 15; refine C7.out.mono ?_; rintro e w8 ⟨rfl, hw⟩; rw [← hw]; clear hw)
          go_ret
          exact ⟨rfl, HB7.out⟩
        · have z4 : ((20 : Int) ≤ (j : Int)) = False := eq_false (by omega)
          have C6 := Lib.hid (CW.out (by rw [← HNA.out]; exact HL.out) (by omega) DB EDB.out)
          clear CE CN1 CW HR
          go_wp2_with fail
          refine C6.out.mono ?_
          rintro e w6 ⟨F6, lo, lc, bo, bc, rfl, hm6, hl6⟩
          rw [← HBX.out]
          have hbA := (Below.refl w6.heap.size w6).alloc (Nat.le_refl _) (.cells #[.string bx, .slice lo 30 lc, .slice bo 0 bc] 30)
          have hmA := hm6.next hbA
          have hrA : Rb (w6.alloc (.cells #[.string bx, .slice lo 30 lc, .slice bo 0 bc] 30)) w6.heap.size bx (.slice lo 30 lc) (.slice bo 0 bc) := World.alloc_heap_new w6 _
          have C7 := Lib.hid hmA.m.busy
          have HM6 := Lib.hid hmA
          have HR6 := Lib.hid hrA
          have HL6 := Lib.hid (hl6.below hbA)
          clear hm6 hl6 hmA hrA C6 g3 hbA
          have hmade : ∀ m, (w6.alloc (.cells #[.string bx, .slice lo 30 lc, .slice bo 0 bc] 30)).heap.size = m → ((w6.alloc (.cells #[.string bx, .slice lo 30 lc, .slice bo 0 bc] 30)).alloc (.cells #[] 9)).ownsRow (w6.alloc (.cells #[.string bx, .slice lo 30 lc, .slice bo 0 bc] 30)).heap.size 9 1 (.slice (some ⟨m, 0, none⟩) 0 0) 0 [] := by
            rintro m rfl
            exact World.ownsRow_made (base := (w6.alloc (.cells #[.string bx, .slice lo 30 lc, .slice bo 0 bc] 30)).heap.size) (e := 9) (size := 1) (w6.alloc (.cells #[.string bx, .slice lo 30 lc, .slice bo 0 bc] 30)) #[] 0 (Nat.le_refl _) (Nat.zero_le _) rfl
          have HMD := Lib.hid (hmade (w6.heap.size + 1) (World.size_alloc _ _))
          have hal := (Below.refl (w6.alloc (.cells #[.string bx, .slice lo 30 lc, .slice bo 0 bc] 30)).heap.size (w6.alloc (.cells #[.string bx, .slice lo 30 lc, .slice bo 0 bc] 30))).alloc (Nat.le_refl _) (.cells #[] 9)
          have HAL := Lib.hid hal
          have HRX := Lib.hid (HM6.out.r.below hal)
          clear hmade hal
          go_wp2_with (first | (go_at_call 15; refine C7.out.mono ?_; rintro e w8 ⟨rfl, hw⟩; rw [← hw]; clear hw) | (at_builtin; refine append_strs rfl (.tmp 96) (.tmp 97) rfl rfl HMD.out (XA.map sv) HRX.out (sv_cell _) ?cz HAL.out.size ?_))
          case cz => rw [List.length_map, ← HNA.out]; omega
          intro v2 w2 ho2 hg2
          rw [← HNA.out] at ho2
          replace ho2 : w2.ownsRow (w6.alloc (.cells #[.string bx, .slice lo 30 lc, .slice bo 0 bc] 30)).heap.size 9 1 v2 30 (XA.map sv) := by rw [World.size_alloc]; exact ho2
          obtain ⟨g1', cap, _, e5, gb, _, _, _, _⟩ := own_open ho2 (by omega)
          subst e5
          have hb2 := HAL.out.grown hg2 HAL.out.size (fun k hk => by
            have hk : w6.heap.size + 1 = k := by simpa [Value.ownBlock] using hk
            rw [World.size_alloc]; omega)
          generalize w6.heap.size = gr at *
          generalize w6.alloc _ = wB at *
          have HW2 := Lib.hid (show BW wB g1' cap 30 x XA 1 w2 from ⟨hb2, by rw [Rp.wantAt_one x (by rw [← HNA.out]; omega)]; exact ho2⟩)
          have HO2 := Lib.hid ho2
          clear ho2 hg2 hb2 HMD HAL HRX C7 gb
          go_wp2
          go_loopw [17] (fun s17 wr => ∃ i : Nat, 1 ≤ i ∧ i ≤ max 1 (30 - 1) ∧ s17 = .int .i64 (i : Int) ∧ Hid (BW wB g1' cap 30 x XA i wr)) (fun s17 _ => 30 + 1 - (intOf s17).toNat)
          case atStart => exact ⟨1, Nat.le_refl _, Nat.le_max_left _ _, rfl, HW2.out⟩
          case round =>
            obtain ⟨i, hi1, hi2, rfl, HI⟩ := hrel
            by_cases hgo : i < 30 - 1
            · have z6 : (i : Int) < (29 : Int) := by omega
              have z7 : ((i : Int) < (29 : Int)) = True := eq_true z6
              have hix : i < XA.length := by rw [← HNA.out]; omega
              obtain ⟨b', o', e', k1, k2, k3⟩ := rd_at (HM6.out.r.below HI.out.1) (by omega)
              simp only [Option.some.injEq, Addr.mk.injEq, and_true] at e'
              obtain ⟨rfl, rfl⟩ := e'
              replace k3 := k3 i _ (svs_at hix)
              have hlen : (XA.getD i []).length ≤ 200 := LA.out _ (getD_mem hix)
              obtain ⟨t', ht'⟩ : ∃ t', t' = XA.getD i [] := ⟨_, rfl⟩
              rw [← ht'] at k3 hlen
              replace k3 : wr.cell? ⟨b, o + i, none⟩ = some (.string (ba t')) := k3
              obtain ⟨Y, hY⟩ : ∃ Y, Y = ba t' := ⟨_, rfl⟩
              obtain ⟨YL, hYL⟩ : ∃ YL, Y.size = YL := ⟨_, rfl⟩
              have hYL2 : YL ≤ 200 := by rw [← hYL, hY]; exact hlen
              have i2 : (9223372036854775807 < 4 + YL) = False := eq_false (by omega)
              rw [← hY] at k3
              obtain ⟨DY, hDY⟩ : ∃ D, XD ++ Y = D := ⟨_, rfl⟩
              have eDY : DY = ba (x ++ 45 :: t') := by rw [← hDY, hY, HXD.out]
              obtain ⟨f1, ⟨u0, f2⟩, f3, f4, f5⟩ := own_store HI.out.2 (k := i) (by omega) (.string DY)
              have hset : ((Rp.wantAt x XA i).map sv).set i (.string DY) = (Rp.wantAt x XA (i + 1)).map sv := by
                rw [← Rp.wantAt_more x XA (by omega) hix, List.map_set, ← ht', eDY]
                rfl
              rw [hset] at f3
              have HI2 := Lib.hid (show BW wB g1' cap 30 x XA (i + 1) _ from ⟨HI.out.1.setCell (p := ⟨g1', i, none⟩) f4 (.string DY), f3⟩)
              unfold maxLen at k2
              clear f3 hset eDY hY ht' hix hlen HI hgo HW2
              go_wp2
              go_roundw
              case rel => exact ⟨i + 1, by omega, by omega, by go_num, HI2.out⟩
              case measure => simp [intOf]; omega
            · have z6 : ((i : Int) < (29 : Int)) = False := eq_false (by omega)
              have hfin : (Rp.wantAt x XA i) = wantOf true x XA := by
                unfold wantOf
                rw [if_pos rfl, ← HNA.out]
                rcases Nat.lt_or_ge 1 30 with h | h
                · rw [show i = 30 - 1 by omega]
                · obtain rfl : i = 1 := by omega
                  have h0 : 30 - 1 = 0 := by omega
                  rw [h0]
                  have h1 : XA.length = 1 := by rw [← HNA.out]; omega
                  rw [Rp.wantAt_one x (by omega)]
                  unfold Rp.wantAt
                  rw [show Rp.backLines true x XA 0 = [] from rfl]
                  rfl
              have hbw := HI.out.1
              have hr9 := HR6.out.same (hbw.block _ HR6.out.lt)
              have r0 := hr9.c0
              have r1 := hr9.c1
              have r2 := hr9.c2
              have hs := same_any (wantOf true x XA) (Rp.wantAt x XA i) _ _ _ (HL6.out.below hbw) (.of_own HI.out.2)
              rw [hfin, show (wantOf true x XA == wantOf true x XA) = true from beq_self_eq_true _] at hs
              have HSM := Lib.hid hs
              have HBW := Lib.hid (HM6.out.m.b.trans (hbw.mono HM6.out.m.b.size))
              clear hs hbw hr9 hfin HI HL6 HR6 HM6 HW2 hgo
              go_wp2_with (go_at_call 17; refine HSM.out.mono ?_; rintro e w9 ⟨rfl, hb9⟩)
              go_ret
              exact ⟨rfl, HBW.out.trans (hb9.mono HBW.out.size)⟩

      · have z2 : ((j : Int) == (29 : Int)) = false := beq_eq_false_iff_ne.2 (by omega)
        have z3 : ((j : Int) = (29 : Int)) = False := eq_false (by omega)
        have HL := Lib.hid hl
        clear hl
        by_cases h20 : 20 ≤ j
        · have z4 : (20 : Int) ≤ (j : Int) := by omega
          have C6 := Lib.hid (CE.out h20 DA (Or.inl EDA.out))
          clear CE CN1 CW HR
          go_wp2_with fail
          refine C6.out.mono ?_
          rintro e w6 ⟨F6, lo, lc, bo, bc, rfl, hm6⟩
          have hmA := hm6.next ((Below.refl w6.heap.size w6).alloc (Nat.le_refl _) (.cells #[.string ⟨#[]⟩, .slice lo 0 lc, .slice bo 0 bc] 30))
          have C7 := Lib.hid hmA.m.busy
          have HB7 := Lib.hid hmA.m.b
          clear hm6 hmA C6 g3
          go_wp2_with (go_at_call 15; refine C7.out.mono ?_; rintro e w8 ⟨rfl, hw⟩; rw [← hw]; clear hw)
          go_ret
          exact ⟨rfl, HB7.out⟩
        · have z4 : ((20 : Int) ≤ (j : Int)) = False := eq_false (by omega)
          have C6 := Lib.hid (CN1.out (by omega) DA EDA.out)
          clear CE CN1 CW HR
          go_wp2_with fail
          refine C6.out.mono ?_
          rintro e w6 ⟨F6, lo, lc, bo, bc, rfl, hm6⟩
          have hmA := hm6.next ((Below.refl w6.heap.size w6).alloc (Nat.le_refl _) (.cells #[.string ⟨#[]⟩, .slice lo 0 lc, .slice bo 0 bc] 30))
          have C7 := Lib.hid hmA.m.busy
          have HK7 := Lib.hid (BK.more hmA)
          clear hm6 hmA C6 g3
          go_wp2_with (go_at_call 15; refine C7.out.mono ?_; rintro e w8 ⟨rfl, hw⟩; rw [← hw]; clear hw)
          go_roundw
          case rel => exact ⟨j + 1, by omega, by go_num, HK7.out⟩
          case measure => simp [intOf]; omega
    · have t1 : ((j : Int) < (30 : Int)) = False := eq_false (by omega)
      obtain ⟨F0, hF0⟩ := HR.out
      have HB0 := Lib.hid hF0.m.b
      clear hF0 HR hlt
      go_wp2
      go_ret
      exact ⟨rfl, HB0.out⟩


theorem lawBack (n : Int) (v1 : Value) (y1 : List ByteArray) (ftp : Bool) (hn : (Lit.int .i64 n).wf = true) (h1 : y1.length ≤ maxLen) (w : World) (r1 : RdN 1 w v1 (y1.map fun y => [.string y])) (_z1 : ∀ y ∈ y1, y.size ≤ maxLen) :
    Calls Tryd.prog 4 #[.int .i64 n, v1, .bool ftp] w fun e w' => e = .returned (.bool true) ∧ Below w.heap.size w w' := by
  by_cases h : 30 < (cut40 y1).length
  · cases ftp
    · exact back_long_smtp n v1 y1 hn h1 h w r1
    · exact back_long_ftp n v1 y1 hn h1 h w r1
  · cases ftp
    · exact back_short_smtp n v1 y1 hn h1 (by omega) w r1
    · exact back_short_ftp n v1 y1 hn h1 (by omega) w r1
end Go.Proofs.YtnodngcfjdghcaaDoor
