/- The law ReplyNext walked. -/
import Derived.Test.YtnodngcfjdghcaaDoorShortR
import Derived.Test.YtnodngcfjdghcaaDoorRSame
import Derived.Test.YtnodngcfjdghcaaDoorM2T
namespace Go.Proofs.YtnodngcfjdghcaaDoor
open Go.RowKit Go.ChangeShapes

/-- Where the first loop stands: the first maker goes on, the second one is fresh. -/
def NA (W : World) (gm go : Nat) (p : Int) (va : Value) (xa : List (List UInt8)) (vb : Value) (xb : List (List UInt8)) (wr : World) : Prop :=
  ∃ Fm Fo sm, M2 W gm Fm p sm go Fo p none wr ∧ Tk wr Fm Fo va (xa.map sv) ∧ Tk wr Fm Fo vb (xb.map sv)
/-- Where the second loop stands: both go on alike. -/
def NB (W : World) (gm go : Nat) (p : Int) (vb : Value) (xb : List (List UInt8)) (wr : World) : Prop :=
  ∃ Fm Fo st, M2 W gm Fm p st go Fo p st wr ∧ Tk wr Fm Fo vb (xb.map sv)

theorem rsame_n {c : ByteArray} {ls : List (List UInt8)} {bs : List UInt8} {n m : Nat} (hn : n = ls.length) (hm : m = bs.length) (l1 l2 b1 b2 : Option Addr) (lc1 lc2 bc1 bc2 : Nat) (w : World)
    (h1 : Rd w (.slice l1 n lc1) (ls.map sv)) (h2 : Rd w (.slice l2 n lc2) (ls.map sv)) (h3 : Rd w (.slice b1 m bc1) (bs.map bv)) (h4 : Rd w (.slice b2 m bc2) (bs.map bv)) :
    Calls Tryd.prog 14 #[.agg #[.string c, .slice l1 n lc1, .slice b1 m bc1], .agg #[.string c, .slice l2 n lc2, .slice b2 m bc2]] w fun e w' => e = .returned (.bool true) ∧ Below w.heap.size w w' := by
  subst hn hm
  exact rsame_yes c ls bs w h1 h2 h3 h4

set_option maxHeartbeats 8000000 in
set_option maxRecDepth 20000 in
theorem lawNext (p : Int) (v1 : Value) (y1 : List ByteArray) (v2 : Value) (y2 : List ByteArray) (hp : (Lit.int .i64 p).wf = true) (h1 : y1.length ≤ maxLen) (h2 : y2.length ≤ maxLen) (w : World) (r1 : RdN 1 w v1 (y1.map fun y => [.string y])) (z1 : ∀ y ∈ y1, y.size ≤ maxLen) (r2 : RdN 1 w v2 (y2.map fun y => [.string y])) (z2 : ∀ y ∈ y2, y.size ≤ maxLen) :
    Calls Tryd.prog 6 #[.int .i64 p, v1, v2] w fun e w' => e = .returned (.bool true) ∧ Below w.heap.size w w' := by
  clear hp z1 z2
  have R1 := Lib.hid r1
  have R2 := Lib.hid r2
  have H1 := Lib.hid h1
  have H2 := Lib.hid h2
  obtain ⟨ao1, cp1, rfl, _⟩ := r1.form
  obtain ⟨ao2, cp2, rfl, _⟩ := r2.form
  clear r1 r2 h1 h2
  simp only [List.length_map] at *
  generalize hq1 : y1.length = q1 at *
  generalize hq2 : y2.length = q2 at *
  have HQ1 := Lib.hid hq1
  have HQ2 := Lib.hid hq2
  clear hq1 hq2
  go_enter Tryd.func6, Tryd.ntmps6
  go_wp2_with fail
  refine (shown_any w).mono ?_
  rintro e w1 ⟨rfl, hb1⟩
  go_wp2_with fail
  refine (ML.new hb1 p).mono ?_
  rintro e w2 ⟨rfl, hm2, hb2⟩
  generalize w1.heap.size = gm at *
  go_wp2_with fail
  refine (M2.new hm2.b hm2 p).mono ?_
  rintro e w3 ⟨rfl, hm3, hb3⟩
  generalize w2.heap.size = go at *
  have HM3 := Lib.hid hm3
  clear hm2 hb2 hm3 hb3 hb1
  go_wp2_with fail
  refine (shorts_any _ y1 w3 (R1.out.below HM3.out.m.b) (HQ1.out ▸ H1.out)).mono ?_
  rintro e w4 ⟨ao, ac, rfl, ho4, hb4⟩
  have HK4 := Lib.hid (HM3.out.row ho4)
  have HM4 := Lib.hid (HM3.out.next hb4)
  clear ho4 hb4 HM3 R1 H1
  obtain ⟨XA, hXA⟩ : ∃ X, X = cut40 y1 := ⟨_, rfl⟩
  rw [← hXA] at HK4 ⊢
  have lA : ∀ x ∈ XA, x.length ≤ 200 := by rw [hXA]; exact cut40_each y1
  have nA : XA.length ≤ 40 := by rw [hXA]; exact cut40_le y1
  clear hXA
  obtain ⟨NA', hNA⟩ : ∃ n, n = XA.length := ⟨_, rfl⟩
  rw [← hNA] at HK4 nA ⊢
  have HNA := Lib.hid hNA
  clear hNA
  go_wp2_with fail
  refine (shorts_any _ y2 w4 (R2.out.below HM4.out.m.b) (HQ2.out ▸ H2.out)).mono ?_
  rintro e w5 ⟨bo, bc, rfl, ho5, hb5⟩
  have HL5 := Lib.hid (HM4.out.row ho5)
  have HK5 := Lib.hid (HK4.out.next hb5)
  have HM5 := Lib.hid (HM4.out.next hb5)
  clear ho5 hb5 HM4 HK4 R2 H2
  obtain ⟨XB, hXB⟩ : ∃ X, X = cut40 y2 := ⟨_, rfl⟩
  rw [← hXB] at HL5 ⊢
  have lB : ∀ x ∈ XB, x.length ≤ 200 := by rw [hXB]; exact cut40_each y2
  have nB : XB.length ≤ 40 := by rw [hXB]; exact cut40_le y2
  clear hXB
  obtain ⟨NB', hNB⟩ : ∃ n, n = XB.length := ⟨_, rfl⟩
  rw [← hNB] at HL5 nB ⊢
  have HNB := Lib.hid hNB
  have LA := Lib.hid lA
  have LB := Lib.hid lB
  clear hNB lA lB
  go_wp2
  go_loopw [10] (fun s10 wr => ∃ k : Nat, k ≤ NA' ∧ s10 = .int .i64 (k : Int) ∧ Hid (NA w gm go p (.slice ao NA' ac) XA (.slice bo NB' bc) XB wr)) (fun s10 _ => NA' + 1 - (intOf s10).toNat)
  case atStart => exact ⟨0, Nat.zero_le _, rfl, ⟨_, _, _, HM5.out, HK5.out, HL5.out⟩⟩
  case round =>
    obtain ⟨k, hk, rfl, HR⟩ := hrel
    obtain ⟨Fm, Fo, sm, hm, hka, hkb⟩ := HR.out
    by_cases hlt : k < NA'
    · have t1 : (k : Int) < (NA' : Int) := by omega
      obtain ⟨b, o, rfl, g1, g2, g3⟩ := hka.text hlt HNA.out
      have hlen : (XA.getD k []).length ≤ 1000000 := Nat.le_trans (LA.out _ (getD_mem (by rw [← HNA.out]; exact hlt))) (by decide)
      have CL := Lib.hid (hm.line2 (XA.getD k []) hlen false rfl)
      have HKA := Lib.hid hka
      have HKB := Lib.hid hkb
      generalize ba (XA.getD k []) = T at g3 CL
      generalize Rp.step p sm (XA.getD k []) false = O at CL
      unfold maxLen at g2
      clear hm hka hkb hlen HR
      go_wp2_with fail
      refine CL.out.mono ?_
      rintro e w6 ⟨F6, lo, lc, co, cc, rfl, hm6, ht6, hx6, _, _⟩
      have HN6 := Lib.hid (show NA w gm go p (.slice (some ⟨b, o, none⟩) NA' ac) XA (.slice bo NB' bc) XB w6 from ⟨F6, _, _, hm6, HKA.out.step ht6 hx6, HKB.out.step ht6 hx6⟩)
      clear CL HKA HKB hm6 ht6 hx6 g3
      go_wp2
      go_roundw
      case rel => exact ⟨k + 1, by omega, by go_num, HN6.out⟩
      case measure => simp [intOf]; omega
    · have t1 : ((k : Int) < (NA' : Int)) = False := eq_false (by omega)
      have CB := Lib.hid hm.m.busy
      have HM := Lib.hid hm
      have HKB := Lib.hid hkb
      clear hm hka hkb HR
      cases sm with
      | some m =>
        go_wp2_with (go_at_call 15; refine CB.out.mono ?_; rintro e w6 ⟨rfl, hw⟩; rw [← hw]; clear hw)
        go_ret
        exact ⟨rfl, HM.out.m.b⟩
      | none =>
        go_wp2_with (go_at_call 15; refine CB.out.mono ?_; rintro e w6 ⟨rfl, hw⟩; rw [← hw]; clear hw)
        have HB0 := Lib.hid (show NB w gm go p (.slice bo NB' bc) XB _ from ⟨Fm, Fo, none, HM.out, HKB.out⟩)
        clear CB HM HKB
        go_loopw [11, 12, 13, 14, 15, 16, 17, 18] (fun s11 _ _ _ _ _ _ _ wr => ∃ k : Nat, k ≤ NB' ∧ s11 = .int .i64 (k : Int) ∧ Hid (NB w gm go p (.slice bo NB' bc) XB wr)) (fun s11 _ _ _ _ _ _ _ _ => NB' + 1 - (intOf s11).toNat)
        case atStart => exact ⟨0, Nat.zero_le _, rfl, HB0.out⟩
        case round =>
          obtain ⟨j, hj, rfl, HR⟩ := hrel
          obtain ⟨Fm, Fo, st, hm, hkb⟩ := HR.out
          by_cases hlt : j < NB'
          · have t2 : (j : Int) < (NB' : Int) := by omega
            obtain ⟨b, o, rfl, g1, g2, g3⟩ := hkb.text hlt HNB.out
            have hlen : (XB.getD j []).length ≤ 1000000 := Nat.le_trans (LB.out _ (getD_mem (by rw [← HNB.out]; exact hlt))) (by decide)
            have C1 := hm.line2 (XB.getD j []) hlen false rfl
            have C2 := (fun (F6 : Nat → Prop) (w7 : World) (h : M2 w go Fo p st gm F6 p (Rp.outSt (Rp.step p st (XB.getD j []) false)) w7) => h.line2 (XB.getD j []) hlen false rfl)
            have HKB := Lib.hid hkb
            have HM := Lib.hid hm
            obtain ⟨T, hT⟩ : ∃ T, T = ba (XB.getD j []) := ⟨_, rfl⟩
            rw [← hT] at g3 C1 C2
            have HT := Lib.hid hT
            generalize Rp.step p st (XB.getD j []) false = O at C1 C2
            obtain ⟨c, hc⟩ : ∃ c, c = ba (Rp.outRe O).code := ⟨_, rfl⟩
            obtain ⟨ls, hls⟩ : ∃ ls, ls = (Rp.outRe O).lines := ⟨_, rfl⟩
            obtain ⟨bs, hbs⟩ : ∃ bs, bs = (Rp.outRe O).body := ⟨_, rfl⟩
            obtain ⟨D, hD⟩ : ∃ D, D = Rp.outDone O := ⟨_, rfl⟩
            obtain ⟨E, hE⟩ : ∃ E : Int, E = (Rp.outErr O : Int) := ⟨_, rfl⟩
            rw [← hc, ← hls, ← hbs, ← hD, ← hE] at C1 C2
            obtain ⟨n, hn⟩ : ∃ n, n = ls.length := ⟨_, rfl⟩
            obtain ⟨m, hm'⟩ : ∃ m, m = bs.length := ⟨_, rfl⟩
            rw [← hn, ← hm'] at C1 C2
            replace C1 := Lib.hid C1
            replace C2 := Lib.hid C2
            have CS := Lib.hid (@rsame_n c ls bs n m hn hm')
            generalize Rp.outSt O = SO at C1 C2
            unfold maxLen at g2
            clear hm hkb hlen HR hc hls hbs hD hE hn hm' hT
            go_wp2_with fail
            refine C1.out.mono ?_
            rintro e w6 ⟨F6, lo, lc, co, cc, rfl, hm6, ht6, hx6, hl6, hy6⟩
            have hbA := (Below.refl w6.heap.size w6).alloc (Nat.le_refl _) (.cells #[.string c, .slice lo n lc, .slice co m cc] 30)
            have hmA := hm6.next hbA
            have hrA : Rb (w6.alloc (.cells #[.string c, .slice lo n lc, .slice co m cc] 30)) w6.heap.size c (.slice lo n lc) (.slice co m cc) := World.alloc_heap_new w6 _
            have hnA : ¬ Fo w6.heap.size := fun e => by have := (hm6.o.o.lt _ e).2; omega
            have hkA := (HKB.out.step ht6 hx6).next hbA
            obtain ⟨b9, o9, e9, _, _, g9⟩ := hkA.text hlt HNB.out
            rw [← HT.out] at g9
            simp only [Option.some.injEq, Addr.mk.injEq] at e9
            obtain ⟨rfl, rfl, _⟩ := e9
            have C2b := Lib.hid (C2.out _ _ hmA.swap)
            have HR6 := Lib.hid hrA
            have HL6 := Lib.hid (hl6.next hbA)
            have HY6 := Lib.hid (hy6.next hbA)
            have HK6 := Lib.hid hkA
            have HNA6 := Lib.hid hnA
            clear C1 C2 HKB HM hm6 ht6 hx6 hl6 hy6 hbA hmA hrA hnA hkA
            go_wp2_with fail
            refine C2b.out.mono ?_
            rintro e w7 ⟨F7, mo, mc, do', dc, rfl, hm7, ht7, hx7, hl7, hy7⟩
            generalize hgr : w6.heap.size = gr at *
            have hrA := HR6.out
            have hr7 := hrA.same (ht7.block _ hrA.lt HNA6.out)
            have hbB := (Below.refl w7.heap.size w7).alloc (Nat.le_refl _) (.cells #[.string c, .slice mo n mc, .slice do' m dc] 30)
            have hr8 := hr7.same (hbB.block _ hr7.lt)
            have hs8 : Rb (w7.alloc (.cells #[.string c, .slice mo n mc, .slice do' m dc] 30)) w7.heap.size c (.slice mo n mc) (.slice do' m dc) := World.alloc_heap_new w7 _
            have C3 := Lib.hid (CS.out _ _ _ _ _ _ _ _ (w7.alloc (.cells #[.string c, .slice mo n mc, .slice do' m dc] 30)) ((HL6.out.past ht7).below hbB) (hl7.1.below hbB) ((HY6.out.past ht7).below hbB) (hy7.1.below hbB))
            have HM8 := Lib.hid (hm7.next hbB)
            have HK8 := Lib.hid ((HK6.out.swap.step ht7 hx7).next hbB)
            have r0 := hr8.c0
            have r1 := hr8.c1
            have r2 := hr8.c2
            have s0 := hs8.c0
            have s1 := hs8.c1
            have s2 := hs8.c2
            clear C2b CS HR6 HL6 HY6 HK6 HNA6 hm7 ht7 hx7 hl7 hy7 hrA hr7 hr8 hs8 hbB g3 g9 hgr
            go_wp2_with fail
            refine C3.out.mono ?_
            rintro e w8 ⟨rfl, hb8⟩
            have HM9 := Lib.hid (HM8.out.next hb8)
            have HB9 := Lib.hid (show NB w gm go p (.slice (some ⟨b, o, none⟩) NB' bc) XB w8 from ⟨_, _, _, HM9.out.swap, (HK8.out.next hb8).swap⟩)
            have C4 := Lib.hid HM9.out.m.busy
            have C5 := Lib.hid HM9.out.o.busy
            generalize SO.isSome = bu at C4 C5
            clear HM8 HK8 HM9 C3 hb8 r0 r1 r2 s0 s1 s2
            go_wp2_with (first | (refine C5.out.mono ?_; rintro e w9 ⟨rfl, hw⟩; rw [← hw]; clear hw) | (refine C4.out.mono ?_; rintro e w9 ⟨rfl, hw⟩; rw [← hw]; clear hw))
            go_roundw
            case rel => exact ⟨j + 1, by omega, by go_num, HB9.out⟩
            case measure => simp [intOf]; omega
          · have t2 : ((j : Int) < (NB' : Int)) = False := eq_false (by omega)
            have HM := Lib.hid hm
            clear hm hkb HR
            go_wp2
            go_ret
            exact ⟨rfl, HM.out.m.b⟩
end Go.Proofs.YtnodngcfjdghcaaDoor
