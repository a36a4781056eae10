/- The law ReplyPlays walked. -/
import Derived.Test.YtnodngcfjdghcaaDoorPlaysP
import Derived.Test.YtnodngcfjdghcaaDoorRSame
import Derived.Test.YtnodngcfjdghcaaDoorHeld
import Derived.OpenShut
namespace Go.Proofs.YtnodngcfjdghcaaDoor
open Go.RowKit Go.ChangeShapes

theorem rsame_n {c : ByteArray} {ls : List (List UInt8)} {bs : List UInt8} {n m : Nat} (hn : n = ls.length) (hm : m = bs.length) (l1 l2 b1 b2 : Option Addr) (lc1 lc2 bc1 bc2 : Nat) (w : World)
    (h1 : Rd w (.slice l1 n lc1) (ls.map sv)) (h2 : Rd w (.slice l2 n lc2) (ls.map sv)) (h3 : Rd w (.slice b1 m bc1) (bs.map bv)) (h4 : Rd w (.slice b2 m bc2) (bs.map bv)) :
    Calls Tryd.prog 14 #[.agg #[.string c, .slice l1 n lc1, .slice b1 m bc1], .agg #[.string c, .slice l2 n lc2, .slice b2 m bc2]] w fun e w' => e = .returned (.bool true) ∧ Below w.heap.size w w' := by
  subst hn hm
  exact rsame_yes c ls bs w h1 h2 h3 h4
theorem cell_row {w : World} {q o N ac i : Nat} {xa : List (List UInt8)} {X : ByteArray} (h : Rd w (.slice (some ⟨q, o, none⟩) N ac) (xa.map sv)) (hi : i < xa.length) (hX : X = ba (xa.getD i [])) : w.cell? ⟨q, o + i, none⟩ = some (.string X) := by
  rcases h with ⟨e, _⟩ | ⟨b', o', cap', e, _, _, h3⟩
  · have := congrArg List.length e
    rw [List.length_map, List.length_nil] at this
    omega
  · simp only [Value.slice.injEq, Option.some.injEq, Addr.mk.injEq, and_true] at e
    obtain ⟨⟨rfl, rfl⟩, _, rfl⟩ := e
    rw [hX]
    exact h3 i _ (svs_at hi)
/-- What comes of a round. -/
theorem out_cases (O : Rp.Out) (hE : ∀ e, O = .inr (.inr e) → e ≠ 0) :
    (Rp.outDone O = false ∧ Rp.outErr O = 0 ∧ ∃ m', Rp.outSt O = some m' ∧ O = .inl m') ∨ (Rp.outDone O = true ∧ Rp.outErr O = 0 ∧ Rp.outSt O = none) ∨ (Rp.outDone O = false ∧ Rp.outErr O ≠ 0 ∧ Rp.outSt O = none) := by
  rcases O with m' | r | e
  · exact .inl ⟨rfl, rfl, m', rfl, rfl⟩
  · exact .inr (.inl ⟨rfl, rfl, rfl⟩)
  · exact .inr (.inr ⟨rfl, hE e rfl, rfl⟩)

set_option maxHeartbeats 16000000 in
set_option maxRecDepth 20000 in
theorem plays_walk (p : Int) (v1 : Value) (y1 : List ByteArray) (B : Nat) (hB : B < 18446744073709551616) (h1 : y1.length ≤ maxLen) (w : World) (r1 : RdN 1 w v1 (y1.map fun y => [.string y])) :
    Calls Tryd.prog 3 #[.int .i64 p, v1, .int .u64 (B : Int)] w fun e w' => e = .returned (.bool true) ∧ Below w.heap.size w w' := by
  have R1 := Lib.hid r1
  have H1 := Lib.hid h1
  obtain ⟨ao1, cp1, rfl, _⟩ := r1.form
  clear r1 h1
  simp only [List.length_map] at *
  generalize hq1 : y1.length = q1 at *
  have HQ1 := Lib.hid hq1
  clear hq1
  go_enter Tryd.func3, Tryd.ntmps3
  go_wp2_with fail
  refine (shown_any w).mono ?_
  rintro e w1 ⟨rfl, hb1⟩
  go_wp2_with fail
  refine (ML.new hb1 p).mono ?_
  rintro e w2 ⟨rfl, hm2, hb2⟩
  generalize w1.heap.size = gm at *
  have HM2 := Lib.hid hm2
  clear hm2 hb2 hb1
  go_wp2_with fail
  refine (shorts_any _ y1 w2 (R1.out.below HM2.out.b) (HQ1.out ▸ H1.out)).mono ?_
  rintro e w4 ⟨ao, ac, rfl, ho4, hb4⟩
  have hk4 : MT w gm (fun k => k = gm) p none (.slice ao (cut40 y1).length ac) ((cut40 y1).map sv) w4 := ⟨HM2.out.next hb4, .of_own ho4, fun k hk => ⟨(ho4.lt k hk).2, fun e => by
    have e : k = gm := e
    have h5 := (HM2.out.o.lt gm HM2.out.o.fg).2
    have h6 := (ho4.lt k hk).1
    omega⟩⟩
  clear hb4 HM2 R1 H1
  obtain ⟨XA, hXA⟩ : ∃ X, X = cut40 y1 := ⟨_, rfl⟩
  rw [← hXA] at hk4 ⊢
  have lA : ∀ x ∈ XA, x.length ≤ 200 := by rw [hXA]; exact cut40_each y1
  have nA : XA.length ≤ 40 := by rw [hXA]; exact cut40_le y1
  obtain ⟨N, hN⟩ : ∃ n, n = XA.length := ⟨_, rfl⟩
  rw [← hN] at hk4 nA ⊢
  have HK4 := Lib.hid (NPl.anew (B := B) hk4 0)
  have HN := Lib.hid hN
  have LA := Lib.hid lA
  clear hXA lA hN hk4 ho4
  go_wp2
  go_loopw [9, 10, 11, 12, 13, 14, 15, 16, 17, 18, 19] (fun s9 s10 _ _ _ _ _ _ _ _ _ wr => ∃ f i : Nat, i ≤ N ∧ s9 = .int .i64 (f : Int) ∧ s10 = .int .i64 (i : Int) ∧ Hid (NPl w gm p B (.slice ao N ac) XA f i wr)) (fun _ s10 _ _ _ _ _ _ _ _ _ _ => N + 1 - (intOf s10).toNat)
  case atStart => exact ⟨0, 0, Nat.zero_le _, rfl, rfl, HK4.out⟩
  case round =>
    obtain ⟨f, i, hi, rfl, rfl, HR⟩ := hrel
    by_cases hlt : i < N
    · have t1 : (i : Int) < (N : Int) := by omega
      have hfi := HR.out.le
      obtain ⟨q, o, rfl, g1, g2, g3⟩ := rd_at HR.out.row (by omega)
      have hix : i < XA.length := by rw [← HN.out]; exact hlt
      replace g3 := g3 i _ (svs_at hix)
      have hlen : (XA.getD i []).length ≤ 200 := LA.out _ (getD_mem hix)
      obtain ⟨I1, hI⟩ : ∃ I1, I1 = i + 1 := ⟨_, rfl⟩
      have eI : (i : Int) + 1 = (I1 : Int) := by omega
      obtain ⟨r, hr⟩ : ∃ r, r = f % 64 := ⟨_, rfl⟩
      have e1 : (f : Int).tmod 64 = (r : Int) := by rw [Int.tmod_eq_emod_of_nonneg (by omega)]; omega
      have r64 : r < 64 := by omega
      obtain ⟨ri, hri⟩ : ∃ r, r = i % 64 := ⟨_, rfl⟩
      have e2 : (i : Int).tmod 64 = (ri : Int) := by rw [Int.tmod_eq_emod_of_nonneg (by omega)]; omega
      have ri64 : ri < 64 := by omega
      obtain ⟨BF, hBF⟩ : ∃ b, b = bodOf B f := ⟨_, rfl⟩
      have hbf : (bits BinOp.and IntKind.u64 ((B : Int) / 2 ^ r) 1 == 1) = BF := by rw [hBF, hr]; rfl
      obtain ⟨BI, hBI⟩ : ∃ b, b = bodOf B i := ⟨_, rfl⟩
      have hbi : (bits BinOp.and IntKind.u64 ((B : Int) / 2 ^ ri) 1 == 1) = BI := by rw [hBI, hri]; rfl
      obtain ⟨O, hO⟩ : ∃ O, O = upTo p B f XA (i + 1) := ⟨_, rfl⟩
      have hcs := out_cases O (fun e he => by
        obtain ⟨F0, st0, _, hs0⟩ := HR.out.step hix
        rw [← hO, he] at hs0
        exact Rp.step_err hs0)
      have CA := fun w0 (h : NPl w gm p B (.slice (some ⟨q, o, none⟩) N ac) XA f i w0) => pl_ahead h hix (by omega) hO.symm
      have CB := fun w0 (h : NPl w gm p B (.slice (some ⟨q, o, none⟩) N ac) XA f i w0) => pl_behind h hix (by omega) hO.symm
      have CO := fun w1 F st (hm : MT w gm F p st (.slice (some ⟨q, o, none⟩) N ac) (XA.map sv) w1) => pl_one HR.out hm HN.out hlt nA LA.out hI hO.symm
      have HMORE := Lib.hid (fun (m' : Rp.Mid) (hm : O = .inl m') (wy : World) (F : Nat → Prop) (h : MT w gm F p (some m') (.slice (some ⟨q, o, none⟩) N ac) (XA.map sv) wy) => (HR.out.more (hO.symm.trans hm) h : NPl w gm p B (.slice (some ⟨q, o, none⟩) N ac) XA f (i + 1) wy))
      obtain ⟨x, hx⟩ : ∃ x, x = XA.getD i [] := ⟨_, rfl⟩
      rw [← hx] at g3
      rw [← hx, ← hBI] at CA CB
      rw [← hBF] at CO
      replace g3 : wr.cell? ⟨q, o + i, none⟩ = some (.string (ba x)) := g3
      obtain ⟨X, hX⟩ : ∃ X, X = ba x := ⟨_, rfl⟩
      rw [← hX] at g3 CA CB
      unfold OneP at CO
      obtain ⟨c, hc⟩ : ∃ c, c = ba (Rp.outRe O).code := ⟨_, rfl⟩
      obtain ⟨ls, hls⟩ : ∃ ls, ls = (Rp.outRe O).lines := ⟨_, rfl⟩
      obtain ⟨bs, hbs⟩ : ∃ bs, bs = (Rp.outRe O).body := ⟨_, rfl⟩
      obtain ⟨D, hD⟩ : ∃ D, D = Rp.outDone O := ⟨_, rfl⟩
      obtain ⟨E, hE⟩ : ∃ E, E = Rp.outErr O := ⟨_, rfl⟩
      obtain ⟨SO, hSO⟩ : ∃ SO, SO = Rp.outSt O := ⟨_, rfl⟩
      rw [← hc, ← hls, ← hbs, ← hD, ← hE] at CA CB CO
      rw [← hSO] at CA CB
      rw [← hD, ← hE, ← hSO] at hcs
      obtain ⟨n, hn⟩ : ∃ n, n = ls.length := ⟨_, rfl⟩
      obtain ⟨m, hm'⟩ : ∃ m, m = bs.length := ⟨_, rfl⟩
      rw [← hn, ← hm'] at CA CB CO
      have CS := Lib.hid (@rsame_n c ls bs n m hn hm')
      have HI := Lib.hid hI
      have HROW := Lib.hid (fun w0 (h : Rd w0 (.slice (some ⟨q, o, none⟩) N ac) (XA.map sv)) => (cell_row h hix (hX.trans (congrArg ba hx)) : w0.cell? ⟨q, o + i, none⟩ = some (.string X)))
      replace CA := Lib.hid CA
      replace CB := Lib.hid CB
      replace CO := Lib.hid CO
      have hIN : I1 ≤ N := by omega
      have hIac : (I1 : Int) ≤ (ac : Int) := by omega
      unfold maxLen at g2
      clear hc hls hbs hD hE hSO hn hm' hX hx hO hBF hBI hr hri hix hlen hI hfi
      rcases hcs with ⟨hD, hE, m', hSO, hOm⟩ | ⟨hD, hE, hSO⟩ | ⟨hD, hE, hSO⟩
      · subst hD hE hSO
        have HOM := Lib.hid hOm
        clear hOm
        go_wp2
        refine wp_region_held_drew (S := fun w' => w'.cell? ⟨q, o + i, none⟩ = some (.string X)) (by kernel_rfl) g3 (fun hH => ?_)
        have HR3 := Lib.hid (HR.out.next (show Below wr.heap.size wr wr.drew from (Below.refl _ _).drew))
        clear g3
        generalize wr.drew = w3 at hH HR3 ⊢
        have s3a : ∀ ob, (w3.alloc ob).cell? ⟨q, o + i, none⟩ = some (.string X) := fun ob => HROW.out _ (HR3.out.next ((Below.refl _ _).alloc (Nat.le_refl _) ob)).row
        replace s3a := s3a (.cells #[.string ⟨#[]⟩, .slice none 0 0, .slice none 0 0] 30)
        refine heldTake (i := 0) (v := ?_) rfl (by kernel_rfl) (by kernel_rfl) (fun _ _ _ h => h) (by rfl) (by assumption) (fun w hSw => ?_) ?_; rotate_left; focus ((try dsimp only at hSw); go_simp; try with_reducible rfl)
        try simp only [Act.put, List.setIfInBounds_toArray, List.set_cons_zero, List.set_cons_succ]
        refine heldTake (i := 1) (v := ?_) rfl (by kernel_rfl) (by kernel_rfl) (fun _ _ _ h => h) (by rfl) (by assumption) (fun w hSw => ?_) ?_; rotate_left; focus ((try dsimp only at hSw); go_simp; try with_reducible rfl)
        try simp only [Act.put, List.setIfInBounds_toArray, List.set_cons_zero, List.set_cons_succ]
        refine heldTake (i := 2) (v := ?_) rfl (by kernel_rfl) (by kernel_rfl) (fun _ _ _ h => h) (by rfl) (by assumption) (fun w hSw => ?_) ?_; rotate_left; focus ((try dsimp only at hSw); go_simp; try with_reducible rfl)
        try simp only [Act.put, List.setIfInBounds_toArray, List.set_cons_zero, List.set_cons_succ]
        refine heldTake (i := 3) (v := ?_) rfl (by kernel_rfl) (by kernel_rfl) (fun _ _ _ h => h) (by rfl) (by assumption) (fun w hSw => ?_) ?_; rotate_left; focus ((try dsimp only at hSw); go_simp; try with_reducible rfl)
        try simp only [Act.put, List.setIfInBounds_toArray, List.set_cons_zero, List.set_cons_succ]
        refine heldTake (i := 4) (v := ?_) rfl (by kernel_rfl) (by kernel_rfl) (fun _ _ _ h => h) (by rfl) (by assumption) (fun w hSw => ?_) ?_; rotate_left; focus ((try dsimp only at hSw); go_simp; try with_reducible rfl)
        try simp only [Act.put, List.setIfInBounds_toArray, List.set_cons_zero, List.set_cons_succ]
        refine heldTake (i := 5) (v := ?_) rfl (by kernel_rfl) (by kernel_rfl) (fun _ _ _ h => h) (by rfl) (by assumption) (fun w hSw => ?_) ?_; rotate_left; focus ((try dsimp only at hSw); go_simp; try with_reducible rfl)
        try simp only [Act.put, List.setIfInBounds_toArray, List.set_cons_zero, List.set_cons_succ]
        refine heldTake (i := 6) (v := ?_) rfl (by kernel_rfl) (by kernel_rfl) (fun _ _ _ h => h) (by rfl) (by assumption) (fun w hSw => ?_) ?_; rotate_left; focus ((try dsimp only at hSw); go_simp; try with_reducible rfl)
        try simp only [Act.put, List.setIfInBounds_toArray, List.set_cons_zero, List.set_cons_succ]
        refine heldTake (i := 7) (v := ?_) rfl (by kernel_rfl) (by kernel_rfl) (fun _ _ _ h => h) (by rfl) (by assumption) (fun w hSw => ?_) ?_; rotate_left; focus ((try dsimp only at hSw); go_simp; try with_reducible rfl)
        try simp only [Act.put, List.setIfInBounds_toArray, List.set_cons_zero, List.set_cons_succ]
        refine heldTake (i := 8) (v := ?_) rfl (by kernel_rfl) (by kernel_rfl) (fun _ _ _ h => h) (by rfl) (by assumption) (fun w hSw => ?_) ?_; rotate_left; focus ((try dsimp only at hSw); go_simp; try with_reducible rfl)
        try simp only [Act.put, List.setIfInBounds_toArray, List.set_cons_zero, List.set_cons_succ]
        refine heldTake (i := 9) (v := ?_) rfl (by kernel_rfl) (by kernel_rfl) (fun _ _ _ h => h) (by rfl) (by assumption) (fun w hSw => ?_) ?_; rotate_left; focus ((try dsimp only at hSw); go_simp; try with_reducible rfl)
        try simp only [Act.put, List.setIfInBounds_toArray, List.set_cons_zero, List.set_cons_succ]
        refine heldTake (i := 10) (v := ?_) rfl (by kernel_rfl) (by kernel_rfl) (fun _ _ _ h => h) (by rfl) (by assumption) (fun w hSw => ?_) ?_; rotate_left; focus ((try dsimp only at hSw); go_simp; try with_reducible rfl)
        try simp only [Act.put, List.setIfInBounds_toArray, List.set_cons_zero, List.set_cons_succ]
        -- TWO 11 Op.call { callee := Callee.value (Operand.func 12), args := #[Operand.tmp 44, Op | 16 Op.alloc 30
        refine heldTwo (i := 11) (j := 16) rfl rfl (by kernel_rfl) (by rfl) (by rfl) (fun K hK => ?_) (fun K hK => ?_)
        · go_simp
          go_at_call 12
          first
            | (refine (CB.out _ HR3.out).mono ?_; rintro e w6 ⟨F6, lo, lc, bo, bc, rfl, M6, P6⟩; have s6 := HROW.out _ M6.r; have s6a := HROW.out _ (M6.next ((Below.refl w6.heap.size w6).alloc (Nat.le_refl _) (.cells #[.string ⟨#[]⟩, .slice none 0 0, .slice none 0 0] 30))).r)
            | (refine (CA.out _ HR3.out).mono ?_; rintro e w6 ⟨F6, lo, lc, bo, bc, rfl, P7⟩; have s6 := HROW.out _ P7.m.r)
          first | (refine hK.out _ _ s6 ?_) | (go_wp2_with fail; refine hK.out _ _ s6 ?_)
          clear hK K
          try simp only [Act.put, List.setIfInBounds_toArray, List.set_cons_zero, List.set_cons_succ]
          refine heldTake (i := 12) (v := ?_) rfl (by kernel_rfl) (by kernel_rfl) (fun _ _ _ h => h) (by rfl) (by assumption) (fun w hSw => ?_) ?_; rotate_left; focus ((try dsimp only at hSw); go_simp; try with_reducible rfl)
          try simp only [Act.put, List.setIfInBounds_toArray, List.set_cons_zero, List.set_cons_succ]
          refine heldTake (i := 13) (v := ?_) rfl (by kernel_rfl) (by kernel_rfl) (fun _ _ _ h => h) (by rfl) (by assumption) (fun w hSw => ?_) ?_; rotate_left; focus ((try dsimp only at hSw); go_simp; try with_reducible rfl)
          try simp only [Act.put, List.setIfInBounds_toArray, List.set_cons_zero, List.set_cons_succ]
          refine heldTake (i := 14) (v := ?_) rfl (by kernel_rfl) (by kernel_rfl) (fun _ _ _ h => h) (by rfl) (by assumption) (fun w hSw => ?_) ?_; rotate_left; focus ((try dsimp only at hSw); go_simp; try with_reducible rfl)
          try simp only [Act.put, List.setIfInBounds_toArray, List.set_cons_zero, List.set_cons_succ]
          refine heldTake (i := 15) (v := ?_) rfl (by kernel_rfl) (by kernel_rfl) (fun _ _ _ h => h) (by rfl) (by assumption) (fun w hSw => ?_) ?_; rotate_left; focus ((try dsimp only at hSw); go_simp; try with_reducible rfl)
          try simp only [Act.put, List.setIfInBounds_toArray, List.set_cons_zero, List.set_cons_succ]
          -- NEXT 16 Op.alloc 30
          refine heldNext (i := 16) rfl (by kernel_rfl) (by rfl) (fun K hK => ?_)
          go_simp
          first | (refine hK.out _ _ s6a ?_) | (refine hK.out _ _ s3a ?_)
          clear hK K
          try simp only [Act.put, List.setIfInBounds_toArray, List.set_cons_zero, List.set_cons_succ]
          -- NEXT 17 Op.store 30 (Operand.tmp 12) (Operand.tmp 56)
          refine heldNext (i := 17) rfl (by kernel_rfl) (by rfl) (fun K hK => ?_)
          first
            | (have P8 := P6 c; have s8 := HROW.out _ P8.m.r; go_simp; refine hK.out _ _ s8 ?_; clear hK K)
            | (have P8 := P7.done c; have s8 := HROW.out _ P8.m.r; have k0 := P7.r.c0; have k1 := P7.r.c1; have k2 := P7.r.c2; have kf0 := P7.r.fr 0; have kf1 := P7.r.fr 1; have kf2 := P7.r.fr 2; go_simp; refine hK.out _ _ s8 ?_; clear hK K k0 k1 k2 kf0 kf1 kf2)
          try simp only [Act.put, List.setIfInBounds_toArray, List.set_cons_zero, List.set_cons_succ]
          refine heldTake (i := 18) (v := ?_) rfl (by kernel_rfl) (by kernel_rfl) (fun _ _ _ h => h) (by rfl) (by assumption) (fun w hSw => ?_) ?_; rotate_left; focus ((try dsimp only at hSw); go_simp; try with_reducible rfl)
          try simp only [Act.put, List.setIfInBounds_toArray, List.set_cons_zero, List.set_cons_succ]
          refine heldTake (i := 19) (v := ?_) rfl (by kernel_rfl) (by kernel_rfl) (fun _ _ _ h => h) (by rfl) (by assumption) (fun w hSw => ?_) ?_; rotate_left; focus ((try dsimp only at hSw); go_simp; try with_reducible rfl)
          try simp only [Act.put, List.setIfInBounds_toArray, List.set_cons_zero, List.set_cons_succ]
          refine wpAnyH_done (by kernel_rfl) ?_ _
          simp only [Exit.then]
          first | (clear P7; generalize hwz : World.setCell _ _ _ = wz at P8 s8 ⊢) | (clear P6; generalize hwz : World.alloc _ _ = wz at P8 s8 ⊢)
          clear hwz s8
          
          go_wp2_with fail
          refine (CO.out _ _ _ P8.m).mono ?_
          rintro e w7 ⟨lo', lc', bo', bc', rfl, hl7, hb7, hw7⟩
          have hal := (Below.refl w7.heap.size w7).alloc (Nat.le_refl _) (.cells #[.string c, .slice lo' n lc', .slice bo' m bc'] 30)
          have hw : Rb (w7.alloc (.cells #[.string c, .slice lo' n lc', .slice bo' m bc'] 30)) w7.heap.size c (.slice lo' n lc') (.slice bo' m bc') := World.alloc_heap_new w7 _
          have P9 := (P8.next hw7).next hal
          have C9 := Lib.hid (CS.out _ _ _ _ _ _ _ _ _ P9.dl (hl7.below hal) P9.db (hb7.below hal))
          have r0 := P9.r.c0
          have r1 := P9.r.c1
          have r2 := P9.r.c2
          have v0 := hw.c0
          have v1 := hw.c1
          have v2 := hw.c2
          have HP9 := Lib.hid P9
          clear P8 P9 hw hl7 hb7 hw7 hal CO CS CA CB
          go_wp2_with fail
          refine C9.out.mono ?_
          rintro e w8 ⟨rfl, hb8⟩
          have P10 := HP9.out.next hb8
          have CBU := Lib.hid P10.m.m.busy
          have HM8 := Lib.hid P10.m
          clear P10 HP9 C9 r0 r1 r2 v0 v1 v2 hb8
          
          go_wp2_with (go_at_call 15; refine CBU.out.mono ?_; rintro e w9 ⟨rfl, hw⟩; rw [← hw]; clear hw)
          go_roundw
          case rel => exact ⟨f, I1, hIN, rfl, by first | rfl | go_num, by rw [HI.out]; exact HMORE.out _ HOM.out _ _ HM8.out⟩
          case measure => have := HI.out; simp [intOf]; omega
        · go_simp
          first | (refine hK.out _ _ s6a ?_) | (refine hK.out _ _ s3a ?_)
          clear hK K
          try simp only [Act.put, List.setIfInBounds_toArray, List.set_cons_zero, List.set_cons_succ]
          -- NEXT 11 Op.call { callee := Callee.value (Operand.func 12), args := #[Operand.tmp 44, Operand.tmp 48, Operand.tmp 54],
          refine heldNext (i := 11) rfl (by kernel_rfl) (by rfl) (fun K hK => ?_)
          go_simp
          go_at_call 12
          first
            | (refine (CB.out _ HR3.out).mono ?_; rintro e w6 ⟨F6, lo, lc, bo, bc, rfl, M6, P6⟩; have s6 := HROW.out _ M6.r; have s6a := HROW.out _ (M6.next ((Below.refl w6.heap.size w6).alloc (Nat.le_refl _) (.cells #[.string ⟨#[]⟩, .slice none 0 0, .slice none 0 0] 30))).r)
            | (refine (CA.out _ HR3.out).mono ?_; rintro e w6 ⟨F6, lo, lc, bo, bc, rfl, P7⟩; have s6 := HROW.out _ P7.m.r)
          first | (refine hK.out _ _ s6 ?_) | (go_wp2_with fail; refine hK.out _ _ s6 ?_)
          clear hK K
          try simp only [Act.put, List.setIfInBounds_toArray, List.set_cons_zero, List.set_cons_succ]
          refine heldTake (i := 12) (v := ?_) rfl (by kernel_rfl) (by kernel_rfl) (fun _ _ _ h => h) (by rfl) (by assumption) (fun w hSw => ?_) ?_; rotate_left; focus ((try dsimp only at hSw); go_simp; try with_reducible rfl)
          try simp only [Act.put, List.setIfInBounds_toArray, List.set_cons_zero, List.set_cons_succ]
          refine heldTake (i := 13) (v := ?_) rfl (by kernel_rfl) (by kernel_rfl) (fun _ _ _ h => h) (by rfl) (by assumption) (fun w hSw => ?_) ?_; rotate_left; focus ((try dsimp only at hSw); go_simp; try with_reducible rfl)
          try simp only [Act.put, List.setIfInBounds_toArray, List.set_cons_zero, List.set_cons_succ]
          refine heldTake (i := 14) (v := ?_) rfl (by kernel_rfl) (by kernel_rfl) (fun _ _ _ h => h) (by rfl) (by assumption) (fun w hSw => ?_) ?_; rotate_left; focus ((try dsimp only at hSw); go_simp; try with_reducible rfl)
          try simp only [Act.put, List.setIfInBounds_toArray, List.set_cons_zero, List.set_cons_succ]
          refine heldTake (i := 15) (v := ?_) rfl (by kernel_rfl) (by kernel_rfl) (fun _ _ _ h => h) (by rfl) (by assumption) (fun w hSw => ?_) ?_; rotate_left; focus ((try dsimp only at hSw); go_simp; try with_reducible rfl)
          try simp only [Act.put, List.setIfInBounds_toArray, List.set_cons_zero, List.set_cons_succ]
          -- NEXT 17 Op.store 30 (Operand.tmp 12) (Operand.tmp 56)
          refine heldNext (i := 17) rfl (by kernel_rfl) (by rfl) (fun K hK => ?_)
          first
            | (have P8 := P6 c; have s8 := HROW.out _ P8.m.r; go_simp; refine hK.out _ _ s8 ?_; clear hK K)
            | (have P8 := P7.done c; have s8 := HROW.out _ P8.m.r; have k0 := P7.r.c0; have k1 := P7.r.c1; have k2 := P7.r.c2; have kf0 := P7.r.fr 0; have kf1 := P7.r.fr 1; have kf2 := P7.r.fr 2; go_simp; refine hK.out _ _ s8 ?_; clear hK K k0 k1 k2 kf0 kf1 kf2)
          try simp only [Act.put, List.setIfInBounds_toArray, List.set_cons_zero, List.set_cons_succ]
          refine heldTake (i := 18) (v := ?_) rfl (by kernel_rfl) (by kernel_rfl) (fun _ _ _ h => h) (by rfl) (by assumption) (fun w hSw => ?_) ?_; rotate_left; focus ((try dsimp only at hSw); go_simp; try with_reducible rfl)
          try simp only [Act.put, List.setIfInBounds_toArray, List.set_cons_zero, List.set_cons_succ]
          refine heldTake (i := 19) (v := ?_) rfl (by kernel_rfl) (by kernel_rfl) (fun _ _ _ h => h) (by rfl) (by assumption) (fun w hSw => ?_) ?_; rotate_left; focus ((try dsimp only at hSw); go_simp; try with_reducible rfl)
          try simp only [Act.put, List.setIfInBounds_toArray, List.set_cons_zero, List.set_cons_succ]
          refine wpAnyH_done (by kernel_rfl) ?_ _
          simp only [Exit.then]
          first | (clear P7; generalize hwz : World.setCell _ _ _ = wz at P8 s8 ⊢) | (clear P6; generalize hwz : World.alloc _ _ = wz at P8 s8 ⊢)
          clear hwz s8
          
          go_wp2_with fail
          refine (CO.out _ _ _ P8.m).mono ?_
          rintro e w7 ⟨lo', lc', bo', bc', rfl, hl7, hb7, hw7⟩
          have hal := (Below.refl w7.heap.size w7).alloc (Nat.le_refl _) (.cells #[.string c, .slice lo' n lc', .slice bo' m bc'] 30)
          have hw : Rb (w7.alloc (.cells #[.string c, .slice lo' n lc', .slice bo' m bc'] 30)) w7.heap.size c (.slice lo' n lc') (.slice bo' m bc') := World.alloc_heap_new w7 _
          have P9 := (P8.next hw7).next hal
          have C9 := Lib.hid (CS.out _ _ _ _ _ _ _ _ _ P9.dl (hl7.below hal) P9.db (hb7.below hal))
          have r0 := P9.r.c0
          have r1 := P9.r.c1
          have r2 := P9.r.c2
          have v0 := hw.c0
          have v1 := hw.c1
          have v2 := hw.c2
          have HP9 := Lib.hid P9
          clear P8 P9 hw hl7 hb7 hw7 hal CO CS CA CB
          go_wp2_with fail
          refine C9.out.mono ?_
          rintro e w8 ⟨rfl, hb8⟩
          have P10 := HP9.out.next hb8
          have CBU := Lib.hid P10.m.m.busy
          have HM8 := Lib.hid P10.m
          clear P10 HP9 C9 r0 r1 r2 v0 v1 v2 hb8
          
          go_wp2_with (go_at_call 15; refine CBU.out.mono ?_; rintro e w9 ⟨rfl, hw⟩; rw [← hw]; clear hw)
          go_roundw
          case rel => exact ⟨f, I1, hIN, rfl, by first | rfl | go_num, by rw [HI.out]; exact HMORE.out _ HOM.out _ _ HM8.out⟩
          case measure => have := HI.out; simp [intOf]; omega

      · subst hD hE hSO
        go_wp2
        refine wp_region_held_drew (S := fun w' => w'.cell? ⟨q, o + i, none⟩ = some (.string X)) (by kernel_rfl) g3 (fun hH => ?_)
        have HR3 := Lib.hid (HR.out.next (show Below wr.heap.size wr wr.drew from (Below.refl _ _).drew))
        clear g3
        generalize wr.drew = w3 at hH HR3 ⊢
        have s3a : ∀ ob, (w3.alloc ob).cell? ⟨q, o + i, none⟩ = some (.string X) := fun ob => HROW.out _ (HR3.out.next ((Below.refl _ _).alloc (Nat.le_refl _) ob)).row
        replace s3a := s3a (.cells #[.string ⟨#[]⟩, .slice none 0 0, .slice none 0 0] 30)
        refine heldTake (i := 0) (v := ?_) rfl (by kernel_rfl) (by kernel_rfl) (fun _ _ _ h => h) (by rfl) (by assumption) (fun w hSw => ?_) ?_; rotate_left; focus ((try dsimp only at hSw); go_simp; try with_reducible rfl)
        try simp only [Act.put, List.setIfInBounds_toArray, List.set_cons_zero, List.set_cons_succ]
        refine heldTake (i := 1) (v := ?_) rfl (by kernel_rfl) (by kernel_rfl) (fun _ _ _ h => h) (by rfl) (by assumption) (fun w hSw => ?_) ?_; rotate_left; focus ((try dsimp only at hSw); go_simp; try with_reducible rfl)
        try simp only [Act.put, List.setIfInBounds_toArray, List.set_cons_zero, List.set_cons_succ]
        refine heldTake (i := 2) (v := ?_) rfl (by kernel_rfl) (by kernel_rfl) (fun _ _ _ h => h) (by rfl) (by assumption) (fun w hSw => ?_) ?_; rotate_left; focus ((try dsimp only at hSw); go_simp; try with_reducible rfl)
        try simp only [Act.put, List.setIfInBounds_toArray, List.set_cons_zero, List.set_cons_succ]
        refine heldTake (i := 3) (v := ?_) rfl (by kernel_rfl) (by kernel_rfl) (fun _ _ _ h => h) (by rfl) (by assumption) (fun w hSw => ?_) ?_; rotate_left; focus ((try dsimp only at hSw); go_simp; try with_reducible rfl)
        try simp only [Act.put, List.setIfInBounds_toArray, List.set_cons_zero, List.set_cons_succ]
        refine heldTake (i := 4) (v := ?_) rfl (by kernel_rfl) (by kernel_rfl) (fun _ _ _ h => h) (by rfl) (by assumption) (fun w hSw => ?_) ?_; rotate_left; focus ((try dsimp only at hSw); go_simp; try with_reducible rfl)
        try simp only [Act.put, List.setIfInBounds_toArray, List.set_cons_zero, List.set_cons_succ]
        refine heldTake (i := 5) (v := ?_) rfl (by kernel_rfl) (by kernel_rfl) (fun _ _ _ h => h) (by rfl) (by assumption) (fun w hSw => ?_) ?_; rotate_left; focus ((try dsimp only at hSw); go_simp; try with_reducible rfl)
        try simp only [Act.put, List.setIfInBounds_toArray, List.set_cons_zero, List.set_cons_succ]
        refine heldTake (i := 6) (v := ?_) rfl (by kernel_rfl) (by kernel_rfl) (fun _ _ _ h => h) (by rfl) (by assumption) (fun w hSw => ?_) ?_; rotate_left; focus ((try dsimp only at hSw); go_simp; try with_reducible rfl)
        try simp only [Act.put, List.setIfInBounds_toArray, List.set_cons_zero, List.set_cons_succ]
        refine heldTake (i := 7) (v := ?_) rfl (by kernel_rfl) (by kernel_rfl) (fun _ _ _ h => h) (by rfl) (by assumption) (fun w hSw => ?_) ?_; rotate_left; focus ((try dsimp only at hSw); go_simp; try with_reducible rfl)
        try simp only [Act.put, List.setIfInBounds_toArray, List.set_cons_zero, List.set_cons_succ]
        refine heldTake (i := 8) (v := ?_) rfl (by kernel_rfl) (by kernel_rfl) (fun _ _ _ h => h) (by rfl) (by assumption) (fun w hSw => ?_) ?_; rotate_left; focus ((try dsimp only at hSw); go_simp; try with_reducible rfl)
        try simp only [Act.put, List.setIfInBounds_toArray, List.set_cons_zero, List.set_cons_succ]
        refine heldTake (i := 9) (v := ?_) rfl (by kernel_rfl) (by kernel_rfl) (fun _ _ _ h => h) (by rfl) (by assumption) (fun w hSw => ?_) ?_; rotate_left; focus ((try dsimp only at hSw); go_simp; try with_reducible rfl)
        try simp only [Act.put, List.setIfInBounds_toArray, List.set_cons_zero, List.set_cons_succ]
        refine heldTake (i := 10) (v := ?_) rfl (by kernel_rfl) (by kernel_rfl) (fun _ _ _ h => h) (by rfl) (by assumption) (fun w hSw => ?_) ?_; rotate_left; focus ((try dsimp only at hSw); go_simp; try with_reducible rfl)
        try simp only [Act.put, List.setIfInBounds_toArray, List.set_cons_zero, List.set_cons_succ]
        -- TWO 11 Op.call { callee := Callee.value (Operand.func 12), args := #[Operand.tmp 44, Op | 16 Op.alloc 30
        refine heldTwo (i := 11) (j := 16) rfl rfl (by kernel_rfl) (by rfl) (by rfl) (fun K hK => ?_) (fun K hK => ?_)
        · go_simp
          go_at_call 12
          first
            | (refine (CB.out _ HR3.out).mono ?_; rintro e w6 ⟨F6, lo, lc, bo, bc, rfl, M6, P6⟩; have s6 := HROW.out _ M6.r; have s6a := HROW.out _ (M6.next ((Below.refl w6.heap.size w6).alloc (Nat.le_refl _) (.cells #[.string ⟨#[]⟩, .slice none 0 0, .slice none 0 0] 30))).r)
            | (refine (CA.out _ HR3.out).mono ?_; rintro e w6 ⟨F6, lo, lc, bo, bc, rfl, P7⟩; have s6 := HROW.out _ P7.m.r)
          first | (refine hK.out _ _ s6 ?_) | (go_wp2_with fail; refine hK.out _ _ s6 ?_)
          clear hK K
          try simp only [Act.put, List.setIfInBounds_toArray, List.set_cons_zero, List.set_cons_succ]
          refine heldTake (i := 12) (v := ?_) rfl (by kernel_rfl) (by kernel_rfl) (fun _ _ _ h => h) (by rfl) (by assumption) (fun w hSw => ?_) ?_; rotate_left; focus ((try dsimp only at hSw); go_simp; try with_reducible rfl)
          try simp only [Act.put, List.setIfInBounds_toArray, List.set_cons_zero, List.set_cons_succ]
          refine heldTake (i := 13) (v := ?_) rfl (by kernel_rfl) (by kernel_rfl) (fun _ _ _ h => h) (by rfl) (by assumption) (fun w hSw => ?_) ?_; rotate_left; focus ((try dsimp only at hSw); go_simp; try with_reducible rfl)
          try simp only [Act.put, List.setIfInBounds_toArray, List.set_cons_zero, List.set_cons_succ]
          refine heldTake (i := 14) (v := ?_) rfl (by kernel_rfl) (by kernel_rfl) (fun _ _ _ h => h) (by rfl) (by assumption) (fun w hSw => ?_) ?_; rotate_left; focus ((try dsimp only at hSw); go_simp; try with_reducible rfl)
          try simp only [Act.put, List.setIfInBounds_toArray, List.set_cons_zero, List.set_cons_succ]
          refine heldTake (i := 15) (v := ?_) rfl (by kernel_rfl) (by kernel_rfl) (fun _ _ _ h => h) (by rfl) (by assumption) (fun w hSw => ?_) ?_; rotate_left; focus ((try dsimp only at hSw); go_simp; try with_reducible rfl)
          try simp only [Act.put, List.setIfInBounds_toArray, List.set_cons_zero, List.set_cons_succ]
          -- NEXT 16 Op.alloc 30
          refine heldNext (i := 16) rfl (by kernel_rfl) (by rfl) (fun K hK => ?_)
          go_simp
          first | (refine hK.out _ _ s6a ?_) | (refine hK.out _ _ s3a ?_)
          clear hK K
          try simp only [Act.put, List.setIfInBounds_toArray, List.set_cons_zero, List.set_cons_succ]
          -- NEXT 17 Op.store 30 (Operand.tmp 12) (Operand.tmp 56)
          refine heldNext (i := 17) rfl (by kernel_rfl) (by rfl) (fun K hK => ?_)
          first
            | (have P8 := P6 c; have s8 := HROW.out _ P8.m.r; go_simp; refine hK.out _ _ s8 ?_; clear hK K)
            | (have P8 := P7.done c; have s8 := HROW.out _ P8.m.r; have k0 := P7.r.c0; have k1 := P7.r.c1; have k2 := P7.r.c2; have kf0 := P7.r.fr 0; have kf1 := P7.r.fr 1; have kf2 := P7.r.fr 2; go_simp; refine hK.out _ _ s8 ?_; clear hK K k0 k1 k2 kf0 kf1 kf2)
          try simp only [Act.put, List.setIfInBounds_toArray, List.set_cons_zero, List.set_cons_succ]
          refine heldTake (i := 18) (v := ?_) rfl (by kernel_rfl) (by kernel_rfl) (fun _ _ _ h => h) (by rfl) (by assumption) (fun w hSw => ?_) ?_; rotate_left; focus ((try dsimp only at hSw); go_simp; try with_reducible rfl)
          try simp only [Act.put, List.setIfInBounds_toArray, List.set_cons_zero, List.set_cons_succ]
          refine heldTake (i := 19) (v := ?_) rfl (by kernel_rfl) (by kernel_rfl) (fun _ _ _ h => h) (by rfl) (by assumption) (fun w hSw => ?_) ?_; rotate_left; focus ((try dsimp only at hSw); go_simp; try with_reducible rfl)
          try simp only [Act.put, List.setIfInBounds_toArray, List.set_cons_zero, List.set_cons_succ]
          refine wpAnyH_done (by kernel_rfl) ?_ _
          simp only [Exit.then]
          first | (clear P7; generalize hwz : World.setCell _ _ _ = wz at P8 s8 ⊢) | (clear P6; generalize hwz : World.alloc _ _ = wz at P8 s8 ⊢)
          clear hwz s8
          
          go_wp2_with fail
          refine (CO.out _ _ _ P8.m).mono ?_
          rintro e w7 ⟨lo', lc', bo', bc', rfl, hl7, hb7, hw7⟩
          have hal := (Below.refl w7.heap.size w7).alloc (Nat.le_refl _) (.cells #[.string c, .slice lo' n lc', .slice bo' m bc'] 30)
          have hw : Rb (w7.alloc (.cells #[.string c, .slice lo' n lc', .slice bo' m bc'] 30)) w7.heap.size c (.slice lo' n lc') (.slice bo' m bc') := World.alloc_heap_new w7 _
          have P9 := (P8.next hw7).next hal
          have C9 := Lib.hid (CS.out _ _ _ _ _ _ _ _ _ P9.dl (hl7.below hal) P9.db (hb7.below hal))
          have r0 := P9.r.c0
          have r1 := P9.r.c1
          have r2 := P9.r.c2
          have v0 := hw.c0
          have v1 := hw.c1
          have v2 := hw.c2
          have HP9 := Lib.hid P9
          clear P8 P9 hw hl7 hb7 hw7 hal CO CS CA CB
          go_wp2_with fail
          refine C9.out.mono ?_
          rintro e w8 ⟨rfl, hb8⟩
          have P10 := HP9.out.next hb8
          have CBU := Lib.hid P10.m.m.busy
          have HM8 := Lib.hid P10.m
          clear P10 HP9 C9 r0 r1 r2 v0 v1 v2 hb8
          
          go_wp2_with (go_at_call 15; refine CBU.out.mono ?_; rintro e w9 ⟨rfl, hw⟩; rw [← hw]; clear hw)
          go_roundw
          case rel => exact ⟨I1, I1, hIN, rfl, by first | rfl | go_num, NPl.anew HM8.out _⟩
          case measure => have := HI.out; simp [intOf]; omega
        · go_simp
          first | (refine hK.out _ _ s6a ?_) | (refine hK.out _ _ s3a ?_)
          clear hK K
          try simp only [Act.put, List.setIfInBounds_toArray, List.set_cons_zero, List.set_cons_succ]
          -- NEXT 11 Op.call { callee := Callee.value (Operand.func 12), args := #[Operand.tmp 44, Operand.tmp 48, Operand.tmp 54],
          refine heldNext (i := 11) rfl (by kernel_rfl) (by rfl) (fun K hK => ?_)
          go_simp
          go_at_call 12
          first
            | (refine (CB.out _ HR3.out).mono ?_; rintro e w6 ⟨F6, lo, lc, bo, bc, rfl, M6, P6⟩; have s6 := HROW.out _ M6.r; have s6a := HROW.out _ (M6.next ((Below.refl w6.heap.size w6).alloc (Nat.le_refl _) (.cells #[.string ⟨#[]⟩, .slice none 0 0, .slice none 0 0] 30))).r)
            | (refine (CA.out _ HR3.out).mono ?_; rintro e w6 ⟨F6, lo, lc, bo, bc, rfl, P7⟩; have s6 := HROW.out _ P7.m.r)
          first | (refine hK.out _ _ s6 ?_) | (go_wp2_with fail; refine hK.out _ _ s6 ?_)
          clear hK K
          try simp only [Act.put, List.setIfInBounds_toArray, List.set_cons_zero, List.set_cons_succ]
          refine heldTake (i := 12) (v := ?_) rfl (by kernel_rfl) (by kernel_rfl) (fun _ _ _ h => h) (by rfl) (by assumption) (fun w hSw => ?_) ?_; rotate_left; focus ((try dsimp only at hSw); go_simp; try with_reducible rfl)
          try simp only [Act.put, List.setIfInBounds_toArray, List.set_cons_zero, List.set_cons_succ]
          refine heldTake (i := 13) (v := ?_) rfl (by kernel_rfl) (by kernel_rfl) (fun _ _ _ h => h) (by rfl) (by assumption) (fun w hSw => ?_) ?_; rotate_left; focus ((try dsimp only at hSw); go_simp; try with_reducible rfl)
          try simp only [Act.put, List.setIfInBounds_toArray, List.set_cons_zero, List.set_cons_succ]
          refine heldTake (i := 14) (v := ?_) rfl (by kernel_rfl) (by kernel_rfl) (fun _ _ _ h => h) (by rfl) (by assumption) (fun w hSw => ?_) ?_; rotate_left; focus ((try dsimp only at hSw); go_simp; try with_reducible rfl)
          try simp only [Act.put, List.setIfInBounds_toArray, List.set_cons_zero, List.set_cons_succ]
          refine heldTake (i := 15) (v := ?_) rfl (by kernel_rfl) (by kernel_rfl) (fun _ _ _ h => h) (by rfl) (by assumption) (fun w hSw => ?_) ?_; rotate_left; focus ((try dsimp only at hSw); go_simp; try with_reducible rfl)
          try simp only [Act.put, List.setIfInBounds_toArray, List.set_cons_zero, List.set_cons_succ]
          -- NEXT 17 Op.store 30 (Operand.tmp 12) (Operand.tmp 56)
          refine heldNext (i := 17) rfl (by kernel_rfl) (by rfl) (fun K hK => ?_)
          first
            | (have P8 := P6 c; have s8 := HROW.out _ P8.m.r; go_simp; refine hK.out _ _ s8 ?_; clear hK K)
            | (have P8 := P7.done c; have s8 := HROW.out _ P8.m.r; have k0 := P7.r.c0; have k1 := P7.r.c1; have k2 := P7.r.c2; have kf0 := P7.r.fr 0; have kf1 := P7.r.fr 1; have kf2 := P7.r.fr 2; go_simp; refine hK.out _ _ s8 ?_; clear hK K k0 k1 k2 kf0 kf1 kf2)
          try simp only [Act.put, List.setIfInBounds_toArray, List.set_cons_zero, List.set_cons_succ]
          refine heldTake (i := 18) (v := ?_) rfl (by kernel_rfl) (by kernel_rfl) (fun _ _ _ h => h) (by rfl) (by assumption) (fun w hSw => ?_) ?_; rotate_left; focus ((try dsimp only at hSw); go_simp; try with_reducible rfl)
          try simp only [Act.put, List.setIfInBounds_toArray, List.set_cons_zero, List.set_cons_succ]
          refine heldTake (i := 19) (v := ?_) rfl (by kernel_rfl) (by kernel_rfl) (fun _ _ _ h => h) (by rfl) (by assumption) (fun w hSw => ?_) ?_; rotate_left; focus ((try dsimp only at hSw); go_simp; try with_reducible rfl)
          try simp only [Act.put, List.setIfInBounds_toArray, List.set_cons_zero, List.set_cons_succ]
          refine wpAnyH_done (by kernel_rfl) ?_ _
          simp only [Exit.then]
          first | (clear P7; generalize hwz : World.setCell _ _ _ = wz at P8 s8 ⊢) | (clear P6; generalize hwz : World.alloc _ _ = wz at P8 s8 ⊢)
          clear hwz s8
          
          go_wp2_with fail
          refine (CO.out _ _ _ P8.m).mono ?_
          rintro e w7 ⟨lo', lc', bo', bc', rfl, hl7, hb7, hw7⟩
          have hal := (Below.refl w7.heap.size w7).alloc (Nat.le_refl _) (.cells #[.string c, .slice lo' n lc', .slice bo' m bc'] 30)
          have hw : Rb (w7.alloc (.cells #[.string c, .slice lo' n lc', .slice bo' m bc'] 30)) w7.heap.size c (.slice lo' n lc') (.slice bo' m bc') := World.alloc_heap_new w7 _
          have P9 := (P8.next hw7).next hal
          have C9 := Lib.hid (CS.out _ _ _ _ _ _ _ _ _ P9.dl (hl7.below hal) P9.db (hb7.below hal))
          have r0 := P9.r.c0
          have r1 := P9.r.c1
          have r2 := P9.r.c2
          have v0 := hw.c0
          have v1 := hw.c1
          have v2 := hw.c2
          have HP9 := Lib.hid P9
          clear P8 P9 hw hl7 hb7 hw7 hal CO CS CA CB
          go_wp2_with fail
          refine C9.out.mono ?_
          rintro e w8 ⟨rfl, hb8⟩
          have P10 := HP9.out.next hb8
          have CBU := Lib.hid P10.m.m.busy
          have HM8 := Lib.hid P10.m
          clear P10 HP9 C9 r0 r1 r2 v0 v1 v2 hb8
          
          go_wp2_with (go_at_call 15; refine CBU.out.mono ?_; rintro e w9 ⟨rfl, hw⟩; rw [← hw]; clear hw)
          go_roundw
          case rel => exact ⟨I1, I1, hIN, rfl, by first | rfl | go_num, NPl.anew HM8.out _⟩
          case measure => have := HI.out; simp [intOf]; omega

      · subst hD hSO
        have z1 : ((E : Int) == 0) = false := beq_eq_false_iff_ne.2 (by omega)
        have z2 : ((E : Int) = 0) = False := eq_false (by omega)
        have z3 : ((E : Int) != 0) = true := by simp [bne, z1]
        clear hE
        go_wp2
        refine wp_region_held_drew (S := fun w' => w'.cell? ⟨q, o + i, none⟩ = some (.string X)) (by kernel_rfl) g3 (fun hH => ?_)
        have HR3 := Lib.hid (HR.out.next (show Below wr.heap.size wr wr.drew from (Below.refl _ _).drew))
        clear g3
        generalize wr.drew = w3 at hH HR3 ⊢
        have s3a : ∀ ob, (w3.alloc ob).cell? ⟨q, o + i, none⟩ = some (.string X) := fun ob => HROW.out _ (HR3.out.next ((Below.refl _ _).alloc (Nat.le_refl _) ob)).row
        replace s3a := s3a (.cells #[.string ⟨#[]⟩, .slice none 0 0, .slice none 0 0] 30)
        refine heldTake (i := 0) (v := ?_) rfl (by kernel_rfl) (by kernel_rfl) (fun _ _ _ h => h) (by rfl) (by assumption) (fun w hSw => ?_) ?_; rotate_left; focus ((try dsimp only at hSw); go_simp; try with_reducible rfl)
        try simp only [Act.put, List.setIfInBounds_toArray, List.set_cons_zero, List.set_cons_succ]
        refine heldTake (i := 1) (v := ?_) rfl (by kernel_rfl) (by kernel_rfl) (fun _ _ _ h => h) (by rfl) (by assumption) (fun w hSw => ?_) ?_; rotate_left; focus ((try dsimp only at hSw); go_simp; try with_reducible rfl)
        try simp only [Act.put, List.setIfInBounds_toArray, List.set_cons_zero, List.set_cons_succ]
        refine heldTake (i := 2) (v := ?_) rfl (by kernel_rfl) (by kernel_rfl) (fun _ _ _ h => h) (by rfl) (by assumption) (fun w hSw => ?_) ?_; rotate_left; focus ((try dsimp only at hSw); go_simp; try with_reducible rfl)
        try simp only [Act.put, List.setIfInBounds_toArray, List.set_cons_zero, List.set_cons_succ]
        refine heldTake (i := 3) (v := ?_) rfl (by kernel_rfl) (by kernel_rfl) (fun _ _ _ h => h) (by rfl) (by assumption) (fun w hSw => ?_) ?_; rotate_left; focus ((try dsimp only at hSw); go_simp; try with_reducible rfl)
        try simp only [Act.put, List.setIfInBounds_toArray, List.set_cons_zero, List.set_cons_succ]
        refine heldTake (i := 4) (v := ?_) rfl (by kernel_rfl) (by kernel_rfl) (fun _ _ _ h => h) (by rfl) (by assumption) (fun w hSw => ?_) ?_; rotate_left; focus ((try dsimp only at hSw); go_simp; try with_reducible rfl)
        try simp only [Act.put, List.setIfInBounds_toArray, List.set_cons_zero, List.set_cons_succ]
        refine heldTake (i := 5) (v := ?_) rfl (by kernel_rfl) (by kernel_rfl) (fun _ _ _ h => h) (by rfl) (by assumption) (fun w hSw => ?_) ?_; rotate_left; focus ((try dsimp only at hSw); go_simp; try with_reducible rfl)
        try simp only [Act.put, List.setIfInBounds_toArray, List.set_cons_zero, List.set_cons_succ]
        refine heldTake (i := 6) (v := ?_) rfl (by kernel_rfl) (by kernel_rfl) (fun _ _ _ h => h) (by rfl) (by assumption) (fun w hSw => ?_) ?_; rotate_left; focus ((try dsimp only at hSw); go_simp; try with_reducible rfl)
        try simp only [Act.put, List.setIfInBounds_toArray, List.set_cons_zero, List.set_cons_succ]
        refine heldTake (i := 7) (v := ?_) rfl (by kernel_rfl) (by kernel_rfl) (fun _ _ _ h => h) (by rfl) (by assumption) (fun w hSw => ?_) ?_; rotate_left; focus ((try dsimp only at hSw); go_simp; try with_reducible rfl)
        try simp only [Act.put, List.setIfInBounds_toArray, List.set_cons_zero, List.set_cons_succ]
        refine heldTake (i := 8) (v := ?_) rfl (by kernel_rfl) (by kernel_rfl) (fun _ _ _ h => h) (by rfl) (by assumption) (fun w hSw => ?_) ?_; rotate_left; focus ((try dsimp only at hSw); go_simp; try with_reducible rfl)
        try simp only [Act.put, List.setIfInBounds_toArray, List.set_cons_zero, List.set_cons_succ]
        refine heldTake (i := 9) (v := ?_) rfl (by kernel_rfl) (by kernel_rfl) (fun _ _ _ h => h) (by rfl) (by assumption) (fun w hSw => ?_) ?_; rotate_left; focus ((try dsimp only at hSw); go_simp; try with_reducible rfl)
        try simp only [Act.put, List.setIfInBounds_toArray, List.set_cons_zero, List.set_cons_succ]
        refine heldTake (i := 10) (v := ?_) rfl (by kernel_rfl) (by kernel_rfl) (fun _ _ _ h => h) (by rfl) (by assumption) (fun w hSw => ?_) ?_; rotate_left; focus ((try dsimp only at hSw); go_simp; try with_reducible rfl)
        try simp only [Act.put, List.setIfInBounds_toArray, List.set_cons_zero, List.set_cons_succ]
        -- TWO 11 Op.call { callee := Callee.value (Operand.func 12), args := #[Operand.tmp 44, Op | 16 Op.alloc 30
        refine heldTwo (i := 11) (j := 16) rfl rfl (by kernel_rfl) (by rfl) (by rfl) (fun K hK => ?_) (fun K hK => ?_)
        · go_simp
          go_at_call 12
          first
            | (refine (CB.out _ HR3.out).mono ?_; rintro e w6 ⟨F6, lo, lc, bo, bc, rfl, M6, P6⟩; have s6 := HROW.out _ M6.r; have s6a := HROW.out _ (M6.next ((Below.refl w6.heap.size w6).alloc (Nat.le_refl _) (.cells #[.string ⟨#[]⟩, .slice none 0 0, .slice none 0 0] 30))).r)
            | (refine (CA.out _ HR3.out).mono ?_; rintro e w6 ⟨F6, lo, lc, bo, bc, rfl, P7⟩; have s6 := HROW.out _ P7.m.r)
          first | (refine hK.out _ _ s6 ?_) | (go_wp2_with fail; refine hK.out _ _ s6 ?_)
          clear hK K
          try simp only [Act.put, List.setIfInBounds_toArray, List.set_cons_zero, List.set_cons_succ]
          refine heldTake (i := 12) (v := ?_) rfl (by kernel_rfl) (by kernel_rfl) (fun _ _ _ h => h) (by rfl) (by assumption) (fun w hSw => ?_) ?_; rotate_left; focus ((try dsimp only at hSw); go_simp; try with_reducible rfl)
          try simp only [Act.put, List.setIfInBounds_toArray, List.set_cons_zero, List.set_cons_succ]
          refine heldTake (i := 13) (v := ?_) rfl (by kernel_rfl) (by kernel_rfl) (fun _ _ _ h => h) (by rfl) (by assumption) (fun w hSw => ?_) ?_; rotate_left; focus ((try dsimp only at hSw); go_simp; try with_reducible rfl)
          try simp only [Act.put, List.setIfInBounds_toArray, List.set_cons_zero, List.set_cons_succ]
          refine heldTake (i := 14) (v := ?_) rfl (by kernel_rfl) (by kernel_rfl) (fun _ _ _ h => h) (by rfl) (by assumption) (fun w hSw => ?_) ?_; rotate_left; focus ((try dsimp only at hSw); go_simp; try with_reducible rfl)
          try simp only [Act.put, List.setIfInBounds_toArray, List.set_cons_zero, List.set_cons_succ]
          refine heldTake (i := 15) (v := ?_) rfl (by kernel_rfl) (by kernel_rfl) (fun _ _ _ h => h) (by rfl) (by assumption) (fun w hSw => ?_) ?_; rotate_left; focus ((try dsimp only at hSw); go_simp; try with_reducible rfl)
          try simp only [Act.put, List.setIfInBounds_toArray, List.set_cons_zero, List.set_cons_succ]
          -- NEXT 16 Op.alloc 30
          refine heldNext (i := 16) rfl (by kernel_rfl) (by rfl) (fun K hK => ?_)
          go_simp
          first | (refine hK.out _ _ s6a ?_) | (refine hK.out _ _ s3a ?_)
          clear hK K
          try simp only [Act.put, List.setIfInBounds_toArray, List.set_cons_zero, List.set_cons_succ]
          -- NEXT 17 Op.store 30 (Operand.tmp 12) (Operand.tmp 56)
          refine heldNext (i := 17) rfl (by kernel_rfl) (by rfl) (fun K hK => ?_)
          first
            | (have P8 := P6 c; have s8 := HROW.out _ P8.m.r; go_simp; refine hK.out _ _ s8 ?_; clear hK K)
            | (have P8 := P7.done c; have s8 := HROW.out _ P8.m.r; have k0 := P7.r.c0; have k1 := P7.r.c1; have k2 := P7.r.c2; have kf0 := P7.r.fr 0; have kf1 := P7.r.fr 1; have kf2 := P7.r.fr 2; go_simp; refine hK.out _ _ s8 ?_; clear hK K k0 k1 k2 kf0 kf1 kf2)
          try simp only [Act.put, List.setIfInBounds_toArray, List.set_cons_zero, List.set_cons_succ]
          refine heldTake (i := 18) (v := ?_) rfl (by kernel_rfl) (by kernel_rfl) (fun _ _ _ h => h) (by rfl) (by assumption) (fun w hSw => ?_) ?_; rotate_left; focus ((try dsimp only at hSw); go_simp; try with_reducible rfl)
          try simp only [Act.put, List.setIfInBounds_toArray, List.set_cons_zero, List.set_cons_succ]
          refine heldTake (i := 19) (v := ?_) rfl (by kernel_rfl) (by kernel_rfl) (fun _ _ _ h => h) (by rfl) (by assumption) (fun w hSw => ?_) ?_; rotate_left; focus ((try dsimp only at hSw); go_simp; try with_reducible rfl)
          try simp only [Act.put, List.setIfInBounds_toArray, List.set_cons_zero, List.set_cons_succ]
          refine wpAnyH_done (by kernel_rfl) ?_ _
          simp only [Exit.then]
          first | (clear P7; generalize hwz : World.setCell _ _ _ = wz at P8 s8 ⊢) | (clear P6; generalize hwz : World.alloc _ _ = wz at P8 s8 ⊢)
          clear hwz s8
          
          go_wp2_with fail
          refine (CO.out _ _ _ P8.m).mono ?_
          rintro e w7 ⟨lo', lc', bo', bc', rfl, hl7, hb7, hw7⟩
          have hal := (Below.refl w7.heap.size w7).alloc (Nat.le_refl _) (.cells #[.string c, .slice lo' n lc', .slice bo' m bc'] 30)
          have hw : Rb (w7.alloc (.cells #[.string c, .slice lo' n lc', .slice bo' m bc'] 30)) w7.heap.size c (.slice lo' n lc') (.slice bo' m bc') := World.alloc_heap_new w7 _
          have P9 := (P8.next hw7).next hal
          have C9 := Lib.hid (CS.out _ _ _ _ _ _ _ _ _ P9.dl (hl7.below hal) P9.db (hb7.below hal))
          have r0 := P9.r.c0
          have r1 := P9.r.c1
          have r2 := P9.r.c2
          have v0 := hw.c0
          have v1 := hw.c1
          have v2 := hw.c2
          have HP9 := Lib.hid P9
          clear P8 P9 hw hl7 hb7 hw7 hal CO CS CA CB
          go_wp2_with fail
          refine C9.out.mono ?_
          rintro e w8 ⟨rfl, hb8⟩
          have P10 := HP9.out.next hb8
          have CBU := Lib.hid P10.m.m.busy
          have HM8 := Lib.hid P10.m
          clear P10 HP9 C9 r0 r1 r2 v0 v1 v2 hb8
          
          go_wp2_with (go_at_call 15; refine CBU.out.mono ?_; rintro e w9 ⟨rfl, hw⟩; rw [← hw]; clear hw)
          go_roundw
          case rel => exact ⟨I1, I1, hIN, rfl, by first | rfl | go_num, NPl.anew HM8.out _⟩
          case measure => have := HI.out; simp [intOf]; omega
        · go_simp
          first | (refine hK.out _ _ s6a ?_) | (refine hK.out _ _ s3a ?_)
          clear hK K
          try simp only [Act.put, List.setIfInBounds_toArray, List.set_cons_zero, List.set_cons_succ]
          -- NEXT 11 Op.call { callee := Callee.value (Operand.func 12), args := #[Operand.tmp 44, Operand.tmp 48, Operand.tmp 54],
          refine heldNext (i := 11) rfl (by kernel_rfl) (by rfl) (fun K hK => ?_)
          go_simp
          go_at_call 12
          first
            | (refine (CB.out _ HR3.out).mono ?_; rintro e w6 ⟨F6, lo, lc, bo, bc, rfl, M6, P6⟩; have s6 := HROW.out _ M6.r; have s6a := HROW.out _ (M6.next ((Below.refl w6.heap.size w6).alloc (Nat.le_refl _) (.cells #[.string ⟨#[]⟩, .slice none 0 0, .slice none 0 0] 30))).r)
            | (refine (CA.out _ HR3.out).mono ?_; rintro e w6 ⟨F6, lo, lc, bo, bc, rfl, P7⟩; have s6 := HROW.out _ P7.m.r)
          first | (refine hK.out _ _ s6 ?_) | (go_wp2_with fail; refine hK.out _ _ s6 ?_)
          clear hK K
          try simp only [Act.put, List.setIfInBounds_toArray, List.set_cons_zero, List.set_cons_succ]
          refine heldTake (i := 12) (v := ?_) rfl (by kernel_rfl) (by kernel_rfl) (fun _ _ _ h => h) (by rfl) (by assumption) (fun w hSw => ?_) ?_; rotate_left; focus ((try dsimp only at hSw); go_simp; try with_reducible rfl)
          try simp only [Act.put, List.setIfInBounds_toArray, List.set_cons_zero, List.set_cons_succ]
          refine heldTake (i := 13) (v := ?_) rfl (by kernel_rfl) (by kernel_rfl) (fun _ _ _ h => h) (by rfl) (by assumption) (fun w hSw => ?_) ?_; rotate_left; focus ((try dsimp only at hSw); go_simp; try with_reducible rfl)
          try simp only [Act.put, List.setIfInBounds_toArray, List.set_cons_zero, List.set_cons_succ]
          refine heldTake (i := 14) (v := ?_) rfl (by kernel_rfl) (by kernel_rfl) (fun _ _ _ h => h) (by rfl) (by assumption) (fun w hSw => ?_) ?_; rotate_left; focus ((try dsimp only at hSw); go_simp; try with_reducible rfl)
          try simp only [Act.put, List.setIfInBounds_toArray, List.set_cons_zero, List.set_cons_succ]
          refine heldTake (i := 15) (v := ?_) rfl (by kernel_rfl) (by kernel_rfl) (fun _ _ _ h => h) (by rfl) (by assumption) (fun w hSw => ?_) ?_; rotate_left; focus ((try dsimp only at hSw); go_simp; try with_reducible rfl)
          try simp only [Act.put, List.setIfInBounds_toArray, List.set_cons_zero, List.set_cons_succ]
          -- NEXT 17 Op.store 30 (Operand.tmp 12) (Operand.tmp 56)
          refine heldNext (i := 17) rfl (by kernel_rfl) (by rfl) (fun K hK => ?_)
          first
            | (have P8 := P6 c; have s8 := HROW.out _ P8.m.r; go_simp; refine hK.out _ _ s8 ?_; clear hK K)
            | (have P8 := P7.done c; have s8 := HROW.out _ P8.m.r; have k0 := P7.r.c0; have k1 := P7.r.c1; have k2 := P7.r.c2; have kf0 := P7.r.fr 0; have kf1 := P7.r.fr 1; have kf2 := P7.r.fr 2; go_simp; refine hK.out _ _ s8 ?_; clear hK K k0 k1 k2 kf0 kf1 kf2)
          try simp only [Act.put, List.setIfInBounds_toArray, List.set_cons_zero, List.set_cons_succ]
          refine heldTake (i := 18) (v := ?_) rfl (by kernel_rfl) (by kernel_rfl) (fun _ _ _ h => h) (by rfl) (by assumption) (fun w hSw => ?_) ?_; rotate_left; focus ((try dsimp only at hSw); go_simp; try with_reducible rfl)
          try simp only [Act.put, List.setIfInBounds_toArray, List.set_cons_zero, List.set_cons_succ]
          refine heldTake (i := 19) (v := ?_) rfl (by kernel_rfl) (by kernel_rfl) (fun _ _ _ h => h) (by rfl) (by assumption) (fun w hSw => ?_) ?_; rotate_left; focus ((try dsimp only at hSw); go_simp; try with_reducible rfl)
          try simp only [Act.put, List.setIfInBounds_toArray, List.set_cons_zero, List.set_cons_succ]
          refine wpAnyH_done (by kernel_rfl) ?_ _
          simp only [Exit.then]
          first | (clear P7; generalize hwz : World.setCell _ _ _ = wz at P8 s8 ⊢) | (clear P6; generalize hwz : World.alloc _ _ = wz at P8 s8 ⊢)
          clear hwz s8
          
          go_wp2_with fail
          refine (CO.out _ _ _ P8.m).mono ?_
          rintro e w7 ⟨lo', lc', bo', bc', rfl, hl7, hb7, hw7⟩
          have hal := (Below.refl w7.heap.size w7).alloc (Nat.le_refl _) (.cells #[.string c, .slice lo' n lc', .slice bo' m bc'] 30)
          have hw : Rb (w7.alloc (.cells #[.string c, .slice lo' n lc', .slice bo' m bc'] 30)) w7.heap.size c (.slice lo' n lc') (.slice bo' m bc') := World.alloc_heap_new w7 _
          have P9 := (P8.next hw7).next hal
          have C9 := Lib.hid (CS.out _ _ _ _ _ _ _ _ _ P9.dl (hl7.below hal) P9.db (hb7.below hal))
          have r0 := P9.r.c0
          have r1 := P9.r.c1
          have r2 := P9.r.c2
          have v0 := hw.c0
          have v1 := hw.c1
          have v2 := hw.c2
          have HP9 := Lib.hid P9
          clear P8 P9 hw hl7 hb7 hw7 hal CO CS CA CB
          go_wp2_with fail
          refine C9.out.mono ?_
          rintro e w8 ⟨rfl, hb8⟩
          have P10 := HP9.out.next hb8
          have CBU := Lib.hid P10.m.m.busy
          have HM8 := Lib.hid P10.m
          clear P10 HP9 C9 r0 r1 r2 v0 v1 v2 hb8
          
          go_wp2_with (go_at_call 15; refine CBU.out.mono ?_; rintro e w9 ⟨rfl, hw⟩; rw [← hw]; clear hw)
          go_roundw
          case rel => exact ⟨I1, I1, hIN, rfl, by first | rfl | go_num, NPl.anew HM8.out _⟩
          case measure => have := HI.out; simp [intOf]; omega

    · have t1 : ((i : Int) < (N : Int)) = False := eq_false (by omega)
      have HBZ := Lib.hid HR.out.base
      clear HR hlt
      go_wp2
      go_ret
      exact ⟨rfl, HBZ.out⟩


theorem lawPlays (p : Int) (v1 : Value) (y1 : List ByteArray) (b : Int) (_hp : (Lit.int .i64 p).wf = true) (h1 : y1.length ≤ maxLen) (hb : (Lit.int .u64 b).wf = true) (w : World) (r1 : RdN 1 w v1 (y1.map fun y => [.string y])) (_z1 : ∀ y ∈ y1, y.size ≤ maxLen) :
    Calls Tryd.prog 3 #[.int .i64 p, v1, .int .u64 b] w fun e w' => e = .returned (.bool true) ∧ Below w.heap.size w w' := by
  obtain ⟨B, rfl, hB⟩ : ∃ B : Nat, b = (B : Int) ∧ B < 18446744073709551616 := by
    have := bounds_u64 hb
    exact ⟨b.toNat, by omega, by omega⟩
  exact plays_walk p v1 y1 B hB h1 w r1
end Go.Proofs.YtnodngcfjdghcaaDoor
