/- The reference's Sum walked. -/
import Derived.Test.YtjogdflhpciciaaDoorDigestRefK
import Derived.StillTailTactics
namespace Go.Proofs.YtjogdflhpciciaaDoor
open Go.RowKit

theorem Rd.blockLt {w : World} {b o L cap : Nat} {xs : List UInt8} (h : Rd w (.slice (some ⟨b, o, none⟩) L cap) (xs.map bv)) (hp : 0 < xs.length) : b < w.heap.size := by
  obtain ⟨ao, cp, e, _, hc⟩ := h.form
  simp only [Value.slice.injEq] at e
  obtain ⟨rfl, _, _⟩ := e
  obtain ⟨b', o', e, _, hc⟩ := hc hp
  simp only [Option.some.injEq, Addr.mk.injEq, and_true] at e
  obtain ⟨rfl, rfl⟩ := e
  exact World.block_lt_of_cell? w _ (hc 0 hp)
theorem Rd.setOther {w : World} {b o L cap g i : Nat} {vs : List Value} {u : Value} (h : Rd w (.slice (some ⟨b, o, none⟩) L cap) vs) (hne : b ≠ g) : Rd (w.setCell ⟨g, i, none⟩ u) (.slice (some ⟨b, o, none⟩) L cap) vs := by
  rcases h with h | ⟨b', o', cap', e, h1, h2, h3⟩
  · exact .inl h
  · simp only [Value.slice.injEq, Option.some.injEq, Addr.mk.injEq, and_true] at e
    obtain ⟨⟨rfl, rfl⟩, rfl, rfl⟩ := e
    refine .inr ⟨b, o, cap, rfl, h1, h2, fun j u hj => ?_⟩
    rw [World.cell?_setCell_other _ _ _ _ (fun e => hne (congrArg Addr.block e).symm)]
    exact h3 j u hj

/-- What stands at the head of a round of the reference's Sum. -/
structure RS (w : World) (v : Value) (P : List UInt8) (hb : Nat) (s : Md5.St) (wr : World) : Prop where
  z : wr.heap[w.heap.size]? = some (.cells (List.replicate 16 (.int .u8 0)).toArray 37)
  hs : wr.heap[w.heap.size + 1]? = some (.cells ssA 3)
  hk : wr.heap[w.heap.size + 1 + 1]? = some (.cells ksA 48)
  hh : wr.heap[hb]? = some (.cells #[uv s.a, uv s.b, uv s.c, uv s.d] 48)
  rd : Rd wr v (P.map bv)
  below : Below w.heap.size w wr
section
variable {w : World} {v : Value} {P : List UInt8} {hb : Nat} {s : Md5.St} {wr w' : World}
theorem RS.lt (h : RS w v P hb s wr) : hb < wr.heap.size := (Array.getElem?_eq_some_iff.1 h.hh).1
theorem RS.lt2 (h : RS w v P hb s wr) : w.heap.size + 1 + 1 < wr.heap.size := (Array.getElem?_eq_some_iff.1 h.hk).1
theorem RS.next (h : RS w v P hb s wr) (hB : Below wr.heap.size wr w') : RS w v P hb s w' := by
  have h1 := h.lt
  have h2 := h.lt2
  exact ⟨(hB.block _ (by omega)).trans h.z, (hB.block _ (by omega)).trans h.hs, (hB.block _ (by omega)).trans h.hk, (hB.block _ h1).trans h.hh, h.rd.below hB, h.below.trans (hB.mono h.below.size)⟩
theorem RS.k0 (h : RS w v P hb s wr) : wr.cell? ⟨hb, 0, none⟩ = some (.int .u32 (s.a : Int)) := cell_of_row _ _ _ _ _ _ h.hh
theorem RS.k1 (h : RS w v P hb s wr) : wr.cell? ⟨hb, 1, none⟩ = some (.int .u32 (s.b : Int)) := cell_of_row _ _ _ _ _ _ h.hh
theorem RS.k2 (h : RS w v P hb s wr) : wr.cell? ⟨hb, 2, none⟩ = some (.int .u32 (s.c : Int)) := cell_of_row _ _ _ _ _ _ h.hh
theorem RS.k3 (h : RS w v P hb s wr) : wr.cell? ⟨hb, 3, none⟩ = some (.int .u32 (s.d : Int)) := cell_of_row _ _ _ _ _ _ h.hh
end

set_option maxRecDepth 20000 in
set_option maxHeartbeats 1000000 in
theorem refSum_any (v : Value) (xs : List UInt8) (w : World) (h : Rd w v (xs.map bv)) (hl : xs.length ≤ 65536) :
    Calls Tryd.prog 29 #[v] w fun e w' => e = .returned (av (Md5.sum xs)) ∧ Below w.heap.size w w' := by
  obtain ⟨T, hT⟩ : ∃ T, T = Md5.sum xs := ⟨_, rfl⟩
  rw [← hT]
  have HT := Lib.hid hT
  have HRD := Lib.hid h
  clear h hT
  go_enter Tryd.func29, Tryd.ntmps29
  go_wp2_with fail
  refine (sines_any _).mono ?_
  rintro e w1 ⟨rfl, hk1, hb1⟩
  have e16 : ((w.alloc (.cells #[.int .u8 0, .int .u8 0, .int .u8 0, .int .u8 0, .int .u8 0, .int .u8 0, .int .u8 0, .int .u8 0, .int .u8 0, .int .u8 0, .int .u8 0, .int .u8 0, .int .u8 0, .int .u8 0, .int .u8 0, .int .u8 0] 37)).alloc (.cells ssA 3)).heap.size = w.heap.size + 1 + 1 := by simp
  have hb1 : Below (w.heap.size + 1 + 1) ((w.alloc (.cells (List.replicate 16 (.int .u8 0)).toArray 37)).alloc (.cells ssA 3)) w1 := by rw [← e16]; exact hb1
  have hk1 : w1.heap[w.heap.size + 1 + 1]? = some (.cells ksA 48) := by rw [← e16]; exact hk1
  have hz1 : w1.heap[w.heap.size]? = some (.cells (List.replicate 16 (.int .u8 0)).toArray 37) := (hb1.block _ (by omega)).trans (heap_alloc2_old w _ _)
  have hs1 : w1.heap[w.heap.size + 1]? = some (.cells ssA 3) := (hb1.block _ (by omega)).trans (heap_alloc2_new w _ _)
  have c1 : Below w.heap.size w w1 := (((Below.refl _ _).alloc (Nat.le_refl _) _).alloc (by simp) _).trans (hb1.mono (by omega))
  clear hb1 e16
  go_wp2_with fail
  refine (padded_any v xs _ (HRD.out.below c1) (by omega)).mono ?_
  rintro e w2 ⟨v5, rfl, r5, hb2⟩
  obtain ⟨P, hP⟩ : ∃ P, P = Md5.padded xs := ⟨_, rfl⟩
  have hPl := Md5.padded_len xs
  rw [← hP] at r5 hPl
  have hz64 := Md5.zeros_lt xs.length
  obtain ⟨ao, cap, rfl, hcap, hc⟩ := r5.form
  obtain ⟨L, hL⟩ : ∃ L, L = P.length := ⟨_, rfl⟩
  rw [← hL] at hcap hc hPl ⊢
  obtain ⟨n, hn⟩ : ∃ n, L = 64 * n := ⟨L / 64, by omega⟩
  obtain ⟨b5, o5, rfl, hm5, hc5⟩ := hc (by omega)
  unfold maxLen at hm5
  have hL2 : L ≤ 70000 := by omega
  have hL3 : 0 < L := by omega
  have c2 : Below w.heap.size w w2 := c1.trans (hb2.mono c1.size)
  have l1 : w.heap.size + 1 + 1 < w1.heap.size := (Array.getElem?_eq_some_iff.1 hk1).1
  have hA : RS w (.slice (some ⟨b5, o5, none⟩) L cap) P w2.heap.size Md5.start (w2.alloc (.cells #[uv Md5.start.a, uv Md5.start.b, uv Md5.start.c, uv Md5.start.d] 48)) := by
    have hb3 : Below w2.heap.size w2 (w2.alloc (.cells #[uv Md5.start.a, uv Md5.start.b, uv Md5.start.c, uv Md5.start.d] 48)) := (Below.refl _ _).alloc (Nat.le_refl _) _
    have l2 := hb2.size
    refine ⟨?_, ?_, ?_, heap_alloc_new _ _, by rw [hL]; exact r5.below hb3, c2.trans (hb3.mono c2.size)⟩
    · exact (hb3.block _ (by omega)).trans ((hb2.block _ (by omega)).trans hz1)
    · exact (hb3.block _ (by omega)).trans ((hb2.block _ (by omega)).trans hs1)
    · exact (hb3.block _ (by omega)).trans ((hb2.block _ (by omega)).trans hk1)
  have HA := Lib.hid hA
  have HP := Lib.hid hP
  have HL := Lib.hid hL
  have HN := Lib.hid hn
  have HC5 := Lib.hid hc5
  clear hk1 hz1 hs1 c1 r5 hb2 c2 l1 hA hP hL hn hc hPl hc5 HRD
  go_wp2
  go_loopw [6, 7] (fun vh i wr => ∃ (k hb : Nat), k ≤ n ∧ i = .int .i64 ((64 * k : Nat) : Int) ∧ vh = .slice (some ⟨hb, 0, none⟩) 4 4 ∧ Hid (RS w (.slice (some ⟨b5, o5, none⟩) L cap) P hb (Md5.blocks P k) wr)) (fun _ i _ => L - (intOf i).toNat)
  case atStart => exact ⟨0, _, by omega, rfl, rfl, HA.out⟩
  case round =>
    obtain ⟨k, hb, hk, rfl, rfl, hR⟩ := hrel
    obtain ⟨p, hp⟩ : ∃ p, p = 64 * k := ⟨_, rfl⟩
    rw [← hp]
    by_cases hlt : k < n
    · have hpl : (p : Int) < (L : Int) := by have := HN.out; omega
      have hok := Md5.ok_blocks (l := P) k
      obtain ⟨s, hs⟩ : ∃ s, s = Md5.blocks P k := ⟨_, rfl⟩
      rw [← hs] at hR hok
      have e0 := hR.out.k0
      have e1 := hR.out.k1
      have e2 := hR.out.k2
      have e3 := hR.out.k3
      have HPp := Lib.hid hp
      have HS := Lib.hid hs
      clear hp hs
      go_wp2
      clear e0 e1 e2 e3
      go_loopw [8, 9, 10, 11, 12] (fun va vb vc vd i wr2 => ∃ j : Nat, j ≤ 64 ∧ i = .int .i64 j ∧ va = uv (Md5.steps P p j s).a ∧ vb = uv (Md5.steps P p j s).b ∧ vc = uv (Md5.steps P p j s).c ∧ vd = uv (Md5.steps P p j s).d ∧ Hid (RS w (.slice (some ⟨b5, o5, none⟩) L cap) P hb s wr2)) (fun _ _ _ _ i _ => 64 - (intOf i).toNat)
      case atStart => exact ⟨0, by omega, rfl, rfl, rfl, rfl, rfl, hR⟩
      case round =>
        obtain ⟨j, hj, rfl, rfl, rfl, rfl, rfl, hR2⟩ := hrel
        have hokj := Md5.ok_steps (l := P) (p := p) hok j
        have hst : Md5.steps P p (j + 1) s = Md5.step P p j (Md5.steps P p j s) := rfl
        by_cases hlt2 : j < 64
        · generalize Md5.steps P p j s = t at hokj hst
          obtain ⟨a, b, c, d⟩ := t
          obtain ⟨oa, ob, oc, od⟩ := hokj
          simp only at oa ob oc od
          have HST := Lib.hid hst
          clear hst
          go_wp2_with fail
          refine (round_any j b c d hlt2 ob oc od _).mono ?_
          rintro e w' ⟨rfl, rfl⟩
          have hF := mixF_lt j ob oc od
          have hG := mixG_lt hlt2
          have k1 : wr.cell? ⟨w.heap.size + 1 + 1, j, none⟩ = some (.int .u32 (Md5.ks.getD j 0 : Int)) := (cell_of_row _ _ _ _ _ _ hR2.out.hk).trans (ksA_at hlt2)
          obtain ⟨q, hq⟩ : ∃ q, q = j / 16 := ⟨_, rfl⟩
          obtain ⟨r, hr⟩ : ∃ r, r = j % 4 := ⟨_, rfl⟩
          have hq4 : q < 4 := by omega
          have hr4 : r < 4 := by omega
          obtain ⟨qr, hqr⟩ : ∃ qr, qr = q * 4 + r := ⟨_, rfl⟩
          have k2 : wr.cell? ⟨w.heap.size + 1, qr, none⟩ = some (.int .i64 (Md5.ss.getD qr 0 : Int)) := (cell_of_row _ _ _ _ _ _ hR2.out.hs).trans (ssA_at (by omega))
          have hstep : Md5.step P p j ⟨a, b, c, d⟩ = ⟨d, (b + Md5.rot ((a + Md5.mixF j b c d + Md5.ks.getD j 0 + Md5.word P (p + 4 * Md5.mixG j)) % 4294967296) (Md5.ss.getD qr 0)) % 4294967296, b, c⟩ := by
            rw [Md5.step, hqr, hq, hr]
          have hS := ss_lt ⟨qr, by omega⟩
          simp only at hS
          have hK := ks_lt ⟨j, hlt2⟩
          simp only at hK
          obtain ⟨pg, hpg⟩ : ∃ pg, pg = p + 4 * Md5.mixG j := ⟨_, rfl⟩
          rw [← hpg] at hstep
          have hpgL : pg + 4 ≤ P.length := by have := HL.out; have := HN.out; have := HPp.out; omega
          have hword := fun m => wordr_any (.slice (some ⟨b5, o5, none⟩) L cap) P pg (wr.drewN m) (hR2.out.rd.below (below_drewN (Below.refl _ _) m)) (by have := HL.out; omega) hpgL
          have hW := word_lt P pg
          generalize Md5.word P pg = W at hstep hW hword
          have hpI : (p : Int) + 4 * (Md5.mixG j : Int) = (pg : Int) := by omega
          generalize Md5.mixG j = G at hG hpI hpg ⊢
          generalize Md5.mixF j b c d = F at hF hstep ⊢
          generalize Md5.ks.getD j 0 = K at k1 hstep hK
          generalize Md5.ss.getD qr 0 = S at k2 hstep hS
          obtain ⟨X, hX⟩ : ∃ X, X = (a + F + K + W) % 4294967296 := ⟨_, rfl⟩
          rw [← hX] at hstep
          have hX1 : X < 4294967296 := by omega
          have hXi : IntKind.u32.wrap (IntKind.u32.wrap (IntKind.u32.wrap ((a : Int) + (F : Int)) + (K : Int)) + (W : Int)) = (X : Int) := by
            simp only [IntKind.wrap_u32']; omega
          have HSTEP := Lib.hid hstep
          obtain ⟨hS1, hS2⟩ := hS
          have hrot := fun m => turned_any X S hX1 hS1 hS2 (wr.drewN m)
          have HROT := Lib.hid hrot
          have HWORD := Lib.hid hword
          have i0 : (0 : Int) ≤ (j : Int) := Int.natCast_nonneg _
          have i1 : (j : Int) < 64 := by omega
          have i2 : (j : Int) / 16 = (q : Int) := by omega
          have i3 : (j : Int).tmod 4 = (r : Int) := by rw [Int.tmod_eq_emod_of_nonneg (by omega)]; omega
          have i4 : IntKind.i64.wrap (4 * (G : Int)) = 4 * (G : Int) := wraps_i64 _ (by omega) (by omega)
          have i5 : IntKind.i64.wrap (pg : Int) = (pg : Int) := wraps_i64 _ (by omega) (by have := HL.out; omega)
          have i6 : (0 : Int) ≤ (qr : Int) := Int.natCast_nonneg _
          have i7 : (qr : Int) < 16 := by omega
          have i8 : (q : Int) * 4 + (r : Int) = (qr : Int) := by omega
          have i10 : IntKind.i64.wrap (q : Int) = (q : Int) := wraps_i64 _ (by omega) (by omega)
          have i11 : IntKind.i64.wrap (r : Int) = (r : Int) := wraps_i64 _ (by omega) (by omega)
          have i12 : IntKind.i64.wrap ((q : Int) * 4) = (q : Int) * 4 := wraps_i64 _ (by omega) (by omega)
          have i13 : IntKind.i64.wrap (qr : Int) = (qr : Int) := wraps_i64 _ (by omega) (by omega)
          clear hq hr hqr hX hstep hrot hS1 hS2 hpg hword hq4 hr4
          go_wp2
          refine wp_region_quiet_lit (by kernel_rfl) (by kernel_rfl) ?_
          repeat (quiet_step (first | exact Calls.quiet_of (HWORD.out _) | exact Calls.quiet_of (HROT.out _)))
          refine wpQuiet_nil ?_
          rintro _ ⟨nq, rfl⟩
          have R3 : RS w (.slice (some ⟨b5, o5, none⟩) L cap) P hb s (wr.drewN nq) := hR2.out.next (below_drewN (Below.refl _ _) nq)
          generalize wr.drewN nq = w3 at R3 ⊢
          have HR3 := Lib.hid R3
          clear R3 k1 k2 i0 i1 i2 i3 i4 i5 i6 i7 i8 i10 i11 i12 i13 hXi hpI HROT HWORD hR2
          go_wp2
          go_roundw
          case rel =>
            refine ⟨j + 1, by omega, by go_num, ?_, ?_, ?_, ?_, HR3.out⟩
            all_goals (rw [HST.out, HSTEP.out])
            show Value.int .u32 _ = Value.int .u32 (((b + Md5.rot X S) % 4294967296 : Nat) : Int)
            rw [Int.natCast_emod, Int.natCast_add, IntKind.wrap_u32']
            rfl
          case measure => simp [intOf]; omega
        · obtain rfl : j = 64 := by omega
          have hbl : Md5.blocks P (k + 1) = ⟨(s.a + (Md5.steps P p 64 s).a) % 4294967296, (s.b + (Md5.steps P p 64 s).b) % 4294967296, (s.c + (Md5.steps P p 64 s).c) % 4294967296, (s.d + (Md5.steps P p 64 s).d) % 4294967296⟩ := by
            rw [Md5.blocks, ← HS.out, ← HPp.out]
            rfl
          clear hst
          generalize Md5.steps P p 64 s = t at hokj hbl
          obtain ⟨a, b, c, d⟩ := t
          have HBL := Lib.hid hbl
          have e0 := hR2.out.k0
          have e1 := hR2.out.k1
          have e2 := hR2.out.k2
          have e3 := hR2.out.k3
          have i1 : (0 : Int) < 4 := by decide
          clear hbl
          go_wp2
          go_still_tail 20, (by kernel_rfl)
          change wpList _ _ _ _ _ wr.drew
          have R3 : RS w (.slice (some ⟨b5, o5, none⟩) L cap) P hb s wr.drew := hR2.out.next ((Below.refl _ _).drew)
          generalize wr.drew = w3 at R3 ⊢
          have HR3 := Lib.hid R3
          clear R3 hR2 e0 e1 e2 e3
          go_wp2
          go_roundw
          case rel =>
            refine ⟨k + 1, w3.heap.size, by omega, ?_, rfl, ?_⟩
            · have hp := HPp.out
              go_num
            · have hb3 : ∀ C, Below w3.heap.size w3 (w3.alloc (.cells C 48)) := fun C => (Below.refl _ _).alloc (Nat.le_refl _) _
              have l1 := HR3.out.lt2
              refine Lib.hid ⟨?_, ?_, ?_, ?_, HR3.out.rd.below (hb3 _), HR3.out.below.trans ((hb3 _).mono HR3.out.below.size)⟩
              · exact ((hb3 _).block _ (by omega)).trans HR3.out.z
              · exact ((hb3 _).block _ (by omega)).trans HR3.out.hs
              · exact ((hb3 _).block _ (by omega)).trans HR3.out.hk
              · rw [HBL.out]
                refine (heap_alloc_new w3 _).trans ?_
                simp only [uv, Int.natCast_emod, Int.natCast_add]
                rfl
          case measure => simp [intOf]; omega
    · obtain rfl : k = n := by omega
      have hpl : ((p : Int) < (L : Int)) = False := eq_false (by have := HN.out; omega)
      have hok := Md5.ok_blocks (l := P) k
      have hT : T = Md5.bytes (Md5.blocks P k) := by
        rw [HT.out, Md5.sum, ← HP.out, ← HL.out]
        congr 2
        have := HN.out
        omega
      generalize Md5.blocks P k = s at hR hok hT
      obtain ⟨R, hRr⟩ : ∃ R, R = (Md5.bytes s).map bv := ⟨_, rfl⟩
      have hRl : R.length = 16 := by rw [hRr]; simp [Md5.bytes]
      have HRr := Lib.hid hRr
      have HTT := Lib.hid hT
      have HI := Lib.hid (info16a hRl)
      have HIL := Lib.hid (info16 hRl)
      have HONE := Lib.hid (show ∀ v ∈ R, v.oneCell' = true by rw [hRr]; exact bv_cell _)
      have HRL := Lib.hid hRl
      obtain ⟨w0, hw0⟩ : ∃ w0, w0 = wr := ⟨_, rfl⟩
      subst hw0
      have hlt2 := hR.out.lt2
      have hrow : RS w (.slice (some ⟨b5, o5, none⟩) L cap) P hb s w0 := hR.out
      have hltb := hR.out.lt
      have hne5 : b5 ≠ w0.heap.size := by have := hrow.rd.blockLt (by have := HL.out; omega); omega
      clear hRr hRl hT hp
      go_wp2
      go_loopw [17] (fun i wr2 => ∃ j : Nat, j ≤ 16 ∧ i = .int .i64 j ∧ wr2.heap[w0.heap.size]? = some (.cells (rowF 16 (sumB s j)).toArray 37) ∧ Hid (RS w (.slice (some ⟨b5, o5, none⟩) L cap) P hb s wr2)) (fun i _ => 16 - (intOf i).toNat)
      case atStart => exact ⟨0, by omega, rfl, by rw [sumB_zero]; exact heap_alloc_new w0 _, hR.out.next ((Below.refl _ _).alloc (Nat.le_refl _) _)⟩
      case round =>
        obtain ⟨j, hj, rfl, hg, hR2⟩ := hrel
        by_cases hlt3 : j < 16
        · obtain ⟨q, hq⟩ : ∃ q, q = j / 4 := ⟨_, rfl⟩
          obtain ⟨r, hr⟩ : ∃ r, r = j % 4 := ⟨_, rfl⟩
          have hq4 : q < 4 := by omega
          have c1 : wr.cell? ⟨hb, q, none⟩ = some (.int .u32 (nthW s q : Int)) := (cell_of_row _ _ _ _ _ _ hR2.out.hh).trans (nthW_at s hq4)
          have hx := nthW_lt hok q
          have hnew : sumB s (j + 1) j = UInt8.ofNat (nthW s q / 2 ^ (8 * r)) := by unfold sumB; rw [if_pos (by omega), hq, hr]
          generalize nthW s q = x at c1 hx hnew
          have c2 : wr.cell? ⟨w0.heap.size, j, none⟩ = some (.int .u8 ((sumB s j j).toNat : Int)) := (cell_of_row _ _ _ _ _ _ hg).trans (rowF_at hlt3)
          have f2 : wr.frozen? ⟨w0.heap.size, j, none⟩ = false := frozen_of_row _ _ _ _ _ hg
          have i2 : (j : Int) / 4 = (q : Int) := by omega
          have i3 : (j : Int) % 4 = (r : Int) := by omega
          have i4 : (8 * (r : Int)).toNat = 8 * r := by omega
          have i5 : (q : Int) < 4 := by omega
          have hr4 : r < 4 := by omega
          have HG := Lib.hid hg
          have HN2 := Lib.hid hnew
          clear hq hr hg hnew
          go_wp2
          go_roundw
          case rel =>
            refine ⟨j + 1, by omega, by go_num, ?_, ?_⟩
            · refine (setCell_row HG.out).trans ?_
              rw [rowF_set (g := sumB s (j + 1)) hlt3 (fun i hi => by unfold sumB; by_cases hik : i < j; { rw [if_pos hik, if_pos (by omega)] }; { rw [if_neg hik, if_neg (by omega)] })]
              rw [HN2.out]
              exact congrArg (Value.int .u8) (shr_u64 _ _)
            · have hS := hR2.out
              refine Lib.hid ⟨?_, ?_, ?_, ?_, ?_, hS.below.setCell (by show w.heap.size ≤ w0.heap.size; omega) _⟩
              · rw [Below.heap_setCell _ _ _ _ (by show w.heap.size ≠ w0.heap.size; omega)]; exact hS.z
              · rw [Below.heap_setCell _ _ _ _ (by show w.heap.size + 1 ≠ w0.heap.size; omega)]; exact hS.hs
              · rw [Below.heap_setCell _ _ _ _ (by show w.heap.size + 1 + 1 ≠ w0.heap.size; omega)]; exact hS.hk
              · rw [Below.heap_setCell _ _ _ _ (by show hb ≠ w0.heap.size; omega)]; exact hS.hh
              · exact hS.rd.setOther hne5
          case measure => simp [intOf]; omega
        · obtain rfl : j = 16 := by omega
          rw [sumB_all, ← HRr.out] at hg
          have HG := Lib.hid hg
          have HZ := Lib.hid hR2.out.z
          have HB := Lib.hid hR2.out.below
          clear hg
          go_wp2_with (first | (refine wpList_load_row rfl 37 _ rfl w0.heap.size rfl 37 R.toArray (0, 0) _ HG.out Tryd.underlying37 rfl HI.out ?_) | (refine wpList_store_at rfl 37 _ _ rfl w.heap.size R rfl rfl 37 _ HZ.out ?cb HIL.out HONE.out ?_))
          case cb => simp [HRL.out]
          intro w9 hg9 hgr9
          have hB9 := HB.out.grown hgr9 HB.out.size (fun k hk => by cases hk; exact Nat.le_refl _)
          clear hgr9
          go_wp2
          exact bodyPost_ret (v := .agg R.toArray) (results_cell_row Tryd.results29 _ _ w.heap.size 37 _ (0, 0) _ rfl hg9.out Tryd.underlying37 rfl HI.out) rfl ⟨by rw [HTT.out, HRr.out], hB9⟩
end Go.Proofs.YtjogdflhpciciaaDoor
