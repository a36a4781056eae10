/- digest.mix walked. -/
import Derived.Test.YtjogdflhpciciaaDoorDigestWords
namespace Go.Proofs.YtjogdflhpciciaaDoor
open Go.RowKit

/-- The package's tables stand. -/
structure TBL (w : World) : Prop where
  k : ∀ i, i < 64 → w.cell? ⟨1, i, none⟩ = some (.int .u32 (Md5.ks.getD i 0 : Int))
  s : ∀ i, i < 16 → w.cell? ⟨2, i, none⟩ = some (.int .i64 (Md5.ss.getD i 0 : Int))
theorem TBL.below {w w' : World} (h : TBL w) (hb : Below w.heap.size w w') : TBL w' :=
  ⟨fun i hi => (hb.cell (World.block_lt_of_cell? w _ (h.k i hi))).trans (h.k i hi), fun i hi => (hb.cell (World.block_lt_of_cell? w _ (h.s i hi))).trans (h.s i hi)⟩
theorem ks_lt : ∀ i : Fin 64, Md5.ks.getD i.val 0 < 4294967296 := by decide +kernel
theorem ss_lt : ∀ i : Fin 16, 1 ≤ Md5.ss.getD i.val 0 ∧ Md5.ss.getD i.val 0 < 32 := by decide +kernel
theorem below_drewN {B : Nat} {a w : World} (h : Below B a w) (q : Nat) : Below B a (w.drewN q) := ⟨h.os, h.tape, h.output, h.size, h.block⟩

def stA (s : Md5.St) : Array Value := #[uv s.a, uv s.b, uv s.c, uv s.d]

set_option maxHeartbeats 1000000 in
theorem mix_any (s : Md5.St) (hs : Md5.Ok s) (xs : List UInt8) (w : World) (ht : TBL w) :
    Calls Tryd.prog 51 #[.agg (stA s), .agg (sixteen xs).toArray] w fun e w' => e = .returned (.agg (stA (Md5.block xs 0 s))) ∧ Below w.heap.size w w' := by
  have HW := Lib.hid (fun k (h : k < 16) => show (sixteen xs).toArray[k]? = some (.int .u32 (Md5.word xs (4 * k) : Int)) by simp [sixteen, h])
  obtain ⟨M, hM⟩ : ∃ M, M = sixteen xs := ⟨_, rfl⟩
  rw [← hM] at HW ⊢
  clear hM
  have HT := Lib.hid ht
  clear ht
  have hbk : Md5.block xs 0 s = ⟨(s.a + (Md5.steps xs 0 64 s).a) % 4294967296, (s.b + (Md5.steps xs 0 64 s).b) % 4294967296, (s.c + (Md5.steps xs 0 64 s).c) % 4294967296, (s.d + (Md5.steps xs 0 64 s).d) % 4294967296⟩ := rfl
  generalize Md5.block xs 0 s = T at hbk ⊢
  have HBK := Lib.hid hbk
  clear hbk
  unfold stA
  go_enter Tryd.func51, Tryd.ntmps51
  go_wp2
  go_quiet (fail)
  go_wp2
  go_loopw [5, 6, 7, 8, 21] (fun a b c d i wr => ∃ k : Nat, k ≤ 64 ∧ i = .int .i64 k ∧ a = uv (Md5.steps xs 0 k s).a ∧ b = uv (Md5.steps xs 0 k s).b ∧ c = uv (Md5.steps xs 0 k s).c ∧ d = uv (Md5.steps xs 0 k s).d ∧
    wr.heap[w.heap.size]? = some (.cells #[uv s.a, uv s.b, uv s.c, uv s.d] 49) ∧ wr.heap[w.heap.size + 1]? = some (.cells M.toArray 67) ∧ wr.heap[w.heap.size + 1 + 1]? = some (.cells #[uv 0, uv 0, uv 0, uv 0] 49) ∧ Below w.heap.size w wr) (fun _ _ _ _ i _ => 64 - (intOf i).toNat)
  case atStart =>
    refine ⟨0, by omega, rfl, rfl, rfl, rfl, rfl, ?_, ?_, ?_, ?_⟩
    · show ((((w.alloc _).alloc _).alloc _).heap)[w.heap.size]? = _
      rw [Below.heap_alloc _ _ _ (by simp; omega), Below.heap_alloc _ _ _ (by simp)]
      exact heap_alloc_new _ _
    · show ((((w.alloc _).alloc _).alloc _).heap)[w.heap.size + 1]? = _
      rw [Below.heap_alloc _ _ _ (by simp)]
      exact heap_alloc2_new _ _ _
    · have e : w.heap.size + 1 + 1 = ((w.alloc (.cells #[uv s.a, uv s.b, uv s.c, uv s.d] 49)).alloc (.cells M.toArray 67)).heap.size := by simp
      show ((((w.alloc _).alloc _).alloc _).heap)[w.heap.size + 1 + 1]? = _
      rw [e]
      exact heap_alloc_new _ _
    · exact below_drewN ((((Below.refl _ _).alloc (Nat.le_refl _) _).alloc (by simp) _).alloc (by simp; omega) _) _
  case round =>
    obtain ⟨k, hk, rfl, rfl, rfl, rfl, rfl, h0, h1, h2, hb⟩ := hrel
    have hok := Md5.ok_steps (l := xs) (p := 0) hs k
    have hst : Md5.steps xs 0 (k + 1) s = Md5.step xs 0 k (Md5.steps xs 0 k s) := rfl
    by_cases hlt : k < 64
    · generalize Md5.steps xs 0 k s = t at hok hst
      obtain ⟨a, b, c, d⟩ := t
      obtain ⟨oa, ob, oc, od⟩ := hok
      simp only at oa ob oc od
      have HST := Lib.hid hst
      clear hst
      go_wp2_with fail
      refine (choose_any k b c d hlt ob oc od _).mono ?_
      rintro e w' ⟨rfl, rfl⟩
      have hF := mixF_lt k ob oc od
      have hG := mixG_lt hlt
      have htb := HT.out.below hb
      have k1 := htb.k k hlt
      obtain ⟨q, hq⟩ : ∃ q, q = k / 16 := ⟨_, rfl⟩
      obtain ⟨r, hr⟩ : ∃ r, r = k % 4 := ⟨_, rfl⟩
      have hq4 : q < 4 := by omega
      have hr4 : r < 4 := by omega
      have k2 := htb.s (q * 4 + r) (by omega)
      have k3 : wr.cell? ⟨w.heap.size + 1, Md5.mixG k, none⟩ = some (.int .u32 (Md5.word xs (4 * Md5.mixG k) : Int)) := (cell_of_row _ _ _ _ _ _ h1).trans (HW.out _ hG)
      have hstep : Md5.step xs 0 k ⟨a, b, c, d⟩ = ⟨d, (b + Md5.rot ((a + Md5.mixF k b c d + Md5.ks.getD k 0 + Md5.word xs (4 * Md5.mixG k)) % 4294967296) (Md5.ss.getD (q * 4 + r) 0)) % 4294967296, b, c⟩ := by
        rw [Md5.step, hq, hr, Nat.zero_add]
      have hS := ss_lt ⟨q * 4 + r, by omega⟩
      simp only at hS
      have hK := ks_lt ⟨k, hlt⟩
      simp only at hK
      have hW := word_lt xs (4 * Md5.mixG k)
      generalize Md5.word xs (4 * Md5.mixG k) = W at k3 hstep hW
      generalize Md5.mixG k = G at k3 hG hstep ⊢
      generalize Md5.mixF k b c d = F at hF hstep ⊢
      generalize Md5.ks.getD k 0 = K at k1 hstep hK
      generalize Md5.ss.getD (q * 4 + r) 0 = S at k2 hstep hS
      obtain ⟨X, hX⟩ : ∃ X, X = (a + F + K + W) % 4294967296 := ⟨_, rfl⟩
      rw [← hX] at hstep
      have hX1 : X < 4294967296 := by omega
      have hXi : IntKind.u32.wrap (IntKind.u32.wrap (IntKind.u32.wrap ((a : Int) + (F : Int)) + (K : Int)) + (W : Int)) = (X : Int) := by
        simp only [IntKind.wrap_u32']; omega
      have HSTEP := Lib.hid hstep
      obtain ⟨hS1, hS2⟩ := hS
      have hrot := fun w => (rotate_any X S hX1 hS1 hS2 w)
      have HROT := Lib.hid hrot
      have i0 : (0 : Int) ≤ (k : Int) := Int.natCast_nonneg _
      have i1 : (k : Int) < 64 := by omega
      have i2 : (k : Int) / 16 = (q : Int) := by omega
      have i3 : (k : Int).tmod 4 = (r : Int) := by rw [Int.tmod_eq_emod_of_nonneg (by omega)]; omega
      have i4 : (0 : Int) ≤ (G : Int) := Int.natCast_nonneg _
      have i5 : (G : Int) < 16 := by omega
      have i6 : (0 : Int) ≤ (q : Int) := Int.natCast_nonneg _
      have i7 : (q : Int) < 4 := by omega
      have i8 : (0 : Int) ≤ (r : Int) := Int.natCast_nonneg _
      have i9 : (r : Int) < 4 := by omega
      have i10 : IntKind.i64.wrap (q : Int) = (q : Int) := wraps_i64 _ (by omega) (by omega)
      have i11 : IntKind.i64.wrap (r : Int) = (r : Int) := wraps_i64 _ (by omega) (by omega)
      clear hq hr hX hstep hrot hS1 hS2
      go_wp2
      refine wp_region_quiet_lit (by kernel_rfl) (by kernel_rfl) ?_
      repeat (quiet_step (exact Calls.quiet_of_same ((HROT.out _).mono fun e w' h => ⟨h.1, h.2.symm⟩)))
      refine wpQuiet_nil ?_
      rintro _ ⟨nq, rfl⟩
      have hb2 := below_drewN hb nq
      have g0 : (wr.drewN nq).heap[w.heap.size]? = _ := h0
      have g1 : (wr.drewN nq).heap[w.heap.size + 1]? = _ := h1
      have g2 : (wr.drewN nq).heap[w.heap.size + 1 + 1]? = _ := h2
      generalize wr.drewN nq = w3 at hb2 g0 g1 g2 ⊢
      have G0 := Lib.hid g0
      have G1 := Lib.hid g1
      have G2 := Lib.hid g2
      clear h0 h1 h2 hb g0 g1 g2 k1 k2 k3 i0 i1 i2 i3 i4 i5 i6 i7 i8 i9 i10 i11 hXi
      go_wp2
      go_roundw
      case rel =>
        refine ⟨k + 1, by omega, by go_num, ?_, ?_, ?_, ?_, G0.out, G1.out, G2.out, hb2⟩
        all_goals (rw [HST.out, HSTEP.out])
        show Value.int .u32 _ = Value.int .u32 (((b + Md5.rot X S) % 4294967296 : Nat) : Int)
        rw [Int.natCast_emod, Int.natCast_add]
        rfl
      case measure => simp [intOf]; omega
    · obtain rfl : k = 64 := by omega
      have G0 := Lib.hid h0
      have e0 : wr.cell? ⟨w.heap.size, 0, none⟩ = some (uv s.a) := cell_of_row _ _ _ _ _ _ h0
      have e1 : wr.cell? ⟨w.heap.size, 1, none⟩ = some (uv s.b) := cell_of_row _ _ _ _ _ _ h0
      have e2 : wr.cell? ⟨w.heap.size, 2, none⟩ = some (uv s.c) := cell_of_row _ _ _ _ _ _ h0
      have e3 : wr.cell? ⟨w.heap.size, 3, none⟩ = some (uv s.d) := cell_of_row _ _ _ _ _ _ h0
      have hbk := HBK.out
      clear HBK hst
      generalize Md5.steps xs 0 64 s = t at hok hbk ⊢
      obtain ⟨a, b, c, d⟩ := t
      have HBK := Lib.hid hbk
      have HG2 := Lib.hid h2
      clear h0 h1 h2 hbk
      go_wp2_with (refine wpList_store_at rfl 49 _ _ rfl (w.heap.size + 1 + 1) _ rfl rfl 49 _ HG2.out rfl (by kernel_rfl) ?ca ?_)
      case ca => exact ⟨rfl, rfl, rfl, rfl⟩
      intro w4 hg4 hgr4
      have hB4 := hb.grown hgr4 hb.size (fun k hk => by cases hk; omega)
      clear hgr4
      go_wp2
      refine bodyPost_ret (v := .agg _) (results_cell_row Tryd.results51 _ _ (w.heap.size + 1 + 1) 49 _ (0, 0) _ rfl hg4.out Tryd.underlying49 rfl (by kernel_rfl)) rfl ⟨?_, hB4⟩
      rw [HBK.out]
      simp only [uv, Int.natCast_emod, Int.natCast_add]
      rfl
end Go.Proofs.YtjogdflhpciciaaDoor
