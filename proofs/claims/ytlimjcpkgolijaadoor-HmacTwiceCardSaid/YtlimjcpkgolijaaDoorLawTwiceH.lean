/- The law HmacTwice walked. -/
import Derived.Test.YtlimjcpkgolijaaDoorHmacLaw
import Derived.Test.YtlimjcpkgolijaaDoorStep
namespace Go.Proofs.YtlimjcpkgolijaaDoor
open Go.RowKit

/-- 'append(xs, c)': one byte, and where the new slice lies. -/
theorem append1 {ops : Array Oper} {rest : List Oper} {o : Oper} {a : Act} {Q : Exit → Act → World → Prop} {w : World} {B n : Nat} {v : Value} {xs : List Value}
    (hgd : o.guard = none) (s x : Operand) (ho : o.op = .call { callee := .builtin .append, args := #[s, x], argTypes := #[22, 22] })
    (hs : a.eval s = v) (hown : w.ownsRow B 5 1 v n xs) (c : UInt8) (b : Nat) (hx : a.eval x = .slice (some ⟨b, 0, none⟩) 1 1) (hc : w.cell? ⟨b, 0, none⟩ = some (bv c)) (hn : n + 1 ≤ 16777216) (hB : B ≤ w.heap.size)
    (h : ∀ g cap w', w'.ownsRow B 5 1 (.slice (some ⟨g, 0, none⟩) (n + 1) cap) (n + 1) (xs ++ [bv c]) → w.grownBy w' v.ownBlock → (v.ownBlock = some g ∨ g = w.heap.size) → wpList Tryd.prog ops Q rest (a.put o.dst (.slice (some ⟨g, 0, none⟩) (n + 1) cap)) w') :
    wpList Tryd.prog ops Q (o :: rest) a w := by
  obtain ⟨i0, hi, hz0, hz1, hz2⟩ := info_parts info_u8
  refine wpList_append_lies w hgd s x 22 ho B 5 i0 (.int .u8 0) 1 1 Tryd.underlying22 hi hz0 hz1 hz2 rfl (by decide) v n xs hs hown ⟨b, 0, none⟩ 1 1 [bv c] hx rfl (fun j u hj => ?_) (fun u hu => ?_) (by decide) (by unfold maxLen; omega) (by omega) hB _ rfl (fun g cap w' h2 h3 h4 _ => h g cap w' h2 h3 h4)
  · match j, hj with
    | 0, hj =>
      simp only [List.getElem?_cons_zero, Option.some.injEq] at hj
      rw [Addr.add_lit, ← hj]
      exact hc
    | j + 1, hj => simp at hj
  · simp only [List.mem_singleton] at hu
    rw [hu]
    rfl

theorem pad_past {xs : List UInt8} {k : Nat} (h : xs.length ≤ k) (hl : xs.length ≤ 64) : (Hm.pad xs).getD k 0 = 0 := by
  rw [Hm.pad_at k hl, List.getD_eq_getElem?_getD, List.getElem?_eq_none h]
  rfl

/-- What stands in HmacTwice, behind its loop. -/
structure TW (w : World) (g gq cq : Nat) (T : List Value) (va vb : Value) (xa xb X : List UInt8) (wr : World) : Prop where
  h : wr.heap[g]? = some (.cells T.toArray 25)
  ra : Rd wr va (xa.map bv)
  rb : Rd wr vb (xb.map bv)
  ho : wr.ownsRow w.heap.size 5 1 (.slice (some ⟨gq, 0, none⟩) 64 cq) 64 (X.map bv)
  tb : TBL wr
  below : Below w.heap.size w wr
section
variable {w : World} {g gq cq : Nat} {T : List Value} {va vb : Value} {xa xb X : List UInt8} {wr w' : World}
theorem TW.next (h : TW w g gq cq T va vb xa xb X wr) (hb : Below wr.heap.size wr w') : TW w g gq cq T va vb xa xb X w' :=
  ⟨(hb.block _ (Array.getElem?_eq_some_iff.1 h.h).1).trans h.h, h.ra.below hb, h.rb.below hb, own_below h.ho hb, h.tb.below hb, h.below.trans (hb.mono h.below.size)⟩
theorem TW.inner (h : TW w g gq cq T va vb xa xb X wr) {I : List UInt8} (hT : T = I.map bv) (hI : I.length = 16) : Rd wr (.slice (some ⟨g, 0, none⟩) 16 16) (I.map bv) :=
  Rd.row (by rw [← hT]; exact h.h) hI.symm (by decide)
theorem TW.sum (h : TW w g gq cq T va vb xa xb X wr) (hl : xa.length ≤ 1000000) (hl2 : xb.length ≤ 1000000) {R : List Value} (hR : R = (Hm.sum xa xb).map bv) :
    Calls Tryd.prog 9 #[va, vb] wr fun e w' => e = .returned (.agg R.toArray) ∧ TW w g gq cq T va vb xa xb X w' := by
  refine (hsum_any va xa vb xb wr h.ra h.rb hl hl2 h.tb).mono ?_
  rintro e w' ⟨rfl, hb⟩
  exact ⟨by rw [hR], h.next hb⟩
end

set_option maxRecDepth 20000 in
set_option maxHeartbeats 2000000 in
theorem lawTwiceH (v0 : Value) (x0 : List UInt8) (v1 : Value) (x1 : List UInt8) (h0 : x0.length ≤ maxLen) (h1 : x1.length ≤ maxLen) (w : World) (r0 : Rd w v0 (x0.map bv)) (r1 : Rd w v1 (x1.map bv)) (ht : TBL w) :
    Calls Tryd.prog 5 #[v0, v1] w fun e w' => e = .returned (.bool true) ∧ Below w.heap.size w w' := by
  have HTB := Lib.hid ht
  clear ht
  unfold maxLen at h0
  obtain ⟨ao, cap, rfl, hcap, hc⟩ := r0.form
  obtain ⟨L, hL⟩ : ∃ L, L = x0.length := ⟨_, rfl⟩
  rw [← hL] at h0 hcap hc r0 ⊢
  have HC := Lib.hid hc
  have HL := Lib.hid hL
  clear hc hL
  go_enter Tryd.func5, Tryd.ntmps5
  go_wp2_with fail
  refine (shown_any _ HTB.out).mono ?_
  rintro e w1 ⟨rfl, hb1⟩
  have R0 := Lib.hid (r0.below hb1)
  have rb := r1.below hb1
  have HB1 := Lib.hid hb1
  have HTB1 := Lib.hid (HTB.out.below hb1)
  have HW := Lib.hid r0
  clear r0 r1 hb1
  go_wp2_with fail
  refine (short_any v1 x1 _ rb h1).mono ?_
  rintro e w1' ⟨vb, rfl, rb, hw1⟩
  obtain rfl := hw1
  have lb : (x1.take 300).length ≤ 300 := List.length_take_le _ _
  generalize x1.take 300 = xb at rb lb
  have RB := Lib.hid rb
  clear rb
  by_cases h64 : 64 < L
  · obtain ⟨b, o, rfl, hm, hcc⟩ := HC.out (by omega)
    unfold maxLen at hm
    obtain ⟨xs, hxs⟩ : ∃ xs, xs = x0.take 64 := ⟨_, rfl⟩
    have hM : xs.length = 64 := by rw [hxs, List.length_take, ← HL.out]; omega
    have rk : Rd w1 (.slice (some ⟨b, o, none⟩) 64 cap) (xs.map bv) := by rw [hxs]; exact R0.out.head HL.out (by omega) (by omega)
    have hcell : ∀ j, j < 64 → w1.cell? ⟨b, o + j, none⟩ = some (bv (xs.getD j 0)) := fun j hj => by
      obtain ⟨ao', cap', e, _, hc⟩ := rk.form
      simp only [Value.slice.injEq] at e
      obtain ⟨rfl, _, rfl⟩ := e
      obtain ⟨b', o', e, _, hc⟩ := hc (by omega)
      simp only [Option.some.injEq, Addr.mk.injEq, and_true] at e
      obtain ⟨rfl, rfl⟩ := e
      exact hc j (by omega)
    have HM := Lib.hid hM
    have RK := Lib.hid rk
    have HCELL := Lib.hid hcell
    have hdd : (64 < (L : Int)) = True := eq_true (by omega)
    clear hM rk hcell hxs hcc HC HW
    have hml : xs.length ≤ 64 := by rw [HM.out]; omega
    have HML := Lib.hid hml
    obtain ⟨I, hI⟩ : ∃ I, I = Hm.inner xs xb := ⟨_, rfl⟩
    have hIl : I.length = 16 := by rw [hI, Hm.inner_len]
    obtain ⟨T, hT⟩ : ∃ T, T = I.map bv := ⟨_, rfl⟩
    have hTl : T.length = 16 := by rw [hT, List.length_map, hIl]
    have htv : av (Md5.sum (Hm.xor 54 (Hm.pad xs) ++ xb)) = .agg T.toArray := by rw [hT, hI]; rfl
    obtain ⟨X, hX⟩ : ∃ X, X = Hm.xor 92 (Hm.pad xs) := ⟨_, rfl⟩
    have hXl : X.length = 64 := by rw [hX, Hm.xor_len, Hm.pad_len]
    obtain ⟨R, hR⟩ : ∃ R, R = (Hm.sum xs xb).map bv := ⟨_, rfl⟩
    have hRl : R.length = 16 := by rw [hR, List.length_map, Hm.sum_len]
    have hsv : av (Md5.sum (X ++ I)) = .agg R.toArray := by rw [hR, hX, hI]; rfl
    have heq : ∀ w, (Op.equalIn 10000 25 (.agg R.toArray) (.agg R.toArray)).run Tryd.prog w = .ok true w := fun w => by
      have := equal16 (Hm.sum xs xb) (Hm.sum xs xb) (Hm.sum_len _ _) (Hm.sum_len _ _) w
      rw [← hR] at this
      simpa using this
    have HTV := Lib.hid htv
    have HIT := Lib.hid (info16 hTl)
    have HONET := Lib.hid (show ∀ v ∈ T, v.oneCell' = true by rw [hT]; exact bv_cell _)
    have HTL := Lib.hid hTl
    have HT := Lib.hid hT
    have HILN := Lib.hid hIl
    have HXL := Lib.hid hXl
    have HX := Lib.hid hX
    have HR := Lib.hid hR
    have HSV := Lib.hid hsv
    have HEQ := Lib.hid heq
    clear hml hI hIl hT hTl htv hX hXl hR hRl hsv heq
    go_wp2
    go_loopw [6, 7, 8] (fun p q i wr => ∃ (k gp gq cp cq : Nat), k ≤ 64 ∧ i = .int .i64 k ∧ p = .slice (some ⟨gp, 0, none⟩) k cp ∧ q = .slice (some ⟨gq, 0, none⟩) k cq ∧ gp ≠ gq ∧ Hid (wr.ownsRow w1.heap.size 5 1 p k ((Hm.someX 54 xs k).map bv)) ∧ Hid (wr.ownsRow w1.heap.size 5 1 q k ((Hm.someX 92 xs k).map bv)) ∧ Below w1.heap.size w1 wr) (fun _ _ i _ => 64 - (intOf i).toNat)
    case atStart =>
      refine ⟨0, w1.heap.size, w1.heap.size + 1, 0, 0, by omega, rfl, rfl, rfl, by omega, Lib.hid ?_, Lib.hid ?_, ((Below.refl _ _).alloc (Nat.le_refl _) _).alloc (by simp) _⟩
      · rw [Hm.someX_zero]
        exact (World.ownsRow_made (base := w1.heap.size) w1 #[] 0 (Nat.le_refl _) (Nat.zero_le _) rfl).alloc _
      · rw [Hm.someX_zero]
        have := World.ownsRow_made (base := w1.heap.size) (e := 5) (size := 1) (w1.alloc (.cells #[] 5)) #[] 0 (by simp) (Nat.zero_le _) rfl
        rwa [show (w1.alloc (.cells #[] 5)).heap.size = w1.heap.size + 1 by simp] at this
    case round =>
      obtain ⟨k, gp, gq, cp, cq, hk, rfl, rfl, rfl, hne, hp, hq, hb⟩ := hrel
      by_cases hlt : k < 64
      · by_cases hkM : k < 64
        · have hcw := HCELL.out k hkM
          have hne2 : b < w1.heap.size := World.block_lt_of_cell? w1 _ hcw
          have hcr := (hb.cell hne2).trans hcw
          obtain ⟨c, hc⟩ : ∃ c, c = xs.getD k 0 := ⟨_, rfl⟩
          rw [← hc] at hcr
          unfold bv at hcr
          obtain ⟨d, hd⟩ : ∃ d, d = c ^^^ 54 := ⟨_, rfl⟩
          obtain ⟨f, hf⟩ : ∃ f, f = c ^^^ 92 := ⟨_, rfl⟩
          have hx54 : bits .xor .u8 (c.toNat : Int) 54 = (d.toNat : Int) := by rw [hd]; exact xor_bv c 54
          have hx92 : bits .xor .u8 (c.toNat : Int) 92 = (f.toNat : Int) := by rw [hf]; exact xor_bv c 92
          have S1 := Lib.hid (show Hm.someX 54 xs (k + 1) = Hm.someX 54 xs k ++ [d] by rw [Hm.someX_step 54 xs hlt, Hm.pad_at k HML.out, ← hc, hd])
          have S2 := Lib.hid (show Hm.someX 92 xs (k + 1) = Hm.someX 92 xs k ++ [f] by rw [Hm.someX_step 92 xs hlt, Hm.pad_at k HML.out, ← hc, hf])
          clear hc hd hf hcw
          go_wp2_with (at_builtin; refine append1 rfl (.tmp 33) (.tmp 36) rfl rfl (hp.out.alloc _) d wr.heap.size rfl ?ca ?cb ?cc ?_)
          case ca => exact (cell_of_row _ _ _ _ _ _ (heap_alloc_new wr _)).trans rfl
          case cb => omega
          case cc => have := hb.size; simp; omega
          intro g5 c5 w5 ho5 hg5 hat5
          have hq5 := Lib.hid (World.ownsRow.kept (hq.out.alloc _) hg5 (.inr (fun e => hne (Option.some.inj e).symm)))
          have hlq := (hq.out.lt gq rfl).2
          have hne5 : g5 ≠ gq := by
            rcases hat5 with e | e
            · exact fun h => hne ((Option.some.inj e).trans h)
            · omega
          have hb5 : Below w1.heap.size w1 w5 := (hb.alloc hb.size _).grown hg5 (by have := hb.size; simp; omega) (fun k hk => (hp.out.lt k hk).1)
          have HO5 := Lib.hid ho5
          clear hg5 hat5 ho5 hlq
          go_wp2_with (at_builtin; refine append1 rfl (.tmp 38) (.tmp 41) rfl rfl (hq5.out.alloc _) f w5.heap.size rfl ?cd ?ce ?cf ?_)
          case cd => exact (cell_of_row _ _ _ _ _ _ (heap_alloc_new w5 _)).trans rfl
          case ce => omega
          case cf => have := hb5.size; simp; omega
          intro g7 c7 w7 ho7 hg7 hat7
          have hp7 := Lib.hid (World.ownsRow.kept (HO5.out.alloc _) hg7 (.inr (fun e => hne5 (Option.some.inj e))))
          have hlp := (HO5.out.lt g5 rfl).2
          have hne7 : g5 ≠ g7 := by
            rcases hat7 with e | e
            · exact fun h => hne5 (h.trans (Option.some.inj e).symm)
            · omega
          have hb7 : Below w1.heap.size w1 w7 := (hb5.alloc hb5.size _).grown hg7 (by have := hb5.size; simp; omega) (fun k hk => (hq5.out.lt k hk).1)
          have HO7 := Lib.hid ho7
          clear hg7 hat7 ho7 hlp
          go_wp2
          go_roundw
          case rel =>
            refine ⟨k + 1, g5, g7, c5, c7, by omega, by go_num, rfl, rfl, hne7, Lib.hid ?_, Lib.hid ?_, hb7⟩
            · rw [S1.out, List.map_append]
              exact hp7.out
            · rw [S2.out, List.map_append]
              exact HO7.out
          case measure => simp [intOf]; omega
        · exact absurd hlt hkM
      · obtain rfl : k = 64 := by omega
        have rb := RB.out.below hb
        have rk := RK.out.below hb
        rw [Hm.someX_all] at hp hq
        go_wp2_with (at_builtin; refine append_u8s rfl (.tmp 43) (.tmp 44) rfl rfl hp.out (xb.map bv) rb (bv_cell _) ?ca ?cb ?_)
        case ca => rw [List.length_map]; omega
        case cb => exact hb.size
        intro v8 w8 ho8 hg8
        have hq8 := World.ownsRow.kept hq.out hg8 (.inr (fun e => hne (Option.some.inj e).symm))
        have hb8 : Below w1.heap.size w1 w8 := hb.grown hg8 hb.size (fun k hk => (hp.out.lt k hk).1)
        have hr8 : Rd w8 v8 ((Hm.xor 54 (Hm.pad xs) ++ xb).map bv) := by
          rw [List.map_append]
          exact Rd.of_own ho8
        have HQ8 := Lib.hid hq8
        have HB8 := Lib.hid hb8
        have HR8 := Lib.hid hr8
        clear rb rk ho8 hg8 hq8 hb8 hr8 hp hq hb
        go_wp2_with fail
        have hc := sum_any v8 (Hm.xor 54 (Hm.pad xs) ++ xb) w8 HR8.out (by rw [List.length_append, Hm.xor_len, Hm.pad_len]; omega) (HTB1.out.below HB8.out)
        rw [HTV.out] at hc
        refine hc.mono ?_
        clear hc
        rintro e w9 ⟨rfl, hb9⟩
        have HQ9 := Lib.hid (own_below HQ8.out hb9)
        have HB9 := Lib.hid (HB8.out.trans (hb9.mono HB8.out.size))
        clear hb9
        go_wp2_with (refine wpList_store_at rfl 25 _ _ rfl w9.heap.size T rfl rfl 25 _ (heap_alloc_new w9 _) ?cd HIT.out HONET.out ?_)
        case cd => rw [HTL.out]; rfl
        intro w10 hg10 hgr10
        have b10 : Below w9.heap.size w9 w10 := ((Below.refl _ _).alloc (Nat.le_refl _) _).grown hgr10 (by simp) (fun k hk => by cases hk; exact Nat.le_refl _)
        have hB10 := HB9.out.trans (b10.mono HB9.out.size)
        have A : TW w1 w9.heap.size gq cq T (.slice (some ⟨b, o, none⟩) 64 cap) vb xs xb X w10 := ⟨hg10.out, RK.out.below hB10, RB.out.below hB10, by rw [HX.out]; exact own_below HQ9.out b10, HTB1.out.below hB10, hB10⟩
        obtain ⟨g5, hg5⟩ : ∃ g, g = w9.heap.size := ⟨_, rfl⟩
        rw [← hg5] at A ⊢
        have A0 := A.next ((Below.refl _ _).drew)
        have C1 := Lib.hid (fun wr (h : TW w1 g5 gq cq T (.slice (some ⟨b, o, none⟩) 64 cap) vb xs xb X wr) => h.sum (by have := HML.out; omega) (by omega) HR.out)
        have C3 : Hid (∀ wr v, Rd wr v ((X ++ I).map bv) → Below w1.heap.size w1 wr → Calls Tryd.prog 13 #[v] wr fun e w' => e = .returned (.agg R.toArray) ∧ Below w1.heap.size w1 w') := fun wr v hv hb => by
          have hc := sum_any v (X ++ I) wr hv (by rw [List.length_append, HXL.out, HILN.out]; decide) (HTB1.out.below hb)
          rw [HSV.out] at hc
          refine hc.mono ?_
          rintro e w' ⟨rfl, h⟩
          exact ⟨rfl, hb.trans (h.mono hb.size)⟩
        have HPOS := Lib.hid (show 0 < I.length by rw [HILN.out]; decide)
        have HLEN := Lib.hid (show 64 + I.length ≤ 16777216 by rw [HILN.out]; decide)
        have heq := HEQ.out
        have hge := guard16
        clear A hg10 hgr10 b10 hB10 hg5
        go_wp2
        go_region_held3 (fun _ => True) (trivial)
          (first | (go_at_call 9; refine (C1.out _ (by assumption)).mono ?_; rintro e w11 ⟨rfl, A1⟩; have i1 := A1.inner HT.out HILN.out) | (refine step_append_rd (by simp [Region.wanted, yielded]) (.tmp 52) (.tmp 53) (by rfl) w1.heap.size 64 _ (X.map bv) (by rfl) A1.ho _ I (by rfl) i1 HPOS.out HLEN.out A1.below.size ?_; intro v12 w12 ho12 hb12; have r12 := Rd.of_own ho12; rw [← List.map_append] at r12; have b12 := A1.below.trans hb12) | (go_at_call 13; refine (C3.out _ _ (by assumption) (by assumption)).mono ?_; rintro e w13 ⟨rfl, b13⟩))
        have c13 := HB1.out.trans (b13.mono HB1.out.size)
        clear heq hge
        go_wp2
        go_ret
        exact ⟨rfl, c13⟩
  · obtain ⟨xs, hxs⟩ : ∃ xs, xs = x0 := ⟨_, rfl⟩
    have hM : xs.length = L := by rw [hxs, HL.out]
    have HM := Lib.hid hM
    have hcell : 0 < L → ∃ b o, ao = some ⟨b, o, none⟩ ∧ cap ≤ maxLen ∧ ∀ j, j < L → w1.cell? ⟨b, o + j, none⟩ = some (bv (xs.getD j 0)) := fun hp => by
      obtain ⟨ao', cap', e, _, hc⟩ := R0.out.form
      simp only [Value.slice.injEq] at e
      obtain ⟨rfl, _, rfl⟩ := e
      obtain ⟨b', o', e, hm, hc⟩ := hc (by rw [← HL.out]; exact hp)
      exact ⟨b', o', e, hm, fun j hj => by rw [hxs]; exact hc j (by rw [← HL.out]; exact hj)⟩
    have HCELL := Lib.hid hcell
    have RK : Hid (Rd w1 (.slice ao L cap) (xs.map bv)) := Lib.hid (by rw [hxs]; exact R0.out)
    clear hM hcell hxs HC HW
    have hml : xs.length ≤ 64 := by rw [HM.out]; omega
    have HML := Lib.hid hml
    obtain ⟨I, hI⟩ : ∃ I, I = Hm.inner xs xb := ⟨_, rfl⟩
    have hIl : I.length = 16 := by rw [hI, Hm.inner_len]
    obtain ⟨T, hT⟩ : ∃ T, T = I.map bv := ⟨_, rfl⟩
    have hTl : T.length = 16 := by rw [hT, List.length_map, hIl]
    have htv : av (Md5.sum (Hm.xor 54 (Hm.pad xs) ++ xb)) = .agg T.toArray := by rw [hT, hI]; rfl
    obtain ⟨X, hX⟩ : ∃ X, X = Hm.xor 92 (Hm.pad xs) := ⟨_, rfl⟩
    have hXl : X.length = 64 := by rw [hX, Hm.xor_len, Hm.pad_len]
    obtain ⟨R, hR⟩ : ∃ R, R = (Hm.sum xs xb).map bv := ⟨_, rfl⟩
    have hRl : R.length = 16 := by rw [hR, List.length_map, Hm.sum_len]
    have hsv : av (Md5.sum (X ++ I)) = .agg R.toArray := by rw [hR, hX, hI]; rfl
    have heq : ∀ w, (Op.equalIn 10000 25 (.agg R.toArray) (.agg R.toArray)).run Tryd.prog w = .ok true w := fun w => by
      have := equal16 (Hm.sum xs xb) (Hm.sum xs xb) (Hm.sum_len _ _) (Hm.sum_len _ _) w
      rw [← hR] at this
      simpa using this
    have HTV := Lib.hid htv
    have HIT := Lib.hid (info16 hTl)
    have HONET := Lib.hid (show ∀ v ∈ T, v.oneCell' = true by rw [hT]; exact bv_cell _)
    have HTL := Lib.hid hTl
    have HT := Lib.hid hT
    have HILN := Lib.hid hIl
    have HXL := Lib.hid hXl
    have HX := Lib.hid hX
    have HR := Lib.hid hR
    have HSV := Lib.hid hsv
    have HEQ := Lib.hid heq
    clear hml hI hIl hT hTl htv hX hXl hR hRl hsv heq
    go_wp2
    go_loopw [6, 7, 8] (fun p q i wr => ∃ (k gp gq cp cq : Nat), k ≤ 64 ∧ i = .int .i64 k ∧ p = .slice (some ⟨gp, 0, none⟩) k cp ∧ q = .slice (some ⟨gq, 0, none⟩) k cq ∧ gp ≠ gq ∧ Hid (wr.ownsRow w1.heap.size 5 1 p k ((Hm.someX 54 xs k).map bv)) ∧ Hid (wr.ownsRow w1.heap.size 5 1 q k ((Hm.someX 92 xs k).map bv)) ∧ Below w1.heap.size w1 wr) (fun _ _ i _ => 64 - (intOf i).toNat)
    case atStart =>
      refine ⟨0, w1.heap.size, w1.heap.size + 1, 0, 0, by omega, rfl, rfl, rfl, by omega, Lib.hid ?_, Lib.hid ?_, ((Below.refl _ _).alloc (Nat.le_refl _) _).alloc (by simp) _⟩
      · rw [Hm.someX_zero]
        exact (World.ownsRow_made (base := w1.heap.size) w1 #[] 0 (Nat.le_refl _) (Nat.zero_le _) rfl).alloc _
      · rw [Hm.someX_zero]
        have := World.ownsRow_made (base := w1.heap.size) (e := 5) (size := 1) (w1.alloc (.cells #[] 5)) #[] 0 (by simp) (Nat.zero_le _) rfl
        rwa [show (w1.alloc (.cells #[] 5)).heap.size = w1.heap.size + 1 by simp] at this
    case round =>
      obtain ⟨k, gp, gq, cp, cq, hk, rfl, rfl, rfl, hne, hp, hq, hb⟩ := hrel
      by_cases hlt : k < 64
      · by_cases hkM : k < L
        · obtain ⟨b, o, rfl, hm, hcc⟩ := HCELL.out (by omega)
          unfold maxLen at hm
          have hcw := hcc k hkM
          have hne2 : b < w1.heap.size := World.block_lt_of_cell? w1 _ hcw
          have hcr := (hb.cell hne2).trans hcw
          obtain ⟨c, hc⟩ : ∃ c, c = xs.getD k 0 := ⟨_, rfl⟩
          rw [← hc] at hcr
          unfold bv at hcr
          obtain ⟨d, hd⟩ : ∃ d, d = c ^^^ 54 := ⟨_, rfl⟩
          obtain ⟨f, hf⟩ : ∃ f, f = c ^^^ 92 := ⟨_, rfl⟩
          have hx54 : bits .xor .u8 (c.toNat : Int) 54 = (d.toNat : Int) := by rw [hd]; exact xor_bv c 54
          have hx92 : bits .xor .u8 (c.toNat : Int) 92 = (f.toNat : Int) := by rw [hf]; exact xor_bv c 92
          have S1 := Lib.hid (show Hm.someX 54 xs (k + 1) = Hm.someX 54 xs k ++ [d] by rw [Hm.someX_step 54 xs hlt, Hm.pad_at k HML.out, ← hc, hd])
          have S2 := Lib.hid (show Hm.someX 92 xs (k + 1) = Hm.someX 92 xs k ++ [f] by rw [Hm.someX_step 92 xs hlt, Hm.pad_at k HML.out, ← hc, hf])
          clear hc hd hf hcw
          go_wp2_with (at_builtin; refine append1 rfl (.tmp 33) (.tmp 36) rfl rfl (hp.out.alloc _) d wr.heap.size rfl ?ca ?cb ?cc ?_)
          case ca => exact (cell_of_row _ _ _ _ _ _ (heap_alloc_new wr _)).trans rfl
          case cb => omega
          case cc => have := hb.size; simp; omega
          intro g5 c5 w5 ho5 hg5 hat5
          have hq5 := Lib.hid (World.ownsRow.kept (hq.out.alloc _) hg5 (.inr (fun e => hne (Option.some.inj e).symm)))
          have hlq := (hq.out.lt gq rfl).2
          have hne5 : g5 ≠ gq := by
            rcases hat5 with e | e
            · exact fun h => hne ((Option.some.inj e).trans h)
            · omega
          have hb5 : Below w1.heap.size w1 w5 := (hb.alloc hb.size _).grown hg5 (by have := hb.size; simp; omega) (fun k hk => (hp.out.lt k hk).1)
          have HO5 := Lib.hid ho5
          clear hg5 hat5 ho5 hlq
          go_wp2_with (at_builtin; refine append1 rfl (.tmp 38) (.tmp 41) rfl rfl (hq5.out.alloc _) f w5.heap.size rfl ?cd ?ce ?cf ?_)
          case cd => exact (cell_of_row _ _ _ _ _ _ (heap_alloc_new w5 _)).trans rfl
          case ce => omega
          case cf => have := hb5.size; simp; omega
          intro g7 c7 w7 ho7 hg7 hat7
          have hp7 := Lib.hid (World.ownsRow.kept (HO5.out.alloc _) hg7 (.inr (fun e => hne5 (Option.some.inj e))))
          have hlp := (HO5.out.lt g5 rfl).2
          have hne7 : g5 ≠ g7 := by
            rcases hat7 with e | e
            · exact fun h => hne5 (h.trans (Option.some.inj e).symm)
            · omega
          have hb7 : Below w1.heap.size w1 w7 := (hb5.alloc hb5.size _).grown hg7 (by have := hb5.size; simp; omega) (fun k hk => (hq5.out.lt k hk).1)
          have HO7 := Lib.hid ho7
          clear hg7 hat7 ho7 hlp
          go_wp2
          go_roundw
          case rel =>
            refine ⟨k + 1, g5, g7, c5, c7, by omega, by go_num, rfl, rfl, hne7, Lib.hid ?_, Lib.hid ?_, hb7⟩
            · rw [S1.out, List.map_append]
              exact hp7.out
            · rw [S2.out, List.map_append]
              exact HO7.out
          case measure => simp [intOf]; omega
        · have S1 := Lib.hid (show Hm.someX 54 xs (k + 1) = Hm.someX 54 xs k ++ [54] by rw [Hm.someX_step 54 xs hlt, pad_past (by rw [HM.out]; omega) HML.out]; rfl)
          have S2 := Lib.hid (show Hm.someX 92 xs (k + 1) = Hm.someX 92 xs k ++ [92] by rw [Hm.someX_step 92 xs hlt, pad_past (by rw [HM.out]; omega) HML.out]; rfl)
          go_wp2_with (at_builtin; refine append1 rfl (.tmp 33) (.tmp 36) rfl rfl (hp.out.alloc _) 54 wr.heap.size rfl ?ca ?cb ?cc ?_)
          case ca => exact (cell_of_row _ _ _ _ _ _ (heap_alloc_new wr _)).trans rfl
          case cb => omega
          case cc => have := hb.size; simp; omega
          intro g5 c5 w5 ho5 hg5 hat5
          have hq5 := Lib.hid (World.ownsRow.kept (hq.out.alloc _) hg5 (.inr (fun e => hne (Option.some.inj e).symm)))
          have hlq := (hq.out.lt gq rfl).2
          have hne5 : g5 ≠ gq := by
            rcases hat5 with e | e
            · exact fun h => hne ((Option.some.inj e).trans h)
            · omega
          have hb5 : Below w1.heap.size w1 w5 := (hb.alloc hb.size _).grown hg5 (by have := hb.size; simp; omega) (fun k hk => (hp.out.lt k hk).1)
          have HO5 := Lib.hid ho5
          clear hg5 hat5 ho5 hlq
          go_wp2_with (at_builtin; refine append1 rfl (.tmp 38) (.tmp 41) rfl rfl (hq5.out.alloc _) 92 w5.heap.size rfl ?cd ?ce ?cf ?_)
          case cd => exact (cell_of_row _ _ _ _ _ _ (heap_alloc_new w5 _)).trans rfl
          case ce => omega
          case cf => have := hb5.size; simp; omega
          intro g7 c7 w7 ho7 hg7 hat7
          have hp7 := Lib.hid (World.ownsRow.kept (HO5.out.alloc _) hg7 (.inr (fun e => hne5 (Option.some.inj e))))
          have hlp := (HO5.out.lt g5 rfl).2
          have hne7 : g5 ≠ g7 := by
            rcases hat7 with e | e
            · exact fun h => hne5 (h.trans (Option.some.inj e).symm)
            · omega
          have hb7 : Below w1.heap.size w1 w7 := (hb5.alloc hb5.size _).grown hg7 (by have := hb5.size; simp; omega) (fun k hk => (hq5.out.lt k hk).1)
          have HO7 := Lib.hid ho7
          clear hg7 hat7 ho7 hlp
          go_wp2
          go_roundw
          case rel =>
            refine ⟨k + 1, g5, g7, c5, c7, by omega, by go_num, rfl, rfl, hne7, Lib.hid ?_, Lib.hid ?_, hb7⟩
            · rw [S1.out, List.map_append]
              exact hp7.out
            · rw [S2.out, List.map_append]
              exact HO7.out
          case measure => simp [intOf]; omega
      · obtain rfl : k = 64 := by omega
        have rb := RB.out.below hb
        have rk := RK.out.below hb
        rw [Hm.someX_all] at hp hq
        go_wp2_with (at_builtin; refine append_u8s rfl (.tmp 43) (.tmp 44) rfl rfl hp.out (xb.map bv) rb (bv_cell _) ?ca ?cb ?_)
        case ca => rw [List.length_map]; omega
        case cb => exact hb.size
        intro v8 w8 ho8 hg8
        have hq8 := World.ownsRow.kept hq.out hg8 (.inr (fun e => hne (Option.some.inj e).symm))
        have hb8 : Below w1.heap.size w1 w8 := hb.grown hg8 hb.size (fun k hk => (hp.out.lt k hk).1)
        have hr8 : Rd w8 v8 ((Hm.xor 54 (Hm.pad xs) ++ xb).map bv) := by
          rw [List.map_append]
          exact Rd.of_own ho8
        have HQ8 := Lib.hid hq8
        have HB8 := Lib.hid hb8
        have HR8 := Lib.hid hr8
        clear rb rk ho8 hg8 hq8 hb8 hr8 hp hq hb
        go_wp2_with fail
        have hc := sum_any v8 (Hm.xor 54 (Hm.pad xs) ++ xb) w8 HR8.out (by rw [List.length_append, Hm.xor_len, Hm.pad_len]; omega) (HTB1.out.below HB8.out)
        rw [HTV.out] at hc
        refine hc.mono ?_
        clear hc
        rintro e w9 ⟨rfl, hb9⟩
        have HQ9 := Lib.hid (own_below HQ8.out hb9)
        have HB9 := Lib.hid (HB8.out.trans (hb9.mono HB8.out.size))
        clear hb9
        go_wp2_with (refine wpList_store_at rfl 25 _ _ rfl w9.heap.size T rfl rfl 25 _ (heap_alloc_new w9 _) ?cd HIT.out HONET.out ?_)
        case cd => rw [HTL.out]; rfl
        intro w10 hg10 hgr10
        have b10 : Below w9.heap.size w9 w10 := ((Below.refl _ _).alloc (Nat.le_refl _) _).grown hgr10 (by simp) (fun k hk => by cases hk; exact Nat.le_refl _)
        have hB10 := HB9.out.trans (b10.mono HB9.out.size)
        have A : TW w1 w9.heap.size gq cq T (.slice ao L cap) vb xs xb X w10 := ⟨hg10.out, RK.out.below hB10, RB.out.below hB10, by rw [HX.out]; exact own_below HQ9.out b10, HTB1.out.below hB10, hB10⟩
        obtain ⟨g5, hg5⟩ : ∃ g, g = w9.heap.size := ⟨_, rfl⟩
        rw [← hg5] at A ⊢
        have A0 := A.next ((Below.refl _ _).drew)
        have C1 := Lib.hid (fun wr (h : TW w1 g5 gq cq T (.slice ao L cap) vb xs xb X wr) => h.sum (by have := HML.out; omega) (by omega) HR.out)
        have C3 : Hid (∀ wr v, Rd wr v ((X ++ I).map bv) → Below w1.heap.size w1 wr → Calls Tryd.prog 13 #[v] wr fun e w' => e = .returned (.agg R.toArray) ∧ Below w1.heap.size w1 w') := fun wr v hv hb => by
          have hc := sum_any v (X ++ I) wr hv (by rw [List.length_append, HXL.out, HILN.out]; decide) (HTB1.out.below hb)
          rw [HSV.out] at hc
          refine hc.mono ?_
          rintro e w' ⟨rfl, h⟩
          exact ⟨rfl, hb.trans (h.mono hb.size)⟩
        have HPOS := Lib.hid (show 0 < I.length by rw [HILN.out]; decide)
        have HLEN := Lib.hid (show 64 + I.length ≤ 16777216 by rw [HILN.out]; decide)
        have heq := HEQ.out
        have hge := guard16
        clear A hg10 hgr10 b10 hB10 hg5
        go_wp2
        go_region_held3 (fun _ => True) (trivial)
          (first | (go_at_call 9; refine (C1.out _ (by assumption)).mono ?_; rintro e w11 ⟨rfl, A1⟩; have i1 := A1.inner HT.out HILN.out) | (refine step_append_rd (by simp [Region.wanted, yielded]) (.tmp 52) (.tmp 53) (by rfl) w1.heap.size 64 _ (X.map bv) (by rfl) A1.ho _ I (by rfl) i1 HPOS.out HLEN.out A1.below.size ?_; intro v12 w12 ho12 hb12; have r12 := Rd.of_own ho12; rw [← List.map_append] at r12; have b12 := A1.below.trans hb12) | (go_at_call 13; refine (C3.out _ _ (by assumption) (by assumption)).mono ?_; rintro e w13 ⟨rfl, b13⟩))
        have c13 := HB1.out.trans (b13.mono HB1.out.size)
        clear heq hge
        go_wp2
        go_ret
        exact ⟨rfl, c13⟩
end Go.Proofs.YtlimjcpkgolijaaDoor
