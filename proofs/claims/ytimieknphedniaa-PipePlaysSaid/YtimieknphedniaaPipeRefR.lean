/- The reference's pipe: Reply, walked. -/
import Derived.Test.YtimieknphedniaaPipeRef
import Derived.Test.YtimieknphedniaaPipeRp
namespace Go.Proofs.Ytimieknphedniaa
open Go.RowKit

theorem one1_no {s : ByteArray} (h : s.size = 0) : one1 s = false := by
  obtain ⟨⟨d⟩⟩ := s
  cases d with
  | nil => rfl
  | cons c r => simp [ByteArray.size] at h
theorem one1_0 {s : ByteArray} (h : 0 < s.size) : one1 s = (s[0]'h == 49) := by
  obtain ⟨⟨d⟩⟩ := s
  cases d with
  | nil => simp [ByteArray.size] at h
  | cons c r => rfl

section
variable {w : World} {B g : Nat} {s : Value} {l : List Wt}
theorem ynobody_any (h : YO w B g s []) (p : Int) (cd : ByteArray) : Calls Try.prog 12 #[.pointer (some ⟨g, 0, none⟩), .int .i64 p, repV cd] w fun e w' => e = .returned (.tuple #[Wt.zero.val, .bool false, .bool false]) ∧ Below w.heap.size w w' := by
  obtain ⟨w1, hw1⟩ : ∃ x, w.alloc (.cells #[.string cd, .slice none 0 0, .slice none 0 0] 40) = x := ⟨_, rfl⟩
  have hb1 : Below w.heap.size w w1 := by rw [← hw1]; exact (Below.refl _ w).alloc (Nat.le_refl _) _
  have hs1 : w1.heap.size = w.heap.size + 1 := by rw [← hw1]; simp
  have hr1 : w1.heap[w.heap.size]? = some (.cells #[.string cd, .slice none 0 0, .slice none 0 0] 40 (0, 0)) := by rw [← hw1]; exact heap_alloc_new _ _
  obtain ⟨w2, hw2⟩ : ∃ x, w1.alloc (.cells #[.string ⟨#[]⟩, .string ⟨#[]⟩, .bool false, .int .i64 0] 31) = x := ⟨_, rfl⟩
  have hb2 : Below w.heap.size w w2 := by rw [← hw2]; exact hb1.alloc (by omega) _
  have hs2 : w2.heap.size = w.heap.size + 2 := by rw [← hw2]; simp [hs1]
  have hz : WB w2 (w.heap.size + 1) Wt.zero := by rw [← hw2, ← hs1]; exact WB.new w1 Wt.zero
  have hr2 : w2.heap[w.heap.size]? = some (.cells #[.string cd, .slice none 0 0, .slice none 0 0] 40 (0, 0)) := by rw [← hw2, heap_alloc_old _ _ (by omega)]; exact hr1
  have HS1 := Lib.hid hs1
  have h2 := h.next hb2
  have hH := yhead_none h2
  have HB2 := Lib.hid hb2
  have HZ := Lib.hid hz
  have HS2 := Lib.hid hs2
  clear h2 hz hb2 hb1 h hr1 hr2 hs2
  unfold repV
  unfold Wt.val at hH
  dsimp only [Wt.zero] at hH
  show Calls _ _ _ _ fun e w' => e = .returned (.tuple #[.agg #[.string ⟨#[]⟩, .string ⟨#[]⟩, .bool false, .int .i64 0], .bool false, .bool false]) ∧ _
  go_enter Try.func12, Try.ntmps12
  go_wp2_with fail
  refine hH.mono ?_
  rintro e w3 ⟨rfl, hb3⟩
  clear hw1 hw2 hH
  obtain ⟨w4, w5, hw4, hw5, hm⟩ := want_made w3 Wt.zero
  dsimp only [Wt.zero] at hw5
  have z0 := hm.z0
  have z1 := hm.z1
  have z2 := hm.z2
  have z3 := hm.z3
  have zf := hm.zf
  have hb3' := HB2.out.trans (hb3.mono HB2.out.size)
  have hz5 := (HZ.out.next hb3).next hm.hb
  have hb5 := hb3'.trans (hm.hb.mono hb3'.size)
  have f5 := hz5.froz
  have y0 := hz5.c0
  have y1 := hz5.c1
  have y2 := hz5.c2
  have y3 := hz5.c3
  dsimp only [Wt.zero] at y0 y1 y2 y3
  obtain ⟨w6, hw6⟩ : ∃ x, (((w5.setCell ⟨w.heap.size + 1, 0, none⟩ (.string ⟨#[]⟩)).setCell ⟨w.heap.size + 1, 1, none⟩ (.string ⟨#[]⟩)).setCell ⟨w.heap.size + 1, 2, none⟩ (.bool false)).setCell ⟨w.heap.size + 1, 3, none⟩ (.int .i64 0) = x := ⟨_, rfl⟩
  have hz6 : WB w6 (w.heap.size + 1) Wt.zero := by rw [← hw6]; exact hz5.put Wt.zero
  have HB6 := Lib.hid (show Below w.heap.size w w6 by rw [← hw6]; exact setN_below (Nat.le_succ _) Wt.zero.cells 0 hb5)
  have d0 := hz6.c0
  have d1 := hz6.c1
  have d2 := hz6.c2
  have d3 := hz6.c3
  dsimp only [Wt.zero] at d0 d1 d2 d3
  clear hb5 hb3 hb3' hz5 hz6 hm
  go_wp2
  refine bodyPost_ret (v := .tuple #[.agg #[.string ⟨#[]⟩, .string ⟨#[]⟩, .bool false, .int .i64 0], .bool false, .bool false]) (by simp [results, Try.results12, go_sem, d0, d1, d2, d3]) rfl ⟨rfl, HB6.out⟩
set_option maxHeartbeats 1000000 in
theorem yreply_stays {x : Wt} (h : YO w B g s (x :: l)) (p : Int) (cd : ByteArray) (hfin : fin p cd = false) : Calls Try.prog 12 #[.pointer (some ⟨g, 0, none⟩), .int .i64 p, repV cd] w fun e w' => e = .returned (.tuple #[x.val, .bool false, .bool true]) ∧ ∃ s', YO w' B g s' (x :: l) ∧ Trn (· = g) w w' ∧ (s' = s ∨ ∀ k, s'.ownBlock = some k → w.heap.size ≤ k) := by
  have hgw := h.lt
  have h0' := h
  obtain ⟨xt, xc, xb, xd⟩ := x
  obtain ⟨w1, hw1⟩ : ∃ x, w.alloc (.cells #[.string cd, .slice none 0 0, .slice none 0 0] 40) = x := ⟨_, rfl⟩
  have hb1 : Below w.heap.size w w1 := by rw [← hw1]; exact (Below.refl _ w).alloc (Nat.le_refl _) _
  have hs1 : w1.heap.size = w.heap.size + 1 := by rw [← hw1]; simp
  have hr1 : w1.heap[w.heap.size]? = some (.cells #[.string cd, .slice none 0 0, .slice none 0 0] 40 (0, 0)) := by rw [← hw1]; exact heap_alloc_new _ _
  obtain ⟨w2, hw2⟩ : ∃ x, w1.alloc (.cells #[.string ⟨#[]⟩, .string ⟨#[]⟩, .bool false, .int .i64 0] 31) = x := ⟨_, rfl⟩
  have hb2 : Below w.heap.size w w2 := by rw [← hw2]; exact hb1.alloc (by omega) _
  have hs2 : w2.heap.size = w.heap.size + 2 := by rw [← hw2]; simp [hs1]
  have hz : WB w2 (w.heap.size + 1) Wt.zero := by rw [← hw2, ← hs1]; exact WB.new w1 Wt.zero
  have hr2 : w2.heap[w.heap.size]? = some (.cells #[.string cd, .slice none 0 0, .slice none 0 0] 40 (0, 0)) := by rw [← hw2, heap_alloc_old _ _ (by omega)]; exact hr1
  have HS1 := Lib.hid hs1
  have h2 := h.next hb2
  have hH := yhead_any h2
  have HB2 := Lib.hid hb2
  have HZ := Lib.hid hz
  have HR := Lib.hid hr2
  have HG := Lib.hid hgw
  have HY := Lib.hid h2
  have HY0 := Lib.hid h0'
  have HS2 := Lib.hid hs2
  clear h2 hz hb2 hb1 h h0' hr1 hr2 hs2 hgw
  unfold repV Wt.val
  unfold Wt.val at hH
  dsimp only at hH ⊢
  rcases (show p ≠ 3 ∨ (p = 3 ∧ cd.size = 0) ∨ (p = 3 ∧ ∃ h : 0 < cd.size, cd[0]'h = 49) ∨ (p = 3 ∧ ∃ h : 0 < cd.size, cd[0]'h ≠ 49) by
    by_cases h1 : p = 3
    · rcases Nat.eq_zero_or_pos cd.size with h2 | h2
      · exact .inr (.inl ⟨h1, h2⟩)
      · by_cases h3 : cd[0]'h2 = 49
        · exact .inr (.inr (.inl ⟨h1, h2, h3⟩))
        · exact .inr (.inr (.inr ⟨h1, h2, h3⟩))
    · exact .inl h1) with hA | ⟨rfl, hA⟩ | ⟨rfl, h0, hA⟩ | ⟨rfl, h0, hA⟩
  · have hf1 : fin p cd = true := by rw [fin, beq_eq_false_iff_ne.2 hA]; rfl
    rw [hf1] at hfin
    exact absurd hfin (by decide)
  · have hf1 : fin 3 cd = true := by rw [fin, one1_no hA]; rfl
    rw [hf1] at hfin
    exact absurd hfin (by decide)
  · clear hfin
    have hx : (cd[0]'h0).toNat = 49 := by rw [hA]; rfl
    clear hA
    go_enter Try.func12, Try.ntmps12
    go_wp2_with fail
    refine hH.mono ?_
    rintro e w3 ⟨rfl, hb3⟩
    clear hw1 hw2 hH
    obtain ⟨w4, w5, hw4, hw5, hm⟩ := want_made w3 ⟨xt, xc, xb, xd⟩
    dsimp only at hw5
    have z0 := hm.z0
    have z1 := hm.z1
    have z2 := hm.z2
    have z3 := hm.z3
    have zf := hm.zf
    have hb3' := HB2.out.trans (hb3.mono HB2.out.size)
    have hz5 := (HZ.out.next hb3).next hm.hb
    have hb5 := hb3'.trans (hm.hb.mono hb3'.size)
    have hr5 : w5.heap[w.heap.size]? = some (.cells #[.string cd, .slice none 0 0, .slice none 0 0] 40 (0, 0)) := (hm.hb.block _ (by have := hb3.size; have := HS2.out; omega)).trans ((hb3.block _ (by have := HS2.out; omega)).trans HR.out)
    have r0 : w5.cell? ⟨w.heap.size, 0, none⟩ = some (.string cd) := cell_of_row _ _ _ _ _ _ hr5
    have hy5 := (HY.out.next hb3).next hm.hb
    have hw5b := hm.wb
    have v0 := hw5b.c0
    have v1 := hw5b.c1
    have v2 := hw5b.c2
    have v3 := hw5b.c3
    dsimp only at v0 v1 v2 v3
    have hq3 : w.heap.size + 2 ≤ w3.heap.size := by have := hb3.size; have := HS2.out; omega
    obtain ⟨q3, hq3e⟩ : ∃ q, w3.heap.size = q := ⟨_, rfl⟩
    rw [hq3e] at hq3 v0 v1 v2 v3 hw5b hw5 z0 z1 z2 z3 zf
    have HQ3 := Lib.hid hq3
    have HW5 := Lib.hid hw5b
    have HB5 := Lib.hid hb5
    have HY5 := Lib.hid hy5
    have HZ5 := Lib.hid hz5
    clear hb3 hb3' hm hr5 hq3 hw5b hb5
    have f5 := hz5.froz
    have y0 := hz5.c0
    have y1 := hz5.c1
    have y2 := hz5.c2
    have y3 := hz5.c3
    dsimp only [Wt.zero] at y0 y1 y2 y3
    obtain ⟨w6, hw6⟩ : ∃ x, (((w5.setCell ⟨w.heap.size + 1, 0, none⟩ (.string xt)).setCell ⟨w.heap.size + 1, 1, none⟩ (.string xc)).setCell ⟨w.heap.size + 1, 2, none⟩ (.bool xb)).setCell ⟨w.heap.size + 1, 3, none⟩ (.int .i64 xd) = x := ⟨_, rfl⟩
    have hz6 : WB w6 (w.heap.size + 1) ⟨xt, xc, xb, xd⟩ := by rw [← hw6]; exact hz5.put ⟨xt, xc, xb, xd⟩
    have hb6 : Below w.heap.size w w6 := by rw [← hw6]; exact setN_below (Nat.le_succ _) (Wt.mk xt xc xb xd).cells 0 HB5.out
    have HB6 := Lib.hid hb6
    have HY6 := Lib.hid (HY0.out.next hb6)
    have d0 := hz6.c0
    have d1 := hz6.c1
    have d2 := hz6.c2
    have d3 := hz6.c3
    dsimp only at d0 d1 d2 d3
    clear hz5 hz6 hb6 hy5
    go_wp2
    refine bodyPost_ret (v := .tuple #[.agg #[.string xt, .string xc, .bool xb, .int .i64 xd], .bool false, .bool true]) (by simp [results, Try.results12, go_sem, d0, d1, d2, d3]) rfl ⟨rfl, _, HY6.out, Trn.of_below HB6.out, .inl rfl⟩
  · have hf1 : fin 3 cd = true := by rw [fin, one1_0 h0, beq_eq_false_iff_ne.2 hA]; rfl
    rw [hf1] at hfin
    exact absurd hfin (by decide)
set_option maxHeartbeats 1000000 in
theorem yreply_goes {x : Wt} (h : YO w B g s (x :: l)) (hB : B ≤ w.heap.size) (hl8 : l.length ≤ 8) (p : Int) (cd : ByteArray) (hfin : fin p cd = true) : Calls Try.prog 12 #[.pointer (some ⟨g, 0, none⟩), .int .i64 p, repV cd] w fun e w' => e = .returned (.tuple #[x.val, .bool true, .bool true]) ∧ ∃ s', YO w' B g s' (l) ∧ Trn (· = g) w w' ∧ (s' = s ∨ ∀ k, s'.ownBlock = some k → w.heap.size ≤ k) := by
  have hgw := h.lt
  have h0' := h
  obtain ⟨xt, xc, xb, xd⟩ := x
  obtain ⟨w1, hw1⟩ : ∃ x, w.alloc (.cells #[.string cd, .slice none 0 0, .slice none 0 0] 40) = x := ⟨_, rfl⟩
  have hb1 : Below w.heap.size w w1 := by rw [← hw1]; exact (Below.refl _ w).alloc (Nat.le_refl _) _
  have hs1 : w1.heap.size = w.heap.size + 1 := by rw [← hw1]; simp
  have hr1 : w1.heap[w.heap.size]? = some (.cells #[.string cd, .slice none 0 0, .slice none 0 0] 40 (0, 0)) := by rw [← hw1]; exact heap_alloc_new _ _
  obtain ⟨w2, hw2⟩ : ∃ x, w1.alloc (.cells #[.string ⟨#[]⟩, .string ⟨#[]⟩, .bool false, .int .i64 0] 31) = x := ⟨_, rfl⟩
  have hb2 : Below w.heap.size w w2 := by rw [← hw2]; exact hb1.alloc (by omega) _
  have hs2 : w2.heap.size = w.heap.size + 2 := by rw [← hw2]; simp [hs1]
  have hz : WB w2 (w.heap.size + 1) Wt.zero := by rw [← hw2, ← hs1]; exact WB.new w1 Wt.zero
  have hr2 : w2.heap[w.heap.size]? = some (.cells #[.string cd, .slice none 0 0, .slice none 0 0] 40 (0, 0)) := by rw [← hw2, heap_alloc_old _ _ (by omega)]; exact hr1
  have HS1 := Lib.hid hs1
  have h2 := h.next hb2
  have hH := yhead_any h2
  have HB2 := Lib.hid hb2
  have HZ := Lib.hid hz
  have HR := Lib.hid hr2
  have HG := Lib.hid hgw
  have HY := Lib.hid h2
  have HY0 := Lib.hid h0'
  have HS2 := Lib.hid hs2
  clear h2 hz hb2 hb1 h h0' hr1 hr2 hs2 hgw
  unfold repV Wt.val
  unfold Wt.val at hH
  dsimp only at hH ⊢
  rcases (show p ≠ 3 ∨ (p = 3 ∧ cd.size = 0) ∨ (p = 3 ∧ ∃ h : 0 < cd.size, cd[0]'h = 49) ∨ (p = 3 ∧ ∃ h : 0 < cd.size, cd[0]'h ≠ 49) by
    by_cases h1 : p = 3
    · rcases Nat.eq_zero_or_pos cd.size with h2 | h2
      · exact .inr (.inl ⟨h1, h2⟩)
      · by_cases h3 : cd[0]'h2 = 49
        · exact .inr (.inr (.inl ⟨h1, h2, h3⟩))
        · exact .inr (.inr (.inr ⟨h1, h2, h3⟩))
    · exact .inl h1) with hA | ⟨rfl, hA⟩ | ⟨rfl, h0, hA⟩ | ⟨rfl, h0, hA⟩
  · clear hfin
    have hp1 : (p == 3) = false := beq_eq_false_iff_ne.2 hA
    have hp2 : (p = 3) = False := eq_false hA
    clear hA
    go_enter Try.func12, Try.ntmps12
    go_wp2_with fail
    refine hH.mono ?_
    rintro e w3 ⟨rfl, hb3⟩
    clear hw1 hw2 hH
    obtain ⟨w4, w5, hw4, hw5, hm⟩ := want_made w3 ⟨xt, xc, xb, xd⟩
    dsimp only at hw5
    have z0 := hm.z0
    have z1 := hm.z1
    have z2 := hm.z2
    have z3 := hm.z3
    have zf := hm.zf
    have hb3' := HB2.out.trans (hb3.mono HB2.out.size)
    have hz5 := (HZ.out.next hb3).next hm.hb
    have hb5 := hb3'.trans (hm.hb.mono hb3'.size)
    have hr5 : w5.heap[w.heap.size]? = some (.cells #[.string cd, .slice none 0 0, .slice none 0 0] 40 (0, 0)) := (hm.hb.block _ (by have := hb3.size; have := HS2.out; omega)).trans ((hb3.block _ (by have := HS2.out; omega)).trans HR.out)
    have r0 : w5.cell? ⟨w.heap.size, 0, none⟩ = some (.string cd) := cell_of_row _ _ _ _ _ _ hr5
    have hy5 := (HY.out.next hb3).next hm.hb
    have hw5b := hm.wb
    have v0 := hw5b.c0
    have v1 := hw5b.c1
    have v2 := hw5b.c2
    have v3 := hw5b.c3
    dsimp only at v0 v1 v2 v3
    have hq3 : w.heap.size + 2 ≤ w3.heap.size := by have := hb3.size; have := HS2.out; omega
    obtain ⟨q3, hq3e⟩ : ∃ q, w3.heap.size = q := ⟨_, rfl⟩
    rw [hq3e] at hq3 v0 v1 v2 v3 hw5b hw5 z0 z1 z2 z3 zf
    have HQ3 := Lib.hid hq3
    have HW5 := Lib.hid hw5b
    have HB5 := Lib.hid hb5
    have HY5 := Lib.hid hy5
    have HZ5 := Lib.hid hz5
    clear hb3 hb3' hm hr5 hq3 hw5b hb5
    obtain ⟨w6, hw6⟩ : ∃ x, w5.alloc (.cells #[] 31) = x := ⟨_, rfl⟩
    have hb56 : Below w5.heap.size w5 w6 := by rw [← hw6]; exact (Below.refl _ w5).alloc (Nat.le_refl _) _
    have HM := Lib.hid (show OW w6 w.heap.size (.slice (some ⟨w5.heap.size, 0, none⟩) 0 0) [] by rw [← hw6]; exact OW.made w5 _ HB5.out.size)
    have hb6 := HB5.out.trans (hb56.mono HB5.out.size)
    have HB6 := Lib.hid hb6
    have hy6 := hy5.next hb56
    have c0 := hy6.c0
    have HW6 := Lib.hid (HW5.out.next hb56)
    have HZ6 := Lib.hid (HZ5.out.next hb56)
    have HQ5 := Lib.hid (show q3 < w5.heap.size from HW5.out.lt)
    have HG5 := Lib.hid (show g < w5.heap.size from hy5.lt)
    obtain ⟨ao, cap, hs, hcap, hcc⟩ := hy6.form
    obtain ⟨b, rfl, hcm, _⟩ := hcc (by simp)
    have hrw := hy6.o.rw
    rw [hs] at hrw c0
    obtain ⟨b', hb', ht1, ht2⟩ := hrw.tail (fun b2 o2 e => by injection e with e; injection e with e1 e2; exact e2.symm) rfl
    obtain rfl : b' = b := by injection hb' with e; injection e with e1 e2; exact e1.symm
    rw [List.length_cons] at hcap c0
    have HL8 := Lib.hid hl8
    generalize hn : l.length = n at *
    have HN := Lib.hid hn
    clear hz5 hy5 hy6 hs hcc hrw hb' hb56 hb6 hl8
    rcases Nat.lt_or_ge 1 cap with hcap1 | hcap1
    · have HT := Lib.hid (ht2 (by omega))
      have hc1 : (cap = 1) = False := eq_false (by omega)
      have hn1 : (1 : Int) ≤ (n : Int) + 1 := by omega
      clear ht1 ht2 hn
      go_wp2_with (at_builtin; refine append_row rfl l (.tmp 35) (.tmp 40) rfl rfl HM.out _ rfl HT.out n (by rw [List.length_nil, Nat.zero_add]; exact HN.out) (by have := HL8.out; omega) HB6.out.size ?_)
      intro a7 cap7 w7 ho hT hv
      have hT : w6.grownBy w7 (some w5.heap.size) := hT
      have hb7 : Below w.heap.size w w7 := ⟨hT.os.trans HB6.out.os, hT.tape.trans HB6.out.tape, hT.output.trans HB6.out.output, Nat.le_trans HB6.out.size hT.size, fun k hk => (hT.block k (Nat.lt_of_lt_of_le hk HB6.out.size) (fun e => by have := HB5.out.size; injection e with e; omega)).trans (HB6.out.block k hk)⟩
      have hyp := HY0.out.put hb7 ho hB
      have HOB := Lib.hid (ho.lt)
      have hz7 : WB w7 (w.heap.size + 1) Wt.zero := HZ6.out.same (hT.block _ HZ6.out.lt (fun e => by have := HQ5.out; have := HQ3.out; injection e with e; omega))
      have hw7 : WB w7 q3 ⟨xt, xc, xb, xd⟩ := HW6.out.same (hT.block _ HW6.out.lt (fun e => by have := HQ5.out; injection e with e; omega))
      have hc7 : w7.cell? ⟨g, 0, none⟩ = some s := by
        have hy7 : w7.heap[g]? = w.heap[g]? := hb7.block g HG.out
        exact (World.cell?_of_block hy7).trans HY0.out.c0
      have hf7 : w7.frozen? ⟨g, 0, none⟩ = false := by
        have hy7 : w7.heap[g]? = w.heap[g]? := hb7.block g HG.out
        exact (World.frozen?_of_block hy7).trans (HY0.out.f0 0)
      obtain ⟨w8, hw8⟩ : ∃ x, w7.setCell ⟨g, 0, none⟩ (.slice a7 n cap7) = x := ⟨_, rfl⟩
      rw [hw8] at hyp
      have hTs : Trn (· = g) w7 w8 := by rw [← hw8]; exact (Trn.refl (· = g) w7).setCell rfl _
      have hz8 := hz7.apart hTs (by have := HG.out; omega)
      have hw8b := hw7.apart hTs (by have := HG.out; have := HQ3.out; omega)
      have t0 := hw8b.c0
      have t1 := hw8b.c1
      have t2 := hw8b.c2
      have t3 := hw8b.c3
      have f8 := hz8.froz
      have y0 := hz8.c0
      have y1 := hz8.c1
      have y2 := hz8.c2
      have y3 := hz8.c3
      dsimp only [Wt.zero] at y0 y1 y2 y3 t0 t1 t2 t3
      obtain ⟨w9, hw9⟩ : ∃ x, (((w8.setCell ⟨w.heap.size + 1, 0, none⟩ (.string xt)).setCell ⟨w.heap.size + 1, 1, none⟩ (.string xc)).setCell ⟨w.heap.size + 1, 2, none⟩ (.bool xb)).setCell ⟨w.heap.size + 1, 3, none⟩ (.int .i64 xd) = x := ⟨_, rfl⟩
      have hz9 : WB w9 (w.heap.size + 1) ⟨xt, xc, xb, xd⟩ := by rw [← hw9]; exact hz8.put ⟨xt, xc, xb, xd⟩
      have h18 : Trn (· = g) w w8 := (Trn.of_below (F := (· = g)) hb7).then hTs
      have hTn : Trn (· = w.heap.size + 1) w8 w9 := by rw [← hw9]; exact setN_trn (F := (· = w.heap.size + 1)) rfl (Wt.mk xt xc xb xd).cells 0 (Trn.refl _ w8)
      have hsn : (Value.slice a7 n cap7).ownBlock ≠ some (w.heap.size + 1) := fun e => by
        rcases hv with hv | hv
        · rw [hv] at e
          have := HQ5.out
          have := HQ3.out
          have e2 : w5.heap.size = w.heap.size + 1 := by simpa [Value.ownBlock] using e
          omega
        · rw [hv] at e
          injection e with e
          have := HM.out.lt w5.heap.size rfl
          have := HQ5.out
          have := HQ3.out
          omega
      have HY9 := Lib.hid (hyp.apart hTn (by have := HG.out; omega) hsn)
      have HT9 := Lib.hid (show Trn (· = g) w w9 from ⟨hTn.os.trans h18.os, hTn.tape.trans h18.tape, hTn.output.trans h18.output, Nat.le_trans h18.size hTn.size, fun k hk hkg => (hTn.block k (Nat.lt_of_lt_of_le hk h18.size) (by omega)).trans (h18.block k hk hkg)⟩)
      have d0 := hz9.c0
      have d1 := hz9.c1
      have d2 := hz9.c2
      have d3 := hz9.c3
      dsimp only at d0 d1 d2 d3
      clear ho hT hv hb7 hyp hz7 hw7 hTs hz8 hw8b hz9 h18 hTn hsn
      go_wp2
      refine bodyPost_ret (v := .tuple #[.agg #[.string xt, .string xc, .bool xb, .int .i64 xd], .bool true, .bool true]) (by simp [results, Try.results12, go_sem, d0, d1, d2, d3]) rfl ⟨rfl, _, HY9.out, HT9.out, .inr (fun k hk => (HOB.out k hk).1)⟩
    · obtain rfl : cap = 1 := by omega
      obtain rfl : n = 0 := by omega
      have HT := Lib.hid (ht1 rfl)
      clear ht1 ht2 hn
      go_wp2_with (at_builtin; refine append_row rfl l (.tmp 35) (.tmp 40) rfl rfl HM.out _ rfl HT.out 0 (by rw [List.length_nil, Nat.zero_add]; exact HN.out) (by have := HL8.out; omega) HB6.out.size ?_)
      intro a7 cap7 w7 ho hT hv
      have hT : w6.grownBy w7 (some w5.heap.size) := hT
      have hb7 : Below w.heap.size w w7 := ⟨hT.os.trans HB6.out.os, hT.tape.trans HB6.out.tape, hT.output.trans HB6.out.output, Nat.le_trans HB6.out.size hT.size, fun k hk => (hT.block k (Nat.lt_of_lt_of_le hk HB6.out.size) (fun e => by have := HB5.out.size; injection e with e; omega)).trans (HB6.out.block k hk)⟩
      have hyp := HY0.out.put hb7 ho hB
      have HOB := Lib.hid (ho.lt)
      have hz7 : WB w7 (w.heap.size + 1) Wt.zero := HZ6.out.same (hT.block _ HZ6.out.lt (fun e => by have := HQ5.out; have := HQ3.out; injection e with e; omega))
      have hw7 : WB w7 q3 ⟨xt, xc, xb, xd⟩ := HW6.out.same (hT.block _ HW6.out.lt (fun e => by have := HQ5.out; injection e with e; omega))
      have hc7 : w7.cell? ⟨g, 0, none⟩ = some s := by
        have hy7 : w7.heap[g]? = w.heap[g]? := hb7.block g HG.out
        exact (World.cell?_of_block hy7).trans HY0.out.c0
      have hf7 : w7.frozen? ⟨g, 0, none⟩ = false := by
        have hy7 : w7.heap[g]? = w.heap[g]? := hb7.block g HG.out
        exact (World.frozen?_of_block hy7).trans (HY0.out.f0 0)
      obtain ⟨w8, hw8⟩ : ∃ x, w7.setCell ⟨g, 0, none⟩ (.slice a7 0 cap7) = x := ⟨_, rfl⟩
      rw [hw8] at hyp
      have hTs : Trn (· = g) w7 w8 := by rw [← hw8]; exact (Trn.refl (· = g) w7).setCell rfl _
      have hz8 := hz7.apart hTs (by have := HG.out; omega)
      have hw8b := hw7.apart hTs (by have := HG.out; have := HQ3.out; omega)
      have t0 := hw8b.c0
      have t1 := hw8b.c1
      have t2 := hw8b.c2
      have t3 := hw8b.c3
      have f8 := hz8.froz
      have y0 := hz8.c0
      have y1 := hz8.c1
      have y2 := hz8.c2
      have y3 := hz8.c3
      dsimp only [Wt.zero] at y0 y1 y2 y3 t0 t1 t2 t3
      obtain ⟨w9, hw9⟩ : ∃ x, (((w8.setCell ⟨w.heap.size + 1, 0, none⟩ (.string xt)).setCell ⟨w.heap.size + 1, 1, none⟩ (.string xc)).setCell ⟨w.heap.size + 1, 2, none⟩ (.bool xb)).setCell ⟨w.heap.size + 1, 3, none⟩ (.int .i64 xd) = x := ⟨_, rfl⟩
      have hz9 : WB w9 (w.heap.size + 1) ⟨xt, xc, xb, xd⟩ := by rw [← hw9]; exact hz8.put ⟨xt, xc, xb, xd⟩
      have h18 : Trn (· = g) w w8 := (Trn.of_below (F := (· = g)) hb7).then hTs
      have hTn : Trn (· = w.heap.size + 1) w8 w9 := by rw [← hw9]; exact setN_trn (F := (· = w.heap.size + 1)) rfl (Wt.mk xt xc xb xd).cells 0 (Trn.refl _ w8)
      have hsn : (Value.slice a7 0 cap7).ownBlock ≠ some (w.heap.size + 1) := fun e => by
        rcases hv with hv | hv
        · rw [hv] at e
          have := HQ5.out
          have := HQ3.out
          have e2 : w5.heap.size = w.heap.size + 1 := by simpa [Value.ownBlock] using e
          omega
        · rw [hv] at e
          injection e with e
          have := HM.out.lt w5.heap.size rfl
          have := HQ5.out
          have := HQ3.out
          omega
      have HY9 := Lib.hid (hyp.apart hTn (by have := HG.out; omega) hsn)
      have HT9 := Lib.hid (show Trn (· = g) w w9 from ⟨hTn.os.trans h18.os, hTn.tape.trans h18.tape, hTn.output.trans h18.output, Nat.le_trans h18.size hTn.size, fun k hk hkg => (hTn.block k (Nat.lt_of_lt_of_le hk h18.size) (by omega)).trans (h18.block k hk hkg)⟩)
      have d0 := hz9.c0
      have d1 := hz9.c1
      have d2 := hz9.c2
      have d3 := hz9.c3
      dsimp only at d0 d1 d2 d3
      clear ho hT hv hb7 hyp hz7 hw7 hTs hz8 hw8b hz9 h18 hTn hsn
      go_wp2
      refine bodyPost_ret (v := .tuple #[.agg #[.string xt, .string xc, .bool xb, .int .i64 xd], .bool true, .bool true]) (by simp [results, Try.results12, go_sem, d0, d1, d2, d3]) rfl ⟨rfl, _, HY9.out, HT9.out, .inr (fun k hk => (HOB.out k hk).1)⟩
  · clear hfin
    go_enter Try.func12, Try.ntmps12
    go_wp2_with fail
    refine hH.mono ?_
    rintro e w3 ⟨rfl, hb3⟩
    clear hw1 hw2 hH
    obtain ⟨w4, w5, hw4, hw5, hm⟩ := want_made w3 ⟨xt, xc, xb, xd⟩
    dsimp only at hw5
    have z0 := hm.z0
    have z1 := hm.z1
    have z2 := hm.z2
    have z3 := hm.z3
    have zf := hm.zf
    have hb3' := HB2.out.trans (hb3.mono HB2.out.size)
    have hz5 := (HZ.out.next hb3).next hm.hb
    have hb5 := hb3'.trans (hm.hb.mono hb3'.size)
    have hr5 : w5.heap[w.heap.size]? = some (.cells #[.string cd, .slice none 0 0, .slice none 0 0] 40 (0, 0)) := (hm.hb.block _ (by have := hb3.size; have := HS2.out; omega)).trans ((hb3.block _ (by have := HS2.out; omega)).trans HR.out)
    have r0 : w5.cell? ⟨w.heap.size, 0, none⟩ = some (.string cd) := cell_of_row _ _ _ _ _ _ hr5
    have hy5 := (HY.out.next hb3).next hm.hb
    have hw5b := hm.wb
    have v0 := hw5b.c0
    have v1 := hw5b.c1
    have v2 := hw5b.c2
    have v3 := hw5b.c3
    dsimp only at v0 v1 v2 v3
    have hq3 : w.heap.size + 2 ≤ w3.heap.size := by have := hb3.size; have := HS2.out; omega
    obtain ⟨q3, hq3e⟩ : ∃ q, w3.heap.size = q := ⟨_, rfl⟩
    rw [hq3e] at hq3 v0 v1 v2 v3 hw5b hw5 z0 z1 z2 z3 zf
    have HQ3 := Lib.hid hq3
    have HW5 := Lib.hid hw5b
    have HB5 := Lib.hid hb5
    have HY5 := Lib.hid hy5
    have HZ5 := Lib.hid hz5
    clear hb3 hb3' hm hr5 hq3 hw5b hb5
    obtain ⟨w6, hw6⟩ : ∃ x, w5.alloc (.cells #[] 31) = x := ⟨_, rfl⟩
    have hb56 : Below w5.heap.size w5 w6 := by rw [← hw6]; exact (Below.refl _ w5).alloc (Nat.le_refl _) _
    have HM := Lib.hid (show OW w6 w.heap.size (.slice (some ⟨w5.heap.size, 0, none⟩) 0 0) [] by rw [← hw6]; exact OW.made w5 _ HB5.out.size)
    have hb6 := HB5.out.trans (hb56.mono HB5.out.size)
    have HB6 := Lib.hid hb6
    have hy6 := hy5.next hb56
    have c0 := hy6.c0
    have HW6 := Lib.hid (HW5.out.next hb56)
    have HZ6 := Lib.hid (HZ5.out.next hb56)
    have HQ5 := Lib.hid (show q3 < w5.heap.size from HW5.out.lt)
    have HG5 := Lib.hid (show g < w5.heap.size from hy5.lt)
    obtain ⟨ao, cap, hs, hcap, hcc⟩ := hy6.form
    obtain ⟨b, rfl, hcm, _⟩ := hcc (by simp)
    have hrw := hy6.o.rw
    rw [hs] at hrw c0
    obtain ⟨b', hb', ht1, ht2⟩ := hrw.tail (fun b2 o2 e => by injection e with e; injection e with e1 e2; exact e2.symm) rfl
    obtain rfl : b' = b := by injection hb' with e; injection e with e1 e2; exact e1.symm
    rw [List.length_cons] at hcap c0
    have HL8 := Lib.hid hl8
    generalize hn : l.length = n at *
    have HN := Lib.hid hn
    clear hz5 hy5 hy6 hs hcc hrw hb' hb56 hb6 hl8
    rcases Nat.lt_or_ge 1 cap with hcap1 | hcap1
    · have HT := Lib.hid (ht2 (by omega))
      have hc1 : (cap = 1) = False := eq_false (by omega)
      have hn1 : (1 : Int) ≤ (n : Int) + 1 := by omega
      clear ht1 ht2 hn
      go_wp2_with (at_builtin; refine append_row rfl l (.tmp 35) (.tmp 40) rfl rfl HM.out _ rfl HT.out n (by rw [List.length_nil, Nat.zero_add]; exact HN.out) (by have := HL8.out; omega) HB6.out.size ?_)
      intro a7 cap7 w7 ho hT hv
      have hT : w6.grownBy w7 (some w5.heap.size) := hT
      have hb7 : Below w.heap.size w w7 := ⟨hT.os.trans HB6.out.os, hT.tape.trans HB6.out.tape, hT.output.trans HB6.out.output, Nat.le_trans HB6.out.size hT.size, fun k hk => (hT.block k (Nat.lt_of_lt_of_le hk HB6.out.size) (fun e => by have := HB5.out.size; injection e with e; omega)).trans (HB6.out.block k hk)⟩
      have hyp := HY0.out.put hb7 ho hB
      have HOB := Lib.hid (ho.lt)
      have hz7 : WB w7 (w.heap.size + 1) Wt.zero := HZ6.out.same (hT.block _ HZ6.out.lt (fun e => by have := HQ5.out; have := HQ3.out; injection e with e; omega))
      have hw7 : WB w7 q3 ⟨xt, xc, xb, xd⟩ := HW6.out.same (hT.block _ HW6.out.lt (fun e => by have := HQ5.out; injection e with e; omega))
      have hc7 : w7.cell? ⟨g, 0, none⟩ = some s := by
        have hy7 : w7.heap[g]? = w.heap[g]? := hb7.block g HG.out
        exact (World.cell?_of_block hy7).trans HY0.out.c0
      have hf7 : w7.frozen? ⟨g, 0, none⟩ = false := by
        have hy7 : w7.heap[g]? = w.heap[g]? := hb7.block g HG.out
        exact (World.frozen?_of_block hy7).trans (HY0.out.f0 0)
      obtain ⟨w8, hw8⟩ : ∃ x, w7.setCell ⟨g, 0, none⟩ (.slice a7 n cap7) = x := ⟨_, rfl⟩
      rw [hw8] at hyp
      have hTs : Trn (· = g) w7 w8 := by rw [← hw8]; exact (Trn.refl (· = g) w7).setCell rfl _
      have hz8 := hz7.apart hTs (by have := HG.out; omega)
      have hw8b := hw7.apart hTs (by have := HG.out; have := HQ3.out; omega)
      have t0 := hw8b.c0
      have t1 := hw8b.c1
      have t2 := hw8b.c2
      have t3 := hw8b.c3
      have f8 := hz8.froz
      have y0 := hz8.c0
      have y1 := hz8.c1
      have y2 := hz8.c2
      have y3 := hz8.c3
      dsimp only [Wt.zero] at y0 y1 y2 y3 t0 t1 t2 t3
      obtain ⟨w9, hw9⟩ : ∃ x, (((w8.setCell ⟨w.heap.size + 1, 0, none⟩ (.string xt)).setCell ⟨w.heap.size + 1, 1, none⟩ (.string xc)).setCell ⟨w.heap.size + 1, 2, none⟩ (.bool xb)).setCell ⟨w.heap.size + 1, 3, none⟩ (.int .i64 xd) = x := ⟨_, rfl⟩
      have hz9 : WB w9 (w.heap.size + 1) ⟨xt, xc, xb, xd⟩ := by rw [← hw9]; exact hz8.put ⟨xt, xc, xb, xd⟩
      have h18 : Trn (· = g) w w8 := (Trn.of_below (F := (· = g)) hb7).then hTs
      have hTn : Trn (· = w.heap.size + 1) w8 w9 := by rw [← hw9]; exact setN_trn (F := (· = w.heap.size + 1)) rfl (Wt.mk xt xc xb xd).cells 0 (Trn.refl _ w8)
      have hsn : (Value.slice a7 n cap7).ownBlock ≠ some (w.heap.size + 1) := fun e => by
        rcases hv with hv | hv
        · rw [hv] at e
          have := HQ5.out
          have := HQ3.out
          have e2 : w5.heap.size = w.heap.size + 1 := by simpa [Value.ownBlock] using e
          omega
        · rw [hv] at e
          injection e with e
          have := HM.out.lt w5.heap.size rfl
          have := HQ5.out
          have := HQ3.out
          omega
      have HY9 := Lib.hid (hyp.apart hTn (by have := HG.out; omega) hsn)
      have HT9 := Lib.hid (show Trn (· = g) w w9 from ⟨hTn.os.trans h18.os, hTn.tape.trans h18.tape, hTn.output.trans h18.output, Nat.le_trans h18.size hTn.size, fun k hk hkg => (hTn.block k (Nat.lt_of_lt_of_le hk h18.size) (by omega)).trans (h18.block k hk hkg)⟩)
      have d0 := hz9.c0
      have d1 := hz9.c1
      have d2 := hz9.c2
      have d3 := hz9.c3
      dsimp only at d0 d1 d2 d3
      clear ho hT hv hb7 hyp hz7 hw7 hTs hz8 hw8b hz9 h18 hTn hsn
      go_wp2
      refine bodyPost_ret (v := .tuple #[.agg #[.string xt, .string xc, .bool xb, .int .i64 xd], .bool true, .bool true]) (by simp [results, Try.results12, go_sem, d0, d1, d2, d3]) rfl ⟨rfl, _, HY9.out, HT9.out, .inr (fun k hk => (HOB.out k hk).1)⟩
    · obtain rfl : cap = 1 := by omega
      obtain rfl : n = 0 := by omega
      have HT := Lib.hid (ht1 rfl)
      clear ht1 ht2 hn
      go_wp2_with (at_builtin; refine append_row rfl l (.tmp 35) (.tmp 40) rfl rfl HM.out _ rfl HT.out 0 (by rw [List.length_nil, Nat.zero_add]; exact HN.out) (by have := HL8.out; omega) HB6.out.size ?_)
      intro a7 cap7 w7 ho hT hv
      have hT : w6.grownBy w7 (some w5.heap.size) := hT
      have hb7 : Below w.heap.size w w7 := ⟨hT.os.trans HB6.out.os, hT.tape.trans HB6.out.tape, hT.output.trans HB6.out.output, Nat.le_trans HB6.out.size hT.size, fun k hk => (hT.block k (Nat.lt_of_lt_of_le hk HB6.out.size) (fun e => by have := HB5.out.size; injection e with e; omega)).trans (HB6.out.block k hk)⟩
      have hyp := HY0.out.put hb7 ho hB
      have HOB := Lib.hid (ho.lt)
      have hz7 : WB w7 (w.heap.size + 1) Wt.zero := HZ6.out.same (hT.block _ HZ6.out.lt (fun e => by have := HQ5.out; have := HQ3.out; injection e with e; omega))
      have hw7 : WB w7 q3 ⟨xt, xc, xb, xd⟩ := HW6.out.same (hT.block _ HW6.out.lt (fun e => by have := HQ5.out; injection e with e; omega))
      have hc7 : w7.cell? ⟨g, 0, none⟩ = some s := by
        have hy7 : w7.heap[g]? = w.heap[g]? := hb7.block g HG.out
        exact (World.cell?_of_block hy7).trans HY0.out.c0
      have hf7 : w7.frozen? ⟨g, 0, none⟩ = false := by
        have hy7 : w7.heap[g]? = w.heap[g]? := hb7.block g HG.out
        exact (World.frozen?_of_block hy7).trans (HY0.out.f0 0)
      obtain ⟨w8, hw8⟩ : ∃ x, w7.setCell ⟨g, 0, none⟩ (.slice a7 0 cap7) = x := ⟨_, rfl⟩
      rw [hw8] at hyp
      have hTs : Trn (· = g) w7 w8 := by rw [← hw8]; exact (Trn.refl (· = g) w7).setCell rfl _
      have hz8 := hz7.apart hTs (by have := HG.out; omega)
      have hw8b := hw7.apart hTs (by have := HG.out; have := HQ3.out; omega)
      have t0 := hw8b.c0
      have t1 := hw8b.c1
      have t2 := hw8b.c2
      have t3 := hw8b.c3
      have f8 := hz8.froz
      have y0 := hz8.c0
      have y1 := hz8.c1
      have y2 := hz8.c2
      have y3 := hz8.c3
      dsimp only [Wt.zero] at y0 y1 y2 y3 t0 t1 t2 t3
      obtain ⟨w9, hw9⟩ : ∃ x, (((w8.setCell ⟨w.heap.size + 1, 0, none⟩ (.string xt)).setCell ⟨w.heap.size + 1, 1, none⟩ (.string xc)).setCell ⟨w.heap.size + 1, 2, none⟩ (.bool xb)).setCell ⟨w.heap.size + 1, 3, none⟩ (.int .i64 xd) = x := ⟨_, rfl⟩
      have hz9 : WB w9 (w.heap.size + 1) ⟨xt, xc, xb, xd⟩ := by rw [← hw9]; exact hz8.put ⟨xt, xc, xb, xd⟩
      have h18 : Trn (· = g) w w8 := (Trn.of_below (F := (· = g)) hb7).then hTs
      have hTn : Trn (· = w.heap.size + 1) w8 w9 := by rw [← hw9]; exact setN_trn (F := (· = w.heap.size + 1)) rfl (Wt.mk xt xc xb xd).cells 0 (Trn.refl _ w8)
      have hsn : (Value.slice a7 0 cap7).ownBlock ≠ some (w.heap.size + 1) := fun e => by
        rcases hv with hv | hv
        · rw [hv] at e
          have := HQ5.out
          have := HQ3.out
          have e2 : w5.heap.size = w.heap.size + 1 := by simpa [Value.ownBlock] using e
          omega
        · rw [hv] at e
          injection e with e
          have := HM.out.lt w5.heap.size rfl
          have := HQ5.out
          have := HQ3.out
          omega
      have HY9 := Lib.hid (hyp.apart hTn (by have := HG.out; omega) hsn)
      have HT9 := Lib.hid (show Trn (· = g) w w9 from ⟨hTn.os.trans h18.os, hTn.tape.trans h18.tape, hTn.output.trans h18.output, Nat.le_trans h18.size hTn.size, fun k hk hkg => (hTn.block k (Nat.lt_of_lt_of_le hk h18.size) (by omega)).trans (h18.block k hk hkg)⟩)
      have d0 := hz9.c0
      have d1 := hz9.c1
      have d2 := hz9.c2
      have d3 := hz9.c3
      dsimp only at d0 d1 d2 d3
      clear ho hT hv hb7 hyp hz7 hw7 hTs hz8 hw8b hz9 h18 hTn hsn
      go_wp2
      refine bodyPost_ret (v := .tuple #[.agg #[.string xt, .string xc, .bool xb, .int .i64 xd], .bool true, .bool true]) (by simp [results, Try.results12, go_sem, d0, d1, d2, d3]) rfl ⟨rfl, _, HY9.out, HT9.out, .inr (fun k hk => (HOB.out k hk).1)⟩
  · have hf1 : fin 3 cd = false := by rw [fin, one1_0 h0, hA]; rfl
    rw [hf1] at hfin
    exact absurd hfin (by decide)
  · clear hfin
    have hne : (cd[0]'h0).toNat ≠ 49 := fun e => hA (UInt8.toNat_inj.1 (show (cd[0]'h0).toNat = (49 : UInt8).toNat from e))
    have hx : (((cd[0]'h0).toNat : Int) == 49) = false := beq_eq_false_iff_ne.2 (by omega)
    have hx1 : (((cd[0]'h0).toNat : Int) = 49) = False := eq_false (by omega)
    have hx2 : ((cd[0]'h0).toNat = 49) = False := eq_false hne
    clear hA hne
    go_enter Try.func12, Try.ntmps12
    go_wp2_with fail
    refine hH.mono ?_
    rintro e w3 ⟨rfl, hb3⟩
    clear hw1 hw2 hH
    obtain ⟨w4, w5, hw4, hw5, hm⟩ := want_made w3 ⟨xt, xc, xb, xd⟩
    dsimp only at hw5
    have z0 := hm.z0
    have z1 := hm.z1
    have z2 := hm.z2
    have z3 := hm.z3
    have zf := hm.zf
    have hb3' := HB2.out.trans (hb3.mono HB2.out.size)
    have hz5 := (HZ.out.next hb3).next hm.hb
    have hb5 := hb3'.trans (hm.hb.mono hb3'.size)
    have hr5 : w5.heap[w.heap.size]? = some (.cells #[.string cd, .slice none 0 0, .slice none 0 0] 40 (0, 0)) := (hm.hb.block _ (by have := hb3.size; have := HS2.out; omega)).trans ((hb3.block _ (by have := HS2.out; omega)).trans HR.out)
    have r0 : w5.cell? ⟨w.heap.size, 0, none⟩ = some (.string cd) := cell_of_row _ _ _ _ _ _ hr5
    have hy5 := (HY.out.next hb3).next hm.hb
    have hw5b := hm.wb
    have v0 := hw5b.c0
    have v1 := hw5b.c1
    have v2 := hw5b.c2
    have v3 := hw5b.c3
    dsimp only at v0 v1 v2 v3
    have hq3 : w.heap.size + 2 ≤ w3.heap.size := by have := hb3.size; have := HS2.out; omega
    obtain ⟨q3, hq3e⟩ : ∃ q, w3.heap.size = q := ⟨_, rfl⟩
    rw [hq3e] at hq3 v0 v1 v2 v3 hw5b hw5 z0 z1 z2 z3 zf
    have HQ3 := Lib.hid hq3
    have HW5 := Lib.hid hw5b
    have HB5 := Lib.hid hb5
    have HY5 := Lib.hid hy5
    have HZ5 := Lib.hid hz5
    clear hb3 hb3' hm hr5 hq3 hw5b hb5
    obtain ⟨w6, hw6⟩ : ∃ x, w5.alloc (.cells #[] 31) = x := ⟨_, rfl⟩
    have hb56 : Below w5.heap.size w5 w6 := by rw [← hw6]; exact (Below.refl _ w5).alloc (Nat.le_refl _) _
    have HM := Lib.hid (show OW w6 w.heap.size (.slice (some ⟨w5.heap.size, 0, none⟩) 0 0) [] by rw [← hw6]; exact OW.made w5 _ HB5.out.size)
    have hb6 := HB5.out.trans (hb56.mono HB5.out.size)
    have HB6 := Lib.hid hb6
    have hy6 := hy5.next hb56
    have c0 := hy6.c0
    have HW6 := Lib.hid (HW5.out.next hb56)
    have HZ6 := Lib.hid (HZ5.out.next hb56)
    have HQ5 := Lib.hid (show q3 < w5.heap.size from HW5.out.lt)
    have HG5 := Lib.hid (show g < w5.heap.size from hy5.lt)
    obtain ⟨ao, cap, hs, hcap, hcc⟩ := hy6.form
    obtain ⟨b, rfl, hcm, _⟩ := hcc (by simp)
    have hrw := hy6.o.rw
    rw [hs] at hrw c0
    obtain ⟨b', hb', ht1, ht2⟩ := hrw.tail (fun b2 o2 e => by injection e with e; injection e with e1 e2; exact e2.symm) rfl
    obtain rfl : b' = b := by injection hb' with e; injection e with e1 e2; exact e1.symm
    rw [List.length_cons] at hcap c0
    have HL8 := Lib.hid hl8
    generalize hn : l.length = n at *
    have HN := Lib.hid hn
    clear hz5 hy5 hy6 hs hcc hrw hb' hb56 hb6 hl8
    rcases Nat.lt_or_ge 1 cap with hcap1 | hcap1
    · have HT := Lib.hid (ht2 (by omega))
      have hc1 : (cap = 1) = False := eq_false (by omega)
      have hn1 : (1 : Int) ≤ (n : Int) + 1 := by omega
      clear ht1 ht2 hn
      go_wp2_with (at_builtin; refine append_row rfl l (.tmp 35) (.tmp 40) rfl rfl HM.out _ rfl HT.out n (by rw [List.length_nil, Nat.zero_add]; exact HN.out) (by have := HL8.out; omega) HB6.out.size ?_)
      intro a7 cap7 w7 ho hT hv
      have hT : w6.grownBy w7 (some w5.heap.size) := hT
      have hb7 : Below w.heap.size w w7 := ⟨hT.os.trans HB6.out.os, hT.tape.trans HB6.out.tape, hT.output.trans HB6.out.output, Nat.le_trans HB6.out.size hT.size, fun k hk => (hT.block k (Nat.lt_of_lt_of_le hk HB6.out.size) (fun e => by have := HB5.out.size; injection e with e; omega)).trans (HB6.out.block k hk)⟩
      have hyp := HY0.out.put hb7 ho hB
      have HOB := Lib.hid (ho.lt)
      have hz7 : WB w7 (w.heap.size + 1) Wt.zero := HZ6.out.same (hT.block _ HZ6.out.lt (fun e => by have := HQ5.out; have := HQ3.out; injection e with e; omega))
      have hw7 : WB w7 q3 ⟨xt, xc, xb, xd⟩ := HW6.out.same (hT.block _ HW6.out.lt (fun e => by have := HQ5.out; injection e with e; omega))
      have hc7 : w7.cell? ⟨g, 0, none⟩ = some s := by
        have hy7 : w7.heap[g]? = w.heap[g]? := hb7.block g HG.out
        exact (World.cell?_of_block hy7).trans HY0.out.c0
      have hf7 : w7.frozen? ⟨g, 0, none⟩ = false := by
        have hy7 : w7.heap[g]? = w.heap[g]? := hb7.block g HG.out
        exact (World.frozen?_of_block hy7).trans (HY0.out.f0 0)
      obtain ⟨w8, hw8⟩ : ∃ x, w7.setCell ⟨g, 0, none⟩ (.slice a7 n cap7) = x := ⟨_, rfl⟩
      rw [hw8] at hyp
      have hTs : Trn (· = g) w7 w8 := by rw [← hw8]; exact (Trn.refl (· = g) w7).setCell rfl _
      have hz8 := hz7.apart hTs (by have := HG.out; omega)
      have hw8b := hw7.apart hTs (by have := HG.out; have := HQ3.out; omega)
      have t0 := hw8b.c0
      have t1 := hw8b.c1
      have t2 := hw8b.c2
      have t3 := hw8b.c3
      have f8 := hz8.froz
      have y0 := hz8.c0
      have y1 := hz8.c1
      have y2 := hz8.c2
      have y3 := hz8.c3
      dsimp only [Wt.zero] at y0 y1 y2 y3 t0 t1 t2 t3
      obtain ⟨w9, hw9⟩ : ∃ x, (((w8.setCell ⟨w.heap.size + 1, 0, none⟩ (.string xt)).setCell ⟨w.heap.size + 1, 1, none⟩ (.string xc)).setCell ⟨w.heap.size + 1, 2, none⟩ (.bool xb)).setCell ⟨w.heap.size + 1, 3, none⟩ (.int .i64 xd) = x := ⟨_, rfl⟩
      have hz9 : WB w9 (w.heap.size + 1) ⟨xt, xc, xb, xd⟩ := by rw [← hw9]; exact hz8.put ⟨xt, xc, xb, xd⟩
      have h18 : Trn (· = g) w w8 := (Trn.of_below (F := (· = g)) hb7).then hTs
      have hTn : Trn (· = w.heap.size + 1) w8 w9 := by rw [← hw9]; exact setN_trn (F := (· = w.heap.size + 1)) rfl (Wt.mk xt xc xb xd).cells 0 (Trn.refl _ w8)
      have hsn : (Value.slice a7 n cap7).ownBlock ≠ some (w.heap.size + 1) := fun e => by
        rcases hv with hv | hv
        · rw [hv] at e
          have := HQ5.out
          have := HQ3.out
          have e2 : w5.heap.size = w.heap.size + 1 := by simpa [Value.ownBlock] using e
          omega
        · rw [hv] at e
          injection e with e
          have := HM.out.lt w5.heap.size rfl
          have := HQ5.out
          have := HQ3.out
          omega
      have HY9 := Lib.hid (hyp.apart hTn (by have := HG.out; omega) hsn)
      have HT9 := Lib.hid (show Trn (· = g) w w9 from ⟨hTn.os.trans h18.os, hTn.tape.trans h18.tape, hTn.output.trans h18.output, Nat.le_trans h18.size hTn.size, fun k hk hkg => (hTn.block k (Nat.lt_of_lt_of_le hk h18.size) (by omega)).trans (h18.block k hk hkg)⟩)
      have d0 := hz9.c0
      have d1 := hz9.c1
      have d2 := hz9.c2
      have d3 := hz9.c3
      dsimp only at d0 d1 d2 d3
      clear ho hT hv hb7 hyp hz7 hw7 hTs hz8 hw8b hz9 h18 hTn hsn
      go_wp2
      refine bodyPost_ret (v := .tuple #[.agg #[.string xt, .string xc, .bool xb, .int .i64 xd], .bool true, .bool true]) (by simp [results, Try.results12, go_sem, d0, d1, d2, d3]) rfl ⟨rfl, _, HY9.out, HT9.out, .inr (fun k hk => (HOB.out k hk).1)⟩
    · obtain rfl : cap = 1 := by omega
      obtain rfl : n = 0 := by omega
      have HT := Lib.hid (ht1 rfl)
      clear ht1 ht2 hn
      go_wp2_with (at_builtin; refine append_row rfl l (.tmp 35) (.tmp 40) rfl rfl HM.out _ rfl HT.out 0 (by rw [List.length_nil, Nat.zero_add]; exact HN.out) (by have := HL8.out; omega) HB6.out.size ?_)
      intro a7 cap7 w7 ho hT hv
      have hT : w6.grownBy w7 (some w5.heap.size) := hT
      have hb7 : Below w.heap.size w w7 := ⟨hT.os.trans HB6.out.os, hT.tape.trans HB6.out.tape, hT.output.trans HB6.out.output, Nat.le_trans HB6.out.size hT.size, fun k hk => (hT.block k (Nat.lt_of_lt_of_le hk HB6.out.size) (fun e => by have := HB5.out.size; injection e with e; omega)).trans (HB6.out.block k hk)⟩
      have hyp := HY0.out.put hb7 ho hB
      have HOB := Lib.hid (ho.lt)
      have hz7 : WB w7 (w.heap.size + 1) Wt.zero := HZ6.out.same (hT.block _ HZ6.out.lt (fun e => by have := HQ5.out; have := HQ3.out; injection e with e; omega))
      have hw7 : WB w7 q3 ⟨xt, xc, xb, xd⟩ := HW6.out.same (hT.block _ HW6.out.lt (fun e => by have := HQ5.out; injection e with e; omega))
      have hc7 : w7.cell? ⟨g, 0, none⟩ = some s := by
        have hy7 : w7.heap[g]? = w.heap[g]? := hb7.block g HG.out
        exact (World.cell?_of_block hy7).trans HY0.out.c0
      have hf7 : w7.frozen? ⟨g, 0, none⟩ = false := by
        have hy7 : w7.heap[g]? = w.heap[g]? := hb7.block g HG.out
        exact (World.frozen?_of_block hy7).trans (HY0.out.f0 0)
      obtain ⟨w8, hw8⟩ : ∃ x, w7.setCell ⟨g, 0, none⟩ (.slice a7 0 cap7) = x := ⟨_, rfl⟩
      rw [hw8] at hyp
      have hTs : Trn (· = g) w7 w8 := by rw [← hw8]; exact (Trn.refl (· = g) w7).setCell rfl _
      have hz8 := hz7.apart hTs (by have := HG.out; omega)
      have hw8b := hw7.apart hTs (by have := HG.out; have := HQ3.out; omega)
      have t0 := hw8b.c0
      have t1 := hw8b.c1
      have t2 := hw8b.c2
      have t3 := hw8b.c3
      have f8 := hz8.froz
      have y0 := hz8.c0
      have y1 := hz8.c1
      have y2 := hz8.c2
      have y3 := hz8.c3
      dsimp only [Wt.zero] at y0 y1 y2 y3 t0 t1 t2 t3
      obtain ⟨w9, hw9⟩ : ∃ x, (((w8.setCell ⟨w.heap.size + 1, 0, none⟩ (.string xt)).setCell ⟨w.heap.size + 1, 1, none⟩ (.string xc)).setCell ⟨w.heap.size + 1, 2, none⟩ (.bool xb)).setCell ⟨w.heap.size + 1, 3, none⟩ (.int .i64 xd) = x := ⟨_, rfl⟩
      have hz9 : WB w9 (w.heap.size + 1) ⟨xt, xc, xb, xd⟩ := by rw [← hw9]; exact hz8.put ⟨xt, xc, xb, xd⟩
      have h18 : Trn (· = g) w w8 := (Trn.of_below (F := (· = g)) hb7).then hTs
      have hTn : Trn (· = w.heap.size + 1) w8 w9 := by rw [← hw9]; exact setN_trn (F := (· = w.heap.size + 1)) rfl (Wt.mk xt xc xb xd).cells 0 (Trn.refl _ w8)
      have hsn : (Value.slice a7 0 cap7).ownBlock ≠ some (w.heap.size + 1) := fun e => by
        rcases hv with hv | hv
        · rw [hv] at e
          have := HQ5.out
          have := HQ3.out
          have e2 : w5.heap.size = w.heap.size + 1 := by simpa [Value.ownBlock] using e
          omega
        · rw [hv] at e
          injection e with e
          have := HM.out.lt w5.heap.size rfl
          have := HQ5.out
          have := HQ3.out
          omega
      have HY9 := Lib.hid (hyp.apart hTn (by have := HG.out; omega) hsn)
      have HT9 := Lib.hid (show Trn (· = g) w w9 from ⟨hTn.os.trans h18.os, hTn.tape.trans h18.tape, hTn.output.trans h18.output, Nat.le_trans h18.size hTn.size, fun k hk hkg => (hTn.block k (Nat.lt_of_lt_of_le hk h18.size) (by omega)).trans (h18.block k hk hkg)⟩)
      have d0 := hz9.c0
      have d1 := hz9.c1
      have d2 := hz9.c2
      have d3 := hz9.c3
      dsimp only at d0 d1 d2 d3
      clear ho hT hv hb7 hyp hz7 hw7 hTs hz8 hw8b hz9 h18 hTn hsn
      go_wp2
      refine bodyPost_ret (v := .tuple #[.agg #[.string xt, .string xc, .bool xb, .int .i64 xd], .bool true, .bool true]) (by simp [results, Try.results12, go_sem, d0, d1, d2, d3]) rfl ⟨rfl, _, HY9.out, HT9.out, .inr (fun k hk => (HOB.out k hk).1)⟩
end
end Go.Proofs.Ytimieknphedniaa
