/- The reference's One, walked. -/
import Derived.Test.YtnodngcfjdghcaaDoorRBodied
namespace Go.Proofs.YtnodngcfjdghcaaDoor
open Go.RowKit

section
variable {w wr w' : World} {sb gr : Nat} {K TT : ByteArray} {mo : Bool} {lv : Value} {ls : List (List UInt8)}
theorem own_one (B : Nat) (w0 : World) (u : Value) (hB : B ≤ w0.heap.size) : (w0.alloc (.cells #[u] 9)).ownsRow B 9 1 (.slice (some ⟨w0.heap.size, 0, none⟩) 1 1) 1 [u] :=
  ⟨rfl, .inr ⟨w0.heap.size, 1, #[u], rfl, hB, heap_alloc_new w0 _, Nat.le_refl _, by unfold maxLen; omega, rfl, rfl⟩⟩
/-- The first line is read. -/
theorem os_new {w1 : World} (hb : Below w.heap.size w w1) (hr : Rb w1 w.heap.size ⟨#[]⟩ (.slice none 0 0) (.slice none 0 0)) (mo : Bool) (tt : List UInt8) :
    OS w (((w1.alloc (.cells #[.string K, .bool mo, .string (ba tt)] 54)).alloc (.cells #[.string (ba tt)] 9)).alloc (.cells #[.string K, .slice (some ⟨w1.heap.size + 1, 0, none⟩) 1 1, .slice none 0 0] 30)) w1.heap.size (w1.heap.size + 1 + 1) K mo (ba tt) (.slice (some ⟨w1.heap.size + 1, 0, none⟩) 1 1) [tt] := by
  have h0 := hr.lt
  obtain ⟨wa, hwa⟩ : ∃ wa, wa = w1.alloc (.cells #[.string K, .bool mo, .string (ba tt)] 54) := ⟨_, rfl⟩
  have za : wa.heap.size = w1.heap.size + 1 := by rw [hwa]; exact World.size_alloc _ _
  obtain ⟨wb, hwb⟩ : ∃ wb, wb = wa.alloc (.cells #[.string (ba tt)] 9) := ⟨_, rfl⟩
  have zb : wb.heap.size = w1.heap.size + 1 + 1 := by rw [hwb, World.size_alloc, za]
  have ba' : Below w1.heap.size w1 wa := by rw [hwa]; exact (Below.refl _ _).alloc (Nat.le_refl _) _
  have bb' : Below wa.heap.size wa wb := by rw [hwb]; exact (Below.refl _ _).alloc (Nat.le_refl _) _
  have hs : St3 wa w1.heap.size K mo (ba tt) := by rw [hwa]; exact St3.new w1 K (ba tt) mo
  have ho : wb.ownsRow w.heap.size 9 1 (.slice (some ⟨w1.heap.size + 1, 0, none⟩) 1 1) 1 [.string (ba tt)] := by
    have := own_one w.heap.size wa (.string (ba tt)) (by omega)
    rw [← hwb, za] at this
    exact this
  rw [← hwa, ← hwb]
  have bc : Below wb.heap.size wb (wb.alloc (.cells #[.string K, .slice (some ⟨w1.heap.size + 1, 0, none⟩) 1 1, .slice none 0 0] 30)) := (Below.refl _ _).alloc (Nat.le_refl _) _
  have hg : Rb (wb.alloc (.cells #[.string K, .slice (some ⟨w1.heap.size + 1, 0, none⟩) 1 1, .slice none 0 0] 30)) (w1.heap.size + 1 + 1) K (.slice (some ⟨w1.heap.size + 1, 0, none⟩) 1 1) (.slice none 0 0) := by
    rw [← zb]; exact World.alloc_heap_new wb _
  have hB : Below w1.heap.size w1 (wb.alloc (.cells #[.string K, .slice (some ⟨w1.heap.size + 1, 0, none⟩) 1 1, .slice none 0 0] 30)) := (ba'.trans (bb'.mono (by omega))).trans (bc.mono (by omega))
  refine ⟨hb.trans (hB.mono (by omega)), hr.same (hB.block _ h0), hs.same ((bc.block _ (by omega)).trans (bb'.block _ (by omega))), hg, own_below ho bc, h0, by omega⟩
theorem OS.tell (h : OS w wr sb gr K mo TT lv ls) :
    Rb (((wr.setCell ⟨w.heap.size, 0, none⟩ (.string K)).setCell ⟨w.heap.size, 1, none⟩ lv).setCell ⟨w.heap.size, 2, none⟩ (.slice none 0 0)) w.heap.size K lv (.slice none 0 0) ∧
    Below w.heap.size w (((wr.setCell ⟨w.heap.size, 0, none⟩ (.string K)).setCell ⟨w.heap.size, 1, none⟩ lv).setCell ⟨w.heap.size, 2, none⟩ (.slice none 0 0)) ∧
    Rd (((wr.setCell ⟨w.heap.size, 0, none⟩ (.string K)).setCell ⟨w.heap.size, 1, none⟩ lv).setCell ⟨w.heap.size, 2, none⟩ (.slice none 0 0)) lv (ls.map sv) := by
  have n1 := own_not h.o h.r (by decide)
  exact ⟨h.r.set _ _ _, below_set3 h.b (Nat.le_refl _) _ _ _, Rd.of_own (own_setCell (own_setCell (own_setCell h.o n1) n1) n1)⟩
theorem OS.tell0 (h : OS w wr sb gr K mo TT lv ls) :
    Rb (((wr.setCell ⟨w.heap.size, 0, none⟩ (.string ⟨#[]⟩)).setCell ⟨w.heap.size, 1, none⟩ (.slice none 0 0)).setCell ⟨w.heap.size, 2, none⟩ (.slice none 0 0)) w.heap.size ⟨#[]⟩ (.slice none 0 0) (.slice none 0 0) ∧
    Below w.heap.size w (((wr.setCell ⟨w.heap.size, 0, none⟩ (.string ⟨#[]⟩)).setCell ⟨w.heap.size, 1, none⟩ (.slice none 0 0)).setCell ⟨w.heap.size, 2, none⟩ (.slice none 0 0)) :=
  ⟨h.r.set _ _ _, below_set3 h.b (Nat.le_refl _) _ _ _⟩
theorem OS.grow (h : OS w wr sb gr K mo TT lv ls) (hg : wr.grownBy w' lv.ownBlock) : Rb w' gr K lv (.slice none 0 0) ∧ Rb w' w.heap.size ⟨#[]⟩ (.slice none 0 0) (.slice none 0 0) :=
  ⟨h.g.same (hg.block _ h.g.lt (fun e => own_not h.o h.g (by decide) e.symm)), h.r.same (hg.block _ h.r.lt (fun e => own_not h.o h.r (by decide) e.symm))⟩
end
theorem rd_past3 {w : World} {v : Value} {vs : List Value} {b : Nat} (h : Rd w v vs) (n : ∀ k, v.ownBlock = some k → k ≠ b) (u0 u1 u2 : Value) : Rd (((w.setCell ⟨b, 0, none⟩ u0).setCell ⟨b, 1, none⟩ u1).setCell ⟨b, 2, none⟩ u2) v vs :=
  (Trn.set3_one w b u0 u1 u2).rd h n
theorem rst_some {p : Int} {x : List UInt8} {t : Ln.Sa} (h : Ln.status p x = some t) (hl : x.length ≤ 1000) (w : World) :
    Calls Tryd.prog 21 #[.int .i64 p, .string (ba x)] w fun e w' => e = .returned (.tuple #[.agg #[.string (ba t.code), .bool t.more, .string (ba t.text)], .bool true]) ∧ Below w.heap.size w w' := by
  have h1 := rstatus_any p x (by omega) w
  rw [h] at h1
  exact h1
theorem rst_none {p : Int} {x : List UInt8} (h : Ln.status p x = none) (hl : x.length ≤ 1000) (w : World) :
    Calls Tryd.prog 21 #[.int .i64 p, .string (ba x)] w fun e w' => e = .returned (.tuple #[.agg #[.string ⟨#[]⟩, .bool false, .string ⟨#[]⟩], .bool false]) ∧ Below w.heap.size w w' := by
  have h1 := rstatus_any p x (by omega) w
  rw [h] at h1
  exact h1

set_option maxHeartbeats 8000000 in
set_option maxRecDepth 20000 in
theorem one_none {w : World} {xs : List (List UInt8)} {f N cap : Nat} {p : Int} {body : Bool} {ao : Option Addr} (hr : Rd w (.slice ao N cap) (xs.map sv)) (hN : N = xs.length) (hf : f < N) (h40 : N ≤ 40) (hx : ∀ x ∈ xs, x.length ≤ 200)
    (hm : Rp.Mids p body xs f) (hst : Ln.status p (xs.getD f []) = none) :
    Calls Tryd.prog 13 #[.int .i64 p, .slice ao N cap, .int .i64 (f : Int), .bool body] w (OneP w N (Rp.runs p body (xs.drop f))) := by
  have hfx : f < xs.length := by omega
  have hal := (Below.refl w.heap.size w).alloc (Nat.le_refl _) (.cells #[.string ⟨#[]⟩, .slice none 0 0, .slice none 0 0] 30)
  have hr0 : Rb (w.alloc (.cells #[.string ⟨#[]⟩, .slice none 0 0, .slice none 0 0] 30)) w.heap.size ⟨#[]⟩ (.slice none 0 0) (.slice none 0 0) := World.alloc_heap_new w _
  obtain ⟨q, o, rfl, g1, g2, g3⟩ := rd_at (hr.below hal) (by omega)
  replace g3 := g3 f _ (svs_at hfx)
  have hlen : (xs.getD f []).length ≤ 200 := hx _ (getD_mem hfx)
  have hfi : Rp.first p (xs.getD f []) body = .inr (.inr 63) := by unfold Rp.first; rw [hst]
  obtain ⟨e1, e2⟩ := hm.head hfx (fun m h => by rw [hfi] at h; cases h)
  rw [hfi] at e2
  obtain ⟨x, hx'⟩ : ∃ x, x = xs.getD f [] := ⟨_, rfl⟩
  rw [← hx'] at g3 hlen hst
  replace g3 : (w.alloc (.cells #[.string ⟨#[]⟩, .slice none 0 0, .slice none 0 0] 30)).cell? ⟨q, o + f, none⟩ = some (.string (ba x)) := g3
  have CS := Lib.hid (fun wz => rst_none hst (by omega) wz)
  have E2 := Lib.hid e2
  have HAL := Lib.hid hal
  have HR0 := Lib.hid hr0
  have eN : (f : Int) + 1 = (N : Int) := by omega
  unfold maxLen at g2
  clear e1 e2 hfi hst hx' hx hr hm hal hr0 hlen hfx hN
  go_enter Tryd.func13, Tryd.ntmps13
  go_wp2_with fail
  refine (CS.out _).mono ?_
  rintro e w1 ⟨rfl, hb1⟩
  have hb2 := (HAL.out.trans (hb1.mono HAL.out.size)).alloc (HAL.out.trans (hb1.mono HAL.out.size)).size (.cells #[.string ⟨#[]⟩, .bool false, .string ⟨#[]⟩] 54)
  have hr1 := HR0.out.same (hb1.block _ HR0.out.lt)
  have hr2 : Rb (w1.alloc (.cells #[.string ⟨#[]⟩, .bool false, .string ⟨#[]⟩] 54)) w.heap.size ⟨#[]⟩ (.slice none 0 0) (.slice none 0 0) := hr1.same (Below.heap_alloc _ _ _ hr1.lt)
  have c0 := hr2.c0
  have c1 := hr2.c1
  have c2 := hr2.c2
  have y0 := hr2.fr 0
  have y1 := hr2.fr 1
  have y2 := hr2.fr 2
  have F1 := Lib.hid (And.intro (hr2.set ⟨#[]⟩ (.slice none 0 0) (.slice none 0 0)) (below_set3 hb2 (Nat.le_refl _) (.string ⟨#[]⟩) (.slice none 0 0) (.slice none 0 0)))
  clear hb1 hb2 hr1 hr2 HAL HR0 CS
  go_wp2
  show bodyPost _ _ _ _ _ _
  refine bodyPost_ret (v := .tuple #[.agg #[.string ⟨#[]⟩, .slice none 0 0, .slice none 0 0], .int .i64 (N : Int), .bool false, .int .i64 63]) (by
    have d0 := (F1.out).1.c0
    have d1 := (F1.out).1.c1
    have d2 := (F1.out).1.c2
    generalize World.setCell _ _ _ = wz at d0 d1 d2 ⊢
    simp [results, Tryd.f13, go_sem, d0, d1, d2]) rfl ?_
  exact one_no E2.out F1.out.2 rfl
set_option maxHeartbeats 8000000 in
set_option maxRecDepth 20000 in
theorem one_whole_a {w : World} {xs : List (List UInt8)} {f N cap : Nat} {p : Int} {body : Bool} {t : Ln.Sa} {ao : Option Addr} (hr : Rd w (.slice ao N cap) (xs.map sv)) (hN : N = xs.length) (hf : f < N) (h40 : N ≤ 40) (hx : ∀ x ∈ xs, x.length ≤ 200)
    (hm : Rp.Mids p body xs f) (hst : Ln.status p (xs.getD f []) = some t) (hmo : t.more = false) (hp : p ≠ 2) :
    Calls Tryd.prog 13 #[.int .i64 p, .slice ao N cap, .int .i64 (f : Int), .bool body] w (OneP w N (Rp.runs p body (xs.drop f))) := by
  have hfx : f < xs.length := by omega
  have hal := (Below.refl w.heap.size w).alloc (Nat.le_refl _) (.cells #[.string ⟨#[]⟩, .slice none 0 0, .slice none 0 0] 30)
  have hr0 : Rb (w.alloc (.cells #[.string ⟨#[]⟩, .slice none 0 0, .slice none 0 0] 30)) w.heap.size ⟨#[]⟩ (.slice none 0 0) (.slice none 0 0) := World.alloc_heap_new w _
  obtain ⟨q, o, rfl, g1, g2, g3⟩ := rd_at (hr.below hal) (by omega)
  replace g3 := g3 f _ (svs_at hfx)
  have hlen : (xs.getD f []).length ≤ 200 := hx _ (getD_mem hfx)
  have hfi : Rp.first p (xs.getD f []) body = .inr (.inl ⟨t.code, [t.text], []⟩) := by
    unfold Rp.first
    rw [hst]
    dsimp only
    rw [if_neg (fun e => hp e.1), hmo, if_neg (by decide)]
  obtain ⟨e1, e2⟩ := hm.head hfx (fun m h => by rw [hfi] at h; cases h)
  rw [hfi] at e2
  have E2 := Lib.hid e2
  have eN : (f : Int) + 1 = (N : Int) := by omega
  clear e1 e2 hfi
  obtain ⟨x, hx'⟩ : ∃ x, x = xs.getD f [] := ⟨_, rfl⟩
  rw [← hx'] at g3 hlen hst
  replace g3 : (w.alloc (.cells #[.string ⟨#[]⟩, .slice none 0 0, .slice none 0 0] 30)).cell? ⟨q, o + f, none⟩ = some (.string (ba x)) := g3
  have CS := Lib.hid (fun wz => rst_some hst (by omega) wz)
  have HAL := Lib.hid hal
  have HR0 := Lib.hid hr0
  have HR := Lib.hid hr
  have HX := Lib.hid hx
  have HM := Lib.hid hm
  have HN := Lib.hid hN
  unfold maxLen at g2
  clear hst hx' hx hr hm hal hr0 hlen hfx hN
  obtain ⟨k, mo, tt⟩ := t
  dsimp only at *
  subst hmo
  obtain ⟨K, hK⟩ : ∃ K, K = ba k := ⟨_, rfl⟩
  obtain ⟨TT, hTT⟩ : ∃ TT, TT = ba tt := ⟨_, rfl⟩
  rw [← hK, ← hTT] at CS
  have HK := Lib.hid hK
  have HTT := Lib.hid hTT
  clear hK hTT
  go_enter Tryd.func13, Tryd.ntmps13
  go_wp2_with fail
  refine (CS.out _).mono ?_
  rintro e w1 ⟨rfl, hb1⟩
  have HO := Lib.hid (os_new (K := K) (HAL.out.trans (hb1.mono HAL.out.size)) (HR0.out.same (hb1.block _ HR0.out.lt)) false tt)
  rw [← HTT.out] at HO
  clear hb1 HAL HR0 CS
  go_upto_region 5 with fail
  obtain ⟨w3, hw3⟩ : ∃ w3, w3 = (((w1.alloc (.cells #[.string K, .bool false, .string TT] 54)).alloc (.cells #[.string TT] 9)).alloc (.cells #[.string K, .slice (some ⟨w1.heap.size + 1, 0, none⟩) 1 1, .slice none 0 0] 30)) := ⟨_, rfl⟩
  rw [← hw3] at HO ⊢
  clear hw3
  generalize w1.heap.size = sb at HO ⊢
  obtain ⟨gr, hgr⟩ : ∃ gr, gr = sb + 1 + 1 := ⟨_, rfl⟩
  rw [← hgr] at HO ⊢
  generalize (some ⟨sb + 1, 0, none⟩ : Option Addr) = la at HO ⊢
  clear hgr g3
  have s0 := HO.out.s.c0
  have s1 := HO.out.s.c1
  have r0 := HO.out.g.c0
  have r1 := HO.out.g.c1
  have r2 := HO.out.g.c2
  have o0 := HO.out.r.c0
  have o1 := HO.out.r.c1
  have o2 := HO.out.r.c2
  have y0 := HO.out.r.fr 0
  have y1 := HO.out.r.fr 1
  have y2 := HO.out.r.fr 2
  have hp2 : (p == 2) = false := beq_eq_false_iff_ne.2 hp
  have hp3 : (p = 2) = False := eq_false hp
  have F1 := Lib.hid HO.out.tell
  clear HO
  go_wp2
  show bodyPost _ _ _ _ _ _
  refine bodyPost_ret (v := .tuple #[.agg #[.string K, .slice la 1 1, .slice none 0 0], .int .i64 (N : Int), .bool true, .int .i64 0]) (by
    have d0 := (F1.out).1.c0
    have d1 := (F1.out).1.c1
    have d2 := (F1.out).1.c2
    generalize World.setCell _ _ _ = wz at d0 d1 d2 ⊢
    simp [results, Tryd.f13, go_sem, d0, d1, d2]) rfl ?_
  rw [E2.out]
  refine ⟨la, 1, none, 0, ?_, F1.out.2.2, rd_nil _ _ rfl, F1.out.2.1⟩
  rw [HK.out]
  rfl

set_option maxHeartbeats 8000000 in
set_option maxRecDepth 20000 in
theorem one_whole_b {w : World} {xs : List (List UInt8)} {f N cap : Nat} {t : Ln.Sa} {ao : Option Addr} (hr : Rd w (.slice ao N cap) (xs.map sv)) (hN : N = xs.length) (hf : f < N) (h40 : N ≤ 40) (hx : ∀ x ∈ xs, x.length ≤ 200)
    (hm : Rp.Mids 2 false xs f) (hst : Ln.status 2 (xs.getD f []) = some t) (hmo : t.more = false)  :
    Calls Tryd.prog 13 #[.int .i64 2, .slice ao N cap, .int .i64 (f : Int), .bool false] w (OneP w N (Rp.runs 2 false (xs.drop f))) := by
  have hfx : f < xs.length := by omega
  have hal := (Below.refl w.heap.size w).alloc (Nat.le_refl _) (.cells #[.string ⟨#[]⟩, .slice none 0 0, .slice none 0 0] 30)
  have hr0 : Rb (w.alloc (.cells #[.string ⟨#[]⟩, .slice none 0 0, .slice none 0 0] 30)) w.heap.size ⟨#[]⟩ (.slice none 0 0) (.slice none 0 0) := World.alloc_heap_new w _
  obtain ⟨q, o, rfl, g1, g2, g3⟩ := rd_at (hr.below hal) (by omega)
  replace g3 := g3 f _ (svs_at hfx)
  have hlen : (xs.getD f []).length ≤ 200 := hx _ (getD_mem hfx)
  have hfi : Rp.first 2 (xs.getD f []) false = .inr (.inl ⟨t.code, [t.text], []⟩) := by
    unfold Rp.first
    rw [hst]
    dsimp only
    rw [if_neg (fun e => by cases e.2.1), hmo, if_neg (by decide)]
  obtain ⟨e1, e2⟩ := hm.head hfx (fun m h => by rw [hfi] at h; cases h)
  rw [hfi] at e2
  have E2 := Lib.hid e2
  have eN : (f : Int) + 1 = (N : Int) := by omega
  clear e1 e2 hfi
  obtain ⟨x, hx'⟩ : ∃ x, x = xs.getD f [] := ⟨_, rfl⟩
  rw [← hx'] at g3 hlen hst
  replace g3 : (w.alloc (.cells #[.string ⟨#[]⟩, .slice none 0 0, .slice none 0 0] 30)).cell? ⟨q, o + f, none⟩ = some (.string (ba x)) := g3
  have CS := Lib.hid (fun wz => rst_some hst (by omega) wz)
  have HAL := Lib.hid hal
  have HR0 := Lib.hid hr0
  have HR := Lib.hid hr
  have HX := Lib.hid hx
  have HM := Lib.hid hm
  have HN := Lib.hid hN
  unfold maxLen at g2
  clear hst hx' hx hr hm hal hr0 hlen hfx hN
  obtain ⟨k, mo, tt⟩ := t
  dsimp only at *
  subst hmo
  obtain ⟨K, hK⟩ : ∃ K, K = ba k := ⟨_, rfl⟩
  obtain ⟨TT, hTT⟩ : ∃ TT, TT = ba tt := ⟨_, rfl⟩
  rw [← hK, ← hTT] at CS
  have HK := Lib.hid hK
  have HTT := Lib.hid hTT
  clear hK hTT
  go_enter Tryd.func13, Tryd.ntmps13
  go_wp2_with fail
  refine (CS.out _).mono ?_
  rintro e w1 ⟨rfl, hb1⟩
  have HO := Lib.hid (os_new (K := K) (HAL.out.trans (hb1.mono HAL.out.size)) (HR0.out.same (hb1.block _ HR0.out.lt)) false tt)
  rw [← HTT.out] at HO
  clear hb1 HAL HR0 CS
  go_upto_region 5 with fail
  obtain ⟨w3, hw3⟩ : ∃ w3, w3 = (((w1.alloc (.cells #[.string K, .bool false, .string TT] 54)).alloc (.cells #[.string TT] 9)).alloc (.cells #[.string K, .slice (some ⟨w1.heap.size + 1, 0, none⟩) 1 1, .slice none 0 0] 30)) := ⟨_, rfl⟩
  rw [← hw3] at HO ⊢
  clear hw3
  generalize w1.heap.size = sb at HO ⊢
  obtain ⟨gr, hgr⟩ : ∃ gr, gr = sb + 1 + 1 := ⟨_, rfl⟩
  rw [← hgr] at HO ⊢
  generalize (some ⟨sb + 1, 0, none⟩ : Option Addr) = la at HO ⊢
  clear hgr g3
  have s0 := HO.out.s.c0
  have s1 := HO.out.s.c1
  have r0 := HO.out.g.c0
  have r1 := HO.out.g.c1
  have r2 := HO.out.g.c2
  have o0 := HO.out.r.c0
  have o1 := HO.out.r.c1
  have o2 := HO.out.r.c2
  have y0 := HO.out.r.fr 0
  have y1 := HO.out.r.fr 1
  have y2 := HO.out.r.fr 2
  have F1 := Lib.hid HO.out.tell
  clear HO
  go_wp2
  show bodyPost _ _ _ _ _ _
  refine bodyPost_ret (v := .tuple #[.agg #[.string K, .slice la 1 1, .slice none 0 0], .int .i64 (N : Int), .bool true, .int .i64 0]) (by
    have d0 := (F1.out).1.c0
    have d1 := (F1.out).1.c1
    have d2 := (F1.out).1.c2
    generalize World.setCell _ _ _ = wz at d0 d1 d2 ⊢
    simp [results, Tryd.f13, go_sem, d0, d1, d2]) rfl ?_
  rw [E2.out]
  refine ⟨la, 1, none, 0, ?_, F1.out.2.2, rd_nil _ _ rfl, F1.out.2.1⟩
  rw [HK.out]
  rfl

set_option maxHeartbeats 8000000 in
set_option maxRecDepth 20000 in
theorem one_whole_c {w : World} {xs : List (List UInt8)} {f N cap : Nat} {t : Ln.Sa} {ao : Option Addr} (hr : Rd w (.slice ao N cap) (xs.map sv)) (hN : N = xs.length) (hf : f < N) (h40 : N ≤ 40) (hx : ∀ x ∈ xs, x.length ≤ 200)
    (hm : Rp.Mids 2 true xs f) (hst : Ln.status 2 (xs.getD f []) = some t) (hmo : t.more = false) (hk : t.code ≠ [43]) :
    Calls Tryd.prog 13 #[.int .i64 2, .slice ao N cap, .int .i64 (f : Int), .bool true] w (OneP w N (Rp.runs 2 true (xs.drop f))) := by
  have hfx : f < xs.length := by omega
  have hal := (Below.refl w.heap.size w).alloc (Nat.le_refl _) (.cells #[.string ⟨#[]⟩, .slice none 0 0, .slice none 0 0] 30)
  have hr0 : Rb (w.alloc (.cells #[.string ⟨#[]⟩, .slice none 0 0, .slice none 0 0] 30)) w.heap.size ⟨#[]⟩ (.slice none 0 0) (.slice none 0 0) := World.alloc_heap_new w _
  obtain ⟨q, o, rfl, g1, g2, g3⟩ := rd_at (hr.below hal) (by omega)
  replace g3 := g3 f _ (svs_at hfx)
  have hlen : (xs.getD f []).length ≤ 200 := hx _ (getD_mem hfx)
  have hfi : Rp.first 2 (xs.getD f []) true = .inr (.inl ⟨t.code, [t.text], []⟩) := by
    unfold Rp.first
    rw [hst]
    dsimp only
    rw [if_neg (fun e => hk e.2.2), hmo, if_neg (by decide)]
  obtain ⟨e1, e2⟩ := hm.head hfx (fun m h => by rw [hfi] at h; cases h)
  rw [hfi] at e2
  have E2 := Lib.hid e2
  have eN : (f : Int) + 1 = (N : Int) := by omega
  clear e1 e2 hfi
  obtain ⟨x, hx'⟩ : ∃ x, x = xs.getD f [] := ⟨_, rfl⟩
  rw [← hx'] at g3 hlen hst
  replace g3 : (w.alloc (.cells #[.string ⟨#[]⟩, .slice none 0 0, .slice none 0 0] 30)).cell? ⟨q, o + f, none⟩ = some (.string (ba x)) := g3
  have CS := Lib.hid (fun wz => rst_some hst (by omega) wz)
  have HAL := Lib.hid hal
  have HR0 := Lib.hid hr0
  have HR := Lib.hid hr
  have HX := Lib.hid hx
  have HM := Lib.hid hm
  have HN := Lib.hid hN
  unfold maxLen at g2
  clear hst hx' hx hr hm hal hr0 hlen hfx hN
  obtain ⟨k, mo, tt⟩ := t
  dsimp only at *
  subst hmo
  obtain ⟨K, hK⟩ : ∃ K, K = ba k := ⟨_, rfl⟩
  obtain ⟨TT, hTT⟩ : ∃ TT, TT = ba tt := ⟨_, rfl⟩
  rw [← hK, ← hTT] at CS
  have HK := Lib.hid hK
  have HTT := Lib.hid hTT
  clear hK hTT
  go_enter Tryd.func13, Tryd.ntmps13
  go_wp2_with fail
  refine (CS.out _).mono ?_
  rintro e w1 ⟨rfl, hb1⟩
  have HO := Lib.hid (os_new (K := K) (HAL.out.trans (hb1.mono HAL.out.size)) (HR0.out.same (hb1.block _ HR0.out.lt)) false tt)
  rw [← HTT.out] at HO
  clear hb1 HAL HR0 CS
  go_upto_region 5 with fail
  obtain ⟨w3, hw3⟩ : ∃ w3, w3 = (((w1.alloc (.cells #[.string K, .bool false, .string TT] 54)).alloc (.cells #[.string TT] 9)).alloc (.cells #[.string K, .slice (some ⟨w1.heap.size + 1, 0, none⟩) 1 1, .slice none 0 0] 30)) := ⟨_, rfl⟩
  rw [← hw3] at HO ⊢
  clear hw3
  generalize w1.heap.size = sb at HO ⊢
  obtain ⟨gr, hgr⟩ : ∃ gr, gr = sb + 1 + 1 := ⟨_, rfl⟩
  rw [← hgr] at HO ⊢
  generalize (some ⟨sb + 1, 0, none⟩ : Option Addr) = la at HO ⊢
  clear hgr g3
  have s0 := HO.out.s.c0
  have s1 := HO.out.s.c1
  have r0 := HO.out.g.c0
  have r1 := HO.out.g.c1
  have r2 := HO.out.g.c2
  have o0 := HO.out.r.c0
  have o1 := HO.out.r.c1
  have o2 := HO.out.r.c2
  have y0 := HO.out.r.fr 0
  have y1 := HO.out.r.fr 1
  have y2 := HO.out.r.fr 2
  have hk2 : (K.toList == [43]) = false := by rw [HK.out, Lib.toList_data]; exact beq_eq_false_iff_ne.2 hk
  have F1 := Lib.hid HO.out.tell
  clear HO
  go_wp2
  show bodyPost _ _ _ _ _ _
  refine bodyPost_ret (v := .tuple #[.agg #[.string K, .slice la 1 1, .slice none 0 0], .int .i64 (N : Int), .bool true, .int .i64 0]) (by
    have d0 := (F1.out).1.c0
    have d1 := (F1.out).1.c1
    have d2 := (F1.out).1.c2
    generalize World.setCell _ _ _ = wz at d0 d1 d2 ⊢
    simp [results, Tryd.f13, go_sem, d0, d1, d2]) rfl ?_
  rw [E2.out]
  refine ⟨la, 1, none, 0, ?_, F1.out.2.2, rd_nil _ _ rfl, F1.out.2.1⟩
  rw [HK.out]
  rfl

set_option maxHeartbeats 8000000 in
set_option maxRecDepth 20000 in
theorem one_body {w : World} {xs : List (List UInt8)} {f N cap : Nat} {t : Ln.Sa} {ao : Option Addr} (hr : Rd w (.slice ao N cap) (xs.map sv)) (hN : N = xs.length) (hf : f < N) (h40 : N ≤ 40) (hx : ∀ x ∈ xs, x.length ≤ 200)
    (hm : Rp.Mids 2 true xs f) (hst : Ln.status 2 (xs.getD f []) = some t) (hk : t.code = [43]) :
    Calls Tryd.prog 13 #[.int .i64 2, .slice ao N cap, .int .i64 (f : Int), .bool true] w (OneP w N (Rp.runs 2 true (xs.drop f))) := by
  have hfx : f < xs.length := by omega
  have hal := (Below.refl w.heap.size w).alloc (Nat.le_refl _) (.cells #[.string ⟨#[]⟩, .slice none 0 0, .slice none 0 0] 30)
  have hr0 : Rb (w.alloc (.cells #[.string ⟨#[]⟩, .slice none 0 0, .slice none 0 0] 30)) w.heap.size ⟨#[]⟩ (.slice none 0 0) (.slice none 0 0) := World.alloc_heap_new w _
  obtain ⟨q, o, rfl, g1, g2, g3⟩ := rd_at (hr.below hal) (by omega)
  replace g3 := g3 f _ (svs_at hfx)
  have hlen : (xs.getD f []).length ≤ 200 := hx _ (getD_mem hfx)
  have hfi : Rp.first 2 (xs.getD f []) true = .inl ⟨t.code, [t.text], some ⟨[], 0⟩⟩ := by
    unfold Rp.first
    rw [hst]
    dsimp only
    rw [if_pos ⟨rfl, rfl, hk⟩]
  have E0 := Lib.hid (Rp.runs_head hfx hfi)
  clear hfi
  obtain ⟨x, hx'⟩ : ∃ x, x = xs.getD f [] := ⟨_, rfl⟩
  rw [← hx'] at g3 hlen hst
  replace g3 : (w.alloc (.cells #[.string ⟨#[]⟩, .slice none 0 0, .slice none 0 0] 30)).cell? ⟨q, o + f, none⟩ = some (.string (ba x)) := g3
  have CS := Lib.hid (fun wz => rst_some hst (by omega) wz)
  have HAL := Lib.hid hal
  have HR0 := Lib.hid hr0
  have HR := Lib.hid hr
  have HX := Lib.hid hx
  have HM := Lib.hid hm
  have HN := Lib.hid hN
  unfold maxLen at g2
  clear hst hx' hx hr hm hal hr0 hlen hfx hN
  obtain ⟨k, mo, tt⟩ := t
  dsimp only at *
  obtain ⟨K, hK⟩ : ∃ K, K = ba k := ⟨_, rfl⟩
  obtain ⟨TT, hTT⟩ : ∃ TT, TT = ba tt := ⟨_, rfl⟩
  rw [← hK, ← hTT] at CS
  have HK := Lib.hid hK
  have HTT := Lib.hid hTT
  clear hK hTT
  go_enter Tryd.func13, Tryd.ntmps13
  go_wp2_with fail
  refine (CS.out _).mono ?_
  rintro e w1 ⟨rfl, hb1⟩
  have HO := Lib.hid (os_new (K := K) (HAL.out.trans (hb1.mono HAL.out.size)) (HR0.out.same (hb1.block _ HR0.out.lt)) mo tt)
  rw [← HTT.out] at HO
  clear hb1 HAL HR0 CS
  go_upto_region 5 with fail
  obtain ⟨w3, hw3⟩ : ∃ w3, w3 = (((w1.alloc (.cells #[.string K, .bool mo, .string TT] 54)).alloc (.cells #[.string TT] 9)).alloc (.cells #[.string K, .slice (some ⟨w1.heap.size + 1, 0, none⟩) 1 1, .slice none 0 0] 30)) := ⟨_, rfl⟩
  rw [← hw3] at HO ⊢
  clear hw3
  generalize w1.heap.size = sb at HO ⊢
  obtain ⟨gr, hgr⟩ : ∃ gr, gr = sb + 1 + 1 := ⟨_, rfl⟩
  rw [← hgr] at HO ⊢
  generalize (some ⟨sb + 1, 0, none⟩ : Option Addr) = la at HO ⊢
  clear hgr g3
  have s0 := HO.out.s.c0
  have s1 := HO.out.s.c1
  have r0 := HO.out.g.c0
  have r1 := HO.out.g.c1
  have r2 := HO.out.g.c2
  have o0 := HO.out.r.c0
  have o1 := HO.out.r.c1
  have o2 := HO.out.r.c2
  have y0 := HO.out.r.fr 0
  have y1 := HO.out.r.fr 1
  have y2 := HO.out.r.fr 2
  have hKE : K = ⟨#[43]⟩ := by rw [HK.out, hk]; rfl
  have hk2 : (K.toList == [43]) = true := by rw [hKE, Lib.toList_data]; rfl
  have CB := Lib.hid (bodied_any (HR.out.below HO.out.b) HN.out hf h40 HX.out E0.out HM.out (Rd.of_own HO.out.o))
  rw [← HK.out] at CB
  clear hKE hk
  go_wp2_with fail
  refine CB.out.mono ?_
  rintro e w4 ⟨lo, lc, bo, bc, rfl, hl, hb, hw4, hlo, hbo⟩
  have hr4 := HO.out.r.same (hw4.block _ HO.out.r.lt)
  have n1 : ∀ k, (Value.slice lo (Rp.outRe (Rp.runs 2 true (xs.drop f))).lines.length lc).ownBlock = some k → k ≠ w.heap.size := fun k hk e => own_not HO.out.o HO.out.r (by decide) (by rw [hlo k hk, e])
  have n2 : ∀ k, (Value.slice bo (Rp.outRe (Rp.runs 2 true (xs.drop f))).body.length bc).ownBlock = some k → k ≠ w.heap.size := fun k hk e => by
    have := hbo k hk
    have := HO.out.r.lt
    omega
  have hb4 := HO.out.b.trans (hw4.mono HO.out.b.size)
  generalize Rp.runs 2 true (xs.drop f) = O at *
  obtain ⟨LL, hLL⟩ : ∃ LL, LL = (Rp.outRe O).lines.length := ⟨_, rfl⟩
  obtain ⟨BL, hBL⟩ : ∃ BL, BL = (Rp.outRe O).body.length := ⟨_, rfl⟩
  obtain ⟨CO, hCO⟩ : ∃ CO, CO = ba (Rp.outRe O).code := ⟨_, rfl⟩
  obtain ⟨DO, hDO⟩ : ∃ DO, DO = Rp.outDone O := ⟨_, rfl⟩
  obtain ⟨EO, hEO⟩ : ∃ EO : Int, EO = (Rp.outErr O : Int) := ⟨_, rfl⟩
  rw [← hLL] at hl n1 ⊢
  rw [← hBL] at hb n2 ⊢
  rw [← hCO, ← hDO, ← hEO]
  have F1 := Lib.hid (And.intro (hr4.set CO (.slice lo LL lc) (.slice bo BL bc)) (And.intro (below_set3 hb4 (Nat.le_refl _) (.string CO) (.slice lo LL lc) (.slice bo BL bc)) (And.intro (rd_past3 hl n1 (.string CO) (.slice lo LL lc) (.slice bo BL bc)) (rd_past3 hb n2 (.string CO) (.slice lo LL lc) (.slice bo BL bc)))))
  have HE := Lib.hid (And.intro hLL (And.intro hBL (And.intro hCO (And.intro hDO hEO))))
  have z0 := hr4.c0
  have z1 := hr4.c1
  have z2 := hr4.c2
  have x0 := hr4.fr 0
  have x1 := hr4.fr 1
  have x2 := hr4.fr 2
  clear hl hb hw4 hlo hbo hr4 n1 n2 hb4 hLL hBL hCO hDO hEO CB HO s0 s1 r0 r1 r2 o0 o1 o2 y0 y1 y2
  go_wp2
  show bodyPost _ _ _ _ _ _
  refine bodyPost_ret (v := .tuple #[.agg #[.string CO, .slice lo LL lc, .slice bo BL bc], .int .i64 (N : Int), .bool DO, .int .i64 EO]) (by
    have d0 := (F1.out).1.c0
    have d1 := (F1.out).1.c1
    have d2 := (F1.out).1.c2
    generalize World.setCell _ _ _ = wz at d0 d1 d2 ⊢
    simp [results, Tryd.f13, go_sem, d0, d1, d2]) rfl ?_
  obtain ⟨f1, f2, f3, f4⟩ := F1.out
  obtain ⟨g1, g2, g3, g4, g5⟩ := HE.out
  subst g1 g2 g3 g4 g5
  exact ⟨lo, lc, bo, bc, rfl, f3, f4, f2⟩

set_option maxHeartbeats 16000000 in
set_option maxRecDepth 20000 in
theorem one_more_1 {w : World} {xs : List (List UInt8)} {f N cap : Nat} {body : Bool} {t : Ln.Sa} {ao : Option Addr} (hr : Rd w (.slice ao N cap) (xs.map sv)) (hN : N = xs.length) (hf : f < N) (h40 : N ≤ 40) (hx : ∀ x ∈ xs, x.length ≤ 200)
    (hm : Rp.Mids 1 body xs f) (hst : Ln.status 1 (xs.getD f []) = some t) (hmo : t.more = true) :
    Calls Tryd.prog 13 #[.int .i64 1, .slice ao N cap, .int .i64 (f : Int), .bool body] w (OneP w N (Rp.runs 1 body (xs.drop f))) := by
  have hfx : f < xs.length := by omega
  have hal := (Below.refl w.heap.size w).alloc (Nat.le_refl _) (.cells #[.string ⟨#[]⟩, .slice none 0 0, .slice none 0 0] 30)
  have hr0 : Rb (w.alloc (.cells #[.string ⟨#[]⟩, .slice none 0 0, .slice none 0 0] 30)) w.heap.size ⟨#[]⟩ (.slice none 0 0) (.slice none 0 0) := World.alloc_heap_new w _
  obtain ⟨q, o, rfl, g1, g2, g3⟩ := rd_at (hr.below hal) (by omega)
  replace g3 := g3 f _ (svs_at hfx)
  have hlen : (xs.getD f []).length ≤ 200 := hx _ (getD_mem hfx)
  have hfi : Rp.first 1 (xs.getD f []) body = .inl ⟨t.code, [t.text], none⟩ := by
    unfold Rp.first
    rw [hst]
    dsimp only
    rw [if_neg (fun e => by cases e.1), hmo, if_pos rfl]
  have E0 := Lib.hid (Rp.runs_head hfx hfi)
  clear hfi
  obtain ⟨x, hx'⟩ : ∃ x, x = xs.getD f [] := ⟨_, rfl⟩
  rw [← hx'] at g3 hlen hst
  replace g3 : (w.alloc (.cells #[.string ⟨#[]⟩, .slice none 0 0, .slice none 0 0] 30)).cell? ⟨q, o + f, none⟩ = some (.string (ba x)) := g3
  have CS := Lib.hid (fun wz => rst_some hst (by omega) wz)
  have HAL := Lib.hid hal
  have HR0 := Lib.hid hr0
  have HR := Lib.hid hr
  have HX := Lib.hid hx
  have HM := Lib.hid hm
  have HN := Lib.hid hN
  unfold maxLen at g2
  clear hst hx' hx hr hm hal hr0 hlen hfx hN
  obtain ⟨k, mo, tt⟩ := t
  dsimp only at *
  subst hmo
  obtain ⟨K, hK⟩ : ∃ K, K = ba k := ⟨_, rfl⟩
  obtain ⟨TT, hTT⟩ : ∃ TT, TT = ba tt := ⟨_, rfl⟩
  rw [← hK, ← hTT] at CS
  have HK := Lib.hid hK
  have HTT := Lib.hid hTT
  clear hK hTT
  go_enter Tryd.func13, Tryd.ntmps13
  go_wp2_with fail
  refine (CS.out _).mono ?_
  rintro e w1 ⟨rfl, hb1⟩
  have HO := Lib.hid (os_new (K := K) (HAL.out.trans (hb1.mono HAL.out.size)) (HR0.out.same (hb1.block _ HR0.out.lt)) true tt)
  rw [← HTT.out] at HO
  clear hb1 HAL HR0 CS
  go_upto_region 5 with fail
  obtain ⟨w3, hw3⟩ : ∃ w3, w3 = (((w1.alloc (.cells #[.string K, .bool true, .string TT] 54)).alloc (.cells #[.string TT] 9)).alloc (.cells #[.string K, .slice (some ⟨w1.heap.size + 1, 0, none⟩) 1 1, .slice none 0 0] 30)) := ⟨_, rfl⟩
  rw [← hw3] at HO ⊢
  clear hw3
  generalize w1.heap.size = sb at HO ⊢
  obtain ⟨gr, hgr⟩ : ∃ gr, gr = sb + 1 + 1 := ⟨_, rfl⟩
  rw [← hgr] at HO ⊢
  generalize (some ⟨sb + 1, 0, none⟩ : Option Addr) = la at HO ⊢
  clear hgr g3
  have s0 := HO.out.s.c0
  have s1 := HO.out.s.c1
  have r0 := HO.out.g.c0
  have r1 := HO.out.g.c1
  have r2 := HO.out.g.c2
  have o0 := HO.out.r.c0
  have o1 := HO.out.r.c1
  have o2 := HO.out.r.c2
  have y0 := HO.out.r.fr 0
  have y1 := HO.out.r.fr 1
  have y2 := HO.out.r.fr 2
  have H3 := Lib.hid HO.out
  clear s0 s1 r0 r1 r2 o0 o1 o2 y0 y1 y2 HO
  have s0 := H3.out.s.c0
  have s1 := H3.out.s.c1
  go_wp2
  clear s0 s1
  go_loopw [15, 16, 17, 18, 19] (fun s15 _ _ _ _ wr => ∃ (i : Nat) (lv : Value) (ls : List (List UInt8)), f + 1 ≤ i ∧ i ≤ N ∧ s15 = .int .i64 (i : Int) ∧ Hid (Rp.runs 1 body ((xs.take i).drop f) = .inl ⟨k, ls, none⟩) ∧ Hid (OS w wr sb gr K true TT lv ls)) (fun s15 _ _ _ _ _ => N + 1 - (intOf s15).toNat)
  case atStart => exact ⟨f + 1, .slice la 1 1, [tt], Nat.le_refl _, hf, by go_num, E0.out, H3.out⟩
  case round =>
    obtain ⟨i, lv, ls, hi1, hi2, rfl, HRUN, HB⟩ := hrel
    by_cases hlt : i < N
    · have t1 : (i : Int) < (N : Int) := by omega
      have hix : i < xs.length := by rw [← HN.out]; exact hlt
      obtain ⟨q', o', eq, g1, g2', g3⟩ := rd_at (HR.out.below HB.out.b) (by omega)
      simp only [Option.some.injEq, Addr.mk.injEq, and_true] at eq
      obtain ⟨rfl, rfl⟩ := eq
      clear g2'
      replace g3 := g3 i _ (svs_at hix)
      have hlen : (xs.getD i []).length ≤ 200 := HX.out _ (getD_mem hix)
      have hnx := Rp.runs_next (by omega) hix HRUN.out
      have hst := fun hn => HM.out.stop (i := i) (by omega) hix HRUN.out hn
      obtain ⟨x', hx⟩ : ∃ x', x' = xs.getD i [] := ⟨_, rfl⟩
      rw [← hx] at g3 hlen hnx hst
      replace g3 : wr.cell? ⟨q, o + i, none⟩ = some (.string (ba x')) := g3
      have hns := Lib.hid hlen
      obtain ⟨X, hX⟩ : ∃ X, X = ba x' := ⟨_, rfl⟩
      have HX' := Lib.hid hX
      obtain ⟨lo, lc, rfl⟩ := own_form HB.out.o
      obtain ⟨L, hL⟩ : ∃ L, L = ls.length := ⟨_, rfl⟩
      have HL := Lib.hid hL
      have HB1 := Lib.hid (show OS w wr sb gr K true TT (.slice lo L lc) ls by rw [hL]; exact HB.out)
      have hxi := Lib.hid hx
      clear hx hix HRUN HB hlen hL
      cases hs : Ln.status 1 x' with
      | none =>
        have hne0 : Rp.next 1 ⟨k, ls, none⟩ x' = .inr (.inr 63) := by unfold Rp.next; dsimp only; rw [if_pos rfl, hs]
        obtain ⟨e1, e2⟩ := hst (fun m' h => by rw [hne0] at h; cases h)
        rw [hne0] at e2
        have E2 := Lib.hid e2
        have eN : (i : Int) + 1 = (N : Int) := by have := HN.out; omega
        clear e1 e2 hst hnx hne0
        have CS := Lib.hid (fun wz => rst_none hs (by have := hns.out; omega) wz)
        rw [← hX] at CS g3
        clear hs hX
        go_wp2_with fail
        refine (CS.out _).mono ?_
        rintro e w2 ⟨rfl, hb2⟩
        have hbt := (Below.refl w2.heap.size w2).alloc (Nat.le_refl _) (.cells #[.string ⟨#[]⟩, .bool false, .string ⟨#[]⟩] 54)
        have H4 := Lib.hid ((HB1.out.next hb2).next hbt)
        have HT := Lib.hid (St3.new w2 ⟨#[]⟩ ⟨#[]⟩ false)
        have hrw := (HR.out.below H4.out.b)
        obtain ⟨_, _, eq, _, _, g4⟩ := rd_at hrw (by omega)
        simp only [Option.some.injEq, Addr.mk.injEq, and_true] at eq
        obtain ⟨rfl, rfl⟩ := eq
        replace g4 := g4 i _ (svs_at (by rw [← HN.out]; exact hlt))
        rw [← hxi.out] at g4
        replace g4 : World.cell? _ ⟨q, o + i, none⟩ = some (.string (ba x')) := g4
        rw [← HX'.out] at g4
        clear hb2 hbt hrw HB1 CS g3
        go_upto_region 13 with fail
        generalize World.alloc w2 _ = wt at H4 HT g4 ⊢
        generalize w2.heap.size = st at HT ⊢
        have v0 := HT.out.c0
        have v1 := HT.out.c1
        have v2 := HT.out.c2
        have s0 := H4.out.s.c0
        have r0 := H4.out.g.c0
        have r1 := H4.out.g.c1
        have r2 := H4.out.g.c2
        have o0 := H4.out.r.c0
        have o1 := H4.out.r.c1
        have o2 := H4.out.r.c2
        have y0 := H4.out.r.fr 0
        have y1 := H4.out.r.fr 1
        have y2 := H4.out.r.fr 2
        have F1 := Lib.hid H4.out.tell0
        clear H4 HT
        go_wp2
        show bodyPost _ _ _ _ _ _
        refine bodyPost_ret (v := .tuple #[.agg #[.string ⟨#[]⟩, .slice none 0 0, .slice none 0 0], .int .i64 (N : Int), .bool false, .int .i64 63]) (by
          have d0 := (F1.out).1.c0
          have d1 := (F1.out).1.c1
          have d2 := (F1.out).1.c2
          generalize World.setCell _ _ _ = wz at d0 d1 d2 ⊢
          simp [results, Tryd.f13, go_sem, d0, d1, d2]) rfl ?_
        exact one_no E2.out F1.out.2 rfl
      | some t2 =>
        obtain ⟨k', MO, tt'⟩ := t2
        by_cases hk : k' = k
        · obtain rfl : k = k' := hk.symm
          cases MO with
          | true =>
            by_cases h20 : 20 ≤ L
            · have hne0 : Rp.next 1 ⟨k, ls, none⟩ x' = .inr (.inr 72) := by
                unfold Rp.next; dsimp only; rw [if_pos rfl, hs]; dsimp only; rw [if_pos rfl]
                unfold Rp.add
                rw [if_pos (by show 20 ≤ ls.length; rw [← HL.out]; exact h20)]
              obtain ⟨e1, e2⟩ := hst (fun m' h => by rw [hne0] at h; cases h)
              rw [hne0] at e2
              have E2 := Lib.hid e2
              have eN : (i : Int) + 1 = (N : Int) := by have := HN.out; omega
              clear e1 e2 hst hnx hne0
              have CS := Lib.hid (fun wz => rst_some hs (by have := hns.out; omega) wz)
              dsimp only at CS
              obtain ⟨T2, hT2⟩ : ∃ T2, T2 = ba tt' := ⟨_, rfl⟩
              have HT2 := Lib.hid hT2
              rw [← HK.out, ← hT2] at CS
              rw [← hX] at CS g3
              clear hs hT2 hX
              go_wp2_with fail
              refine (CS.out _).mono ?_
              rintro e w2 ⟨rfl, hb2⟩
              have hbt := (Below.refl w2.heap.size w2).alloc (Nat.le_refl _) (.cells #[.string K, .bool true, .string T2] 54)
              have H4 := Lib.hid ((HB1.out.next hb2).next hbt)
              have HT := Lib.hid (St3.new w2 K T2 true)
              have hrw := (HR.out.below H4.out.b)
              obtain ⟨_, _, eq, _, _, g4⟩ := rd_at hrw (by omega)
              simp only [Option.some.injEq, Addr.mk.injEq, and_true] at eq
              obtain ⟨rfl, rfl⟩ := eq
              replace g4 := g4 i _ (svs_at (by rw [← HN.out]; exact hlt))
              rw [← hxi.out] at g4
              replace g4 : World.cell? _ ⟨q, o + i, none⟩ = some (.string (ba x')) := g4
              rw [← HX'.out] at g4
              clear hb2 hbt hrw HB1 CS g3
              go_upto_region 13 with fail
              generalize World.alloc w2 _ = wt at H4 HT g4 ⊢
              generalize w2.heap.size = st at HT ⊢
              have v0 := HT.out.c0
              have v1 := HT.out.c1
              have v2 := HT.out.c2
              have s0 := H4.out.s.c0
              have r0 := H4.out.g.c0
              have r1 := H4.out.g.c1
              have r2 := H4.out.g.c2
              have o0 := H4.out.r.c0
              have o1 := H4.out.r.c1
              have o2 := H4.out.r.c2
              have y0 := H4.out.r.fr 0
              have y1 := H4.out.r.fr 1
              have y2 := H4.out.r.fr 2
              have L20 : ((20 : Int) ≤ (L : Int)) = True := eq_true (by omega)
              have F1 := Lib.hid H4.out.tell0
              clear H4 HT
              go_wp2
              show bodyPost _ _ _ _ _ _
              refine bodyPost_ret (v := .tuple #[.agg #[.string ⟨#[]⟩, .slice none 0 0, .slice none 0 0], .int .i64 (N : Int), .bool false, .int .i64 72]) (by
                have d0 := (F1.out).1.c0
                have d1 := (F1.out).1.c1
                have d2 := (F1.out).1.c2
                generalize World.setCell _ _ _ = wz at d0 d1 d2 ⊢
                simp [results, Tryd.f13, go_sem, d0, d1, d2]) rfl ?_
              exact one_no E2.out F1.out.2 rfl
            · have hne0 : Rp.next 1 ⟨k, ls, none⟩ x' = .inl ⟨k, ls ++ [tt'], none⟩ := by
                unfold Rp.next; dsimp only; rw [if_pos rfl, hs]; dsimp only; rw [if_pos rfl]
                unfold Rp.add
                rw [if_neg (by show ¬ 20 ≤ ls.length; rw [← HL.out]; exact h20)]
                rfl
              rw [hne0] at hnx
              have E1 := Lib.hid hnx
              clear hst hnx hne0
              have CS := Lib.hid (fun wz => rst_some hs (by have := hns.out; omega) wz)
              dsimp only at CS
              obtain ⟨T2, hT2⟩ : ∃ T2, T2 = ba tt' := ⟨_, rfl⟩
              have HT2 := Lib.hid hT2
              rw [← HK.out, ← hT2] at CS
              rw [← hX] at CS g3
              clear hs hT2 hX
              go_wp2_with fail
              refine (CS.out _).mono ?_
              rintro e w2 ⟨rfl, hb2⟩
              have hbt := (Below.refl w2.heap.size w2).alloc (Nat.le_refl _) (.cells #[.string K, .bool true, .string T2] 54)
              have H4 := Lib.hid ((HB1.out.next hb2).next hbt)
              have HT := Lib.hid (St3.new w2 K T2 true)
              have hrw := (HR.out.below H4.out.b)
              obtain ⟨_, _, eq, _, _, g4⟩ := rd_at hrw (by omega)
              simp only [Option.some.injEq, Addr.mk.injEq, and_true] at eq
              obtain ⟨rfl, rfl⟩ := eq
              replace g4 := g4 i _ (svs_at (by rw [← HN.out]; exact hlt))
              rw [← hxi.out] at g4
              replace g4 : World.cell? _ ⟨q, o + i, none⟩ = some (.string (ba x')) := g4
              rw [← HX'.out] at g4
              clear hb2 hbt hrw HB1 CS g3
              go_upto_region 13 with fail
              generalize World.alloc w2 _ = wt at H4 HT g4 ⊢
              generalize w2.heap.size = st at HT ⊢
              have v0 := HT.out.c0
              have v1 := HT.out.c1
              have v2 := HT.out.c2
              have s0 := H4.out.s.c0
              have r0 := H4.out.g.c0
              have r1 := H4.out.g.c1
              have r2 := H4.out.g.c2
              have o0 := H4.out.r.c0
              have o1 := H4.out.r.c1
              have o2 := H4.out.r.c2
              have y0 := H4.out.r.fr 0
              have y1 := H4.out.r.fr 1
              have y2 := H4.out.r.fr 2
              have HOW := Lib.hid (show wt.ownsRow w.heap.size 9 1 (.slice lo L lc) L (ls.map sv) by have := H4.out.o; rwa [← HL.out] at this)
              have L20 : ((20 : Int) ≤ (L : Int)) = False := eq_false (by omega)
              go_wp2_with (at_builtin; refine append_str rfl (.tmp 130) (.tmp 132) rfl rfl HOW.out rfl rfl rfl ?ca H4.out.b.size ?_)
              case ca => omega
              intro v2' w4 ho2 hg2
              obtain ⟨co, cc, rfl⟩ := own_form ho2
              have hg2' := H4.out.grow hg2
              have H5 := Lib.hid (H4.out.line (x := tt') (by rw [← HL.out]; rw [HT2.out] at ho2; exact ho2) hg2)
              have k0 := hg2'.1.c0
              have k1 := hg2'.1.c1
              have k2 := hg2'.1.c2
              have kf := hg2'.1.fr 1
              have m0 := H5.out.g.c0
              have m1 := H5.out.g.c1
              have m2 := H5.out.g.c2
              have j0 := H5.out.r.c0
              have j1 := H5.out.r.c1
              have j2 := H5.out.r.c2
              have jf0 := H5.out.r.fr 0
              have jf1 := H5.out.r.fr 1
              have jf2 := H5.out.r.fr 2
              clear ho2 hg2 hg2' v0 v1 v2 s0 r0 r1 r2 o0 o1 o2 y0 y1 y2 g4
              clear H4 HT
              go_wp2
              go_roundw
              case rel => exact ⟨i + 1, _, ls ++ [tt'], by omega, by omega, by go_num, E1.out, H5.out⟩
              case measure => simp [intOf]; omega
          | false =>
            by_cases h20 : 20 ≤ L
            · have hne0 : Rp.next 1 ⟨k, ls, none⟩ x' = .inr (.inr 72) := by
                unfold Rp.next; dsimp only; rw [if_pos rfl, hs]; dsimp only; rw [if_pos rfl]
                unfold Rp.add
                rw [if_pos (by show 20 ≤ ls.length; rw [← HL.out]; exact h20)]
              obtain ⟨e1, e2⟩ := hst (fun m' h => by rw [hne0] at h; cases h)
              rw [hne0] at e2
              have E2 := Lib.hid e2
              have eN : (i : Int) + 1 = (N : Int) := by have := HN.out; omega
              clear e1 e2 hst hnx hne0
              have CS := Lib.hid (fun wz => rst_some hs (by have := hns.out; omega) wz)
              dsimp only at CS
              obtain ⟨T2, hT2⟩ : ∃ T2, T2 = ba tt' := ⟨_, rfl⟩
              have HT2 := Lib.hid hT2
              rw [← HK.out, ← hT2] at CS
              rw [← hX] at CS g3
              clear hs hT2 hX
              go_wp2_with fail
              refine (CS.out _).mono ?_
              rintro e w2 ⟨rfl, hb2⟩
              have hbt := (Below.refl w2.heap.size w2).alloc (Nat.le_refl _) (.cells #[.string K, .bool false, .string T2] 54)
              have H4 := Lib.hid ((HB1.out.next hb2).next hbt)
              have HT := Lib.hid (St3.new w2 K T2 false)
              have hrw := (HR.out.below H4.out.b)
              obtain ⟨_, _, eq, _, _, g4⟩ := rd_at hrw (by omega)
              simp only [Option.some.injEq, Addr.mk.injEq, and_true] at eq
              obtain ⟨rfl, rfl⟩ := eq
              replace g4 := g4 i _ (svs_at (by rw [← HN.out]; exact hlt))
              rw [← hxi.out] at g4
              replace g4 : World.cell? _ ⟨q, o + i, none⟩ = some (.string (ba x')) := g4
              rw [← HX'.out] at g4
              clear hb2 hbt hrw HB1 CS g3
              go_upto_region 13 with fail
              generalize World.alloc w2 _ = wt at H4 HT g4 ⊢
              generalize w2.heap.size = st at HT ⊢
              have v0 := HT.out.c0
              have v1 := HT.out.c1
              have v2 := HT.out.c2
              have s0 := H4.out.s.c0
              have r0 := H4.out.g.c0
              have r1 := H4.out.g.c1
              have r2 := H4.out.g.c2
              have o0 := H4.out.r.c0
              have o1 := H4.out.r.c1
              have o2 := H4.out.r.c2
              have y0 := H4.out.r.fr 0
              have y1 := H4.out.r.fr 1
              have y2 := H4.out.r.fr 2
              have L20 : ((20 : Int) ≤ (L : Int)) = True := eq_true (by omega)
              have F1 := Lib.hid H4.out.tell0
              clear H4 HT
              go_wp2
              show bodyPost _ _ _ _ _ _
              refine bodyPost_ret (v := .tuple #[.agg #[.string ⟨#[]⟩, .slice none 0 0, .slice none 0 0], .int .i64 (N : Int), .bool false, .int .i64 72]) (by
                have d0 := (F1.out).1.c0
                have d1 := (F1.out).1.c1
                have d2 := (F1.out).1.c2
                generalize World.setCell _ _ _ = wz at d0 d1 d2 ⊢
                simp [results, Tryd.f13, go_sem, d0, d1, d2]) rfl ?_
              exact one_no E2.out F1.out.2 rfl
            · have hne0 : Rp.next 1 ⟨k, ls, none⟩ x' = .inr (.inl ⟨k, ls ++ [tt'], []⟩) := by
                unfold Rp.next; dsimp only; rw [if_pos rfl, hs]; dsimp only; rw [if_pos rfl]
                unfold Rp.add
                rw [if_neg (by show ¬ 20 ≤ ls.length; rw [← HL.out]; exact h20)]
                rfl
              obtain ⟨e1, e2⟩ := hst (fun m' h => by rw [hne0] at h; cases h)
              rw [hne0] at e2
              have E2 := Lib.hid e2
              have eN : (i : Int) + 1 = (N : Int) := by have := HN.out; omega
              clear e1 e2 hst hnx hne0
              have CS := Lib.hid (fun wz => rst_some hs (by have := hns.out; omega) wz)
              dsimp only at CS
              obtain ⟨T2, hT2⟩ : ∃ T2, T2 = ba tt' := ⟨_, rfl⟩
              have HT2 := Lib.hid hT2
              rw [← HK.out, ← hT2] at CS
              rw [← hX] at CS g3
              clear hs hT2 hX
              go_wp2_with fail
              refine (CS.out _).mono ?_
              rintro e w2 ⟨rfl, hb2⟩
              have hbt := (Below.refl w2.heap.size w2).alloc (Nat.le_refl _) (.cells #[.string K, .bool false, .string T2] 54)
              have H4 := Lib.hid ((HB1.out.next hb2).next hbt)
              have HT := Lib.hid (St3.new w2 K T2 false)
              have hrw := (HR.out.below H4.out.b)
              obtain ⟨_, _, eq, _, _, g4⟩ := rd_at hrw (by omega)
              simp only [Option.some.injEq, Addr.mk.injEq, and_true] at eq
              obtain ⟨rfl, rfl⟩ := eq
              replace g4 := g4 i _ (svs_at (by rw [← HN.out]; exact hlt))
              rw [← hxi.out] at g4
              replace g4 : World.cell? _ ⟨q, o + i, none⟩ = some (.string (ba x')) := g4
              rw [← HX'.out] at g4
              clear hb2 hbt hrw HB1 CS g3
              go_upto_region 13 with fail
              generalize World.alloc w2 _ = wt at H4 HT g4 ⊢
              generalize w2.heap.size = st at HT ⊢
              have v0 := HT.out.c0
              have v1 := HT.out.c1
              have v2 := HT.out.c2
              have s0 := H4.out.s.c0
              have r0 := H4.out.g.c0
              have r1 := H4.out.g.c1
              have r2 := H4.out.g.c2
              have o0 := H4.out.r.c0
              have o1 := H4.out.r.c1
              have o2 := H4.out.r.c2
              have y0 := H4.out.r.fr 0
              have y1 := H4.out.r.fr 1
              have y2 := H4.out.r.fr 2
              have HOW := Lib.hid (show wt.ownsRow w.heap.size 9 1 (.slice lo L lc) L (ls.map sv) by have := H4.out.o; rwa [← HL.out] at this)
              have L20 : ((20 : Int) ≤ (L : Int)) = False := eq_false (by omega)
              go_wp2_with (at_builtin; refine append_str rfl (.tmp 130) (.tmp 132) rfl rfl HOW.out rfl rfl rfl ?ca H4.out.b.size ?_)
              case ca => omega
              intro v2' w4 ho2 hg2
              obtain ⟨co, cc, rfl⟩ := own_form ho2
              have hg2' := H4.out.grow hg2
              have H5 := Lib.hid (H4.out.line (x := tt') (by rw [← HL.out]; rw [HT2.out] at ho2; exact ho2) hg2)
              have k0 := hg2'.1.c0
              have k1 := hg2'.1.c1
              have k2 := hg2'.1.c2
              have kf := hg2'.1.fr 1
              have m0 := H5.out.g.c0
              have m1 := H5.out.g.c1
              have m2 := H5.out.g.c2
              have j0 := H5.out.r.c0
              have j1 := H5.out.r.c1
              have j2 := H5.out.r.c2
              have jf0 := H5.out.r.fr 0
              have jf1 := H5.out.r.fr 1
              have jf2 := H5.out.r.fr 2
              clear ho2 hg2 hg2' v0 v1 v2 s0 r0 r1 r2 o0 o1 o2 y0 y1 y2 g4
              have F1 := Lib.hid H5.out.tell
              clear H5 H4 HT
              go_wp2
              show bodyPost _ _ _ _ _ _
              refine bodyPost_ret (v := .tuple #[.agg #[.string K, .slice co (L + 1) cc, .slice none 0 0], .int .i64 (N : Int), .bool true, .int .i64 0]) (by
                have d0 := (F1.out).1.c0
                have d1 := (F1.out).1.c1
                have d2 := (F1.out).1.c2
                generalize World.setCell _ _ _ = wz at d0 d1 d2 ⊢
                simp [results, Tryd.f13, go_sem, d0, d1, d2]) rfl ?_
              obtain ⟨f1, f2, f3⟩ := F1.out
              rw [E2.out]
              have hz : (ls ++ [tt']).length = L + 1 := by rw [List.length_append, ← HL.out]; rfl
              refine ⟨co, cc, none, 0, ?_, ?_, rd_nil _ _ rfl, f2⟩
              · show _ = Ending.returned (.tuple #[.agg #[.string (ba k), .slice co (ls ++ [tt']).length cc, .slice none 0 0], .int .i64 (N : Int), .bool true, .int .i64 0])
                rw [hz, HK.out]
              · show Rd _ (.slice co (ls ++ [tt']).length cc) ((ls ++ [tt']).map sv)
                rw [hz]
                exact f3
        · have hne0 : Rp.next 1 ⟨k, ls, none⟩ x' = .inr (.inr 63) := by unfold Rp.next; dsimp only; rw [if_pos rfl, hs]; dsimp only; rw [if_neg hk]
          obtain ⟨e1, e2⟩ := hst (fun m' h => by rw [hne0] at h; cases h)
          rw [hne0] at e2
          have E2 := Lib.hid e2
          have eN : (i : Int) + 1 = (N : Int) := by have := HN.out; omega
          clear e1 e2 hst hnx hne0
          have CS := Lib.hid (fun wz => rst_some hs (by have := hns.out; omega) wz)
          dsimp only at CS
          obtain ⟨T2, hT2⟩ : ∃ T2, T2 = ba tt' := ⟨_, rfl⟩
          have HT2 := Lib.hid hT2
          obtain ⟨K2, hK2⟩ : ∃ K2, K2 = ba k' := ⟨_, rfl⟩
          have hne : (K2.toList == K.toList) = false := by rw [hK2, HK.out, Lib.toList_data, Lib.toList_data]; exact beq_eq_false_iff_ne.2 hk
          have hne2 : (K2.toList = K.toList) = False := eq_false (fun e => by rw [e] at hne; simp at hne)
          have hne3 : (K2.toList != K.toList) = true := by simp [bne, hne]
          rw [← hK2, ← hT2] at CS
          rw [← hX] at CS g3
          clear hs hT2 hX hK2 hk
          go_wp2_with fail
          refine (CS.out _).mono ?_
          rintro e w2 ⟨rfl, hb2⟩
          have hbt := (Below.refl w2.heap.size w2).alloc (Nat.le_refl _) (.cells #[.string K2, .bool MO, .string T2] 54)
          have H4 := Lib.hid ((HB1.out.next hb2).next hbt)
          have HT := Lib.hid (St3.new w2 K2 T2 MO)
          have hrw := (HR.out.below H4.out.b)
          obtain ⟨_, _, eq, _, _, g4⟩ := rd_at hrw (by omega)
          simp only [Option.some.injEq, Addr.mk.injEq, and_true] at eq
          obtain ⟨rfl, rfl⟩ := eq
          replace g4 := g4 i _ (svs_at (by rw [← HN.out]; exact hlt))
          rw [← hxi.out] at g4
          replace g4 : World.cell? _ ⟨q, o + i, none⟩ = some (.string (ba x')) := g4
          rw [← HX'.out] at g4
          clear hb2 hbt hrw HB1 CS g3
          go_upto_region 13 with fail
          generalize World.alloc w2 _ = wt at H4 HT g4 ⊢
          generalize w2.heap.size = st at HT ⊢
          have v0 := HT.out.c0
          have v1 := HT.out.c1
          have v2 := HT.out.c2
          have s0 := H4.out.s.c0
          have r0 := H4.out.g.c0
          have r1 := H4.out.g.c1
          have r2 := H4.out.g.c2
          have o0 := H4.out.r.c0
          have o1 := H4.out.r.c1
          have o2 := H4.out.r.c2
          have y0 := H4.out.r.fr 0
          have y1 := H4.out.r.fr 1
          have y2 := H4.out.r.fr 2
          have F1 := Lib.hid H4.out.tell0
          clear H4 HT
          go_wp2
          show bodyPost _ _ _ _ _ _
          refine bodyPost_ret (v := .tuple #[.agg #[.string ⟨#[]⟩, .slice none 0 0, .slice none 0 0], .int .i64 (N : Int), .bool false, .int .i64 63]) (by
            have d0 := (F1.out).1.c0
            have d1 := (F1.out).1.c1
            have d2 := (F1.out).1.c2
            generalize World.setCell _ _ _ = wz at d0 d1 d2 ⊢
            simp [results, Tryd.f13, go_sem, d0, d1, d2]) rfl ?_
          exact one_no E2.out F1.out.2 rfl
    · have t1 : ((i : Int) < (N : Int)) = False := eq_false (by omega)
      obtain rfl : N = i := by omega
      have E2 := Lib.hid (Rp.runs_all (by have := HRUN.out; rwa [HN.out] at this))
      have F1 := Lib.hid HB.out.tell0
      have o0 := HB.out.r.c0
      have o1 := HB.out.r.c1
      have o2 := HB.out.r.c2
      have y0 := HB.out.r.fr 0
      have y1 := HB.out.r.fr 1
      have y2 := HB.out.r.fr 2
      clear HB HRUN hlt
      go_wp2
      show bodyPost _ _ _ _ _ _
      refine bodyPost_ret (v := .tuple #[.agg #[.string ⟨#[]⟩, .slice none 0 0, .slice none 0 0], .int .i64 (N : Int), .bool false, .int .i64 0]) (by
        have d0 := (F1.out).1.c0
        have d1 := (F1.out).1.c1
        have d2 := (F1.out).1.c2
        generalize World.setCell _ _ _ = wz at d0 d1 d2 ⊢
        simp [results, Tryd.f13, go_sem, d0, d1, d2]) rfl ?_
      exact one_no E2.out F1.out.2 rfl
set_option maxHeartbeats 16000000 in
set_option maxRecDepth 20000 in
theorem one_more_3 {w : World} {xs : List (List UInt8)} {f N cap : Nat} {body : Bool} {t : Ln.Sa} {ao : Option Addr} (hr : Rd w (.slice ao N cap) (xs.map sv)) (hN : N = xs.length) (hf : f < N) (h40 : N ≤ 40) (hx : ∀ x ∈ xs, x.length ≤ 200)
    (hm : Rp.Mids 3 body xs f) (hst : Ln.status 3 (xs.getD f []) = some t) (hmo : t.more = true) :
    Calls Tryd.prog 13 #[.int .i64 3, .slice ao N cap, .int .i64 (f : Int), .bool body] w (OneP w N (Rp.runs 3 body (xs.drop f))) := by
  have hfx : f < xs.length := by omega
  have hal := (Below.refl w.heap.size w).alloc (Nat.le_refl _) (.cells #[.string ⟨#[]⟩, .slice none 0 0, .slice none 0 0] 30)
  have hr0 : Rb (w.alloc (.cells #[.string ⟨#[]⟩, .slice none 0 0, .slice none 0 0] 30)) w.heap.size ⟨#[]⟩ (.slice none 0 0) (.slice none 0 0) := World.alloc_heap_new w _
  obtain ⟨q, o, rfl, g1, g2, g3⟩ := rd_at (hr.below hal) (by omega)
  replace g3 := g3 f _ (svs_at hfx)
  have hlen : (xs.getD f []).length ≤ 200 := hx _ (getD_mem hfx)
  have hfi : Rp.first 3 (xs.getD f []) body = .inl ⟨t.code, [t.text], none⟩ := by
    unfold Rp.first
    rw [hst]
    dsimp only
    rw [if_neg (fun e => by cases e.1), hmo, if_pos rfl]
  have E0 := Lib.hid (Rp.runs_head hfx hfi)
  clear hfi
  obtain ⟨x, hx'⟩ : ∃ x, x = xs.getD f [] := ⟨_, rfl⟩
  rw [← hx'] at g3 hlen hst
  replace g3 : (w.alloc (.cells #[.string ⟨#[]⟩, .slice none 0 0, .slice none 0 0] 30)).cell? ⟨q, o + f, none⟩ = some (.string (ba x)) := g3
  have CS := Lib.hid (fun wz => rst_some hst (by omega) wz)
  have HAL := Lib.hid hal
  have HR0 := Lib.hid hr0
  have HR := Lib.hid hr
  have HX := Lib.hid hx
  have HM := Lib.hid hm
  have HN := Lib.hid hN
  unfold maxLen at g2
  clear hst hx' hx hr hm hal hr0 hlen hfx hN
  obtain ⟨k, mo, tt⟩ := t
  dsimp only at *
  subst hmo
  obtain ⟨K, hK⟩ : ∃ K, K = ba k := ⟨_, rfl⟩
  obtain ⟨TT, hTT⟩ : ∃ TT, TT = ba tt := ⟨_, rfl⟩
  rw [← hK, ← hTT] at CS
  have HK := Lib.hid hK
  have HTT := Lib.hid hTT
  clear hK hTT
  go_enter Tryd.func13, Tryd.ntmps13
  go_wp2_with fail
  refine (CS.out _).mono ?_
  rintro e w1 ⟨rfl, hb1⟩
  have HO := Lib.hid (os_new (K := K) (HAL.out.trans (hb1.mono HAL.out.size)) (HR0.out.same (hb1.block _ HR0.out.lt)) true tt)
  rw [← HTT.out] at HO
  clear hb1 HAL HR0 CS
  go_upto_region 5 with fail
  obtain ⟨w3, hw3⟩ : ∃ w3, w3 = (((w1.alloc (.cells #[.string K, .bool true, .string TT] 54)).alloc (.cells #[.string TT] 9)).alloc (.cells #[.string K, .slice (some ⟨w1.heap.size + 1, 0, none⟩) 1 1, .slice none 0 0] 30)) := ⟨_, rfl⟩
  rw [← hw3] at HO ⊢
  clear hw3
  generalize w1.heap.size = sb at HO ⊢
  obtain ⟨gr, hgr⟩ : ∃ gr, gr = sb + 1 + 1 := ⟨_, rfl⟩
  rw [← hgr] at HO ⊢
  generalize (some ⟨sb + 1, 0, none⟩ : Option Addr) = la at HO ⊢
  clear hgr g3
  have s0 := HO.out.s.c0
  have s1 := HO.out.s.c1
  have r0 := HO.out.g.c0
  have r1 := HO.out.g.c1
  have r2 := HO.out.g.c2
  have o0 := HO.out.r.c0
  have o1 := HO.out.r.c1
  have o2 := HO.out.r.c2
  have y0 := HO.out.r.fr 0
  have y1 := HO.out.r.fr 1
  have y2 := HO.out.r.fr 2
  have H3 := Lib.hid HO.out
  clear s0 s1 r0 r1 r2 o0 o1 o2 y0 y1 y2 HO
  have s0 := H3.out.s.c0
  have s1 := H3.out.s.c1
  go_wp2
  clear s0 s1
  go_loopw [15, 16, 17, 18, 19] (fun s15 _ _ _ _ wr => ∃ (i : Nat) (lv : Value) (ls : List (List UInt8)), f + 1 ≤ i ∧ i ≤ N ∧ s15 = .int .i64 (i : Int) ∧ Hid (Rp.runs 3 body ((xs.take i).drop f) = .inl ⟨k, ls, none⟩) ∧ Hid (OS w wr sb gr K true TT lv ls)) (fun s15 _ _ _ _ _ => N + 1 - (intOf s15).toNat)
  case atStart => exact ⟨f + 1, .slice la 1 1, [tt], Nat.le_refl _, hf, by go_num, E0.out, H3.out⟩
  case round =>
    obtain ⟨i, lv, ls, hi1, hi2, rfl, HRUN, HB⟩ := hrel
    by_cases hlt : i < N
    · have t1 : (i : Int) < (N : Int) := by omega
      have hix : i < xs.length := by rw [← HN.out]; exact hlt
      obtain ⟨q', o', eq, g1, g2', g3⟩ := rd_at (HR.out.below HB.out.b) (by omega)
      simp only [Option.some.injEq, Addr.mk.injEq, and_true] at eq
      obtain ⟨rfl, rfl⟩ := eq
      clear g2'
      replace g3 := g3 i _ (svs_at hix)
      have hlen : (xs.getD i []).length ≤ 200 := HX.out _ (getD_mem hix)
      have hnx := Rp.runs_next (by omega) hix HRUN.out
      have hst := fun hn => HM.out.stop (i := i) (by omega) hix HRUN.out hn
      obtain ⟨x', hx⟩ : ∃ x', x' = xs.getD i [] := ⟨_, rfl⟩
      rw [← hx] at g3 hlen hnx hst
      replace g3 : wr.cell? ⟨q, o + i, none⟩ = some (.string (ba x')) := g3
      have hns := Lib.hid hlen
      obtain ⟨X, hX⟩ : ∃ X, X = ba x' := ⟨_, rfl⟩
      have HX' := Lib.hid hX
      obtain ⟨lo, lc, rfl⟩ := own_form HB.out.o
      obtain ⟨L, hL⟩ : ∃ L, L = ls.length := ⟨_, rfl⟩
      have HL := Lib.hid hL
      have HB1 := Lib.hid (show OS w wr sb gr K true TT (.slice lo L lc) ls by rw [hL]; exact HB.out)
      have hxi := Lib.hid hx
      clear hx hix HRUN HB hlen hL
      cases hs : Ln.status 3 x' with
      | none =>
        by_cases h20 : 20 ≤ L
        · have hne0 : Rp.next 3 ⟨k, ls, none⟩ x' = .inr (.inr 72) := by
            unfold Rp.next; dsimp only; rw [if_neg (by decide), hs]; dsimp only
            unfold Rp.add
            rw [if_pos (by show 20 ≤ ls.length; rw [← HL.out]; exact h20)]
          obtain ⟨e1, e2⟩ := hst (fun m' h => by rw [hne0] at h; cases h)
          rw [hne0] at e2
          have E2 := Lib.hid e2
          have eN : (i : Int) + 1 = (N : Int) := by have := HN.out; omega
          clear e1 e2 hst hnx hne0
          have CS := Lib.hid (fun wz => rst_none hs (by have := hns.out; omega) wz)
          rw [← hX] at CS g3
          clear hs hX
          go_wp2_with fail
          refine (CS.out _).mono ?_
          rintro e w2 ⟨rfl, hb2⟩
          have hbt := (Below.refl w2.heap.size w2).alloc (Nat.le_refl _) (.cells #[.string ⟨#[]⟩, .bool false, .string ⟨#[]⟩] 54)
          have H4 := Lib.hid ((HB1.out.next hb2).next hbt)
          have HT := Lib.hid (St3.new w2 ⟨#[]⟩ ⟨#[]⟩ false)
          have hrw := (HR.out.below H4.out.b)
          obtain ⟨_, _, eq, _, _, g4⟩ := rd_at hrw (by omega)
          simp only [Option.some.injEq, Addr.mk.injEq, and_true] at eq
          obtain ⟨rfl, rfl⟩ := eq
          replace g4 := g4 i _ (svs_at (by rw [← HN.out]; exact hlt))
          rw [← hxi.out] at g4
          replace g4 : World.cell? _ ⟨q, o + i, none⟩ = some (.string (ba x')) := g4
          rw [← HX'.out] at g4
          clear hb2 hbt hrw HB1 CS g3
          go_upto_region 13 with fail
          generalize World.alloc w2 _ = wt at H4 HT g4 ⊢
          generalize w2.heap.size = st at HT ⊢
          have v0 := HT.out.c0
          have v1 := HT.out.c1
          have v2 := HT.out.c2
          have s0 := H4.out.s.c0
          have r0 := H4.out.g.c0
          have r1 := H4.out.g.c1
          have r2 := H4.out.g.c2
          have o0 := H4.out.r.c0
          have o1 := H4.out.r.c1
          have o2 := H4.out.r.c2
          have y0 := H4.out.r.fr 0
          have y1 := H4.out.r.fr 1
          have y2 := H4.out.r.fr 2
          have L20 : ((20 : Int) ≤ (L : Int)) = True := eq_true (by omega)
          have F1 := Lib.hid H4.out.tell0
          clear H4 HT
          go_wp2
          show bodyPost _ _ _ _ _ _
          refine bodyPost_ret (v := .tuple #[.agg #[.string ⟨#[]⟩, .slice none 0 0, .slice none 0 0], .int .i64 (N : Int), .bool false, .int .i64 72]) (by
            have d0 := (F1.out).1.c0
            have d1 := (F1.out).1.c1
            have d2 := (F1.out).1.c2
            generalize World.setCell _ _ _ = wz at d0 d1 d2 ⊢
            simp [results, Tryd.f13, go_sem, d0, d1, d2]) rfl ?_
          exact one_no E2.out F1.out.2 rfl
        · have hne0 : Rp.next 3 ⟨k, ls, none⟩ x' = .inl ⟨k, ls ++ [x'], none⟩ := by
            unfold Rp.next; dsimp only; rw [if_neg (by decide), hs]; dsimp only
            unfold Rp.add
            rw [if_neg (by show ¬ 20 ≤ ls.length; rw [← HL.out]; exact h20)]
            rfl
          rw [hne0] at hnx
          have E1 := Lib.hid hnx
          clear hst hnx hne0
          have CS := Lib.hid (fun wz => rst_none hs (by have := hns.out; omega) wz)
          rw [← hX] at CS g3
          clear hs hX
          go_wp2_with fail
          refine (CS.out _).mono ?_
          rintro e w2 ⟨rfl, hb2⟩
          have hbt := (Below.refl w2.heap.size w2).alloc (Nat.le_refl _) (.cells #[.string ⟨#[]⟩, .bool false, .string ⟨#[]⟩] 54)
          have H4 := Lib.hid ((HB1.out.next hb2).next hbt)
          have HT := Lib.hid (St3.new w2 ⟨#[]⟩ ⟨#[]⟩ false)
          have hrw := (HR.out.below H4.out.b)
          obtain ⟨_, _, eq, _, _, g4⟩ := rd_at hrw (by omega)
          simp only [Option.some.injEq, Addr.mk.injEq, and_true] at eq
          obtain ⟨rfl, rfl⟩ := eq
          replace g4 := g4 i _ (svs_at (by rw [← HN.out]; exact hlt))
          rw [← hxi.out] at g4
          replace g4 : World.cell? _ ⟨q, o + i, none⟩ = some (.string (ba x')) := g4
          rw [← HX'.out] at g4
          clear hb2 hbt hrw HB1 CS g3
          go_upto_region 13 with fail
          generalize World.alloc w2 _ = wt at H4 HT g4 ⊢
          generalize w2.heap.size = st at HT ⊢
          have v0 := HT.out.c0
          have v1 := HT.out.c1
          have v2 := HT.out.c2
          have s0 := H4.out.s.c0
          have r0 := H4.out.g.c0
          have r1 := H4.out.g.c1
          have r2 := H4.out.g.c2
          have o0 := H4.out.r.c0
          have o1 := H4.out.r.c1
          have o2 := H4.out.r.c2
          have y0 := H4.out.r.fr 0
          have y1 := H4.out.r.fr 1
          have y2 := H4.out.r.fr 2
          have HOW := Lib.hid (show wt.ownsRow w.heap.size 9 1 (.slice lo L lc) L (ls.map sv) by have := H4.out.o; rwa [← HL.out] at this)
          have L20 : ((20 : Int) ≤ (L : Int)) = False := eq_false (by omega)
          go_wp2_with (at_builtin; refine append_str rfl (.tmp 130) (.tmp 132) rfl rfl HOW.out rfl rfl rfl ?ca H4.out.b.size ?_)
          case ca => omega
          intro v2' w4 ho2 hg2
          obtain ⟨co, cc, rfl⟩ := own_form ho2
          have hg2' := H4.out.grow hg2
          have H5 := Lib.hid (H4.out.line (x := x') (by rw [← HL.out]; rw [HX'.out] at ho2; exact ho2) hg2)
          have k0 := hg2'.1.c0
          have k1 := hg2'.1.c1
          have k2 := hg2'.1.c2
          have kf := hg2'.1.fr 1
          have m0 := H5.out.g.c0
          have m1 := H5.out.g.c1
          have m2 := H5.out.g.c2
          have j0 := H5.out.r.c0
          have j1 := H5.out.r.c1
          have j2 := H5.out.r.c2
          have jf0 := H5.out.r.fr 0
          have jf1 := H5.out.r.fr 1
          have jf2 := H5.out.r.fr 2
          clear ho2 hg2 hg2' v0 v1 v2 s0 r0 r1 r2 o0 o1 o2 y0 y1 y2 g4
          clear H4 HT
          go_wp2
          go_roundw
          case rel => exact ⟨i + 1, _, ls ++ [x'], by omega, by omega, by go_num, E1.out, H5.out⟩
          case measure => simp [intOf]; omega
      | some t2 =>
        obtain ⟨k', MO, tt'⟩ := t2
        by_cases hk : k' = k
        · obtain rfl : k = k' := hk.symm
          cases MO with
          | true =>
            by_cases h20 : 20 ≤ L
            · have hne0 : Rp.next 3 ⟨k, ls, none⟩ x' = .inr (.inr 72) := by
                unfold Rp.next; dsimp only; rw [if_neg (by decide), hs]; dsimp only; rw [if_neg (fun e => by cases e.2)]
                unfold Rp.add
                rw [if_pos (by show 20 ≤ ls.length; rw [← HL.out]; exact h20)]
              obtain ⟨e1, e2⟩ := hst (fun m' h => by rw [hne0] at h; cases h)
              rw [hne0] at e2
              have E2 := Lib.hid e2
              have eN : (i : Int) + 1 = (N : Int) := by have := HN.out; omega
              clear e1 e2 hst hnx hne0
              have CS := Lib.hid (fun wz => rst_some hs (by have := hns.out; omega) wz)
              dsimp only at CS
              obtain ⟨T2, hT2⟩ : ∃ T2, T2 = ba tt' := ⟨_, rfl⟩
              have HT2 := Lib.hid hT2
              rw [← HK.out, ← hT2] at CS
              rw [← hX] at CS g3
              clear hs hT2 hX
              go_wp2_with fail
              refine (CS.out _).mono ?_
              rintro e w2 ⟨rfl, hb2⟩
              have hbt := (Below.refl w2.heap.size w2).alloc (Nat.le_refl _) (.cells #[.string K, .bool true, .string T2] 54)
              have H4 := Lib.hid ((HB1.out.next hb2).next hbt)
              have HT := Lib.hid (St3.new w2 K T2 true)
              have hrw := (HR.out.below H4.out.b)
              obtain ⟨_, _, eq, _, _, g4⟩ := rd_at hrw (by omega)
              simp only [Option.some.injEq, Addr.mk.injEq, and_true] at eq
              obtain ⟨rfl, rfl⟩ := eq
              replace g4 := g4 i _ (svs_at (by rw [← HN.out]; exact hlt))
              rw [← hxi.out] at g4
              replace g4 : World.cell? _ ⟨q, o + i, none⟩ = some (.string (ba x')) := g4
              rw [← HX'.out] at g4
              clear hb2 hbt hrw HB1 CS g3
              go_upto_region 13 with fail
              generalize World.alloc w2 _ = wt at H4 HT g4 ⊢
              generalize w2.heap.size = st at HT ⊢
              have v0 := HT.out.c0
              have v1 := HT.out.c1
              have v2 := HT.out.c2
              have s0 := H4.out.s.c0
              have r0 := H4.out.g.c0
              have r1 := H4.out.g.c1
              have r2 := H4.out.g.c2
              have o0 := H4.out.r.c0
              have o1 := H4.out.r.c1
              have o2 := H4.out.r.c2
              have y0 := H4.out.r.fr 0
              have y1 := H4.out.r.fr 1
              have y2 := H4.out.r.fr 2
              have L20 : ((20 : Int) ≤ (L : Int)) = True := eq_true (by omega)
              have F1 := Lib.hid H4.out.tell0
              clear H4 HT
              go_wp2
              show bodyPost _ _ _ _ _ _
              refine bodyPost_ret (v := .tuple #[.agg #[.string ⟨#[]⟩, .slice none 0 0, .slice none 0 0], .int .i64 (N : Int), .bool false, .int .i64 72]) (by
                have d0 := (F1.out).1.c0
                have d1 := (F1.out).1.c1
                have d2 := (F1.out).1.c2
                generalize World.setCell _ _ _ = wz at d0 d1 d2 ⊢
                simp [results, Tryd.f13, go_sem, d0, d1, d2]) rfl ?_
              exact one_no E2.out F1.out.2 rfl
            · have hne0 : Rp.next 3 ⟨k, ls, none⟩ x' = .inl ⟨k, ls ++ [x'], none⟩ := by
                unfold Rp.next; dsimp only; rw [if_neg (by decide), hs]; dsimp only; rw [if_neg (fun e => by cases e.2)]
                unfold Rp.add
                rw [if_neg (by show ¬ 20 ≤ ls.length; rw [← HL.out]; exact h20)]
                rfl
              rw [hne0] at hnx
              have E1 := Lib.hid hnx
              clear hst hnx hne0
              have CS := Lib.hid (fun wz => rst_some hs (by have := hns.out; omega) wz)
              dsimp only at CS
              obtain ⟨T2, hT2⟩ : ∃ T2, T2 = ba tt' := ⟨_, rfl⟩
              have HT2 := Lib.hid hT2
              rw [← HK.out, ← hT2] at CS
              rw [← hX] at CS g3
              clear hs hT2 hX
              go_wp2_with fail
              refine (CS.out _).mono ?_
              rintro e w2 ⟨rfl, hb2⟩
              have hbt := (Below.refl w2.heap.size w2).alloc (Nat.le_refl _) (.cells #[.string K, .bool true, .string T2] 54)
              have H4 := Lib.hid ((HB1.out.next hb2).next hbt)
              have HT := Lib.hid (St3.new w2 K T2 true)
              have hrw := (HR.out.below H4.out.b)
              obtain ⟨_, _, eq, _, _, g4⟩ := rd_at hrw (by omega)
              simp only [Option.some.injEq, Addr.mk.injEq, and_true] at eq
              obtain ⟨rfl, rfl⟩ := eq
              replace g4 := g4 i _ (svs_at (by rw [← HN.out]; exact hlt))
              rw [← hxi.out] at g4
              replace g4 : World.cell? _ ⟨q, o + i, none⟩ = some (.string (ba x')) := g4
              rw [← HX'.out] at g4
              clear hb2 hbt hrw HB1 CS g3
              go_upto_region 13 with fail
              generalize World.alloc w2 _ = wt at H4 HT g4 ⊢
              generalize w2.heap.size = st at HT ⊢
              have v0 := HT.out.c0
              have v1 := HT.out.c1
              have v2 := HT.out.c2
              have s0 := H4.out.s.c0
              have r0 := H4.out.g.c0
              have r1 := H4.out.g.c1
              have r2 := H4.out.g.c2
              have o0 := H4.out.r.c0
              have o1 := H4.out.r.c1
              have o2 := H4.out.r.c2
              have y0 := H4.out.r.fr 0
              have y1 := H4.out.r.fr 1
              have y2 := H4.out.r.fr 2
              have HOW := Lib.hid (show wt.ownsRow w.heap.size 9 1 (.slice lo L lc) L (ls.map sv) by have := H4.out.o; rwa [← HL.out] at this)
              have L20 : ((20 : Int) ≤ (L : Int)) = False := eq_false (by omega)
              go_wp2_with (at_builtin; refine append_str rfl (.tmp 130) (.tmp 132) rfl rfl HOW.out rfl rfl rfl ?ca H4.out.b.size ?_)
              case ca => omega
              intro v2' w4 ho2 hg2
              obtain ⟨co, cc, rfl⟩ := own_form ho2
              have hg2' := H4.out.grow hg2
              have H5 := Lib.hid (H4.out.line (x := x') (by rw [← HL.out]; rw [HX'.out] at ho2; exact ho2) hg2)
              have k0 := hg2'.1.c0
              have k1 := hg2'.1.c1
              have k2 := hg2'.1.c2
              have kf := hg2'.1.fr 1
              have m0 := H5.out.g.c0
              have m1 := H5.out.g.c1
              have m2 := H5.out.g.c2
              have j0 := H5.out.r.c0
              have j1 := H5.out.r.c1
              have j2 := H5.out.r.c2
              have jf0 := H5.out.r.fr 0
              have jf1 := H5.out.r.fr 1
              have jf2 := H5.out.r.fr 2
              clear ho2 hg2 hg2' v0 v1 v2 s0 r0 r1 r2 o0 o1 o2 y0 y1 y2 g4
              clear H4 HT
              go_wp2
              go_roundw
              case rel => exact ⟨i + 1, _, ls ++ [x'], by omega, by omega, by go_num, E1.out, H5.out⟩
              case measure => simp [intOf]; omega
          | false =>
            by_cases h20 : 20 ≤ L
            · have hne0 : Rp.next 3 ⟨k, ls, none⟩ x' = .inr (.inr 72) := by
                unfold Rp.next; dsimp only; rw [if_neg (by decide), hs]; dsimp only; rw [if_pos ⟨rfl, rfl⟩]
                unfold Rp.add
                rw [if_pos (by show 20 ≤ ls.length; rw [← HL.out]; exact h20)]
              obtain ⟨e1, e2⟩ := hst (fun m' h => by rw [hne0] at h; cases h)
              rw [hne0] at e2
              have E2 := Lib.hid e2
              have eN : (i : Int) + 1 = (N : Int) := by have := HN.out; omega
              clear e1 e2 hst hnx hne0
              have CS := Lib.hid (fun wz => rst_some hs (by have := hns.out; omega) wz)
              dsimp only at CS
              obtain ⟨T2, hT2⟩ : ∃ T2, T2 = ba tt' := ⟨_, rfl⟩
              have HT2 := Lib.hid hT2
              rw [← HK.out, ← hT2] at CS
              rw [← hX] at CS g3
              clear hs hT2 hX
              go_wp2_with fail
              refine (CS.out _).mono ?_
              rintro e w2 ⟨rfl, hb2⟩
              have hbt := (Below.refl w2.heap.size w2).alloc (Nat.le_refl _) (.cells #[.string K, .bool false, .string T2] 54)
              have H4 := Lib.hid ((HB1.out.next hb2).next hbt)
              have HT := Lib.hid (St3.new w2 K T2 false)
              have hrw := (HR.out.below H4.out.b)
              obtain ⟨_, _, eq, _, _, g4⟩ := rd_at hrw (by omega)
              simp only [Option.some.injEq, Addr.mk.injEq, and_true] at eq
              obtain ⟨rfl, rfl⟩ := eq
              replace g4 := g4 i _ (svs_at (by rw [← HN.out]; exact hlt))
              rw [← hxi.out] at g4
              replace g4 : World.cell? _ ⟨q, o + i, none⟩ = some (.string (ba x')) := g4
              rw [← HX'.out] at g4
              clear hb2 hbt hrw HB1 CS g3
              go_upto_region 13 with fail
              generalize World.alloc w2 _ = wt at H4 HT g4 ⊢
              generalize w2.heap.size = st at HT ⊢
              have v0 := HT.out.c0
              have v1 := HT.out.c1
              have v2 := HT.out.c2
              have s0 := H4.out.s.c0
              have r0 := H4.out.g.c0
              have r1 := H4.out.g.c1
              have r2 := H4.out.g.c2
              have o0 := H4.out.r.c0
              have o1 := H4.out.r.c1
              have o2 := H4.out.r.c2
              have y0 := H4.out.r.fr 0
              have y1 := H4.out.r.fr 1
              have y2 := H4.out.r.fr 2
              have L20 : ((20 : Int) ≤ (L : Int)) = True := eq_true (by omega)
              have F1 := Lib.hid H4.out.tell0
              clear H4 HT
              go_wp2
              show bodyPost _ _ _ _ _ _
              refine bodyPost_ret (v := .tuple #[.agg #[.string ⟨#[]⟩, .slice none 0 0, .slice none 0 0], .int .i64 (N : Int), .bool false, .int .i64 72]) (by
                have d0 := (F1.out).1.c0
                have d1 := (F1.out).1.c1
                have d2 := (F1.out).1.c2
                generalize World.setCell _ _ _ = wz at d0 d1 d2 ⊢
                simp [results, Tryd.f13, go_sem, d0, d1, d2]) rfl ?_
              exact one_no E2.out F1.out.2 rfl
            · have hne0 : Rp.next 3 ⟨k, ls, none⟩ x' = .inr (.inl ⟨k, ls ++ [tt'], []⟩) := by
                unfold Rp.next; dsimp only; rw [if_neg (by decide), hs]; dsimp only; rw [if_pos ⟨rfl, rfl⟩]
                unfold Rp.add
                rw [if_neg (by show ¬ 20 ≤ ls.length; rw [← HL.out]; exact h20)]
                rfl
              obtain ⟨e1, e2⟩ := hst (fun m' h => by rw [hne0] at h; cases h)
              rw [hne0] at e2
              have E2 := Lib.hid e2
              have eN : (i : Int) + 1 = (N : Int) := by have := HN.out; omega
              clear e1 e2 hst hnx hne0
              have CS := Lib.hid (fun wz => rst_some hs (by have := hns.out; omega) wz)
              dsimp only at CS
              obtain ⟨T2, hT2⟩ : ∃ T2, T2 = ba tt' := ⟨_, rfl⟩
              have HT2 := Lib.hid hT2
              rw [← HK.out, ← hT2] at CS
              rw [← hX] at CS g3
              clear hs hT2 hX
              go_wp2_with fail
              refine (CS.out _).mono ?_
              rintro e w2 ⟨rfl, hb2⟩
              have hbt := (Below.refl w2.heap.size w2).alloc (Nat.le_refl _) (.cells #[.string K, .bool false, .string T2] 54)
              have H4 := Lib.hid ((HB1.out.next hb2).next hbt)
              have HT := Lib.hid (St3.new w2 K T2 false)
              have hrw := (HR.out.below H4.out.b)
              obtain ⟨_, _, eq, _, _, g4⟩ := rd_at hrw (by omega)
              simp only [Option.some.injEq, Addr.mk.injEq, and_true] at eq
              obtain ⟨rfl, rfl⟩ := eq
              replace g4 := g4 i _ (svs_at (by rw [← HN.out]; exact hlt))
              rw [← hxi.out] at g4
              replace g4 : World.cell? _ ⟨q, o + i, none⟩ = some (.string (ba x')) := g4
              rw [← HX'.out] at g4
              clear hb2 hbt hrw HB1 CS g3
              go_upto_region 13 with fail
              generalize World.alloc w2 _ = wt at H4 HT g4 ⊢
              generalize w2.heap.size = st at HT ⊢
              have v0 := HT.out.c0
              have v1 := HT.out.c1
              have v2 := HT.out.c2
              have s0 := H4.out.s.c0
              have r0 := H4.out.g.c0
              have r1 := H4.out.g.c1
              have r2 := H4.out.g.c2
              have o0 := H4.out.r.c0
              have o1 := H4.out.r.c1
              have o2 := H4.out.r.c2
              have y0 := H4.out.r.fr 0
              have y1 := H4.out.r.fr 1
              have y2 := H4.out.r.fr 2
              have HOW := Lib.hid (show wt.ownsRow w.heap.size 9 1 (.slice lo L lc) L (ls.map sv) by have := H4.out.o; rwa [← HL.out] at this)
              have L20 : ((20 : Int) ≤ (L : Int)) = False := eq_false (by omega)
              go_wp2_with (at_builtin; refine append_str rfl (.tmp 130) (.tmp 132) rfl rfl HOW.out rfl rfl rfl ?ca H4.out.b.size ?_)
              case ca => omega
              intro v2' w4 ho2 hg2
              obtain ⟨co, cc, rfl⟩ := own_form ho2
              have hg2' := H4.out.grow hg2
              have H5 := Lib.hid (H4.out.line (x := tt') (by rw [← HL.out]; rw [HT2.out] at ho2; exact ho2) hg2)
              have k0 := hg2'.1.c0
              have k1 := hg2'.1.c1
              have k2 := hg2'.1.c2
              have kf := hg2'.1.fr 1
              have m0 := H5.out.g.c0
              have m1 := H5.out.g.c1
              have m2 := H5.out.g.c2
              have j0 := H5.out.r.c0
              have j1 := H5.out.r.c1
              have j2 := H5.out.r.c2
              have jf0 := H5.out.r.fr 0
              have jf1 := H5.out.r.fr 1
              have jf2 := H5.out.r.fr 2
              clear ho2 hg2 hg2' v0 v1 v2 s0 r0 r1 r2 o0 o1 o2 y0 y1 y2 g4
              have F1 := Lib.hid H5.out.tell
              clear H5 H4 HT
              go_wp2
              show bodyPost _ _ _ _ _ _
              refine bodyPost_ret (v := .tuple #[.agg #[.string K, .slice co (L + 1) cc, .slice none 0 0], .int .i64 (N : Int), .bool true, .int .i64 0]) (by
                have d0 := (F1.out).1.c0
                have d1 := (F1.out).1.c1
                have d2 := (F1.out).1.c2
                generalize World.setCell _ _ _ = wz at d0 d1 d2 ⊢
                simp [results, Tryd.f13, go_sem, d0, d1, d2]) rfl ?_
              obtain ⟨f1, f2, f3⟩ := F1.out
              rw [E2.out]
              have hz : (ls ++ [tt']).length = L + 1 := by rw [List.length_append, ← HL.out]; rfl
              refine ⟨co, cc, none, 0, ?_, ?_, rd_nil _ _ rfl, f2⟩
              · show _ = Ending.returned (.tuple #[.agg #[.string (ba k), .slice co (ls ++ [tt']).length cc, .slice none 0 0], .int .i64 (N : Int), .bool true, .int .i64 0])
                rw [hz, HK.out]
              · show Rd _ (.slice co (ls ++ [tt']).length cc) ((ls ++ [tt']).map sv)
                rw [hz]
                exact f3
        · skip
          by_cases h20 : 20 ≤ L
          · have hne0 : Rp.next 3 ⟨k, ls, none⟩ x' = .inr (.inr 72) := by
              unfold Rp.next; dsimp only; rw [if_neg (by decide), hs]; dsimp only; rw [if_neg (fun e => hk e.1)]
              unfold Rp.add
              rw [if_pos (by show 20 ≤ ls.length; rw [← HL.out]; exact h20)]
            obtain ⟨e1, e2⟩ := hst (fun m' h => by rw [hne0] at h; cases h)
            rw [hne0] at e2
            have E2 := Lib.hid e2
            have eN : (i : Int) + 1 = (N : Int) := by have := HN.out; omega
            clear e1 e2 hst hnx hne0
            have CS := Lib.hid (fun wz => rst_some hs (by have := hns.out; omega) wz)
            dsimp only at CS
            obtain ⟨T2, hT2⟩ : ∃ T2, T2 = ba tt' := ⟨_, rfl⟩
            have HT2 := Lib.hid hT2
            obtain ⟨K2, hK2⟩ : ∃ K2, K2 = ba k' := ⟨_, rfl⟩
            have hne : (K2.toList == K.toList) = false := by rw [hK2, HK.out, Lib.toList_data, Lib.toList_data]; exact beq_eq_false_iff_ne.2 hk
            have hne2 : (K2.toList = K.toList) = False := eq_false (fun e => by rw [e] at hne; simp at hne)
            have hne3 : (K2.toList != K.toList) = true := by simp [bne, hne]
            rw [← hK2, ← hT2] at CS
            rw [← hX] at CS g3
            clear hs hT2 hX hK2 hk
            go_wp2_with fail
            refine (CS.out _).mono ?_
            rintro e w2 ⟨rfl, hb2⟩
            have hbt := (Below.refl w2.heap.size w2).alloc (Nat.le_refl _) (.cells #[.string K2, .bool MO, .string T2] 54)
            have H4 := Lib.hid ((HB1.out.next hb2).next hbt)
            have HT := Lib.hid (St3.new w2 K2 T2 MO)
            have hrw := (HR.out.below H4.out.b)
            obtain ⟨_, _, eq, _, _, g4⟩ := rd_at hrw (by omega)
            simp only [Option.some.injEq, Addr.mk.injEq, and_true] at eq
            obtain ⟨rfl, rfl⟩ := eq
            replace g4 := g4 i _ (svs_at (by rw [← HN.out]; exact hlt))
            rw [← hxi.out] at g4
            replace g4 : World.cell? _ ⟨q, o + i, none⟩ = some (.string (ba x')) := g4
            rw [← HX'.out] at g4
            clear hb2 hbt hrw HB1 CS g3
            go_upto_region 13 with fail
            generalize World.alloc w2 _ = wt at H4 HT g4 ⊢
            generalize w2.heap.size = st at HT ⊢
            have v0 := HT.out.c0
            have v1 := HT.out.c1
            have v2 := HT.out.c2
            have s0 := H4.out.s.c0
            have r0 := H4.out.g.c0
            have r1 := H4.out.g.c1
            have r2 := H4.out.g.c2
            have o0 := H4.out.r.c0
            have o1 := H4.out.r.c1
            have o2 := H4.out.r.c2
            have y0 := H4.out.r.fr 0
            have y1 := H4.out.r.fr 1
            have y2 := H4.out.r.fr 2
            have L20 : ((20 : Int) ≤ (L : Int)) = True := eq_true (by omega)
            have F1 := Lib.hid H4.out.tell0
            clear H4 HT
            go_wp2
            show bodyPost _ _ _ _ _ _
            refine bodyPost_ret (v := .tuple #[.agg #[.string ⟨#[]⟩, .slice none 0 0, .slice none 0 0], .int .i64 (N : Int), .bool false, .int .i64 72]) (by
              have d0 := (F1.out).1.c0
              have d1 := (F1.out).1.c1
              have d2 := (F1.out).1.c2
              generalize World.setCell _ _ _ = wz at d0 d1 d2 ⊢
              simp [results, Tryd.f13, go_sem, d0, d1, d2]) rfl ?_
            exact one_no E2.out F1.out.2 rfl
          · have hne0 : Rp.next 3 ⟨k, ls, none⟩ x' = .inl ⟨k, ls ++ [x'], none⟩ := by
              unfold Rp.next; dsimp only; rw [if_neg (by decide), hs]; dsimp only; rw [if_neg (fun e => hk e.1)]
              unfold Rp.add
              rw [if_neg (by show ¬ 20 ≤ ls.length; rw [← HL.out]; exact h20)]
              rfl
            rw [hne0] at hnx
            have E1 := Lib.hid hnx
            clear hst hnx hne0
            have CS := Lib.hid (fun wz => rst_some hs (by have := hns.out; omega) wz)
            dsimp only at CS
            obtain ⟨T2, hT2⟩ : ∃ T2, T2 = ba tt' := ⟨_, rfl⟩
            have HT2 := Lib.hid hT2
            obtain ⟨K2, hK2⟩ : ∃ K2, K2 = ba k' := ⟨_, rfl⟩
            have hne : (K2.toList == K.toList) = false := by rw [hK2, HK.out, Lib.toList_data, Lib.toList_data]; exact beq_eq_false_iff_ne.2 hk
            have hne2 : (K2.toList = K.toList) = False := eq_false (fun e => by rw [e] at hne; simp at hne)
            have hne3 : (K2.toList != K.toList) = true := by simp [bne, hne]
            rw [← hK2, ← hT2] at CS
            rw [← hX] at CS g3
            clear hs hT2 hX hK2 hk
            go_wp2_with fail
            refine (CS.out _).mono ?_
            rintro e w2 ⟨rfl, hb2⟩
            have hbt := (Below.refl w2.heap.size w2).alloc (Nat.le_refl _) (.cells #[.string K2, .bool MO, .string T2] 54)
            have H4 := Lib.hid ((HB1.out.next hb2).next hbt)
            have HT := Lib.hid (St3.new w2 K2 T2 MO)
            have hrw := (HR.out.below H4.out.b)
            obtain ⟨_, _, eq, _, _, g4⟩ := rd_at hrw (by omega)
            simp only [Option.some.injEq, Addr.mk.injEq, and_true] at eq
            obtain ⟨rfl, rfl⟩ := eq
            replace g4 := g4 i _ (svs_at (by rw [← HN.out]; exact hlt))
            rw [← hxi.out] at g4
            replace g4 : World.cell? _ ⟨q, o + i, none⟩ = some (.string (ba x')) := g4
            rw [← HX'.out] at g4
            clear hb2 hbt hrw HB1 CS g3
            go_upto_region 13 with fail
            generalize World.alloc w2 _ = wt at H4 HT g4 ⊢
            generalize w2.heap.size = st at HT ⊢
            have v0 := HT.out.c0
            have v1 := HT.out.c1
            have v2 := HT.out.c2
            have s0 := H4.out.s.c0
            have r0 := H4.out.g.c0
            have r1 := H4.out.g.c1
            have r2 := H4.out.g.c2
            have o0 := H4.out.r.c0
            have o1 := H4.out.r.c1
            have o2 := H4.out.r.c2
            have y0 := H4.out.r.fr 0
            have y1 := H4.out.r.fr 1
            have y2 := H4.out.r.fr 2
            have HOW := Lib.hid (show wt.ownsRow w.heap.size 9 1 (.slice lo L lc) L (ls.map sv) by have := H4.out.o; rwa [← HL.out] at this)
            have L20 : ((20 : Int) ≤ (L : Int)) = False := eq_false (by omega)
            go_wp2_with (at_builtin; refine append_str rfl (.tmp 130) (.tmp 132) rfl rfl HOW.out rfl rfl rfl ?ca H4.out.b.size ?_)
            case ca => omega
            intro v2' w4 ho2 hg2
            obtain ⟨co, cc, rfl⟩ := own_form ho2
            have hg2' := H4.out.grow hg2
            have H5 := Lib.hid (H4.out.line (x := x') (by rw [← HL.out]; rw [HX'.out] at ho2; exact ho2) hg2)
            have k0 := hg2'.1.c0
            have k1 := hg2'.1.c1
            have k2 := hg2'.1.c2
            have kf := hg2'.1.fr 1
            have m0 := H5.out.g.c0
            have m1 := H5.out.g.c1
            have m2 := H5.out.g.c2
            have j0 := H5.out.r.c0
            have j1 := H5.out.r.c1
            have j2 := H5.out.r.c2
            have jf0 := H5.out.r.fr 0
            have jf1 := H5.out.r.fr 1
            have jf2 := H5.out.r.fr 2
            clear ho2 hg2 hg2' v0 v1 v2 s0 r0 r1 r2 o0 o1 o2 y0 y1 y2 g4
            clear H4 HT
            go_wp2
            go_roundw
            case rel => exact ⟨i + 1, _, ls ++ [x'], by omega, by omega, by go_num, E1.out, H5.out⟩
            case measure => simp [intOf]; omega
    · have t1 : ((i : Int) < (N : Int)) = False := eq_false (by omega)
      obtain rfl : N = i := by omega
      have E2 := Lib.hid (Rp.runs_all (by have := HRUN.out; rwa [HN.out] at this))
      have F1 := Lib.hid HB.out.tell0
      have o0 := HB.out.r.c0
      have o1 := HB.out.r.c1
      have o2 := HB.out.r.c2
      have y0 := HB.out.r.fr 0
      have y1 := HB.out.r.fr 1
      have y2 := HB.out.r.fr 2
      clear HB HRUN hlt
      go_wp2
      show bodyPost _ _ _ _ _ _
      refine bodyPost_ret (v := .tuple #[.agg #[.string ⟨#[]⟩, .slice none 0 0, .slice none 0 0], .int .i64 (N : Int), .bool false, .int .i64 0]) (by
        have d0 := (F1.out).1.c0
        have d1 := (F1.out).1.c1
        have d2 := (F1.out).1.c2
        generalize World.setCell _ _ _ = wz at d0 d1 d2 ⊢
        simp [results, Tryd.f13, go_sem, d0, d1, d2]) rfl ?_
      exact one_no E2.out F1.out.2 rfl

/-- 'One', whatever the lines say. -/
theorem one_any {w : World} {xs : List (List UInt8)} {f N cap : Nat} {p : Int} {body : Bool} {ao : Option Addr} (hr : Rd w (.slice ao N cap) (xs.map sv)) (hN : N = xs.length) (hf : f < N) (h40 : N ≤ 40) (hx : ∀ x ∈ xs, x.length ≤ 200)
    (hm : Rp.Mids p body xs f) :
    Calls Tryd.prog 13 #[.int .i64 p, .slice ao N cap, .int .i64 (f : Int), .bool body] w (OneP w N (Rp.runs p body (xs.drop f))) := by
  cases hst : Ln.status p (xs.getD f []) with
  | none => exact one_none hr hN hf h40 hx hm hst
  | some t =>
    obtain ⟨hp, h2, h3⟩ := Rp.status_proto hst
    cases hmo : t.more with
    | true =>
      have hne : p ≠ 2 := fun e => by rw [h2 e] at hmo; cases hmo
      rcases hp with rfl | rfl | rfl
      · exact one_more_1 hr hN hf h40 hx hm hst hmo
      · exact absurd rfl hne
      · exact one_more_3 hr hN hf h40 hx hm hst hmo
    | false =>
      by_cases hp2 : p = 2
      · subst hp2
        cases body with
        | false => exact one_whole_b hr hN hf h40 hx hm hst hmo
        | true =>
          by_cases hk : t.code = [43]
          · exact one_body hr hN hf h40 hx hm hst hk
          · exact one_whole_c hr hN hf h40 hx hm hst hmo hk
      · exact one_whole_a hr hN hf h40 hx hm hst hmo hp2
end Go.Proofs.YtnodngcfjdghcaaDoor
