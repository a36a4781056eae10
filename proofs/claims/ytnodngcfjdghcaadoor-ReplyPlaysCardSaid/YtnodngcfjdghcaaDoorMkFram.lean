/- A reply of Ftp goes on: framed walked. -/
import Derived.Test.YtnodngcfjdghcaaDoorMkNum
namespace Go.Proofs.YtnodngcfjdghcaaDoor
open Go.RowKit

set_option maxHeartbeats 2000000 in
theorem framed_yes_full {w : World} {B g : Nat} {k : List UInt8} {lv bo bp tk : Value} {ls : List (List UInt8)} (h : MkC w g 3 (ba k) lv bo bp tk) (ho : w.ownsRow B 9 1 lv ls.length (ls.map sv))  (s : List UInt8) (hs : s.length ≤ 16777216) {t : Ln.Sa} (hst : Ln.status 3 s = some t) (hm : t.more = false) (hk : t.code = k) (hl : 20 ≤ ls.length) :
    Calls Tryd.prog 32 #[.pointer (some ⟨g, 0, none⟩), .string (ba s)] w (NP w B g 3 (ba k) lv bo bp tk (Rp.next 3 ⟨k, ls, none⟩ s)) := by
  have hS := fun w => status_any 3 s hs w
  have e0 : Rp.next 3 ⟨k, ls, none⟩ s = .inr (.inr 72) := by
    unfold Rp.next
    simp [hst, hm, hk, Rp.add, hl]
  obtain ⟨OUT, hOUT⟩ : ∃ o : Rp.Out, o = Rp.next 3 ⟨k, ls, none⟩ s := ⟨_, rfl⟩
  rw [← hOUT]
  have EO := Lib.hid (hOUT.trans e0)
  clear hOUT e0
  rw [hst] at hS
  have hS : ∀ w, Calls Tryd.prog 23 #[.int .i64 3, .string (ba s)] w fun e w' => e = .returned (.tuple #[.agg #[.string (ba t.code), .bool t.more, .string (ba t.text)], .bool true]) ∧ Below w.heap.size w w' := hS
  rw [hm] at hS
  have c0 := h.c0
  have H := Lib.hid h
  have HO := Lib.hid ho
  have HL := Lib.hid hl
  subst hk
  clear hst h ho hl hm
  obtain ⟨tc, htc⟩ : ∃ tc, tc = ba t.code := ⟨_, rfl⟩
  obtain ⟨tt, htt⟩ : ∃ tt, tt = ba t.text := ⟨_, rfl⟩
  rw [← htc, ← htt] at hS
  have HTT := Lib.hid htt
  rw [← htc] at H
  have HTC := Lib.hid htc
  clear htc htt
  go_enter Tryd.func32, Tryd.ntmps32
  go_wp2_with (go_at_call 23; refine (hS _).mono ?_; rintro e w1 ⟨rfl, hb⟩; clear hS; have c1 := fun o => ((H.out.next hb).next ((Below.refl _ _).alloc (Nat.le_refl _) o)).c1)
  go_quiet (fail)
  simp only [Exit.then]
  have hb2 : Below w.heap.size w ((w1.alloc (.cells #[.string tc, .bool false, .string tt] 54)).drewN nq) := (hb.alloc hb.size _).trans ⟨rfl, rfl, rfl, Nat.le_refl _, fun _ _ => rfl⟩
  have hst : St3 ((w1.alloc (.cells #[.string tc, .bool false, .string tt] 54)).drewN nq) w1.heap.size tc false tt := St3.new w1 tc tt false
  have q2 := hst.c2
  generalize (w1.alloc (.cells #[.string tc, .bool false, .string tt] 54)).drewN nq = w2 at *
  have hc2 := H.out.next hb2
  have ho2 := own_below HO.out hb2
  have CA := Lib.hid (HTT.out ▸ madd_full t.text hc2 ho2 HL.out)
  have HB2 := Lib.hid hb2
  have HC2 := Lib.hid hc2
  clear hb2 hc2 ho2 c0 c1 hb
  go_wp2_with (go_at_call 25; refine CA.out.mono ?_; rintro e w4 ⟨rfl, hw⟩; rw [← hw]; clear hw)
  go_ret2
  rw [EO.out, ← HTC.out]
  exact ⟨_, lv, rfl, HC2.out, .of_below HB2.out, Nx.refl _ _, sl_own HO.out, fun e => absurd e (by decide)⟩
set_option maxHeartbeats 2000000 in
theorem framed_yes_room {w : World} {B g : Nat} {k : List UInt8} {lv bo bp tk : Value} {ls : List (List UInt8)} (h : MkC w g 3 (ba k) lv bo bp tk) (ho : w.ownsRow B 9 1 lv ls.length (ls.map sv)) (hB : B ≤ w.heap.size) (s : List UInt8) (hs : s.length ≤ 16777216) {t : Ln.Sa} (hst : Ln.status 3 s = some t) (hm : t.more = false) (hk : t.code = k) (hl : ls.length < 20) :
    Calls Tryd.prog 32 #[.pointer (some ⟨g, 0, none⟩), .string (ba s)] w (NP w B g 3 (ba k) lv bo bp tk (Rp.next 3 ⟨k, ls, none⟩ s)) := by
  have hS := fun w => status_any 3 s hs w
  have e0 : Rp.next 3 ⟨k, ls, none⟩ s = .inr (.inl ⟨k, ls ++ [t.text], []⟩) := by
    unfold Rp.next
    simp [hst, hm, hk, Rp.add, Nat.not_le.2 hl]
  obtain ⟨OUT, hOUT⟩ : ∃ o : Rp.Out, o = Rp.next 3 ⟨k, ls, none⟩ s := ⟨_, rfl⟩
  rw [← hOUT]
  have EO := Lib.hid (hOUT.trans e0)
  clear hOUT e0
  rw [hst] at hS
  have hS : ∀ w, Calls Tryd.prog 23 #[.int .i64 3, .string (ba s)] w fun e w' => e = .returned (.tuple #[.agg #[.string (ba t.code), .bool t.more, .string (ba t.text)], .bool true]) ∧ Below w.heap.size w w' := hS
  rw [hm] at hS
  have c0 := h.c0
  have H := Lib.hid h
  have HO := Lib.hid ho
  have HL := Lib.hid hl
  have HB := Lib.hid hB
  subst hk
  clear hst h ho hl hB hm
  obtain ⟨tc, htc⟩ : ∃ tc, tc = ba t.code := ⟨_, rfl⟩
  obtain ⟨tt, htt⟩ : ∃ tt, tt = ba t.text := ⟨_, rfl⟩
  rw [← htc, ← htt] at hS
  have HTT := Lib.hid htt
  rw [← htc] at H
  have HTC := Lib.hid htc
  clear htc htt
  go_enter Tryd.func32, Tryd.ntmps32
  go_wp2_with (go_at_call 23; refine (hS _).mono ?_; rintro e w1 ⟨rfl, hb⟩; clear hS; have c1 := fun o => ((H.out.next hb).next ((Below.refl _ _).alloc (Nat.le_refl _) o)).c1)
  go_quiet (fail)
  simp only [Exit.then]
  have hb2 : Below w.heap.size w ((w1.alloc (.cells #[.string tc, .bool false, .string tt] 54)).drewN nq) := (hb.alloc hb.size _).trans ⟨rfl, rfl, rfl, Nat.le_refl _, fun _ _ => rfl⟩
  have hst : St3 ((w1.alloc (.cells #[.string tc, .bool false, .string tt] 54)).drewN nq) w1.heap.size tc false tt := St3.new w1 tc tt false
  have q2 := hst.c2
  generalize (w1.alloc (.cells #[.string tc, .bool false, .string tt] 54)).drewN nq = w2 at *
  have hc2 := H.out.next hb2
  have ho2 := own_below HO.out hb2
  have CA := Lib.hid (HTT.out ▸ madd_more t.text hc2 ho2 HL.out (Nat.le_trans HB.out hb2.size))
  have HB2 := Lib.hid hb2
  have HC2 := Lib.hid hc2
  clear hb2 hc2 ho2 c0 c1 hb
  go_wp2_with (go_at_call 25; refine CA.out.mono ?_; rintro e w4 ⟨rfl, P4⟩)
  go_ret2
  rw [EO.out, ← HTC.out]
  obtain ⟨lv', x1, x2, x3, x4⟩ := P4
  exact ⟨_, lv', rfl, x1, Turn.before HB2.out x3, x4.lower HB2.out.size, sl_own x2, fun _ => ⟨rfl, x2⟩⟩
set_option maxHeartbeats 2000000 in
theorem framed_none_full {w : World} {B g : Nat} {k : List UInt8} {lv bo bp tk : Value} {ls : List (List UInt8)} (h : MkC w g 3 (ba k) lv bo bp tk) (ho : w.ownsRow B 9 1 lv ls.length (ls.map sv))  (s : List UInt8) (hs : s.length ≤ 16777216) (hst : Ln.status 3 s = none) (hl : 20 ≤ ls.length) :
    Calls Tryd.prog 32 #[.pointer (some ⟨g, 0, none⟩), .string (ba s)] w (NP w B g 3 (ba k) lv bo bp tk (Rp.next 3 ⟨k, ls, none⟩ s)) := by
  have hS := fun w => status_any 3 s hs w
  have e0 : Rp.next 3 ⟨k, ls, none⟩ s = .inr (.inr 72) := by
    unfold Rp.next
    simp [hst, Rp.add, hl]
  obtain ⟨OUT, hOUT⟩ : ∃ o : Rp.Out, o = Rp.next 3 ⟨k, ls, none⟩ s := ⟨_, rfl⟩
  rw [← hOUT]
  have EO := Lib.hid (hOUT.trans e0)
  clear hOUT e0
  rw [hst] at hS
  have hS : ∀ w, Calls Tryd.prog 23 #[.int .i64 3, .string (ba s)] w fun e w' => e = .returned (.tuple #[.agg #[.string ⟨#[]⟩, .bool false, .string ⟨#[]⟩], .bool false]) ∧ Below w.heap.size w w' := hS
  have c0 := h.c0
  have H := Lib.hid h
  have HO := Lib.hid ho
  have HL := Lib.hid hl
  clear hst h ho hl
  generalize hkk : ba k = kk at *
  have HTC := Lib.hid hkk.symm
  clear hkk
  go_enter Tryd.func32, Tryd.ntmps32
  go_wp2_with (go_at_call 23; refine (hS _).mono ?_; rintro e w1 ⟨rfl, hb⟩; clear hS; have c1 := fun o => ((H.out.next hb).next ((Below.refl _ _).alloc (Nat.le_refl _) o)).c1)
  go_quiet (fail)
  simp only [Exit.then]
  have hb2 : Below w.heap.size w ((w1.alloc (.cells #[.string ⟨#[]⟩, .bool false, .string ⟨#[]⟩] 54)).drewN nq) := (hb.alloc hb.size _).trans ⟨rfl, rfl, rfl, Nat.le_refl _, fun _ _ => rfl⟩
  generalize (w1.alloc (.cells #[.string ⟨#[]⟩, .bool false, .string ⟨#[]⟩] 54)).drewN nq = w2 at *
  have hc2 := H.out.next hb2
  have ho2 := own_below HO.out hb2
  have CA := Lib.hid (madd_full s hc2 ho2 HL.out)
  have HB2 := Lib.hid hb2
  have HC2 := Lib.hid hc2
  clear hb2 hc2 ho2 c0 c1 hb
  go_wp2_with (go_at_call 25; refine CA.out.mono ?_; rintro e w4 ⟨rfl, hw⟩; rw [← hw]; clear hw)
  go_ret2
  rw [EO.out]
  exact ⟨_, lv, rfl, HC2.out, .of_below HB2.out, Nx.refl _ _, sl_own HO.out, fun e => absurd e (by decide)⟩
set_option maxHeartbeats 2000000 in
theorem framed_none_room {w : World} {B g : Nat} {k : List UInt8} {lv bo bp tk : Value} {ls : List (List UInt8)} (h : MkC w g 3 (ba k) lv bo bp tk) (ho : w.ownsRow B 9 1 lv ls.length (ls.map sv)) (hB : B ≤ w.heap.size) (s : List UInt8) (hs : s.length ≤ 16777216) (hst : Ln.status 3 s = none) (hl : ls.length < 20) :
    Calls Tryd.prog 32 #[.pointer (some ⟨g, 0, none⟩), .string (ba s)] w (NP w B g 3 (ba k) lv bo bp tk (Rp.next 3 ⟨k, ls, none⟩ s)) := by
  have hS := fun w => status_any 3 s hs w
  have e0 : Rp.next 3 ⟨k, ls, none⟩ s = .inl ⟨k, ls ++ [s], none⟩ := by
    unfold Rp.next
    simp [hst, Rp.add, Nat.not_le.2 hl]
  obtain ⟨OUT, hOUT⟩ : ∃ o : Rp.Out, o = Rp.next 3 ⟨k, ls, none⟩ s := ⟨_, rfl⟩
  rw [← hOUT]
  have EO := Lib.hid (hOUT.trans e0)
  clear hOUT e0
  rw [hst] at hS
  have hS : ∀ w, Calls Tryd.prog 23 #[.int .i64 3, .string (ba s)] w fun e w' => e = .returned (.tuple #[.agg #[.string ⟨#[]⟩, .bool false, .string ⟨#[]⟩], .bool false]) ∧ Below w.heap.size w w' := hS
  have c0 := h.c0
  have H := Lib.hid h
  have HO := Lib.hid ho
  have HL := Lib.hid hl
  have HB := Lib.hid hB
  clear hst h ho hl hB
  generalize hkk : ba k = kk at *
  have HTC := Lib.hid hkk.symm
  clear hkk
  go_enter Tryd.func32, Tryd.ntmps32
  go_wp2_with (go_at_call 23; refine (hS _).mono ?_; rintro e w1 ⟨rfl, hb⟩; clear hS; have c1 := fun o => ((H.out.next hb).next ((Below.refl _ _).alloc (Nat.le_refl _) o)).c1)
  go_quiet (fail)
  simp only [Exit.then]
  have hb2 : Below w.heap.size w ((w1.alloc (.cells #[.string ⟨#[]⟩, .bool false, .string ⟨#[]⟩] 54)).drewN nq) := (hb.alloc hb.size _).trans ⟨rfl, rfl, rfl, Nat.le_refl _, fun _ _ => rfl⟩
  generalize (w1.alloc (.cells #[.string ⟨#[]⟩, .bool false, .string ⟨#[]⟩] 54)).drewN nq = w2 at *
  have hc2 := H.out.next hb2
  have ho2 := own_below HO.out hb2
  have CA := Lib.hid (madd_more s hc2 ho2 HL.out (Nat.le_trans HB.out hb2.size))
  have HB2 := Lib.hid hb2
  have HC2 := Lib.hid hc2
  clear hb2 hc2 ho2 c0 c1 hb
  go_wp2_with (go_at_call 25; refine CA.out.mono ?_; rintro e w4 ⟨rfl, P4⟩)
  go_ret2
  rw [EO.out]
  obtain ⟨lv', x1, x2, x3, x4⟩ := P4
  exact ⟨_, lv', rfl, x1, Turn.before HB2.out x3, x4.lower HB2.out.size, sl_own x2, fun _ => ⟨rfl, x2⟩⟩
set_option maxHeartbeats 2000000 in
theorem framed_more_full {w : World} {B g : Nat} {k : List UInt8} {lv bo bp tk : Value} {ls : List (List UInt8)} (h : MkC w g 3 (ba k) lv bo bp tk) (ho : w.ownsRow B 9 1 lv ls.length (ls.map sv))  (s : List UInt8) (hs : s.length ≤ 16777216) {t : Ln.Sa} (hst : Ln.status 3 s = some t) (hm : t.more = true) (hl : 20 ≤ ls.length) :
    Calls Tryd.prog 32 #[.pointer (some ⟨g, 0, none⟩), .string (ba s)] w (NP w B g 3 (ba k) lv bo bp tk (Rp.next 3 ⟨k, ls, none⟩ s)) := by
  have hS := fun w => status_any 3 s hs w
  have e0 : Rp.next 3 ⟨k, ls, none⟩ s = .inr (.inr 72) := by
    unfold Rp.next
    simp [hst, hm, Rp.add, hl]
  obtain ⟨OUT, hOUT⟩ : ∃ o : Rp.Out, o = Rp.next 3 ⟨k, ls, none⟩ s := ⟨_, rfl⟩
  rw [← hOUT]
  have EO := Lib.hid (hOUT.trans e0)
  clear hOUT e0
  rw [hst] at hS
  have hS : ∀ w, Calls Tryd.prog 23 #[.int .i64 3, .string (ba s)] w fun e w' => e = .returned (.tuple #[.agg #[.string (ba t.code), .bool t.more, .string (ba t.text)], .bool true]) ∧ Below w.heap.size w w' := hS
  rw [hm] at hS
  have c0 := h.c0
  have H := Lib.hid h
  have HO := Lib.hid ho
  have HL := Lib.hid hl
  clear hst h ho hl hm
  obtain ⟨tc, htc⟩ : ∃ tc, tc = ba t.code := ⟨_, rfl⟩
  obtain ⟨tt, htt⟩ : ∃ tt, tt = ba t.text := ⟨_, rfl⟩
  rw [← htc, ← htt] at hS
  have HTT := Lib.hid htt
  clear htc htt
  generalize hkk : ba k = kk at *
  have HTC := Lib.hid hkk.symm
  clear hkk
  go_enter Tryd.func32, Tryd.ntmps32
  go_wp2_with (go_at_call 23; refine (hS _).mono ?_; rintro e w1 ⟨rfl, hb⟩; clear hS; have c1 := fun o => ((H.out.next hb).next ((Below.refl _ _).alloc (Nat.le_refl _) o)).c1)
  go_quiet (fail)
  simp only [Exit.then]
  have hb2 : Below w.heap.size w ((w1.alloc (.cells #[.string tc, .bool true, .string tt] 54)).drewN nq) := (hb.alloc hb.size _).trans ⟨rfl, rfl, rfl, Nat.le_refl _, fun _ _ => rfl⟩
  generalize (w1.alloc (.cells #[.string tc, .bool true, .string tt] 54)).drewN nq = w2 at *
  have hc2 := H.out.next hb2
  have ho2 := own_below HO.out hb2
  have CA := Lib.hid (madd_full s hc2 ho2 HL.out)
  have HB2 := Lib.hid hb2
  have HC2 := Lib.hid hc2
  clear hb2 hc2 ho2 c0 c1 hb
  go_wp2_with (go_at_call 25; refine CA.out.mono ?_; rintro e w4 ⟨rfl, hw⟩; rw [← hw]; clear hw)
  go_ret2
  rw [EO.out]
  exact ⟨_, lv, rfl, HC2.out, .of_below HB2.out, Nx.refl _ _, sl_own HO.out, fun e => absurd e (by decide)⟩
set_option maxHeartbeats 2000000 in
theorem framed_more_room {w : World} {B g : Nat} {k : List UInt8} {lv bo bp tk : Value} {ls : List (List UInt8)} (h : MkC w g 3 (ba k) lv bo bp tk) (ho : w.ownsRow B 9 1 lv ls.length (ls.map sv)) (hB : B ≤ w.heap.size) (s : List UInt8) (hs : s.length ≤ 16777216) {t : Ln.Sa} (hst : Ln.status 3 s = some t) (hm : t.more = true) (hl : ls.length < 20) :
    Calls Tryd.prog 32 #[.pointer (some ⟨g, 0, none⟩), .string (ba s)] w (NP w B g 3 (ba k) lv bo bp tk (Rp.next 3 ⟨k, ls, none⟩ s)) := by
  have hS := fun w => status_any 3 s hs w
  have e0 : Rp.next 3 ⟨k, ls, none⟩ s = .inl ⟨k, ls ++ [s], none⟩ := by
    unfold Rp.next
    simp [hst, hm, Rp.add, Nat.not_le.2 hl]
  obtain ⟨OUT, hOUT⟩ : ∃ o : Rp.Out, o = Rp.next 3 ⟨k, ls, none⟩ s := ⟨_, rfl⟩
  rw [← hOUT]
  have EO := Lib.hid (hOUT.trans e0)
  clear hOUT e0
  rw [hst] at hS
  have hS : ∀ w, Calls Tryd.prog 23 #[.int .i64 3, .string (ba s)] w fun e w' => e = .returned (.tuple #[.agg #[.string (ba t.code), .bool t.more, .string (ba t.text)], .bool true]) ∧ Below w.heap.size w w' := hS
  rw [hm] at hS
  have c0 := h.c0
  have H := Lib.hid h
  have HO := Lib.hid ho
  have HL := Lib.hid hl
  have HB := Lib.hid hB
  clear hst h ho hl hB hm
  obtain ⟨tc, htc⟩ : ∃ tc, tc = ba t.code := ⟨_, rfl⟩
  obtain ⟨tt, htt⟩ : ∃ tt, tt = ba t.text := ⟨_, rfl⟩
  rw [← htc, ← htt] at hS
  have HTT := Lib.hid htt
  clear htc htt
  generalize hkk : ba k = kk at *
  have HTC := Lib.hid hkk.symm
  clear hkk
  go_enter Tryd.func32, Tryd.ntmps32
  go_wp2_with (go_at_call 23; refine (hS _).mono ?_; rintro e w1 ⟨rfl, hb⟩; clear hS; have c1 := fun o => ((H.out.next hb).next ((Below.refl _ _).alloc (Nat.le_refl _) o)).c1)
  go_quiet (fail)
  simp only [Exit.then]
  have hb2 : Below w.heap.size w ((w1.alloc (.cells #[.string tc, .bool true, .string tt] 54)).drewN nq) := (hb.alloc hb.size _).trans ⟨rfl, rfl, rfl, Nat.le_refl _, fun _ _ => rfl⟩
  generalize (w1.alloc (.cells #[.string tc, .bool true, .string tt] 54)).drewN nq = w2 at *
  have hc2 := H.out.next hb2
  have ho2 := own_below HO.out hb2
  have CA := Lib.hid (madd_more s hc2 ho2 HL.out (Nat.le_trans HB.out hb2.size))
  have HB2 := Lib.hid hb2
  have HC2 := Lib.hid hc2
  clear hb2 hc2 ho2 c0 c1 hb
  go_wp2_with (go_at_call 25; refine CA.out.mono ?_; rintro e w4 ⟨rfl, P4⟩)
  go_ret2
  rw [EO.out]
  obtain ⟨lv', x1, x2, x3, x4⟩ := P4
  exact ⟨_, lv', rfl, x1, Turn.before HB2.out x3, x4.lower HB2.out.size, sl_own x2, fun _ => ⟨rfl, x2⟩⟩
set_option maxHeartbeats 2000000 in
theorem framed_other_full {w : World} {B g : Nat} {k : List UInt8} {lv bo bp tk : Value} {ls : List (List UInt8)} (h : MkC w g 3 (ba k) lv bo bp tk) (ho : w.ownsRow B 9 1 lv ls.length (ls.map sv))  (s : List UInt8) (hs : s.length ≤ 16777216) {t : Ln.Sa} (hst : Ln.status 3 s = some t) (hm : t.more = false) (hk : t.code ≠ k) (hl : 20 ≤ ls.length) :
    Calls Tryd.prog 32 #[.pointer (some ⟨g, 0, none⟩), .string (ba s)] w (NP w B g 3 (ba k) lv bo bp tk (Rp.next 3 ⟨k, ls, none⟩ s)) := by
  have hS := fun w => status_any 3 s hs w
  have e0 : Rp.next 3 ⟨k, ls, none⟩ s = .inr (.inr 72) := by
    unfold Rp.next
    simp [hst, hm, hk, Rp.add, hl]
  obtain ⟨OUT, hOUT⟩ : ∃ o : Rp.Out, o = Rp.next 3 ⟨k, ls, none⟩ s := ⟨_, rfl⟩
  rw [← hOUT]
  have EO := Lib.hid (hOUT.trans e0)
  clear hOUT e0
  rw [hst] at hS
  have hS : ∀ w, Calls Tryd.prog 23 #[.int .i64 3, .string (ba s)] w fun e w' => e = .returned (.tuple #[.agg #[.string (ba t.code), .bool t.more, .string (ba t.text)], .bool true]) ∧ Below w.heap.size w w' := hS
  rw [hm] at hS
  have c0 := h.c0
  have H := Lib.hid h
  have HO := Lib.hid ho
  have HL := Lib.hid hl
  have hne := toList_ne hk
  clear hst h ho hl hk hm
  obtain ⟨tc, htc⟩ : ∃ tc, tc = ba t.code := ⟨_, rfl⟩
  obtain ⟨tt, htt⟩ : ∃ tt, tt = ba t.text := ⟨_, rfl⟩
  rw [← htc, ← htt] at hS
  have HTT := Lib.hid htt
  rw [← htc] at hne
  generalize hkk : ba k = kk at *
  have HTC := Lib.hid hkk.symm
  clear hkk
  clear htc htt
  go_enter Tryd.func32, Tryd.ntmps32
  go_wp2_with (go_at_call 23; refine (hS _).mono ?_; rintro e w1 ⟨rfl, hb⟩; clear hS; have c1 := fun o => ((H.out.next hb).next ((Below.refl _ _).alloc (Nat.le_refl _) o)).c1)
  go_quiet (fail)
  simp only [Exit.then]
  have hb2 : Below w.heap.size w ((w1.alloc (.cells #[.string tc, .bool false, .string tt] 54)).drewN nq) := (hb.alloc hb.size _).trans ⟨rfl, rfl, rfl, Nat.le_refl _, fun _ _ => rfl⟩
  generalize (w1.alloc (.cells #[.string tc, .bool false, .string tt] 54)).drewN nq = w2 at *
  have hc2 := H.out.next hb2
  have ho2 := own_below HO.out hb2
  have CA := Lib.hid (madd_full s hc2 ho2 HL.out)
  have HB2 := Lib.hid hb2
  have HC2 := Lib.hid hc2
  clear hb2 hc2 ho2 c0 c1 hb
  go_wp2_with (go_at_call 25; refine CA.out.mono ?_; rintro e w4 ⟨rfl, hw⟩; rw [← hw]; clear hw)
  go_ret2
  rw [EO.out]
  exact ⟨_, lv, rfl, HC2.out, .of_below HB2.out, Nx.refl _ _, sl_own HO.out, fun e => absurd e (by decide)⟩
set_option maxHeartbeats 2000000 in
theorem framed_other_room {w : World} {B g : Nat} {k : List UInt8} {lv bo bp tk : Value} {ls : List (List UInt8)} (h : MkC w g 3 (ba k) lv bo bp tk) (ho : w.ownsRow B 9 1 lv ls.length (ls.map sv)) (hB : B ≤ w.heap.size) (s : List UInt8) (hs : s.length ≤ 16777216) {t : Ln.Sa} (hst : Ln.status 3 s = some t) (hm : t.more = false) (hk : t.code ≠ k) (hl : ls.length < 20) :
    Calls Tryd.prog 32 #[.pointer (some ⟨g, 0, none⟩), .string (ba s)] w (NP w B g 3 (ba k) lv bo bp tk (Rp.next 3 ⟨k, ls, none⟩ s)) := by
  have hS := fun w => status_any 3 s hs w
  have e0 : Rp.next 3 ⟨k, ls, none⟩ s = .inl ⟨k, ls ++ [s], none⟩ := by
    unfold Rp.next
    simp [hst, hm, hk, Rp.add, Nat.not_le.2 hl]
  obtain ⟨OUT, hOUT⟩ : ∃ o : Rp.Out, o = Rp.next 3 ⟨k, ls, none⟩ s := ⟨_, rfl⟩
  rw [← hOUT]
  have EO := Lib.hid (hOUT.trans e0)
  clear hOUT e0
  rw [hst] at hS
  have hS : ∀ w, Calls Tryd.prog 23 #[.int .i64 3, .string (ba s)] w fun e w' => e = .returned (.tuple #[.agg #[.string (ba t.code), .bool t.more, .string (ba t.text)], .bool true]) ∧ Below w.heap.size w w' := hS
  rw [hm] at hS
  have c0 := h.c0
  have H := Lib.hid h
  have HO := Lib.hid ho
  have HL := Lib.hid hl
  have HB := Lib.hid hB
  have hne := toList_ne hk
  clear hst h ho hl hB hk hm
  obtain ⟨tc, htc⟩ : ∃ tc, tc = ba t.code := ⟨_, rfl⟩
  obtain ⟨tt, htt⟩ : ∃ tt, tt = ba t.text := ⟨_, rfl⟩
  rw [← htc, ← htt] at hS
  have HTT := Lib.hid htt
  rw [← htc] at hne
  generalize hkk : ba k = kk at *
  have HTC := Lib.hid hkk.symm
  clear hkk
  clear htc htt
  go_enter Tryd.func32, Tryd.ntmps32
  go_wp2_with (go_at_call 23; refine (hS _).mono ?_; rintro e w1 ⟨rfl, hb⟩; clear hS; have c1 := fun o => ((H.out.next hb).next ((Below.refl _ _).alloc (Nat.le_refl _) o)).c1)
  go_quiet (fail)
  simp only [Exit.then]
  have hb2 : Below w.heap.size w ((w1.alloc (.cells #[.string tc, .bool false, .string tt] 54)).drewN nq) := (hb.alloc hb.size _).trans ⟨rfl, rfl, rfl, Nat.le_refl _, fun _ _ => rfl⟩
  generalize (w1.alloc (.cells #[.string tc, .bool false, .string tt] 54)).drewN nq = w2 at *
  have hc2 := H.out.next hb2
  have ho2 := own_below HO.out hb2
  have CA := Lib.hid (madd_more s hc2 ho2 HL.out (Nat.le_trans HB.out hb2.size))
  have HB2 := Lib.hid hb2
  have HC2 := Lib.hid hc2
  clear hb2 hc2 ho2 c0 c1 hb
  go_wp2_with (go_at_call 25; refine CA.out.mono ?_; rintro e w4 ⟨rfl, P4⟩)
  go_ret2
  rw [EO.out]
  obtain ⟨lv', x1, x2, x3, x4⟩ := P4
  exact ⟨_, lv', rfl, x1, Turn.before HB2.out x3, x4.lower HB2.out.size, sl_own x2, fun _ => ⟨rfl, x2⟩⟩

/-- 'framed'. -/
theorem framed_step {w : World} {B g : Nat} {k : List UInt8} {lv bo bp tk : Value} {ls : List (List UInt8)} (h : MkC w g 3 (ba k) lv bo bp tk) (ho : w.ownsRow B 9 1 lv ls.length (ls.map sv)) (hB : B ≤ w.heap.size) (s : List UInt8) (hs : s.length ≤ 16777216) :
    Calls Tryd.prog 32 #[.pointer (some ⟨g, 0, none⟩), .string (ba s)] w (NP w B g 3 (ba k) lv bo bp tk (Rp.next 3 ⟨k, ls, none⟩ s)) := by
  by_cases hl : 20 ≤ ls.length
  · cases hst : Ln.status 3 s with
    | none => exact framed_none_full h ho s hs hst hl
    | some t =>
      cases hm : t.more with
      | true => exact framed_more_full h ho s hs hst hm hl
      | false =>
        by_cases hk : t.code = k
        · exact framed_yes_full h ho s hs hst hm hk hl
        · exact framed_other_full h ho s hs hst hm hk hl
  · have hl := Nat.not_le.1 hl
    cases hst : Ln.status 3 s with
    | none => exact framed_none_room h ho hB s hs hst hl
    | some t =>
      cases hm : t.more with
      | true => exact framed_more_room h ho hB s hs hst hm hl
      | false =>
        by_cases hk : t.code = k
        · exact framed_yes_room h ho hB s hs hst hm hk hl
        · exact framed_other_room h ho hB s hs hst hm hk hl
end Go.Proofs.YtnodngcfjdghcaaDoor
