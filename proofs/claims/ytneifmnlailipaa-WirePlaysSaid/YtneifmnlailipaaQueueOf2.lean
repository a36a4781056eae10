/- Take, Put and Clone of a queue that lies within a block, walked. -/
import Derived.Test.YtneifmnlailipaaQueueOf
import Derived.Deep.CutRange
namespace Go.Proofs.Ytneifmnlailipaa
open Go.RowKit

/-- A queue as it stands, where only new memory was made since. -/
structure KQ (w : World) (B g o : Nat) (C : Array Value) (T : TypeId) (s : Value) (most : Int) (xs : List UInt8) (t : Nat) (wr : World) : Prop where
  q : QA wr B g o C T s most xs t
  below : Below w.heap.size w wr
section
variable {w : World} {B g o t : Nat} {C : Array Value} {T : TypeId} {s : Value} {most : Int} {xs : List UInt8}
theorem KQ.next {wr w' : World} (h : KQ w B g o C T s most xs t wr) (hb : Below wr.heap.size wr w') : KQ w B g o C T s most xs t w' := ⟨h.q.next hb, h.below.trans (hb.mono h.below.size)⟩
theorem KQ.len {wr : World} (h : KQ w B g o C T s most xs t wr) : Calls Try.prog 49 #[.pointer (some ⟨g, o, none⟩)] wr fun e w' => e = .returned (.int .i64 ((xs.length - t : Nat) : Int)) ∧ KQ w B g o C T s most xs t w' := by
  refine (len_any h.q).mono ?_
  rintro e w' ⟨rfl, hb⟩
  exact ⟨rfl, h.next hb⟩

set_option maxHeartbeats 2000000 in
/-- 'Take': k are taken. -/
theorem take_any (h : QA w B g o C T s most xs t) (n : Int) (k : Nat) (hk : k = min (max n 0).toNat (xs.length - t)) :
    Calls Try.prog 56 #[.pointer (some ⟨g, o, none⟩), .int .i64 n] w fun e w' => ∃ v, e = .returned v ∧ QA w' B g o (C.setIfInBounds (o + 2) (.int .i64 ((t + k : Nat) : Int))) T s most xs (t + k) ∧ Turn g s w w' ∧ Fr w' w.heap.size v ((xs.drop t).take k) := by
  obtain ⟨ao, cap, hsf, hcap, hcm, _⟩ := h.form
  subst hsf
  have K0 : KQ w B g o C T _ most xs t w.drew := ⟨h.next ((Below.refl _ _).drew), (Below.refl _ _).drew⟩
  obtain ⟨T1, hT1⟩ : ∃ T1, T1 = t + k := ⟨_, rfl⟩
  rw [← hT1]
  have hks : T1 ≤ xs.length := by have := h.ht; omega
  have hxs : (xs.take T1).drop t = (xs.drop t).take k := by rw [List.drop_take, hT1, Nat.add_sub_cancel_left]
  have C1 := Lib.hid (fun wr (hb : KQ w B g o C T (.slice ao xs.length cap) most xs t wr) => hb.len)
  have H := Lib.hid h
  have HKS := Lib.hid hks
  have c2 := h.c2
  have hs := h.hs
  have ht := h.ht
  have HT := Lib.hid (fun wr (hb : KQ w B g o C T (.slice ao xs.length cap) most xs t wr) => hb.q.take hks)
  obtain ⟨C2, hC2⟩ : ∃ C2, C2 = C.setIfInBounds (o + 2) (.int .i64 (T1 : Int)) := ⟨_, rfl⟩
  rw [← hC2] at HT ⊢
  have HR := Lib.hid (fun wr (hb : QA wr B g o C2 T (.slice ao xs.length cap) most xs T1) => own_any _ ((xs.take T1).drop t) wr ((hb.rd.cut rfl hks).tailAny (m := t) (by rw [List.length_take]; omega) (by omega)) (by rw [List.length_drop, List.length_take]; omega))
  have e3 : T1 - t = k := by omega
  rw [hxs, e3] at HR
  have HXS := Lib.hid hxs
  have HC2 := Lib.hid hC2
  generalize xs.length = L at *
  obtain ⟨D, hD⟩ : ∃ D, L = t + D := ⟨L - t, by omega⟩
  have e : L - t = D := by omega
  rw [e] at C1 hk
  have HD := Lib.hid hD
  have HK := Lib.hid hk
  have i0 : (0 : Int) ≤ (D : Int) := Int.natCast_nonneg _
  have i1 : IntKind.i64.wrap ((t : Int) + (k : Int)) = (T1 : Int) := by rw [wraps_i64 _ (by omega) (by omega)]; omega
  have i2 : IntKind.i64.wrap ((t : Int) + (if 0 < (if (D : Int) < n then (D : Int) else n) then (if (D : Int) < n then (D : Int) else n) else 0)) = (T1 : Int) := by
    rw [← i1]
    congr 2
    by_cases h1 : (D : Int) < n
    · simp only [if_pos h1]
      by_cases h2 : (0 : Int) < (D : Int)
      · rw [if_pos h2]; omega
      · rw [if_neg h2]; omega
    · simp only [if_neg h1]
      by_cases h2 : (0 : Int) < n
      · rw [if_pos h2]; omega
      · rw [if_neg h2]; omega
  have i3 : (0 : Int) ≤ (t : Int) := Int.natCast_nonneg _
  have i4 : (t : Int) ≤ (T1 : Int) := by omega
  have i5 : (T1 : Int) ≤ (cap : Int) := by omega
  clear hk hD i1 h e hT1 hxs hC2
  unfold maxLen at hcm
  go_enter Try.func56, Try.ntmps56
  go_upto_region 2 with fail
  go_cut [] from 10 to 21 (fun wx => QA wx B g o C2 T (.slice ao L cap) most xs T1 ∧ Turn g (.slice ao L cap) w wx)
  case first =>
    go_region_with (first | (go_at_call 49; refine (C1.out _ (by assumption)).mono ?_; rintro e w3 ⟨rfl, Q1⟩; have d2 := Q1.q.c2; have f2 := Q1.q.f (o + 2)))
    all_goals (simp only [Exit.then]; go_step; go_meet; exact ⟨HT.out _ Q1, Turn.before Q1.below (turn_setCell w3 g (o + 2) (.slice ao L cap) (.int .i64 (T1 : Int)))⟩)
  case rest =>
    obtain ⟨Q2, T2⟩ := hcut
    have e1 := Q2.c1
    have e2 := Q2.c2
    have T2 := Lib.hid T2
    have Q2 := Lib.hid Q2
    have HR := Lib.hid (HR.out _ (Q2.out.next ((Below.refl _ _).drew)))
    clear c2 C1 HT i2 K0
    by_cases hct : cap = t
    · have hc : (cap = t) = True := eq_true hct
      rw [if_pos hct] at HR
      clear hct
      go_wp2
      go_still_tail 10, (by kernel_rfl)
      change wpList _ _ _ _ _ wc.drew
      have D2 := Lib.hid (Q2.out.next ((Below.refl wc.heap.size wc).drew))
      have T3 := Lib.hid (T2.out.trans (.inl rfl) (.of_below ((Below.refl wc.heap.size wc).drew)))
      generalize wc.drew = w5 at *
      go_wp2_with fail
      refine HR.out.mono ?_
      rintro e w6 ⟨v, rfl, hb, _, hf⟩
      have Q6 := Lib.hid (D2.out.next hb)
      have T6 := Lib.hid (T3.out.trans (.inl rfl) (.of_below hb))
      have F6 := Lib.hid (hf.lower T3.out.size)
      clear hb hf D2 T3 HR e1 e2
      go_wp2
      go_ret
      exact ⟨_, rfl, Q6.out, T6.out, F6.out⟩
    · have hc : (cap = t) = False := eq_false hct
      rw [if_neg hct] at HR
      clear hct
      go_wp2
      go_still_tail 10, (by kernel_rfl)
      change wpList _ _ _ _ _ wc.drew
      have D2 := Lib.hid (Q2.out.next ((Below.refl wc.heap.size wc).drew))
      have T3 := Lib.hid (T2.out.trans (.inl rfl) (.of_below ((Below.refl wc.heap.size wc).drew)))
      generalize wc.drew = w5 at *
      go_wp2_with fail
      refine HR.out.mono ?_
      rintro e w6 ⟨v, rfl, hb, _, hf⟩
      have Q6 := Lib.hid (D2.out.next hb)
      have T6 := Lib.hid (T3.out.trans (.inl rfl) (.of_below hb))
      have F6 := Lib.hid (hf.lower T3.out.size)
      clear hb hf D2 T3 HR e1 e2
      go_wp2
      go_ret
      exact ⟨_, rfl, Q6.out, T6.out, F6.out⟩

/-- 'Put': refused. -/
theorem put_full (h : QA w B g o C T s most xs t) (v : Value) (ys : List UInt8) (hr : Rd w v (ys.map bv)) (_hys : ys.length ≤ maxLen) (hfull : most < ((xs.length + ys.length : Nat) : Int)) :
    Calls Try.prog 36 #[.pointer (some ⟨g, o, none⟩), v] w fun e w' => e = .returned (.bool false) ∧ Below w.heap.size w w' := by
  obtain ⟨ao, cap, rfl, hcap, hcm, _⟩ := h.form
  obtain ⟨bo, cp, rfl, hcp, _⟩ := hr.form
  have c0 := h.c0
  have c1 := h.c1
  have hs := h.hs
  have hl := h.hl
  have hm := h.hm
  generalize xs.length = L at *
  generalize ys.length = Y at *
  obtain ⟨D, hD⟩ : ∃ D, D = most - (L : Int) := ⟨_, rfl⟩
  have i1 : IntKind.i64.wrap (most - (L : Int)) = D := by rw [wraps_i64 _ (by omega) (by omega)]; omega
  have i2 : D < (Y : Int) := by omega
  have HB := Lib.hid ((Below.refl w.heap.size w).drew)
  clear h hr hcap hD hl hm hfull
  go_enter Try.func36, Try.ntmps36
  go_wp2
  go_region
  all_goals
    go_wp2
    go_ret
    exact ⟨rfl, HB.out⟩

/-- 'Put': put. -/
theorem put_room (h : QA w B g o C T s most xs t) (v : Value) (ys : List UInt8) (hr : Rd w v (ys.map bv)) (hys : xs.length + ys.length ≤ 16777216) (hroom : ((xs.length + ys.length : Nat) : Int) ≤ most) (hB : B ≤ w.heap.size) :
    Calls Try.prog 36 #[.pointer (some ⟨g, o, none⟩), v] w fun e w' => ∃ s', e = .returned (.bool true) ∧ QA w' B g o (C.setIfInBounds (o + 1) s') T s' most (xs ++ ys) t ∧ Turn g s w w' ∧ (s'.ownBlock = s.ownBlock ∨ s'.ownBlock = some w.heap.size) := by
  obtain ⟨ao, cap, hsf, hcap, hcm, _⟩ := h.form
  obtain ⟨bo, cp, hvf, hcp, _⟩ := hr.form
  have c0 := h.c0
  have c1 := h.c1
  have hs := h.hs
  have hl := h.hl
  have hm := h.hm
  have h1 := h.next ((Below.refl w.heap.size w).drew)
  have r1 := hr.below ((Below.refl w.heap.size w).drew)
  have HB := Lib.hid ((Below.refl w.heap.size w).drew)
  subst hsf
  subst hvf
  have H1 := Lib.hid h1
  have R1 := Lib.hid r1
  have HYS := Lib.hid hys
  have HROOM := Lib.hid hroom
  generalize hL : xs.length = L at *
  generalize hY : ys.length = Y at *
  have HL := Lib.hid hL
  have HY := Lib.hid hY
  obtain ⟨D, hD⟩ : ∃ D, D = most - (L : Int) := ⟨_, rfl⟩
  have i1 : IntKind.i64.wrap (most - (L : Int)) = D := by rw [wraps_i64 _ (by omega) (by omega)]; omega
  have i2 : (D < (Y : Int)) = False := eq_false (by omega)
  clear h h1 r1 hr hcap hD hl hm hL hY hroom hcp
  go_enter Try.func36, Try.ntmps36
  go_wp2
  go_region
  all_goals
    have hsz : w.drew.heap.size = w.heap.size := rfl
    generalize w.drew = w1 at *
    have HSZ := Lib.hid hsz
    clear hsz
    have d1 := H1.out.c1
    have g1 := H1.out.f (o + 1)
    clear c0 c1
    go_wp2_with (at_builtin; refine append_where rfl (.tmp 22) (.tmp 23) rfl rfl (by have := H1.out.r; rw [HL.out] at this; exact this) ys R1.out (by rw [HY.out]; exact HYS.out) (Nat.le_trans hB HB.out.size) ?_)
    intro v' w2 ho hT hy hw
    have hf : ∃ bo n c, v' = .slice bo n c := by
      rcases ho.2 with ⟨rfl, _⟩ | ⟨_, _, _, rfl, _⟩ <;> exact ⟨_, _, _, rfl⟩
    obtain ⟨xo, xn, xc, rfl⟩ := hf
    have P := H1.out.put (ys := ys) (by rw [HL.out]; exact ho) hT hy (by rw [HL.out]; exact hw.imp id fun ⟨g, ⟨c, e⟩, h⟩ => ⟨g, c, e, h⟩) (by rw [HL.out, HY.out]; exact HYS.out) (by rw [HL.out, HY.out]; exact HROOM.out)
    have hh := (hT.block g H1.out.lt (fun e => H1.out.ne e.symm)).trans H1.out.c
    have k1 : w2.cell? ⟨g, o + 1, none⟩ = some _ := cell_in hh H1.out.e1
    have k2 : w2.frozen? ⟨g, o + 1, none⟩ = false := frozen_of_row _ _ _ _ _ hh
    have P := Lib.hid P
    clear ho hT hy hw hh d1 g1
    go_wp2
    go_ret
    exact ⟨_, rfl, P.out.1, P.out.2.1.before HB.out, by rw [← HSZ.out]; exact P.out.2.2⟩

/-- 'Clone': a queue in a block of its own. -/
theorem clone_any (h : QA w B g o C T s most xs t) :
    Calls Try.prog 54 #[.pointer (some ⟨g, o, none⟩)] w fun e w' => ∃ g' s', e = .returned (.pointer (some ⟨g', 0, none⟩)) ∧ w.heap.size ≤ g' ∧ w'.heap[g']? = some (.cells #[.int .i64 most, s', .int .i64 (t : Int)] 48 (0, 0)) ∧ w'.ownsRow w.heap.size 5 1 s' xs.length (xs.map bv) ∧ s'.ownBlock ≠ some g' ∧ (xs = [] → s' = .slice none 0 0) ∧ (∃ ao cap, s' = .slice ao xs.length cap) ∧ Below w.heap.size w w' := by
  have K0 : KQ w B g o C T s most xs t w.drew := ⟨h.next ((Below.refl _ _).drew), (Below.refl _ _).drew⟩
  have C1 := Lib.hid (fun wr (hb : KQ w B g o C T s most xs t wr) => own_any s xs wr hb.q.rd h.hs)
  have c0 := h.c0
  have c1 := h.c1
  have c2 := h.c2
  have H := Lib.hid h
  clear h
  go_enter Try.func54, Try.ntmps54
  go_wp2
  go_region_held3 (fun w' => w'.cell? ⟨g, o, none⟩ = some (.int .i64 most) ∧ w'.cell? ⟨g, o + 1, none⟩ = some s ∧ w'.cell? ⟨g, o + 2, none⟩ = some (.int .i64 (t : Int))) (first | (refine ⟨?_, ?_, ?_⟩ <;> assumption) | go_keep)
    (first | (go_at_call 58; refine (C1.out _ (by assumption)).mono ?_; rintro e w3 ⟨v, rfl, hb, hn, hf⟩; obtain ⟨xo, xc, hvf⟩ := hf.form; subst hvf; have K3 := K0.next hb; have d0 := K3.q.c0; have d1 := K3.q.c1; have d2 := K3.q.c2))
  have ho : w3.ownsRow w.heap.size 5 1 (.slice xo xs.length xc) xs.length (xs.map bv) := by
    rcases hf with ⟨hx, _⟩ | ⟨_, ho⟩
    · rw [hn (H.out.e hx), hx]
      exact World.ownsRow_nil _ _ _ _
    · exact ho
  have HO := Lib.hid ho
  have HN := Lib.hid (fun hx => hn (H.out.e hx))
  have hb3 := Lib.hid K3.below
  have hb := Lib.hid (K3.below.alloc K3.below.size (.cells #[.int .i64 most, .slice xo xs.length xc, .int .i64 (t : Int)] 48))
  have hne : (Value.slice xo xs.length xc).ownBlock ≠ some w3.heap.size := fun e => by have := (ho.lt _ e).2; omega
  have HNE := Lib.hid hne
  clear hf hn K3 d0 d1 d2 c0 c1 c2 C1 K0 H ho hne
  go_wp2
  go_ret
  exact ⟨_, _, rfl, hb3.out.size, heap_alloc_new _ _, HO.out.alloc _, HNE.out, HN.out, ⟨_, _, rfl⟩, hb.out⟩
end
end Go.Proofs.Ytneifmnlailipaa
