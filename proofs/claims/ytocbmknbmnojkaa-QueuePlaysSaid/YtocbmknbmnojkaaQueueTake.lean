/- Take, Put and Clone of a queue walked. -/
import Derived.Test.YtocbmknbmnojkaaQueueAt
import Derived.Deep.CutRange
namespace Go.Proofs.Ytocbmknbmnojkaa
open Go.RowKit

/-- A queue as it stands, where only new memory was made since. -/
structure KQ (w : World) (B g : Nat) (s : Value) (most : Int) (xs : List UInt8) (t : Nat) (wr : World) : Prop where
  q : QO wr B g s most xs t
  below : Below w.heap.size w wr
section
variable {w : World} {B g t : Nat} {s : Value} {most : Int} {xs : List UInt8}
theorem KQ.next {wr w' : World} (h : KQ w B g s most xs t wr) (hb : Below wr.heap.size wr w') : KQ w B g s most xs t w' := ⟨h.q.next hb, h.below.trans (hb.mono h.below.size)⟩
theorem KQ.len {wr : World} (h : KQ w B g s most xs t wr) : Calls Try.prog 17 #[.pointer (some ⟨g, 0, none⟩)] wr fun e w' => e = .returned (.int .i64 ((xs.length - t : Nat) : Int)) ∧ KQ w B g s most xs t w' := by
  refine (len_any h.q).mono ?_
  rintro e w' ⟨rfl, hb⟩
  exact ⟨rfl, h.next hb⟩

set_option maxHeartbeats 2000000 in
/-- 'Take': k are taken. -/
theorem take_any (h : QO w B g s most xs t) (n : Int) (k : Nat) (hk : k = min (max n 0).toNat (xs.length - t)) :
    Calls Try.prog 14 #[.pointer (some ⟨g, 0, none⟩), .int .i64 n] w fun e w' => ∃ v, e = .returned v ∧ QO w' B g s most xs (t + k) ∧ Turn g s w w' ∧ Fr w' w.heap.size v ((xs.drop t).take k) := by
  obtain ⟨ao, cap, hsf, hcap, hcm, _⟩ := h.form
  subst hsf
  have K0 : KQ w B g _ most xs t w.drew := ⟨h.next ((Below.refl _ _).drew), (Below.refl _ _).drew⟩
  obtain ⟨T1, hT1⟩ : ∃ T1, T1 = t + k := ⟨_, rfl⟩
  rw [← hT1]
  have hks : T1 ≤ xs.length := by have := h.ht; omega
  have hxs : (xs.take T1).drop t = (xs.drop t).take k := by rw [List.drop_take, hT1, Nat.add_sub_cancel_left]
  have C1 := Lib.hid (fun wr (hb : KQ w B g (.slice ao xs.length cap) most xs t wr) => hb.len)
  have H := Lib.hid h
  have HKS := Lib.hid hks
  have c2 := h.c2
  have hs := h.hs
  have ht := h.ht
  have HT := Lib.hid (fun wr (hb : KQ w B g (.slice ao xs.length cap) most xs t wr) => hb.q.take hks)
  have HR := Lib.hid (fun wr (hb : QO wr B g (.slice ao xs.length cap) most xs T1) => own_any _ ((xs.take T1).drop t) wr ((hb.rd.cut rfl hks).tailAny (m := t) (by rw [List.length_take]; omega) (by omega)) (by rw [List.length_drop, List.length_take]; omega))
  have e3 : T1 - t = k := by omega
  rw [hxs, e3] at HR
  have HXS := Lib.hid hxs
  generalize xs.length = L at *
  obtain ⟨D, hD⟩ : ∃ D, L = t + D := ⟨L - t, by omega⟩
  have e : L - t = D := by omega
  rw [e] at C1 hk
  have HD := Lib.hid hD
  have HK := Lib.hid hk
  have i0 : (0 : Int) ≤ (D : Int) := Int.natCast_nonneg _
  have i1 : IntKind.i64.wrap ((t : Int) + (k : Int)) = (T1 : Int) := by rw [wraps_i64 _ (by omega) (by omega)]; omega
  have i2 : IntKind.i64.wrap ((t : Int) + (if 0 < (if (D : Int) < n then (D : Int) else n) then (if (D : Int) < n then (D : Int) else n) else 0)) = (T1 : Int) := by
    rw [← i1]
    congr 2
    by_cases h1 : (D : Int) < n
    · simp only [if_pos h1]
      by_cases h2 : (0 : Int) < (D : Int)
      · rw [if_pos h2]; omega
      · rw [if_neg h2]; omega
    · simp only [if_neg h1]
      by_cases h2 : (0 : Int) < n
      · rw [if_pos h2]; omega
      · rw [if_neg h2]; omega
  have i3 : (0 : Int) ≤ (t : Int) := Int.natCast_nonneg _
  have i4 : (t : Int) ≤ (T1 : Int) := by omega
  have i5 : (T1 : Int) ≤ (cap : Int) := by omega
  clear hk hD i1 h e hT1 hxs
  unfold maxLen at hcm
  go_enter Try.func14, Try.ntmps14
  go_upto_region 2 with fail
  go_cut [] from 10 to 21 (fun wx => QO wx B g (.slice ao L cap) most xs T1 ∧ Turn g (.slice ao L cap) w wx)
  case first =>
    go_region_with (first | (go_at_call 17; refine (C1.out _ (by assumption)).mono ?_; rintro e w3 ⟨rfl, Q1⟩; have d2 := Q1.q.c2; have f2 := Q1.q.f2))
    all_goals (simp only [Exit.then]; go_step; go_meet; exact ⟨HT.out _ Q1, Turn.before Q1.below (turn_setCell w3 g 2 (.slice ao L cap) (.int .i64 (T1 : Int)))⟩)
  case rest =>
    obtain ⟨Q2, T2⟩ := hcut
    have e1 := Q2.c1
    have e2 := Q2.c2
    have T2 := Lib.hid T2
    have Q2 := Lib.hid Q2
    have HR := Lib.hid (HR.out _ (Q2.out.next ((Below.refl _ _).drew)))
    clear c2 C1 HT i2 K0
    by_cases hct : cap = t
    · have hc : (cap = t) = True := eq_true hct
      rw [if_pos hct] at HR
      clear hct
      go_wp2
      go_still_tail 10, (by kernel_rfl)
      change wpList _ _ _ _ _ wc.drew
      have D2 := Lib.hid (Q2.out.next ((Below.refl wc.heap.size wc).drew))
      have T3 := Lib.hid (T2.out.trans (.inl rfl) (.of_below ((Below.refl wc.heap.size wc).drew)))
      generalize wc.drew = w5 at *
      go_wp2_with fail
      refine HR.out.mono ?_
      rintro e w6 ⟨v, rfl, hb, _, hf⟩
      have Q6 := Lib.hid (D2.out.next hb)
      have T6 := Lib.hid (T3.out.trans (.inl rfl) (.of_below hb))
      have F6 := Lib.hid (hf.lower T3.out.size)
      clear hb hf D2 T3 HR e1 e2
      go_wp2
      go_ret
      exact ⟨_, rfl, Q6.out, T6.out, F6.out⟩
    · have hc : (cap = t) = False := eq_false hct
      rw [if_neg hct] at HR
      clear hct
      go_wp2
      go_still_tail 10, (by kernel_rfl)
      change wpList _ _ _ _ _ wc.drew
      have D2 := Lib.hid (Q2.out.next ((Below.refl wc.heap.size wc).drew))
      have T3 := Lib.hid (T2.out.trans (.inl rfl) (.of_below ((Below.refl wc.heap.size wc).drew)))
      generalize wc.drew = w5 at *
      go_wp2_with fail
      refine HR.out.mono ?_
      rintro e w6 ⟨v, rfl, hb, _, hf⟩
      have Q6 := Lib.hid (D2.out.next hb)
      have T6 := Lib.hid (T3.out.trans (.inl rfl) (.of_below hb))
      have F6 := Lib.hid (hf.lower T3.out.size)
      clear hb hf D2 T3 HR e1 e2
      go_wp2
      go_ret
      exact ⟨_, rfl, Q6.out, T6.out, F6.out⟩
end
end Go.Proofs.Ytocbmknbmnojkaa
