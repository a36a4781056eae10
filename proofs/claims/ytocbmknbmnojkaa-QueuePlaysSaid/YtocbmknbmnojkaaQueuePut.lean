/- Put of a queue walked. -/
import Derived.Test.YtocbmknbmnojkaaQueueAt
namespace Go.Proofs.Ytocbmknbmnojkaa
open Go.RowKit
section
variable {w : World} {B g t : Nat} {s : Value} {most : Int} {xs : List UInt8}

/-- 'Put': refused. -/
theorem put_full (h : QO w B g s most xs t) (v : Value) (ys : List UInt8) (hr : Rd w v (ys.map bv)) (_hys : ys.length ≤ maxLen) (hfull : most < ((xs.length + ys.length : Nat) : Int)) :
    Calls Try.prog 11 #[.pointer (some ⟨g, 0, none⟩), v] w fun e w' => e = .returned (.bool false) ∧ Below w.heap.size w w' := by
  obtain ⟨ao, cap, rfl, hcap, hcm, _⟩ := h.form
  obtain ⟨bo, cp, rfl, hcp, _⟩ := hr.form
  have c0 := h.c0
  have c1 := h.c1
  have hs := h.hs
  have hl := h.hl
  have hm := h.hm
  generalize xs.length = L at *
  generalize ys.length = Y at *
  obtain ⟨D, hD⟩ : ∃ D, D = most - (L : Int) := ⟨_, rfl⟩
  have i1 : IntKind.i64.wrap (most - (L : Int)) = D := by rw [wraps_i64 _ (by omega) (by omega)]; omega
  have i2 : D < (Y : Int) := by omega
  have HB := Lib.hid ((Below.refl w.heap.size w).drew)
  clear h hr hcap hD hl hm hfull
  go_enter Try.func11, Try.ntmps11
  go_wp2
  go_region
  all_goals
    go_wp2
    go_ret
    exact ⟨rfl, HB.out⟩

/-- 'Put': put. -/
theorem put_room (h : QO w B g s most xs t) (v : Value) (ys : List UInt8) (hr : Rd w v (ys.map bv)) (hys : xs.length + ys.length ≤ 16777216) (hroom : ((xs.length + ys.length : Nat) : Int) ≤ most) (hB : B ≤ w.heap.size) :
    Calls Try.prog 11 #[.pointer (some ⟨g, 0, none⟩), v] w fun e w' => ∃ s', e = .returned (.bool true) ∧ QO w' B g s' most (xs ++ ys) t ∧ Turn g s w w' ∧ (s'.ownBlock = s.ownBlock ∨ s'.ownBlock = some w.heap.size) := by
  obtain ⟨ao, cap, hsf, hcap, hcm, _⟩ := h.form
  obtain ⟨bo, cp, hvf, hcp, _⟩ := hr.form
  have c0 := h.c0
  have c1 := h.c1
  have hs := h.hs
  have hl := h.hl
  have hm := h.hm
  have h1 := h.next ((Below.refl w.heap.size w).drew)
  have r1 := hr.below ((Below.refl w.heap.size w).drew)
  have HB := Lib.hid ((Below.refl w.heap.size w).drew)
  subst hsf
  subst hvf
  have H1 := Lib.hid h1
  have R1 := Lib.hid r1
  have HYS := Lib.hid hys
  have HROOM := Lib.hid hroom
  generalize hL : xs.length = L at *
  generalize hY : ys.length = Y at *
  have HL := Lib.hid hL
  have HY := Lib.hid hY
  obtain ⟨D, hD⟩ : ∃ D, D = most - (L : Int) := ⟨_, rfl⟩
  have i1 : IntKind.i64.wrap (most - (L : Int)) = D := by rw [wraps_i64 _ (by omega) (by omega)]; omega
  have i2 : (D < (Y : Int)) = False := eq_false (by omega)
  clear h h1 r1 hr hcap hD hl hm hL hY hroom hcp
  go_enter Try.func11, Try.ntmps11
  go_wp2
  go_region
  all_goals
    have hsz : w.drew.heap.size = w.heap.size := rfl
    generalize w.drew = w1 at *
    have HSZ := Lib.hid hsz
    clear hsz
    have d1 := H1.out.c1
    have g1 := H1.out.f1
    clear c0 c1
    go_wp2_with (at_builtin; refine append_where rfl (.tmp 22) (.tmp 23) rfl rfl (by have := H1.out.o; rw [HL.out] at this; exact this) ys R1.out (by rw [HY.out]; exact HYS.out) (Nat.le_trans hB HB.out.size) ?_)
    intro v' w2 ho hT hy hw
    have hf : ∃ bo n c, v' = .slice bo n c := by
      rcases ho.2 with ⟨rfl, _⟩ | ⟨_, _, _, rfl, _⟩ <;> exact ⟨_, _, _, rfl⟩
    obtain ⟨xo, xn, xc, rfl⟩ := hf
    have P := H1.out.put (ys := ys) (by rw [HL.out]; exact ho) hT hy (by rw [HL.out]; exact hw.imp id fun ⟨g, ⟨c, e⟩, h⟩ => ⟨g, c, e, h⟩) (by rw [HL.out, HY.out]; exact HYS.out) (by rw [HL.out, HY.out]; exact HROOM.out)
    have hh := (hT.block g H1.out.lt (fun e => H1.out.ne e.symm)).trans H1.out.c
    have k1 : w2.cell? ⟨g, 1, none⟩ = some _ := cell_of_row _ _ _ _ _ _ hh
    have k2 : w2.frozen? ⟨g, 1, none⟩ = false := frozen_of_row _ _ _ _ _ hh
    have P := Lib.hid P
    clear ho hT hy hw hh d1 g1
    go_wp2
    go_ret
    exact ⟨_, rfl, P.out.1, P.out.2.1.before HB.out, by rw [← HSZ.out]; exact P.out.2.2⟩
end
end Go.Proofs.Ytocbmknbmnojkaa
