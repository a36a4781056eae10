/- The small functions of the laws of layer 6, walked. -/
import Derived.Test.YtocbmknbmnojkaaQueueTake
import Derived.Test.YtocbmknbmnojkaaQueuePut
import Derived.Test.YtocbmknbmnojkaaQueueClone
import Derived.Lib.SlBytesConst
namespace Go.Proofs.Ytocbmknbmnojkaa
open Go.RowKit

theorem short_any (v : Value) (xs : List UInt8) (w : World) (h : Rd w v (xs.map bv)) (hs : xs.length ≤ maxLen) :
    Calls Try.prog 12 #[v] w fun e w' => ∃ v', e = .returned v' ∧ (∀ w1, Rd w1 v (xs.map bv) → Rd w1 v' ((xs.take 60).map bv)) ∧ w = w' := by
  unfold maxLen at hs
  obtain ⟨ao, cap, rfl, hcap, hc⟩ := h.form
  obtain ⟨L, hL⟩ : ∃ L, L = xs.length := ⟨_, rfl⟩
  rw [← hL] at hs hcap hc ⊢
  by_cases hlt : 60 < L
  · obtain ⟨b, o, rfl, hm, _⟩ := hc (by omega)
    unfold maxLen at hm
    have hr : ∀ w1, Rd w1 (.slice (some ⟨b, o, none⟩) L cap) (xs.map bv) → Rd w1 (.slice (some ⟨b, o, none⟩) 60 cap) ((xs.take 60).map bv) := fun w1 h => h.head (m := 60) hL (by omega) (by omega)
    have hr := Lib.hid hr
    have HL := Lib.hid hL
    clear hL hc h
    go_enter Try.func12, Try.ntmps12
    go_wp2
    go_ret
    exact ⟨_, rfl, hr.out, rfl⟩
  · have e : xs.take 60 = xs := List.take_of_length_le (by omega)
    rw [e]
    have HL := Lib.hid hL
    clear hL hc e h
    go_enter Try.func12, Try.ntmps12
    go_wp2
    go_ret
    exact ⟨_, rfl, fun _ h => h, rfl⟩

theorem QO.below_of {w0 w w' : World} {g t B : Nat} {s : Value} {most : Int} {xs : List UInt8} (h : QO w B g s most xs t) (hT : Turn g s w w') (hb : Below w0.heap.size w0 w) (hB : w0.heap.size ≤ B) : Below w0.heap.size w0 w' :=
  hb.trans (hT.below (Nat.le_trans hB h.hg) (fun k hk => Nat.le_trans hB (h.slt k hk).1) hb.size)

set_option maxRecDepth 20000 in
theorem shown_any (w : World) : Calls Try.prog 8 #[] w fun e w' => e = .returned (.bool true) ∧ Below w.heap.size w w' := by
  have kc := fun (w : World) (C : Array Value) (n c : Nat) => Lib.run_convert_bytes_const (P := Try.prog) w 28 5 C n c Try.underlying28 Try.underlying5
  go_enter Try.func8, Try.ntmps8
  go_wp2_with fail
  refine (new_any 3 (by decide) w).mono ?_
  rintro e w1 ⟨rfl, hb1, q1⟩
  rw [show max (0 : Int) 3 = 3 by decide] at q1
  have HB1 := Lib.hid hb1
  have Q1 := Lib.hid q1
  clear hb1 q1
  go_wp2_with fail
  have ha := (Below.refl w1.heap.size w1).alloc (Nat.le_refl _) (.cells ([97, 98].map bv).toArray 5 (2, 3))
  refine (put_room (Q1.out.next ha) _ [97, 98] (Rd.made w1 [97, 98] _ _ 2 rfl (by decide)) (by decide) (by decide) (Nat.le_trans HB1.out.size ha.size)).mono ?_
  rintro e w2 ⟨s2, rfl, q2, t2, o2⟩
  have HB2 := Lib.hid ((Q1.out.next ha).below_of t2 (HB1.out.trans (ha.mono HB1.out.size)) (Nat.le_refl _))
  have Q2 := Lib.hid q2
  clear q2 t2 o2 ha HB1 Q1
  go_wp2_with fail
  have ha := (Below.refl w2.heap.size w2).alloc (Nat.le_refl _) (.cells ([99, 100].map bv).toArray 5 (2, 3))
  refine (put_full (Q2.out.next ha) _ [99, 100] (Rd.made w2 [99, 100] _ _ 2 rfl (by decide)) (by decide) (by decide)).mono ?_
  rintro e w3 ⟨rfl, hb3⟩
  have hb3 := ha.trans (hb3.mono ha.size)
  have Q3 := Lib.hid (Q2.out.next hb3)
  have HB3 := Lib.hid (HB2.out.trans (hb3.mono HB2.out.size))
  clear hb3 ha HB2 Q2
  go_wp2_with fail
  refine (take_any Q3.out 9 2 (by decide)).mono ?_
  rintro e w4 ⟨v, rfl, q4, t4, f4⟩
  have HB4 := Lib.hid (Q3.out.below_of t4 HB3.out (Nat.le_refl _))
  obtain ⟨xo, xc, hvf⟩ := f4.form
  have hvf : v = .slice xo 2 xc := hvf
  subst hvf
  have hcv : (convert 28 9 (.slice xo 2 xc)).run Try.prog w4 = .ok (.string ⟨#[97, 98]⟩) w4 := bytes_string f4.rd
  clear q4 t4 f4 kc
  go_wp2
  go_ret
  exact ⟨rfl, HB4.out⟩
end Go.Proofs.Ytocbmknbmnojkaa
