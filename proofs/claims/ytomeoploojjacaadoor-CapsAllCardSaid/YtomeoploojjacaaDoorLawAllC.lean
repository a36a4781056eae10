/- CapsAll walked. -/
import Derived.Test.YtomeoploojjacaaDoorCapsFew
import Derived.Test.YtomeoploojjacaaDoorCapsRefHas
import Derived.Test.YtomeoploojjacaaDoorCapsRefSame
import Derived.Test.YtomeoploojjacaaDoorOpenReply
namespace Go.Proofs.YtomeoploojjacaaDoor
open Go.RowKit

theorem heap3 {w : World} {g : Nat} {a b c x y z : Value} {t : TypeId} {fr : Nat × Nat} (h : w.heap[g]? = some (.cells #[a, b, c] t fr)) : (((w.setCell ⟨g, 0, none⟩ x).setCell ⟨g, 1, none⟩ y).setCell ⟨g, 2, none⟩ z).heap[g]? = some (.cells #[x, y, z] t fr) := (setCell_row (setCell_row (setCell_row h))).trans rfl
/-- A reply in a block of its own. -/
def RB (w : World) (g : Nat) (code : ByteArray) (l b : Value) : Prop := w.heap[g]? = some (.cells #[.string code, l, b] 25 (0, 0))
theorem RB.below {w w' : World} {g : Nat} {code : ByteArray} {l b : Value} (h : RB w g code l b) (hb : Below w.heap.size w w') : RB w' g code l b := (hb.block _ (Array.getElem?_eq_some_iff.1 h).1).trans h
theorem RB.k {w : World} {g : Nat} {code : ByteArray} {l b : Value} (h : RB w g code l b) : w.cell? ⟨g, 0, none⟩ = some (.string code) ∧ w.cell? ⟨g, 1, none⟩ = some l ∧ w.cell? ⟨g, 2, none⟩ = some b ∧ ∀ i, w.frozen? ⟨g, i, none⟩ = false :=
  ⟨cell_of_row _ _ _ _ _ _ h, cell_of_row _ _ _ _ _ _ h, cell_of_row _ _ _ _ _ _ h, fun _ => frozen_of_row _ _ _ _ _ h⟩

set_option maxHeartbeats 1000000 in
theorem lawAllC (proto : Int) (code : ByteArray) (lv : Value) (ys : List ByteArray) (bo : Value) (xs : List UInt8) (want : ByteArray) (_hp : (Lit.int .i64 proto).wf = true) (_hc : code.size ≤ maxLen) (hn : ys.length ≤ maxLen) (hx : xs.length ≤ maxLen) (_hw : want.size ≤ maxLen)
    (w : World) (rd : RdN 1 w lv (ys.map fun y => [.string y])) (_hz : ∀ y ∈ ys, y.size ≤ maxLen) (rb : Rd w bo (xs.map bv)) (hm : MX w) :
    Calls Tryd.prog 3 #[.int .i64 proto, .agg #[.string code, lv, bo], .string want] w fun e w' => e = .returned (.bool true) ∧ Below w.heap.size w w' := by
  obtain ⟨w0, hw0⟩ : ∃ w0, w0 = w.alloc (.cells #[.string code, lv, bo] 25 (0, 0)) := ⟨_, rfl⟩
  have hal : Below w.heap.size w w0 := by rw [hw0]; exact (Below.refl _ _).alloc (Nat.le_refl _) _
  have hrb : RB w0 w.heap.size code lv bo := by rw [hw0]; exact heap_alloc_new w _
  have CS := Lib.hid (cshown_any w0 (hm.below hal))
  have hls : (ys.map fun y => y.data.toList).length ≤ maxLen := by rw [List.length_map]; exact hn
  have CF := Lib.hid (fun wx (h : Below w.heap.size w wx) => few_any code lv bo _ xs wx ((Rw1.of_n rd).below h) (rb.below h) hls hx)
  have CW := Lib.hid (fun wx => cshort_any want wx)
  have HM := Lib.hid hm
  have HRB := Lib.hid rb
  have HAL := Lib.hid hal
  have HR := Lib.hid hrb
  have HW0 := Lib.hid hw0
  unfold sv at CW
  clear hm hls hal hrb rd rb hw0
  go_enter Tryd.func3, Tryd.ntmps3
  go_wp2_with fail
  rw [← HW0.out]
  refine CS.out.mono ?_
  rintro e w1 ⟨rfl, hb1⟩
  have HR1 := Lib.hid (HR.out.below hb1)
  have HB1 := Lib.hid (HAL.out.trans (hb1.mono HAL.out.size))
  obtain ⟨k0, k1, k2, k3⟩ := HR1.out.k
  clear hb1
  go_wp2_with fail
  refine (CF.out _ HB1.out).mono ?_
  rintro e w2 ⟨lv', bo', ls', xs', rfl, hlv, hbo, hl1, hl2, hx1, hown, hb2⟩
  have hr2 := HR1.out.below hb2
  have hb2' := HB1.out.trans (hb2.mono HB1.out.size)
  obtain ⟨lo, lc, hlf, _, _, _⟩ := hlv.formV
  rw [List.length_map] at hlf
  obtain ⟨bb, bc, hbf, _, _⟩ := (hbo w2 (HRB.out.below hb2')).form
  subst hlf
  subst hbf
  obtain ⟨d0, d1, d2, d3⟩ := hr2.k
  obtain ⟨wz, hwz⟩ : ∃ wz, wz = (((w2.setCell ⟨w.heap.size, 0, none⟩ (.string code)).setCell ⟨w.heap.size, 1, none⟩ (.slice lo ls'.length lc)).setCell ⟨w.heap.size, 2, none⟩ (.slice bb xs'.length bc)) := ⟨_, rfl⟩
  have hrz : RB wz w.heap.size code (.slice lo ls'.length lc) (.slice bb xs'.length bc) := by rw [hwz]; exact heap3 hr2
  have hbz : Below w.heap.size w wz := by rw [hwz]; exact ((hb2'.setCell (p := ⟨w.heap.size, 0, none⟩) (Nat.le_refl _) _).setCell (p := ⟨w.heap.size, 1, none⟩) (Nat.le_refl _) _).setCell (p := ⟨w.heap.size, 2, none⟩) (Nat.le_refl _) _
  have hne : (Value.slice lo ls'.length lc).ownBlock ≠ some w.heap.size := fun e => by
    have h1 := hown _ e
    have h2 := (Array.getElem?_eq_some_iff.1 HR1.out).1
    omega
  have hlz : Rd wz (.slice lo ls'.length lc) (ls'.map sv) := by rw [hwz]; exact ((hlv.setCell hne _).setCell hne _).setCell hne _
  have hbo2 : Rd wz (.slice bb xs'.length bc) (xs'.map bv) := hbo wz (HRB.out.below hbz)
  have HWZ := Lib.hid hwz
  have HCZ := Lib.hid hbz
  have HRZ := Lib.hid hrz
  have HML := Lib.hid (show ls'.length ≤ 1000 from Nat.le_trans hl1 (by decide))
  have HM2 := Lib.hid (show ∀ x ∈ ls', x.length ≤ 1000 from fun x hx => Nat.le_trans (hl2 x hx) (by decide))
  have CA := Lib.hid (fun wx (hb : Below wz.heap.size wz wx) => of_any proto code (.slice lo ls'.length lc) (.slice bb xs'.length bc) ls' xs' wx (hlz.below hb) (hbo2.below hb) HML.out hx1 HM2.out (HM.out.below (hbz.trans (hb.mono hbz.size))))
  have CB := Lib.hid (fun wx (hb : Below wz.heap.size wz wx) => rof_any proto code (.slice lo ls'.length lc) (.slice bb xs'.length bc) ls' xs' wx (hlz.below hb) (hbo2.below hb) HML.out hx1 HM2.out)
  have hcl := Cp.ofLines_len (Cp.count proto ls' xs')
  have hcl2 := Cp.count_len proto ls' xs'
  have HCL := Lib.hid (show (Cp.of proto ls' xs').length ≤ 1048576 by unfold Cp.of; omega)
  have HCA := Lib.hid (show ∀ c ∈ Cp.of proto ls' xs', c.args.length ≤ 1048576 from fun c hc => Nat.le_trans (Cp.of_args proto (Cp.count_each proto HM2.out hx1) c hc) (by decide))
  clear hlz hbo2 hbz hrz hwz hbo hlv hown hne hb2' hl1 hl2 hx1 hr2 hcl hcl2
  clear hb2
  go_wp2_with fail
  rw [← HWZ.out]
  refine (CW.out wz).mono ?_
  rintro e w9 ⟨x, rfl, hx2, rfl⟩
  obtain ⟨q0, q1, q2, _⟩ := HRZ.out.k
  have CA1 := Lib.hid (CA.out _ (Below.refl _ _))
  go_wp2_with fail
  refine CA1.out.mono ?_
  rintro e w3 ⟨va, rfl, hva, hb3⟩
  obtain ⟨p0, p1, p2, _⟩ := (HRZ.out.below hb3).k
  have HVA := Lib.hid hva
  have HB3 := Lib.hid hb3
  have CB1 := Lib.hid (CB.out _ hb3)
  clear hva hb3 q0 q1 q2
  go_wp2_with fail
  refine CB1.out.mono ?_
  rintro e w4 ⟨vb, rfl, hvb, hb4⟩
  have HVB := Lib.hid hvb
  have HVA4 := Lib.hid (HVA.out.below hb4)
  have HB4 := Lib.hid (HB3.out.trans (hb4.mono HB3.out.size))
  have CC := Lib.hid (csame_any va vb _ w4 HVA4.out HVB.out HCL.out)
  clear hvb hb4 p0 p1 p2
  go_wp2_with fail
  refine CC.out.mono ?_
  rintro e w5 ⟨rfl, hb5⟩
  have HVB5 := Lib.hid (HVB.out.below hb5)
  have HVA5 := Lib.hid (HVA4.out.below hb5)
  have HB5 := Lib.hid (HB4.out.trans (hb5.mono HB4.out.size))
  have hxs : (⟨x.toArray⟩ : ByteArray).size ≤ 1048575 := by rw [Lib.size_eq]; show x.length ≤ _; omega
  have CD := chas_any va _ ⟨x.toArray⟩ w5 HVA5.out HCL.out HCA.out hxs
  have CE := fun wx (hb : Below w5.heap.size w5 wx) => rhas_any vb _ ⟨x.toArray⟩ wx (HVB5.out.below hb) HCL.out HCA.out hxs
  obtain ⟨B, hB⟩ : ∃ B, B = Cp.has (Cp.of proto ls' xs') (⟨x.toArray⟩ : ByteArray).data.toList := ⟨_, rfl⟩
  rw [← hB] at CD
  simp only [← hB] at CE
  have CD := Lib.hid CD
  have CE := Lib.hid CE
  clear hb5 hB hxs
  go_wp2_with fail
  refine CD.out.mono ?_
  rintro e w6 ⟨rfl, hb6⟩
  have CE1 := Lib.hid (CE.out _ hb6)
  have HB6 := Lib.hid (HB5.out.trans (hb6.mono HB5.out.size))
  clear hb6
  go_wp2_with fail
  refine CE1.out.mono ?_
  rintro e w7 ⟨rfl, hb7⟩
  have HB7 := Lib.hid (HCZ.out.trans ((HB6.out.trans (hb7.mono HB6.out.size)).mono HCZ.out.size))
  clear hb7
  go_wp2
  go_ret
  exact ⟨ret_b (by simp), HB7.out⟩
end Go.Proofs.YtomeoploojjacaaDoor
