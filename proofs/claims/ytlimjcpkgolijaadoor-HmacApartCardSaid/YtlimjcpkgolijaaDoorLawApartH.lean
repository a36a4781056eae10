/- The law HmacApart walked. -/
import Derived.Test.YtlimjcpkgolijaaDoorHmacLaw
import Derived.Test.YtlimjcpkgolijaaDoorHmacRefSum
import Derived.Deep.RegionHeld3
namespace Go.Proofs.YtlimjcpkgolijaaDoor
open Go.RowKit

/-- What stands in HmacApart: four slices. -/
structure QP (w : World) (va vb vx vy : Value) (xa xb xx xy : List UInt8) (wr : World) : Prop where
  ra : Rd wr va (xa.map bv)
  rb : Rd wr vb (xb.map bv)
  rx : Rd wr vx (xx.map bv)
  ry : Rd wr vy (xy.map bv)
  tb : TBL wr
  below : Below w.heap.size w wr
section
variable {w : World} {va vb vx vy : Value} {xa xb xx xy : List UInt8} {wr w' : World}
theorem QP.next (h : QP w va vb vx vy xa xb xx xy wr) (hb : Below wr.heap.size wr w') : QP w va vb vx vy xa xb xx xy w' :=
  ⟨h.ra.below hb, h.rb.below hb, h.rx.below hb, h.ry.below hb, h.tb.below hb, h.below.trans (hb.mono h.below.size)⟩
theorem QP.sum {v1 v2 : Value} {x1 x2 : List UInt8} (h : QP w va vb vx vy xa xb xx xy wr) (h1 : Rd wr v1 (x1.map bv)) (h2 : Rd wr v2 (x2.map bv)) (l1 : x1.length ≤ 300) (l2 : x2.length ≤ 300) {R : List Value} (hR : R = (Hm.sum x1 x2).map bv) :
    Calls Tryd.prog 9 #[v1, v2] wr fun e w' => e = .returned (.agg R.toArray) ∧ QP w va vb vx vy xa xb xx xy w' := by
  refine (hsum_any v1 x1 v2 x2 wr h1 h2 (by omega) (by omega) h.tb).mono ?_
  rintro e w' ⟨rfl, hb⟩
  exact ⟨by rw [hR], h.next hb⟩
theorem QP.ref {v1 v2 : Value} {x1 x2 : List UInt8} (h : QP w va vb vx vy xa xb xx xy wr) (h1 : Rd wr v1 (x1.map bv)) (h2 : Rd wr v2 (x2.map bv)) (l1 : x1.length ≤ 300) (l2 : x2.length ≤ 300) {R : List Value} (hR : R = (Hm.sum x1 x2).map bv) :
    Calls Tryd.prog 10 #[v1, v2] wr fun e w' => e = .returned (.agg R.toArray) ∧ QP w va vb vx vy xa xb xx xy w' := by
  refine (rsum4_any v1 x1 v2 x2 wr h1 h2 (by omega) (by omega)).mono ?_
  rintro e w' ⟨rfl, hb⟩
  exact ⟨by rw [hR], h.next hb⟩
end

set_option maxRecDepth 20000 in
set_option maxHeartbeats 2000000 in
theorem lawApartH (k0 : Value) (a0 : List UInt8) (k1 : Value) (a1 : List UInt8) (s0 : Value) (b0 : List UInt8) (s1 : Value) (b1 : List UInt8) (h0 : a0.length ≤ maxLen) (h1 : a1.length ≤ maxLen) (h2 : b0.length ≤ maxLen) (h3 : b1.length ≤ maxLen)
    (w : World) (r0 : Rd w k0 (a0.map bv)) (r1 : Rd w k1 (a1.map bv)) (r2 : Rd w s0 (b0.map bv)) (r3 : Rd w s1 (b1.map bv)) (ht : TBL w) :
    Calls Tryd.prog 6 #[.agg #[k0, k1], .agg #[s0, s1]] w fun e w' => e = .returned (.bool true) ∧ Below w.heap.size w w' := by
  have HTB := Lib.hid ht
  clear ht
  obtain ⟨wb, hwb⟩ : ∃ wb, wb = (w.alloc (.cells #[k0, k1] 32)).alloc (.cells #[s0, s1] 32) := ⟨_, rfl⟩
  have hbb : Below w.heap.size w wb := by rw [hwb]; exact ((Below.refl _ _).alloc (Nat.le_refl _) _).alloc (by simp) _
  have e0 : wb.heap[w.heap.size]? = some (.cells #[k0, k1] 32) := by rw [hwb]; exact heap_alloc2_old w _ _
  have e1 : wb.heap[w.heap.size + 1]? = some (.cells #[s0, s1] 32) := by rw [hwb]; exact heap_alloc2_new w _ _
  have HWB := Lib.hid hwb
  have HBB := Lib.hid hbb
  have E0 := Lib.hid e0
  have E1 := Lib.hid e1
  clear hwb hbb e0 e1
  go_enter Tryd.func6, Tryd.ntmps6
  go_wp2_with fail
  rw [← HWB.out]
  refine (shown_any wb (HTB.out.below HBB.out)).mono ?_
  rintro e w1 ⟨rfl, hb1⟩
  have l0 : w.heap.size < wb.heap.size := (Array.getElem?_eq_some_iff.1 E0.out).1
  have l1 : w.heap.size + 1 < wb.heap.size := (Array.getElem?_eq_some_iff.1 E1.out).1
  have f0 := (hb1.block _ l0).trans E0.out
  have f1 := (hb1.block _ l1).trans E1.out
  have hb : Below w.heap.size w w1 := HBB.out.trans (hb1.mono HBB.out.size)
  have c00 : w1.cell? ⟨w.heap.size, 0, none⟩ = some k0 := cell_of_row _ _ _ _ _ _ f0
  have c01 : w1.cell? ⟨w.heap.size, 1, none⟩ = some k1 := cell_of_row _ _ _ _ _ _ f0
  have c10 : w1.cell? ⟨w.heap.size + 1, 0, none⟩ = some s0 := cell_of_row _ _ _ _ _ _ f1
  have c11 : w1.cell? ⟨w.heap.size + 1, 1, none⟩ = some s1 := cell_of_row _ _ _ _ _ _ f1
  have q0 := Lib.hid (r0.below hb)
  have q1 := Lib.hid (r1.below hb)
  have q2 := Lib.hid (r2.below hb)
  have q3 := Lib.hid (r3.below hb)
  have HB := Lib.hid hb
  clear r0 r1 r2 r3 hb hb1 l0 l1 f0 f1
  go_wp2_with fail
  refine (short_any k0 a0 _ q0.out h0).mono ?_
  rintro e w1' ⟨va, rfl, ra, hw1⟩
  obtain rfl := hw1
  have la : (a0.take 300).length ≤ 300 := List.length_take_le _ _
  generalize a0.take 300 = xa at ra la
  have RA := Lib.hid ra
  clear ra
  go_wp2_with fail
  refine (short_any k1 a1 _ q1.out h1).mono ?_
  rintro e w1' ⟨vb, rfl, rb, hw1⟩
  obtain rfl := hw1
  have lb : (a1.take 300).length ≤ 300 := List.length_take_le _ _
  generalize a1.take 300 = xb at rb lb
  have RB := Lib.hid rb
  clear rb
  go_wp2_with fail
  refine (short_any s0 b0 _ q2.out h2).mono ?_
  rintro e w1' ⟨vx, rfl, rx, hw1⟩
  obtain rfl := hw1
  have lx : (b0.take 300).length ≤ 300 := List.length_take_le _ _
  generalize b0.take 300 = xx at rx lx
  have RX := Lib.hid rx
  clear rx
  go_wp2_with fail
  refine (short_any s1 b1 _ q3.out h3).mono ?_
  rintro e w1' ⟨vy, rfl, ry, hw1⟩
  obtain rfl := hw1
  have ly : (b1.take 300).length ≤ 300 := List.length_take_le _ _
  generalize b1.take 300 = xy at ry ly
  have Q0 : QP w va vb vx vy xa xb xx xy w1 := ⟨RA.out, RB.out, RX.out, ry, HTB.out.below HB.out, HB.out⟩
  clear RA RB RX ry c00 c01 c10 c11 q0 q1 q2 q3
  obtain ⟨R1, hR1⟩ : ∃ R, R = (Hm.sum xa xx).map bv := ⟨_, rfl⟩
  obtain ⟨R2, hR2⟩ : ∃ R, R = (Hm.sum xb xx).map bv := ⟨_, rfl⟩
  obtain ⟨R3, hR3⟩ : ∃ R, R = (Hm.sum xa xy).map bv := ⟨_, rfl⟩
  have heq1 : ∀ w, (Op.equalIn 10000 25 (.agg R1.toArray) (.agg R2.toArray)).run Tryd.prog w = .ok (Hm.sum xa xx == Hm.sum xb xx) w := fun w => by
    rw [hR1, hR2]
    exact equal16 _ _ (Hm.sum_len _ _) (Hm.sum_len _ _) w
  have heq2 : ∀ w, (Op.equalIn 10000 25 (.agg R1.toArray) (.agg R3.toArray)).run Tryd.prog w = .ok (Hm.sum xa xx == Hm.sum xa xy) w := fun w => by
    rw [hR1, hR3]
    exact equal16 _ _ (Hm.sum_len _ _) (Hm.sum_len _ _) w
  generalize hβ : (Hm.sum xa xx == Hm.sum xb xx) = β at heq1
  generalize hγ : (Hm.sum xa xx == Hm.sum xa xy) = γ at heq2
  obtain ⟨X, hX⟩ : ∃ X : ByteArray, X = ⟨(Md5.hex (Hm.sum xa xy)).toArray⟩ := ⟨_, rfl⟩
  have eX : sv (Md5.hex (Hm.sum xa xy)) = .string X := by rw [hX]; rfl
  have hXs : X.size = 32 := by
    rw [Lib.size_eq, hX]
    show (Md5.hex (Hm.sum xa xy)).length = 32
    rw [Md5.hex_len, Hm.sum_len]
  have EX := Lib.hid eX
  have HXS := Lib.hid hXs
  have HEQ2 := Lib.hid heq2
  have H1 := Lib.hid hR1
  have H2 := Lib.hid hR2
  have H3 := Lib.hid hR3
  clear hR1 hR2 hR3 hβ hγ hX eX hXs heq2
  have A0 := Q0.next ((Below.refl _ _).drew)
  have C1 := Lib.hid (fun wr (h : QP w va vb vx vy xa xb xx xy wr) => h.sum h.ra h.rx la lx H1.out)
  have C2 := Lib.hid (fun wr (h : QP w va vb vx vy xa xb xx xy wr) => h.sum h.rb h.rx lb lx H2.out)
  have D1 := Lib.hid (fun wr (h : QP w va vb vx vy xa xb xx xy wr) => h.ref h.ra h.rx la lx H1.out)
  have D2 := Lib.hid (fun wr (h : QP w va vb vx vy xa xb xx xy wr) => h.ref h.rb h.rx lb lx H2.out)
  have hge := guard16
  clear Q0
  go_wp2
  go_region_held3 (fun _ => True) (trivial)
    (first | (go_at_call_of 9 va; refine (C1.out _ (by assumption)).mono ?_; rintro e w2 ⟨rfl, A1⟩) | (go_at_call_of 9 vb; refine (C2.out _ (by assumption)).mono ?_; rintro e w3 ⟨rfl, A2⟩) | (go_at_call_of 10 va; refine (D1.out _ (by assumption)).mono ?_; rintro e w4 ⟨rfl, A3⟩) | (go_at_call_of 10 vb; refine (D2.out _ (by assumption)).mono ?_; rintro e w5 ⟨rfl, A4⟩))
  have Q1 := A4
  clear A0 A1 A2 A3 A4 C1 C2 D1 D2 heq1
  have heq2 := HEQ2.out
  have A0 := Q1.next ((Below.refl _ _).drew)
  have C1 := Lib.hid (fun wr (h : QP w va vb vx vy xa xb xx xy wr) => h.sum h.ra h.rx la lx H1.out)
  have C2 := Lib.hid (fun wr (h : QP w va vb vx vy xa xb xx xy wr) => h.sum h.ra h.ry la ly H3.out)
  have D1 := Lib.hid (fun wr (h : QP w va vb vx vy xa xb xx xy wr) => h.ref h.ra h.rx la lx H1.out)
  have D2 := Lib.hid (fun wr (h : QP w va vb vx vy xa xb xx xy wr) => h.ref h.ra h.ry la ly H3.out)
  clear Q1
  go_wp2
  go_region_held3 (fun _ => True) (trivial)
    (first | (go_at_call_of 9 vx; refine (C1.out _ (by assumption)).mono ?_; rintro e w6 ⟨rfl, A1⟩) | (go_at_call_of 9 vy; refine (C2.out _ (by assumption)).mono ?_; rintro e w7 ⟨rfl, A2⟩) | (go_at_call_of 10 vx; refine (D1.out _ (by assumption)).mono ?_; rintro e w8 ⟨rfl, A3⟩) | (go_at_call_of 10 vy; refine (D2.out _ (by assumption)).mono ?_; rintro e w9 ⟨rfl, A4⟩))
  have Q2 := A4
  clear A0 A1 A2 A3 A4 C1 C2 D1 D2 heq2 hge
  have HQ := Lib.hid Q2
  clear Q2
  go_wp2_with fail
  refine (hhex_any va xa vy xy _ HQ.out.ra HQ.out.ry (by omega) (by omega) HQ.out.tb).mono ?_
  rintro e w10 ⟨rfl, hb10⟩
  rw [EX.out]
  have c10 := HQ.out.below.trans (hb10.mono HQ.out.below.size)
  have hXs := HXS.out
  clear hb10
  go_wp2
  go_ret
  exact ⟨rfl, c10⟩
end Go.Proofs.YtlimjcpkgolijaaDoor
