/- The law HmacAll walked. -/
import Derived.Test.YtlimjcpkgolijaaDoorHmacLaw
import Derived.Test.YtlimjcpkgolijaaDoorHmacRefSum
namespace Go.Proofs.YtlimjcpkgolijaaDoor
open Go.RowKit

set_option maxRecDepth 20000 in
set_option maxHeartbeats 1000000 in
theorem lawAllH (v0 : Value) (x0 : List UInt8) (v1 : Value) (x1 : List UInt8) (h0 : x0.length ≤ maxLen) (h1 : x1.length ≤ maxLen) (w : World) (r0 : Rd w v0 (x0.map bv)) (r1 : Rd w v1 (x1.map bv)) (ht : TBL w) :
    Calls Tryd.prog 3 #[v0, v1] w fun e w' => e = .returned (.bool true) ∧ Below w.heap.size w w' := by
  have HTB := Lib.hid ht
  clear ht
  go_enter Tryd.func3, Tryd.ntmps3
  go_wp2_with fail
  refine (shown_any _ HTB.out).mono ?_
  rintro e w1 ⟨rfl, hb1⟩
  have ra := r0.below hb1
  have rb := r1.below hb1
  have HB1 := Lib.hid hb1
  clear r0 r1 hb1
  go_wp2_with fail
  refine (short_any v0 x0 _ ra h0).mono ?_
  rintro e w1' ⟨va, rfl, ra, hw1⟩
  obtain rfl := hw1
  have la : (x0.take 300).length ≤ 300 := List.length_take_le _ _
  generalize x0.take 300 = xa at ra la
  go_wp2_with fail
  refine (short_any v1 x1 _ rb h1).mono ?_
  rintro e w1' ⟨vb, rfl, rb, hw1⟩
  obtain rfl := hw1
  have lb : (x1.take 300).length ≤ 300 := List.length_take_le _ _
  generalize x1.take 300 = xb at rb lb
  obtain ⟨R, hR⟩ : ∃ R, R = (Hm.sum xa xb).map bv := ⟨_, rfl⟩
  have hav : av (Hm.sum xa xb) = .agg R.toArray := by rw [hR]
  have heq : ∀ w, (Op.equalIn 10000 25 (.agg R.toArray) (.agg R.toArray)).run Tryd.prog w = .ok true w := fun w => by
    have := equal16 (Hm.sum xa xb) (Hm.sum xa xb) (Hm.sum_len _ _) (Hm.sum_len _ _) w
    rw [← hR] at this
    simpa using this
  have hge := guard16
  obtain ⟨X, hX⟩ : ∃ X : ByteArray, X = ⟨(Md5.hex (Hm.sum xa xb)).toArray⟩ := ⟨_, rfl⟩
  have eX : sv (Md5.hex (Hm.sum xa xb)) = .string X := by rw [hX]; rfl
  have HAV := Lib.hid hav
  have HEQ := Lib.hid heq
  have HGE := Lib.hid hge
  have EX := Lib.hid eX
  clear hR hav heq hge hX eX
  go_wp2_with fail
  refine (hsum_any va xa vb xb _ ra rb (by omega) (by omega) (HTB.out.below HB1.out)).mono ?_
  rintro e w2 ⟨rfl, hb2⟩
  rw [HAV.out]
  have c2 : Below w.heap.size w w2 := HB1.out.trans (hb2.mono HB1.out.size)
  have ra2 := ra.below hb2
  have rb2 := rb.below hb2
  clear hb2 ra rb HB1
  go_wp2_with fail
  refine (rsum4_any va xa vb xb _ ra2 rb2 (by omega) (by omega)).mono ?_
  rintro e w3 ⟨rfl, hb3⟩
  rw [HAV.out]
  have c3 : Below w.heap.size w w3 := c2.trans (hb3.mono c2.size)
  have ra3 := ra2.below hb3
  have rb3 := rb2.below hb3
  have heq := HEQ.out
  have hge := HGE.out
  clear hb3 ra2 rb2 c2
  go_wp2_with fail
  clear heq hge
  refine (hhex_any va xa vb xb _ ra3 rb3 (by omega) (by omega) (HTB.out.below c3)).mono ?_
  rintro e w4 ⟨rfl, hb4⟩
  rw [EX.out]
  have c4 : Below w.heap.size w w4 := c3.trans (hb4.mono c3.size)
  have ra4 := ra3.below hb4
  have rb4 := rb3.below hb4
  clear hb4 ra3 rb3 c3
  go_wp2_with fail
  refine (rhex4_any va xa vb xb _ ra4 rb4 (by omega) (by omega)).mono ?_
  rintro e w5 ⟨rfl, hb5⟩
  rw [EX.out]
  have c5 : Below w.heap.size w w5 := c4.trans (hb5.mono c4.size)
  clear hb5 ra4 rb4 c4
  go_wp2
  go_ret
  exact ⟨rfl, c5⟩
end Go.Proofs.YtlimjcpkgolijaaDoor
