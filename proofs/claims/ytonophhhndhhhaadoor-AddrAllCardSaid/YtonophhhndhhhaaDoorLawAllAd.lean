/- AddrAll walked (layer 13; by gen_aall.py). -/
import Derived.Test.YtonophhhndhhhaaDoorALawA
import Derived.Test.YtonophhhndhhhaaDoorAddrEpsv
import Derived.Test.YtonophhhndhhhaaDoorAddrText
import Derived.Test.YtonophhhndhhhaaDoorARefPW
import Derived.Test.YtonophhhndhhhaaDoorARefE
import Derived.Test.YtonophhhndhhhaaDoorHeld
namespace Go.Proofs.YtonophhhndhhhaaDoor
open Go.RowKit

theorem wf_i64 {n : Int} (h : (Lit.int .i64 n).wf = true) : -9223372036854775808 ≤ n ∧ n ≤ 9223372036854775807 := by
  unfold Lit.wf at h
  rw [Bool.and_eq_true, decide_eq_true_eq, decide_eq_true_eq, show IntKind.min .i64 = -9223372036854775808 by decide, show IntKind.max .i64 = 9223372036854775807 by decide] at h
  exact h

set_option maxHeartbeats 8000000 in
theorem lawAll (s : ByteArray) (xa xb xc xd xp : Int) (hs : s.size ≤ maxLen) (wa : (Lit.int .i64 xa).wf = true) (wb : (Lit.int .i64 xb).wf = true) (wc : (Lit.int .i64 xc).wf = true) (wd : (Lit.int .i64 xd).wf = true) (wp : (Lit.int .i64 xp).wf = true) (w : World) (ht : TB w) :
    Calls Tryd.prog 3 #[.string s, .agg #[.int .i64 xa, .int .i64 xb, .int .i64 xc, .int .i64 xd, .int .i64 xp]] w fun e w' => e = .returned (.bool true) ∧ Below w.heap.size w w' := by
  obtain ⟨l, rfl⟩ : ∃ l : List UInt8, s = ⟨l.toArray⟩ := ⟨s.data.toList, rfl⟩
  have hx : AW ⟨xa, xb, xc, xd, xp⟩ := ⟨wf_i64 wa, wf_i64 wb, wf_i64 wc, wf_i64 wd, wf_i64 wp⟩
  have SH := fun wx => short_any l hs wx
  have hlen : (l.take 200).length ≤ 1048576 := by rw [List.length_take]; omega
  obtain ⟨t, htt⟩ : ∃ t, l.take 200 = t := ⟨_, rfl⟩
  rw [htt] at SH hlen
  have HT := Lib.hid ht
  have P1 := Lib.hid (fun wx => pasv_any t hlen wx)
  have P2 := Lib.hid (fun wx => rpasv_any t hlen wx)
  have P3 := Lib.hid (fun wx => epsv_any t hlen wx)
  have P4 := Lib.hid (fun wx => repsv_any t hlen wx)
  have T1 := Lib.hid (fun wx (hb : Below w.heap.size w wx) => text_any ⟨xa, xb, xc, xd, xp⟩ hx wx (HT.out.below hb))
  have T2 := Lib.hid (fun wx => rtext_any ⟨xa, xb, xc, xd, xp⟩ hx wx)
  unfold adr adv adc at P1 P2 P3 P4
  unfold adv adc at T1 T2
  dsimp only at T1 T2
  generalize (Ad.pasv t).getD ad0 = y at *
  generalize (Ad.pasv t).isSome = r at *
  generalize ((Ad.epsv t).map Ad.mk).getD ad0 = z at *
  generalize ((Ad.epsv t).map Ad.mk).isSome = q at *
  obtain ⟨X, hX⟩ : ∃ X, Ad.text ⟨xa, xb, xc, xd, xp⟩ = X := ⟨_, rfl⟩
  rw [hX] at T1 T2
  have q2 := adHeld
  have q3 := adGuard
  have hey : ∀ w, (Op.equalIn 10000 24 (.agg #[.int .i64 y.a, .int .i64 y.b, .int .i64 y.c, .int .i64 y.d, .int .i64 y.port]) (.agg #[.int .i64 y.a, .int .i64 y.b, .int .i64 y.c, .int .i64 y.d, .int .i64 y.port])).run Tryd.prog w = .ok true w := fun w => by
    have := equalAd y y w
    simpa [adv, adc] using this
  have hez : ∀ w, (Op.equalIn 10000 24 (.agg #[.int .i64 z.a, .int .i64 z.b, .int .i64 z.c, .int .i64 z.d, .int .i64 z.port]) (.agg #[.int .i64 z.a, .int .i64 z.b, .int .i64 z.c, .int .i64 z.d, .int .i64 z.port])).run Tryd.prog w = .ok true w := fun w => by
    have := equalAd z z w
    simpa [adv, adc] using this
  have H0 := Lib.hid ((LA.nil w).push xa xb xc xd xp)
  clear hs ht hx htt hX hlen wa wb wc wd wp
  have SW := Lib.hid (fun wx => shown_any wx)
  go_enter Tryd.func3, Tryd.ntmps3
  go_wp2_with fail
  refine (SW.out _).mono ?_
  rintro e w0 ⟨rfl, hb⟩
  have H1 := Lib.hid (H0.out.next hb)
  clear hb H0 SW
  go_wp2_with fail
  refine (SH _).mono ?_
  rintro e w' ⟨rfl, hw⟩
  rw [hw]
  clear SH hw w'
  go_wp2_with fail
  refine (P1.out _).mono ?_
  rintro e w1 ⟨rfl, hb⟩
  have H1b := Lib.hid (H1.out.next hb)
  have H1a := Lib.hid (H1b.out.push y.a y.b y.c y.d y.port)
  clear hb H1 H1b P1
  go_wp2_with fail
  generalize w1.alloc (.cells #[.int .i64 y.a, .int .i64 y.b, .int .i64 y.c, .int .i64 y.d, .int .i64 y.port] 24) = w1a at *
  generalize w1.heap.size = g1 at *
  refine (P2.out _).mono ?_
  rintro e w2 ⟨rfl, hb⟩
  have H2b := Lib.hid (H1a.out.next hb)
  have H2a := Lib.hid (H2b.out.push y.a y.b y.c y.d y.port)
  clear hb H1a H2b P2
  go_wp2_with fail
  generalize w2.alloc (.cells #[.int .i64 y.a, .int .i64 y.b, .int .i64 y.c, .int .i64 y.d, .int .i64 y.port] 24) = w2a at *
  generalize w2.heap.size = g2 at *
  refine (P3.out _).mono ?_
  rintro e w3 ⟨rfl, hb⟩
  have H3b := Lib.hid (H2a.out.next hb)
  have H3a := Lib.hid (H3b.out.push z.a z.b z.c z.d z.port)
  clear hb H2a H3b P3
  go_wp2_with fail
  generalize w3.alloc (.cells #[.int .i64 z.a, .int .i64 z.b, .int .i64 z.c, .int .i64 z.d, .int .i64 z.port] 24) = w3a at *
  generalize w3.heap.size = g3 at *
  refine (P4.out _).mono ?_
  rintro e w4 ⟨rfl, hb⟩
  have H4b := Lib.hid (H3a.out.next hb)
  have H4a := Lib.hid (H4b.out.push z.a z.b z.c z.d z.port)
  clear hb H3a H4b P4
  go_wp2_with fail
  generalize w4.alloc (.cells #[.int .i64 z.a, .int .i64 z.b, .int .i64 z.c, .int .i64 z.d, .int .i64 z.port] 24) = w4a at *
  generalize w4.heap.size = g4 at *
  have HLS := Lib.hid (show ∀ wx, LA w wx [(g4, z), (g3, z), (g2, y), (g1, y), (w.heap.size, ⟨xa, xb, xc, xd, xp⟩)] → (wx.cell? ⟨g4, 0, none⟩ = some (.int .i64 z.a) ∧ wx.cell? ⟨g4, 1, none⟩ = some (.int .i64 z.b) ∧ wx.cell? ⟨g4, 2, none⟩ = some (.int .i64 z.c) ∧ wx.cell? ⟨g4, 3, none⟩ = some (.int .i64 z.d) ∧ wx.cell? ⟨g4, 4, none⟩ = some (.int .i64 z.port)) ∧ (wx.cell? ⟨g3, 0, none⟩ = some (.int .i64 z.a) ∧ wx.cell? ⟨g3, 1, none⟩ = some (.int .i64 z.b) ∧ wx.cell? ⟨g3, 2, none⟩ = some (.int .i64 z.c) ∧ wx.cell? ⟨g3, 3, none⟩ = some (.int .i64 z.d) ∧ wx.cell? ⟨g3, 4, none⟩ = some (.int .i64 z.port)) ∧ (wx.cell? ⟨g2, 0, none⟩ = some (.int .i64 y.a) ∧ wx.cell? ⟨g2, 1, none⟩ = some (.int .i64 y.b) ∧ wx.cell? ⟨g2, 2, none⟩ = some (.int .i64 y.c) ∧ wx.cell? ⟨g2, 3, none⟩ = some (.int .i64 y.d) ∧ wx.cell? ⟨g2, 4, none⟩ = some (.int .i64 y.port)) ∧ (wx.cell? ⟨g1, 0, none⟩ = some (.int .i64 y.a) ∧ wx.cell? ⟨g1, 1, none⟩ = some (.int .i64 y.b) ∧ wx.cell? ⟨g1, 2, none⟩ = some (.int .i64 y.c) ∧ wx.cell? ⟨g1, 3, none⟩ = some (.int .i64 y.d) ∧ wx.cell? ⟨g1, 4, none⟩ = some (.int .i64 y.port)) ∧ (wx.cell? ⟨w.heap.size, 0, none⟩ = some (.int .i64 xa) ∧ wx.cell? ⟨w.heap.size, 1, none⟩ = some (.int .i64 xb) ∧ wx.cell? ⟨w.heap.size, 2, none⟩ = some (.int .i64 xc) ∧ wx.cell? ⟨w.heap.size, 3, none⟩ = some (.int .i64 xd) ∧ wx.cell? ⟨w.heap.size, 4, none⟩ = some (.int .i64 xp)) from fun wx h => ⟨h.at0.five, h.at1.five, h.at2.five, h.at3.five, h.at4.five⟩)
  have hD := H4a.out.drew
  have s0 := HLS.out _ hD
  refine wp_region_held_drew (S := fun wx => (wx.cell? ⟨g4, 0, none⟩ = some (.int .i64 z.a) ∧ wx.cell? ⟨g4, 1, none⟩ = some (.int .i64 z.b) ∧ wx.cell? ⟨g4, 2, none⟩ = some (.int .i64 z.c) ∧ wx.cell? ⟨g4, 3, none⟩ = some (.int .i64 z.d) ∧ wx.cell? ⟨g4, 4, none⟩ = some (.int .i64 z.port)) ∧ (wx.cell? ⟨g3, 0, none⟩ = some (.int .i64 z.a) ∧ wx.cell? ⟨g3, 1, none⟩ = some (.int .i64 z.b) ∧ wx.cell? ⟨g3, 2, none⟩ = some (.int .i64 z.c) ∧ wx.cell? ⟨g3, 3, none⟩ = some (.int .i64 z.d) ∧ wx.cell? ⟨g3, 4, none⟩ = some (.int .i64 z.port)) ∧ (wx.cell? ⟨g2, 0, none⟩ = some (.int .i64 y.a) ∧ wx.cell? ⟨g2, 1, none⟩ = some (.int .i64 y.b) ∧ wx.cell? ⟨g2, 2, none⟩ = some (.int .i64 y.c) ∧ wx.cell? ⟨g2, 3, none⟩ = some (.int .i64 y.d) ∧ wx.cell? ⟨g2, 4, none⟩ = some (.int .i64 y.port)) ∧ (wx.cell? ⟨g1, 0, none⟩ = some (.int .i64 y.a) ∧ wx.cell? ⟨g1, 1, none⟩ = some (.int .i64 y.b) ∧ wx.cell? ⟨g1, 2, none⟩ = some (.int .i64 y.c) ∧ wx.cell? ⟨g1, 3, none⟩ = some (.int .i64 y.d) ∧ wx.cell? ⟨g1, 4, none⟩ = some (.int .i64 y.port)) ∧ (wx.cell? ⟨w.heap.size, 0, none⟩ = some (.int .i64 xa) ∧ wx.cell? ⟨w.heap.size, 1, none⟩ = some (.int .i64 xb) ∧ wx.cell? ⟨w.heap.size, 2, none⟩ = some (.int .i64 xc) ∧ wx.cell? ⟨w.heap.size, 3, none⟩ = some (.int .i64 xd) ∧ wx.cell? ⟨w.heap.size, 4, none⟩ = some (.int .i64 xp))) (by kernel_rfl) s0 (fun hH => ?_)
  generalize w4a.drew = wd at *
  have HD := Lib.hid hD
  clear hD H4a
  refine heldTake (i := 0) (v := ?_) rfl (by kernel_rfl) (by kernel_rfl) (fun _ _ _ h => h) (by rfl) (by assumption) (fun w hSw => ?_) ?_; rotate_left; focus ((try dsimp only at hSw); go_simp; try with_reducible rfl)
  try simp only [Act.put, List.setIfInBounds_toArray, List.set_cons_zero, List.set_cons_succ]
  refine heldTake (i := 1) (v := ?_) rfl (by kernel_rfl) (by kernel_rfl) (fun _ _ _ h => h) (by rfl) (by assumption) (fun w hSw => ?_) ?_; rotate_left; focus ((try dsimp only at hSw); go_simp; try with_reducible rfl)
  try simp only [Act.put, List.setIfInBounds_toArray, List.set_cons_zero, List.set_cons_succ]
  refine heldTake (i := 2) (v := ?_) rfl (by kernel_rfl) (by kernel_rfl) (fun _ _ _ h => h) (by rfl) (by assumption) (fun w hSw => ?_) ?_; rotate_left; focus ((try dsimp only at hSw); go_simp; try with_reducible rfl)
  try simp only [Act.put, List.setIfInBounds_toArray, List.set_cons_zero, List.set_cons_succ]
  refine heldTake (i := 3) (v := ?_) rfl (by kernel_rfl) (by kernel_rfl) (fun _ _ _ h => h) (by rfl) (by assumption) (fun w hSw => ?_) ?_; rotate_left; focus ((try dsimp only at hSw); go_simp; try with_reducible rfl)
  try simp only [Act.put, List.setIfInBounds_toArray, List.set_cons_zero, List.set_cons_succ]
  refine heldTake (i := 4) (v := ?_) rfl (by kernel_rfl) (by kernel_rfl) (fun _ _ _ h => h) (by rfl) (by assumption) (fun w hSw => ?_) ?_; rotate_left; focus ((try dsimp only at hSw); go_simp; try with_reducible rfl)
  try simp only [Act.put, List.setIfInBounds_toArray, List.set_cons_zero, List.set_cons_succ]
  refine heldTake (i := 5) (v := ?_) rfl (by kernel_rfl) (by kernel_rfl) (fun _ _ _ h => h) (by rfl) (by assumption) (fun w hSw => ?_) ?_; rotate_left; focus ((try dsimp only at hSw); go_simp; try with_reducible rfl)
  try simp only [Act.put, List.setIfInBounds_toArray, List.set_cons_zero, List.set_cons_succ]
  refine heldTake (i := 6) (v := ?_) rfl (by kernel_rfl) (by kernel_rfl) (fun _ _ _ h => h) (by rfl) (by assumption) (fun w hSw => ?_) ?_; rotate_left; focus ((try dsimp only at hSw); go_simp; try with_reducible rfl)
  try simp only [Act.put, List.setIfInBounds_toArray, List.set_cons_zero, List.set_cons_succ]
  refine heldTake (i := 7) (v := ?_) rfl (by kernel_rfl) (by kernel_rfl) (fun _ _ _ h => h) (by rfl) (by assumption) (fun w hSw => ?_) ?_; rotate_left; focus ((try dsimp only at hSw); go_simp; try with_reducible rfl)
  try simp only [Act.put, List.setIfInBounds_toArray, List.set_cons_zero, List.set_cons_succ]
  refine heldTake (i := 8) (v := ?_) rfl (by kernel_rfl) (by kernel_rfl) (fun _ _ _ h => h) (by rfl) (by assumption) (fun w hSw => ?_) ?_; rotate_left; focus ((try dsimp only at hSw); go_simp; try with_reducible rfl)
  try simp only [Act.put, List.setIfInBounds_toArray, List.set_cons_zero, List.set_cons_succ]
  refine heldTake (i := 9) (v := ?_) rfl (by kernel_rfl) (by kernel_rfl) (fun _ _ _ h => h) (by rfl) (by assumption) (fun w hSw => ?_) ?_; rotate_left; focus ((try dsimp only at hSw); go_simp; try with_reducible rfl)
  try simp only [Act.put, List.setIfInBounds_toArray, List.set_cons_zero, List.set_cons_succ]
  refine heldTake (i := 10) (v := ?_) rfl (by kernel_rfl) (by kernel_rfl) (fun _ _ _ h => h) (by rfl) (by assumption) (fun w hSw => ?_) ?_; rotate_left; focus ((try dsimp only at hSw); go_simp; try with_reducible rfl)
  try simp only [Act.put, List.setIfInBounds_toArray, List.set_cons_zero, List.set_cons_succ]
  refine heldTake (i := 11) (v := ?_) rfl (by kernel_rfl) (by kernel_rfl) (fun _ _ _ h => h) (by rfl) (by assumption) (fun w hSw => ?_) ?_; rotate_left; focus ((try dsimp only at hSw); go_simp; try with_reducible rfl)
  try simp only [Act.put, List.setIfInBounds_toArray, List.set_cons_zero, List.set_cons_succ]
  refine heldTake (i := 12) (v := ?_) rfl (by kernel_rfl) (by kernel_rfl) (fun _ _ _ h => h) (by rfl) (by assumption) (fun w hSw => ?_) ?_; rotate_left; focus ((try dsimp only at hSw); go_simp; try with_reducible rfl)
  try simp only [Act.put, List.setIfInBounds_toArray, List.set_cons_zero, List.set_cons_succ]
  refine heldTake (i := 13) (v := ?_) rfl (by kernel_rfl) (by kernel_rfl) (fun _ _ _ h => h) (by rfl) (by assumption) (fun w hSw => ?_) ?_; rotate_left; focus ((try dsimp only at hSw); go_simp; try with_reducible rfl)
  try simp only [Act.put, List.setIfInBounds_toArray, List.set_cons_zero, List.set_cons_succ]
  refine heldTake (i := 14) (v := ?_) rfl (by kernel_rfl) (by kernel_rfl) (fun _ _ _ h => h) (by rfl) (by assumption) (fun w hSw => ?_) ?_; rotate_left; focus ((try dsimp only at hSw); go_simp; try with_reducible rfl)
  try simp only [Act.put, List.setIfInBounds_toArray, List.set_cons_zero, List.set_cons_succ]
  refine heldTake (i := 15) (v := ?_) rfl (by kernel_rfl) (by kernel_rfl) (fun _ _ _ h => h) (by rfl) (by assumption) (fun w hSw => ?_) ?_; rotate_left; focus ((try dsimp only at hSw); go_simp; try with_reducible rfl)
  try simp only [Act.put, List.setIfInBounds_toArray, List.set_cons_zero, List.set_cons_succ]
  refine heldTake (i := 16) (v := ?_) rfl (by kernel_rfl) (by kernel_rfl) (fun _ _ _ h => h) (by rfl) (by assumption) (fun w hSw => ?_) ?_; rotate_left; focus ((try dsimp only at hSw); go_simp; try with_reducible rfl)
  try simp only [Act.put, List.setIfInBounds_toArray, List.set_cons_zero, List.set_cons_succ]
  refine heldTake (i := 17) (v := ?_) rfl (by kernel_rfl) (by kernel_rfl) (fun _ _ _ h => h) (by rfl) (by assumption) (fun w hSw => ?_) ?_; rotate_left; focus ((try dsimp only at hSw); go_simp; try with_reducible rfl)
  try simp only [Act.put, List.setIfInBounds_toArray, List.set_cons_zero, List.set_cons_succ]
  refine heldTake (i := 18) (v := ?_) rfl (by kernel_rfl) (by kernel_rfl) (fun _ _ _ h => h) (by rfl) (by assumption) (fun w hSw => ?_) ?_; rotate_left; focus ((try dsimp only at hSw); go_simp; try with_reducible rfl)
  try simp only [Act.put, List.setIfInBounds_toArray, List.set_cons_zero, List.set_cons_succ]
  refine heldTake (i := 19) (v := ?_) rfl (by kernel_rfl) (by kernel_rfl) (fun _ _ _ h => h) (by rfl) (by assumption) (fun w hSw => ?_) ?_; rotate_left; focus ((try dsimp only at hSw); go_simp; try with_reducible rfl)
  try simp only [Act.put, List.setIfInBounds_toArray, List.set_cons_zero, List.set_cons_succ]
  refine heldTake (i := 20) (v := ?_) rfl (by kernel_rfl) (by kernel_rfl) (fun _ _ _ h => h) (by rfl) (by assumption) (fun w hSw => ?_) ?_; rotate_left; focus ((try dsimp only at hSw); go_simp; try with_reducible rfl)
  try simp only [Act.put, List.setIfInBounds_toArray, List.set_cons_zero, List.set_cons_succ]
  refine heldTake (i := 21) (v := ?_) rfl (by kernel_rfl) (by kernel_rfl) (fun _ _ _ h => h) (by rfl) (by assumption) (fun w hSw => ?_) ?_; rotate_left; focus ((try dsimp only at hSw); go_simp; try with_reducible rfl)
  try simp only [Act.put, List.setIfInBounds_toArray, List.set_cons_zero, List.set_cons_succ]
  refine heldTake (i := 22) (v := ?_) rfl (by kernel_rfl) (by kernel_rfl) (fun _ _ _ h => h) (by rfl) (by assumption) (fun w hSw => ?_) ?_; rotate_left; focus ((try dsimp only at hSw); go_simp; try with_reducible rfl)
  try simp only [Act.put, List.setIfInBounds_toArray, List.set_cons_zero, List.set_cons_succ]
  refine heldTake (i := 24) (v := ?_) rfl (by kernel_rfl) (by kernel_rfl) (fun _ _ _ h => h) (by rfl) (by assumption) (fun w hSw => ?_) ?_; rotate_left; focus ((try dsimp only at hSw); go_simp; try with_reducible rfl)
  try simp only [Act.put, List.setIfInBounds_toArray, List.set_cons_zero, List.set_cons_succ]
  -- NEXT 23 Op.call { callee := Callee.value (Operand.func 14), args := #[Operand.tmp 59], argTypes := #[24] }
  refine heldNext (i := 23) rfl (by kernel_rfl) (by rfl) (fun K hK => ?_)
  go_simp; go_at_call 14; refine (T1.out _ HD.out.below).mono ?_; rintro e w5 ⟨rfl, hb5⟩; have H5 := Lib.hid (HD.out.next hb5); have s5 := HLS.out _ H5.out; clear hb5; refine hK.out _ _ s5 ?_; clear hK K
  try simp only [Act.put, List.setIfInBounds_toArray, List.set_cons_zero, List.set_cons_succ]
  -- NEXT 25 Op.call { callee := Callee.value (Operand.func 15), args := #[Operand.tmp 61], argTypes := #[24] }
  refine heldNext (i := 25) rfl (by kernel_rfl) (by rfl) (fun K hK => ?_)
  go_simp; go_at_call 15; refine (T2.out _).mono ?_; rintro e w6 ⟨rfl, hb6⟩; have H6 := Lib.hid (H5.out.next hb6); have s6 := HLS.out _ H6.out; clear hb6; refine hK.out _ _ s6 ?_; clear hK K
  try simp only [Act.put, List.setIfInBounds_toArray, List.set_cons_zero, List.set_cons_succ]
  refine heldTake (i := 26) (v := ?_) rfl (by kernel_rfl) (by kernel_rfl) (fun _ _ _ h => h) (by rfl) (by assumption) (fun w hSw => ?_) ?_; rotate_left; focus ((try dsimp only at hSw); go_simp; try with_reducible rfl)
  try simp only [Act.put, List.setIfInBounds_toArray, List.set_cons_zero, List.set_cons_succ]
  refine heldTake (i := 27) (v := ?_) rfl (by kernel_rfl) (by kernel_rfl) (fun _ _ _ h => h) (by rfl) (by assumption) (fun w hSw => ?_) ?_; rotate_left; focus ((try dsimp only at hSw); go_simp; try with_reducible rfl)
  try simp only [Act.put, List.setIfInBounds_toArray, List.set_cons_zero, List.set_cons_succ]
  refine heldTake (i := 28) (v := ?_) rfl (by kernel_rfl) (by kernel_rfl) (fun _ _ _ h => h) (by rfl) (by assumption) (fun w hSw => ?_) ?_; rotate_left; focus ((try dsimp only at hSw); go_simp; try with_reducible rfl)
  try simp only [Act.put, List.setIfInBounds_toArray, List.set_cons_zero, List.set_cons_succ]
  refine wpAnyH_done (by kernel_rfl) ?_ _

  have HB := Lib.hid H6.out.below
  clear s0 s5 s6 hH
  go_wp2
  go_ret
  exact ⟨rfl, HB.out⟩
end Go.Proofs.YtonophhhndhhhaaDoor
