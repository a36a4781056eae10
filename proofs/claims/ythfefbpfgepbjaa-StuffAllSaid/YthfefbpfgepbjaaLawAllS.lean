/- The law StuffAll walked. -/
import Derived.Test.YthfefbpfgepbjaaStuffLine
import Derived.Test.YthfefbpfgepbjaaStuffLaw
import Derived.Test.YthfefbpfgepbjaaStuffRefPut
import Derived.Test.YthfefbpfgepbjaaStuffRefBody
import Derived.Test.YthfefbpfgepbjaaOpenRows
import Derived.Test.YthfefbpfgepbjaaHeld
import Derived.ProofKit
import Derived.OpenShut
namespace Go.Proofs.Ythfefbpfgepbjaa
open Go.RowKit

/-- A body, and the reference's, side by side. -/
structure XY (W : World) (gx : Nat) (sx : Value) (bx : St.Bd) (gy : Nat) (sy : Value) (by_ : St.Bd) (most : Int) (wr : World) : Prop where
  x : BO wr W.heap.size gx sx most bx
  y : RO wr W.heap.size gy sy most by_
  b : Below W.heap.size W wr
  ne : gx ≠ gy
  ap : Ap sx sy
section
variable {W wr w' : World} {gx gy : Nat} {sx sy : Value} {bx b2 : St.Bd} {most : Int}
theorem XY.next (h : XY W gx sx bx gy sy b2 most wr) (hb : Below wr.heap.size wr w') : XY W gx sx bx gy sy b2 most w' := ⟨h.x.next hb, h.y.next hb, h.b.trans (hb.mono h.b.size), h.ne, h.ap⟩
theorem XY.linex (h : XY W gx sx bx gy sy b2 most wr) (t : ByteArray) (hs : bx.bs.length ≤ 1000000) (hn : bx.n ≤ 1000000) (ht : t.size ≤ 1000000) {x : Bool} {er : Nat} {b' : St.Bd} (hr : bx.line most t.data.toList = (x, er, b')) :
    Calls Try.prog 15 #[.pointer (some ⟨gx, 0, none⟩), .string t] wr fun e w' => ∃ s', e = .returned (.tuple #[.bool x, .int .i64 (er : Int)]) ∧ XY W gx s' b' gy sy b2 most w' := by
  refine (sline_any wr W.heap.size gx sx most bx t h.x hs hn ht h.b.size).mono ?_
  rintro e w' ⟨s', rfl, ho, hT, hN⟩
  rw [hr] at ho ⊢
  exact ⟨s', rfl, ho, h.y.past hT (fun e => h.ne e.symm) (own_not h.x.o h.y.c (by decide)) (own_not h.y.o h.x.c (by decide)) h.ap.symm, h.b.trans (h.x.turn hT h.b.size), h.ne, h.ap.next hN (fun k hk => (h.y.slt k hk).2)⟩
theorem XY.liney (h : XY W gx sx bx gy sy b2 most wr) (t : ByteArray) (hs : b2.bs.length ≤ 1000000) (hn : b2.n ≤ 1000000) (ht : t.size ≤ 1000000) {x : Bool} {er : Nat} {b' : St.Bd} (hr : b2.line most t.data.toList = (x, er, b')) :
    Calls Try.prog 16 #[.pointer (some ⟨gy, 0, none⟩), .string t] wr fun e w' => ∃ s', e = .returned (.tuple #[.bool x, .int .i64 (er : Int)]) ∧ XY W gx sx bx gy s' b' most w' := by
  refine (rline_any wr W.heap.size gy sy most b2 t h.y hs hn ht h.b.size).mono ?_
  rintro e w' ⟨s', rfl, ho, hT, hN⟩
  rw [hr] at ho ⊢
  exact ⟨s', rfl, h.x.past hT h.ne (own_not h.y.o h.x.c (by decide)) (own_not h.x.o h.y.c (by decide)) h.ap, ho, h.b.trans (h.y.turn hT h.b.size), h.ne, (h.ap.symm.next hN (fun k hk => (h.x.slt k hk).2)).symm⟩
theorem XY.bytes (h : XY W gx sx bx gy sy b2 most wr) (hs : bx.bs.length ≤ 1000000) {K : ByteArray} (hK : K = kt bx.bs) {n : Nat} (hn : n = K.size) :
    Calls Try.prog 17 #[.pointer (some ⟨gx, 0, none⟩)] wr fun e w' => ∃ ao c, e = .returned (.slice ao n c) ∧ (convert 22 9 (.slice ao n c)).run Try.prog w' = .ok (.string K) w' ∧ XY W gx sx bx gy sy b2 most w' := by
  subst hn hK
  refine (sbytes_any h.x (by omega)).mono ?_
  rintro e w' ⟨ao, c, rfl, hr, hb⟩
  exact ⟨ao, c, rfl, bytes_string hr, h.next hb⟩
theorem XY.lines (h : XY W gx sx bx gy sy b2 most wr) {n : Nat} (hn : n = bx.n) :
    Calls Try.prog 18 #[.pointer (some ⟨gx, 0, none⟩)] wr fun e w' => e = .returned (.int .i64 (n : Int)) ∧ wr = w' := by
  rw [hn]; exact slines_any h.x
/-- The reference's bytes as a text. -/
theorem XY.texty (h : XY W gx sx bx gy sy b2 most wr) {K : ByteArray} (hK : K = kt b2.bs) : (convert 22 9 sy).run Try.prog wr = .ok (.string K) wr := by
  rw [hK]; exact bytes_string h.y.rd
end

namespace St
/-- A line adds little. -/
theorem line_grows {m : Int} {b b' : Bd} {s : List UInt8} {x : Bool} {er : Nat} (h : b.line m s = (x, er, b')) : b'.bs.length ≤ b.bs.length + s.length + 2 ∧ b'.n ≤ b.n + 1 ∧ (er = 0 ∨ er = 72) := by
  unfold Bd.line at h
  split at h
  · cases h; exact ⟨by omega, by omega, .inl rfl⟩
  · split at h
    · cases h; exact ⟨by omega, by omega, .inr rfl⟩
    · cases h
      have := bare_len s
      refine ⟨?_, Nat.le_refl _, .inl rfl⟩
      show (b.bs ++ bare s ++ [13, 10]).length ≤ _
      rw [List.length_append, List.length_append]
      simp
      omega
end St
/-- The two, and the library's variable. -/
structure XM (W : World) (gx : Nat) (sx : Value) (bx : St.Bd) (gy : Nat) (sy : Value) (by_ : St.Bd) (most : Int) (wr : World) : Prop where
  o : XY W gx sx bx gy sy by_ most wr
  m : MX wr
theorem XM.next {W wr w' : World} {gx gy : Nat} {sx sy : Value} {bx b2 : St.Bd} {most : Int} (h : XM W gx sx bx gy sy b2 most wr) (hb : Below wr.heap.size wr w') : XM W gx sx bx gy sy b2 most w' := ⟨h.o.next hb, h.m.below hb⟩
theorem xm_text {W wr : World} {gx gy : Nat} {sx sy : Value} {bx b2 : St.Bd} {most : Int} (h : XM W gx sx bx gy sy b2 most wr) {f : Nat} {v : Value} {ys : List UInt8}
    (hc : Calls Try.prog f #[v] wr fun e w' => ∃ ao c, e = .returned (.slice ao ys.length c) ∧ Rd w' (.slice ao ys.length c) (ys.map bv) ∧ Below wr.heap.size wr w') {K : ByteArray} (hK : K = kt ys) {n : Nat} (hn : n = K.size) :
    Calls Try.prog f #[v] wr fun e w' => ∃ ao c, e = .returned (.slice ao n c) ∧ (convert 22 9 (.slice ao n c)).run Try.prog w' = .ok (.string K) w' ∧ Rd w' (.slice ao n c) (K.data.toList.map bv) ∧ XM W gx sx bx gy sy b2 most w' ∧ Below wr.heap.size wr w' := by
  subst hn hK
  refine hc.mono ?_
  rintro e w' ⟨ao, c, rfl, hr2, hb⟩
  exact ⟨ao, c, rfl, bytes_string hr2, hr2, h.next hb, hb⟩

/-- The first part's state: both are empty; since w3 there is new memory alone. -/
structure XT (W w3 : World) (gx gy : Nat) (most : Int) (wr : World) : Prop where
  o : XM W gx (.slice none 0 0) ⟨[], 0⟩ gy (.slice none 0 0) ⟨[], 0⟩ most wr
  b : Below w3.heap.size w3 wr
theorem XT.drew {W w3 : World} {gx gy : Nat} {most : Int} {wr : World} (h : XT W w3 gx gy most wr) : XT W w3 gx gy most wr.drew := ⟨h.o.next ((Below.refl _ _).drew), h.b.trans (((Below.refl wr.heap.size wr).drew).mono h.b.size)⟩
theorem xt_text {W w3 wr : World} {gx gy : Nat} {most : Int} (h : XT W w3 gx gy most wr) {f : Nat} {v : Value} {ys : List UInt8}
    (hc : Calls Try.prog f #[v] wr fun e w' => ∃ ao c, e = .returned (.slice ao ys.length c) ∧ Rd w' (.slice ao ys.length c) (ys.map bv) ∧ Below wr.heap.size wr w') {K : ByteArray} (hK : K = kt ys) {n : Nat} (hn : n = K.size) :
    Calls Try.prog f #[v] wr fun e w' => ∃ ao c, e = .returned (.slice ao n c) ∧ (convert 22 9 (.slice ao n c)).run Try.prog w' = .ok (.string K) w' ∧ Rd w' (.slice ao n c) (K.data.toList.map bv) ∧ XT W w3 gx gy most w' ∧ Below wr.heap.size wr w' := by
  refine (xm_text h.o hc hK hn).mono ?_
  rintro e w' ⟨ao, c, he, h1, h2, h3, h4⟩
  exact ⟨ao, c, he, h1, h2, ⟨h3, h.b.trans (h4.mono h.b.size)⟩, h4⟩

set_option maxRecDepth 20000 in
set_option maxHeartbeats 4000000 in
theorem lawAllS (v0 : Value) (x0 : List UInt8) (v1 : Value) (ys : List ByteArray) (m : Int) (h0 : x0.length ≤ maxLen) (h1 : ys.length ≤ maxLen) (hm : (Lit.int .i64 m).wf = true) (w : World) (r0 : Rd w v0 (x0.map bv)) (r1 : RdN 1 w v1 (ys.map fun y => [.string y])) (m1 : ∀ y ∈ ys, y.size ≤ maxLen) (ht : MX w) :
    Calls Try.prog 3 #[v0, v1, .int .i64 m] w fun e w' => e = .returned (.bool true) ∧ Below w.heap.size w w' := by
  have hmb := bounds_i64 hm
  obtain ⟨M, hM⟩ : ∃ M, M = max 0 m := ⟨_, rfl⟩
  obtain ⟨lo, cl, rfl, hcl, hll⟩ := r1.form
  rw [List.length_map] at hcl hll ⊢
  obtain ⟨L, hL⟩ : ∃ L, L = ys.length := ⟨_, rfl⟩
  rw [← hL] at h1 hcl hll ⊢
  have HLL := Lib.hid hll
  have HM0 := Lib.hid m1
  have HL := Lib.hid hL
  have HMM := Lib.hid hM
  have HMB := Lib.hid hmb
  unfold maxLen at h1
  clear hll m1 hL r1 hm hM hmb
  go_enter Try.func3, Try.ntmps3
  go_wp2_with fail
  refine (shown_any _ ht).mono ?_
  rintro e w1 ⟨rfl, hb1⟩
  have s0 := r0.below hb1
  have t1 := ht.below hb1
  clear r0 ht
  go_wp2_with fail
  refine (short_any v0 x0 _ s0 h0).mono ?_
  rintro e w1' ⟨va, rfl, ra, rfl⟩
  replace ra := ra _ s0
  obtain ⟨ao, ac, rfl, _, _⟩ := ra.form
  have la : (x0.take 600).length ≤ 600 := List.length_take_le _ _
  generalize x0.take 600 = xs at ra la ⊢
  obtain ⟨A, hA⟩ : ∃ A, A = xs.length := ⟨_, rfl⟩
  rw [← hA] at ra la ⊢
  have HA := Lib.hid hA
  have RA := Lib.hid ra
  have T1 := Lib.hid t1
  have B1 := Lib.hid hb1
  clear hA ra t1 hb1 s0 h0
  go_wp2_with fail
  refine (snew_any m (by have := HMB.out; omega) w1).mono ?_
  rintro e w2 ⟨rfl, hb2, hx2⟩
  rw [← HMM.out] at hx2
  have hgx : w1.heap.size < w2.heap.size := hx2.lt
  have B2 := Lib.hid hb2
  have X2 := Lib.hid hx2
  clear hb2 hx2
  go_wp2_with fail
  refine (rnew_any m (by have := HMB.out; omega) w2).mono ?_
  rintro e w3 ⟨rfl, hb3, hy3⟩
  rw [← HMM.out] at hy3
  have hb13 := B2.out.trans (hb3.mono B2.out.size)
  have hb03 := B1.out.trans (hb13.mono B1.out.size)
  have hx3 := X2.out.next hb3
  have hxy : XM w w1.heap.size (.slice none 0 0) ⟨[], 0⟩ w2.heap.size (.slice none 0 0) ⟨[], 0⟩ M w3 :=
    ⟨⟨⟨hx3.c, ownsRow_lower hx3.o B1.out.size, Nat.le_trans B1.out.size hx3.hg, hx3.h0, hx3.hm⟩,
      ⟨hy3.c, ownsRow_lower hy3.o (Nat.le_trans B1.out.size B2.out.size), Nat.le_trans (Nat.le_trans B1.out.size B2.out.size) hy3.hg, hy3.h0, hy3.hm⟩,
      hb03, by omega, Ap.none rfl⟩, T1.out.below hb13⟩
  have R3 := Lib.hid (RA.out.below hb13)
  generalize w1.heap.size = gx at hxy ⊢
  generalize w2.heap.size = gy at hxy ⊢
  obtain ⟨KP, hKP⟩ : ∃ K, K = kt (St.put xs) := ⟨_, rfl⟩
  obtain ⟨KW, hKW⟩ : ∃ K, K = kt (St.whole xs) := ⟨_, rfl⟩
  obtain ⟨PN, hPN⟩ : ∃ N, N = KP.size := ⟨_, rfl⟩
  obtain ⟨WN, hWN⟩ : ∃ N, N = KW.size := ⟨_, rfl⟩
  have hla : xs.length ≤ 600 := by rw [← HA.out]; exact la
  have C1 := Lib.hid (fun wr (h : XT w w3 gx gy M wr) => xt_text h (sput_any _ xs wr (R3.out.below h.b) (by omega) h.o.m) hKP hPN)
  have C2 := Lib.hid (fun wr (h : XT w w3 gx gy M wr) => xt_text h (rput_any _ xs wr (R3.out.below h.b) (by omega)) hKP hPN)
  have C3 := Lib.hid (fun wr (h : XT w w3 gx gy M wr) => xt_text h (whole_any _ xs wr (R3.out.below h.b) (by omega)) hKW hWN)
  have C4 := Lib.hid (fun wr (h : XT w w3 gx gy M wr) => xt_text h (rwhole_any _ xs wr (R3.out.below h.b) (by omega)) hKW hWN)
  have C5 := Lib.hid (fun wr v (hr : Rd wr v (KP.data.toList.map bv)) => (sv_ba KP) ▸ bytes_string hr)
  have C6 := Lib.hid (fun wr v (hr : Rd wr v (KW.data.toList.map bv)) => (sv_ba KW) ▸ bytes_string hr)
  have A0 := XT.drew (W := w) (w3 := w3) ⟨hxy, Below.refl _ _⟩
  clear hxy hKP hKW hPN hWN hla hb3 hy3 hb13 hb03 hx3 hgx B2 X2 T1 RA
  go_wp2
  refine wp_region_held_drew (S := fun w' => XT w w3 gx gy M w') (by kernel_rfl) (by assumption) (fun hH => ?_)
  -- (region 5)
  refine heldTake (i := 0) (v := ?_) rfl (by kernel_rfl) (by kernel_rfl) (fun _ _ _ h => h) (by rfl) (by assumption) (fun w hSw => ?_) ?_; rotate_left; focus ((try dsimp only at hSw); go_simp; try with_reducible rfl)
  try simp only [Act.put, List.setIfInBounds_toArray, List.set_cons_zero, List.set_cons_succ]
  refine heldTake (i := 1) (v := ?_) rfl (by kernel_rfl) (by kernel_rfl) (fun _ _ _ h => h) (by rfl) (by assumption) (fun w hSw => ?_) ?_; rotate_left; focus ((try dsimp only at hSw); go_simp; try with_reducible rfl)
  try simp only [Act.put, List.setIfInBounds_toArray, List.set_cons_zero, List.set_cons_succ]
  refine heldTake (i := 2) (v := ?_) rfl (by kernel_rfl) (by kernel_rfl) (fun _ _ _ h => h) (by rfl) (by assumption) (fun w hSw => ?_) ?_; rotate_left; focus ((try dsimp only at hSw); go_simp; try with_reducible rfl)
  try simp only [Act.put, List.setIfInBounds_toArray, List.set_cons_zero, List.set_cons_succ]
  refine heldTake (i := 3) (v := ?_) rfl (by kernel_rfl) (by kernel_rfl) (fun _ _ _ h => h) (by rfl) (by assumption) (fun w hSw => ?_) ?_; rotate_left; focus ((try dsimp only at hSw); go_simp; try with_reducible rfl)
  try simp only [Act.put, List.setIfInBounds_toArray, List.set_cons_zero, List.set_cons_succ]
  refine heldTake (i := 4) (v := ?_) rfl (by kernel_rfl) (by kernel_rfl) (fun _ _ _ h => h) (by rfl) (by assumption) (fun w hSw => ?_) ?_; rotate_left; focus ((try dsimp only at hSw); go_simp; try with_reducible rfl)
  try simp only [Act.put, List.setIfInBounds_toArray, List.set_cons_zero, List.set_cons_succ]
  refine heldTake (i := 5) (v := ?_) rfl (by kernel_rfl) (by kernel_rfl) (fun _ _ _ h => h) (by rfl) (by assumption) (fun w hSw => ?_) ?_; rotate_left; focus ((try dsimp only at hSw); go_simp; try with_reducible rfl)
  try simp only [Act.put, List.setIfInBounds_toArray, List.set_cons_zero, List.set_cons_succ]
  refine heldTake (i := 6) (v := ?_) rfl (by kernel_rfl) (by kernel_rfl) (fun _ _ _ h => h) (by rfl) (by assumption) (fun w hSw => ?_) ?_; rotate_left; focus ((try dsimp only at hSw); go_simp; try with_reducible rfl)
  try simp only [Act.put, List.setIfInBounds_toArray, List.set_cons_zero, List.set_cons_succ]
  refine heldTake (i := 7) (v := ?_) rfl (by kernel_rfl) (by kernel_rfl) (fun _ _ _ h => h) (by rfl) (by assumption) (fun w hSw => ?_) ?_; rotate_left; focus ((try dsimp only at hSw); go_simp; try with_reducible rfl)
  try simp only [Act.put, List.setIfInBounds_toArray, List.set_cons_zero, List.set_cons_succ]
  refine heldTake (i := 10) (v := ?_) rfl (by kernel_rfl) (by kernel_rfl) (fun _ _ _ h => h) (by rfl) (by assumption) (fun w hSw => ?_) ?_; rotate_left; focus ((try dsimp only at hSw); go_simp; try with_reducible rfl)
  try simp only [Act.put, List.setIfInBounds_toArray, List.set_cons_zero, List.set_cons_succ]
  -- NEXT 8 Op.call { callee := Callee.value (Operand.func 11), args := #[Operand.tmp 30], argTypes := #[22] }
  refine heldNext (i := 8) rfl (by kernel_rfl) (by rfl) (fun K hK => ?_)
  go_simp; go_at_call 11; refine (C1.out _ (by assumption)).mono ?_; rintro e w4 ⟨uo, uc, rfl, k4, r4, A4, b4⟩; first | (refine hK.out _ _ (by assumption) ?_) | (go_wp2_with fail; refine hK.out _ _ (by assumption) ?_); clear hK K
  refine heldMore (S' := fun w' => XT w w3 gx gy M w' ∧ (convert 22 9 (.slice uo PN uc)).run Try.prog w' = .ok (.string KP) w') (fun _ h => h.1) ?_
  have s4 := And.intro A4 k4
  try simp only [Act.put, List.setIfInBounds_toArray, List.set_cons_zero, List.set_cons_succ]
  refine heldTake (i := 9) (v := ?_) rfl (by kernel_rfl) (by kernel_rfl) (fun _ _ _ h => h) (by rfl) (by assumption) (fun w hSw => ?_) ?_; rotate_left; focus ((try dsimp only at hSw); go_simp; try with_reducible rfl)
  try simp only [Act.put, List.setIfInBounds_toArray, List.set_cons_zero, List.set_cons_succ]
  -- NEXT 11 Op.call { callee := Callee.value (Operand.func 12), args := #[Operand.tmp 33], argTypes := #[22] }
  refine heldNext (i := 11) rfl (by kernel_rfl) (by rfl) (fun K hK => ?_)
  go_simp; go_at_call 12; refine (C2.out _ (And.left (by assumption))).mono ?_; rintro e w5 ⟨yo, yc, rfl, k5, r5, A5, b5⟩; have s5 := And.intro A5 (C5.out _ _ (r4.below b5)); first | (refine hK.out _ _ (by assumption) ?_) | (go_wp2_with fail; refine hK.out _ _ (by assumption) ?_); clear hK K
  try simp only [Act.put, List.setIfInBounds_toArray, List.set_cons_zero, List.set_cons_succ]
  -- NEXT 12 Op.convert 22 9 (Operand.tmp 34)
  refine heldNext (i := 12) rfl (by kernel_rfl) (by rfl) (fun K hK => ?_)
  go_simp; refine hK.out _ _ (by assumption) ?_; clear hK K
  try simp only [Act.put, List.setIfInBounds_toArray, List.set_cons_zero, List.set_cons_succ]
  refine heldTake (i := 13) (v := ?_) rfl (by kernel_rfl) (by kernel_rfl) (fun _ _ _ h => h) (by rfl) (by assumption) (fun w hSw => ?_) ?_; rotate_left; focus ((try dsimp only at hSw); go_simp; try with_reducible rfl)
  try simp only [Act.put, List.setIfInBounds_toArray, List.set_cons_zero, List.set_cons_succ]
  refine heldTake (i := 14) (v := ?_) rfl (by kernel_rfl) (by kernel_rfl) (fun _ _ _ h => h) (by rfl) (by assumption) (fun w hSw => ?_) ?_; rotate_left; focus ((try dsimp only at hSw); go_simp; try with_reducible rfl)
  try simp only [Act.put, List.setIfInBounds_toArray, List.set_cons_zero, List.set_cons_succ]
  refine heldTake (i := 15) (v := ?_) rfl (by kernel_rfl) (by kernel_rfl) (fun _ _ _ h => h) (by rfl) (by assumption) (fun w hSw => ?_) ?_; rotate_left; focus ((try dsimp only at hSw); go_simp; try with_reducible rfl)
  try simp only [Act.put, List.setIfInBounds_toArray, List.set_cons_zero, List.set_cons_succ]
  refine heldTake (i := 16) (v := ?_) rfl (by kernel_rfl) (by kernel_rfl) (fun _ _ _ h => h) (by rfl) (by assumption) (fun w hSw => ?_) ?_; rotate_left; focus ((try dsimp only at hSw); go_simp; try with_reducible rfl)
  try simp only [Act.put, List.setIfInBounds_toArray, List.set_cons_zero, List.set_cons_succ]
  refine heldTake (i := 19) (v := ?_) rfl (by kernel_rfl) (by kernel_rfl) (fun _ _ _ h => h) (by rfl) (by assumption) (fun w hSw => ?_) ?_; rotate_left; focus ((try dsimp only at hSw); go_simp; try with_reducible rfl)
  try simp only [Act.put, List.setIfInBounds_toArray, List.set_cons_zero, List.set_cons_succ]
  -- NEXT 17 Op.call { callee := Callee.value (Operand.func 13), args := #[Operand.tmp 39], argTypes := #[22] }
  refine heldNext (i := 17) rfl (by kernel_rfl) (by rfl) (fun K hK => ?_)
  go_simp; go_at_call 13; refine (C3.out _ (And.left (by assumption))).mono ?_; rintro e w6 ⟨zo, zc, rfl, k6, r6, A6, b6⟩; have k46 := C5.out _ _ ((r4.below b5).below b6); have s6 := And.intro A6 k46; first | (refine hK.out _ _ (by assumption) ?_) | (go_wp2_with fail; refine hK.out _ _ (by assumption) ?_); clear hK K
  refine heldMore (S' := fun w' => (XT w w3 gx gy M w' ∧ (convert 22 9 (.slice uo PN uc)).run Try.prog w' = .ok (.string KP) w') ∧ (convert 22 9 (.slice zo WN zc)).run Try.prog w' = .ok (.string KW) w') (fun _ h => h.1) ?_
  have s6b := And.intro s6 k6
  try simp only [Act.put, List.setIfInBounds_toArray, List.set_cons_zero, List.set_cons_succ]
  refine heldTake (i := 18) (v := ?_) rfl (by kernel_rfl) (by kernel_rfl) (fun _ _ _ h => h) (by rfl) (by assumption) (fun w hSw => ?_) ?_; rotate_left; focus ((try dsimp only at hSw); go_simp; try with_reducible rfl)
  try simp only [Act.put, List.setIfInBounds_toArray, List.set_cons_zero, List.set_cons_succ]
  -- NEXT 20 Op.call { callee := Callee.value (Operand.func 14), args := #[Operand.tmp 42], argTypes := #[22] }
  refine heldNext (i := 20) rfl (by kernel_rfl) (by rfl) (fun K hK => ?_)
  go_simp; go_at_call 14; refine (C4.out _ (And.left (And.left (by assumption)))).mono ?_; rintro e w7 ⟨po, pc, rfl, k7, r7, A7, b7⟩; have s7 := And.intro (And.intro A7 (C5.out _ _ (((r4.below b5).below b6).below b7))) (C6.out _ _ (r6.below b7)); first | (refine hK.out _ _ (by assumption) ?_) | (go_wp2_with fail; refine hK.out _ _ (by assumption) ?_); clear hK K
  try simp only [Act.put, List.setIfInBounds_toArray, List.set_cons_zero, List.set_cons_succ]
  -- NEXT 21 Op.convert 22 9 (Operand.tmp 43)
  refine heldNext (i := 21) rfl (by kernel_rfl) (by rfl) (fun K hK => ?_)
  go_simp; refine hK.out _ _ (by assumption) ?_; clear hK K
  try simp only [Act.put, List.setIfInBounds_toArray, List.set_cons_zero, List.set_cons_succ]
  refine heldTake (i := 22) (v := ?_) rfl (by kernel_rfl) (by kernel_rfl) (fun _ _ _ h => h) (by rfl) (by assumption) (fun w hSw => ?_) ?_; rotate_left; focus ((try dsimp only at hSw); go_simp; try with_reducible rfl)
  try simp only [Act.put, List.setIfInBounds_toArray, List.set_cons_zero, List.set_cons_succ]
  refine heldTake (i := 23) (v := ?_) rfl (by kernel_rfl) (by kernel_rfl) (fun _ _ _ h => h) (by rfl) (by assumption) (fun w hSw => ?_) ?_; rotate_left; focus ((try dsimp only at hSw); go_simp; try with_reducible rfl)
  try simp only [Act.put, List.setIfInBounds_toArray, List.set_cons_zero, List.set_cons_succ]
  refine wpAnyH_done (by kernel_rfl) ?_ _
  -- (behind region 5)
  have HXT := Lib.hid A7
  clear A0 A4 A5 A6 A7 k4 k5 k6 k7 k46 s4 s5 s6 s6b s7 r4 r5 r6 r7 b4 b5 b6 b7 C1 C2 C3 C4 C5 C6
  go_wp2
  go_loopw [10, 11, 12, 13, 14, 15] (fun i _ _ _ _ _ wr => ∃ (k : Nat) (b : St.Bd) (sx sy : Value), i = .int .i64 k ∧ k ≤ 30 ∧ Hid (XY w gx sx b gy sy b M wr ∧ b.bs.length ≤ 602 * k ∧ b.n ≤ k)) (fun i _ _ _ _ _ _ => 30 - (intOf i).toNat)
  case atStart => exact ⟨0, ⟨[], 0⟩, _, _, rfl, by omega, HXT.out.o.o, by show 0 ≤ _; omega, Nat.le_refl _⟩
  case round =>
    obtain ⟨k, b, sx, sy, rfl, hk, hR⟩ := hrel
    by_cases hlt : k < L ∧ k < 30
    · obtain ⟨hkL, hk30⟩ := hlt
      obtain ⟨y, hy⟩ : ∃ y, ys[k]? = some y := ⟨_, List.getElem?_eq_getElem (by rw [← HL.out]; exact hkL)⟩
      obtain ⟨bb, oo, rfl, hcm, hcell⟩ := HLL.out (by omega)
      have hce : w.cell? ⟨bb, oo + k, none⟩ = some (.string y) := by
        have := hcell k [.string y] (by rw [List.getElem?_map, hy]; rfl) 0 (.string y) rfl
        simpa using this
      have hcw : wr.cell? ⟨bb, oo + k, none⟩ = some (.string y) := (hR.out.1.b.cell (World.block_lt_of_cell? w _ hce)).trans hce
      have hys : y.size ≤ maxLen := HM0.out y (List.mem_of_getElem? hy)
      clear hy hcell hcm hce
      obtain ⟨wc, cap, hcv, hrd, hbc⟩ := to_bytes wr y hys
      have i0 : (k : Int) < (L : Int) := by omega
      have i1 : (k : Int) < 30 := by omega
      have hsh := short_any _ y.data.toList wc hrd (by rw [← Lib.size_eq]; exact hys)
      have HSH := Lib.hid hsh
      have HRD := Lib.hid hrd
      have HXC := Lib.hid (hR.out.1.next hbc)
      have HBD := Lib.hid hR.out.2
      clear hsh hrd hbc hR hys
      go_wp2_with fail
      refine HSH.out.mono ?_
      rintro e wd ⟨vz, rfl, rz, hwd⟩
      rw [← hwd]
      replace rz := rz _ HRD.out
      clear hwd HSH HRD
      obtain ⟨zo, zc, rfl, _, _⟩ := rz.form
      have hzl : (y.data.toList.take 600).length ≤ 600 := List.length_take_le _ _
      generalize y.data.toList.take 600 = zs at rz hzl ⊢
      obtain ⟨T, hT⟩ : ∃ T, T = kt zs := ⟨_, rfl⟩
      have hcz := bytes_string rz
      rw [show sv zs = .string T by rw [hT]; rfl] at hcz
      have hTs : T.size ≤ 600 := by rw [hT, kt_size]; exact hzl
      obtain ⟨Z, hZ⟩ : ∃ Z, Z = zs.length := ⟨_, rfl⟩
      rw [← hZ] at hcz ⊢
      obtain ⟨x, er, b', hr⟩ : ∃ x er b', b.line M T.data.toList = (x, er, b') := ⟨_, _, _, rfl⟩
      have hgr := St.line_grows hr
      rw [← Lib.size_eq] at hgr
      have CX := Lib.hid (HXC.out.linex T (by have := HBD.out.1; omega) (by have := HBD.out.2; omega) (by omega) hr)
      have HR := Lib.hid hr
      have HGR := Lib.hid hgr
      clear rz hzl hT hZ hr hgr
      go_wp2_with fail
      refine CX.out.mono ?_
      rintro e we ⟨sx2, rfl, hxe⟩
      have CY := Lib.hid (hxe.liney T (by have := HBD.out.1; omega) (by have := HBD.out.2; omega) (by omega) HR.out)
      clear CX hxe
      go_wp2_with fail
      refine CY.out.mono ?_
      rintro e wf ⟨sy2, rfl, hxf⟩
      clear CY
      obtain ⟨so, sc, rfl⟩ := own_form hxf.y.o
      obtain ⟨KB, hKB⟩ : ∃ K, K = kt b'.bs := ⟨_, rfl⟩
      obtain ⟨BN, hBN⟩ : ∃ N, N = KB.size := ⟨_, rfl⟩
      obtain ⟨N, hN⟩ : ∃ N, N = b'.n := ⟨_, rfl⟩
      obtain ⟨BL, hBL⟩ : ∃ N, N = b'.bs.length := ⟨_, rfl⟩
      rw [← hBL] at hxf
      have hb1 : b'.bs.length ≤ 602 * (k + 1) := by have := HGR.out.1; have := HBD.out.1; omega
      have hb2 : b'.n ≤ k + 1 := by have := HGR.out.2.1; have := HBD.out.2; omega
      have D1 := Lib.hid (fun wr (h : XY w gx sx2 b' gy (.slice so BL sc) b' M wr) => h.bytes (by omega) hKB hBN)
      have D2 := Lib.hid (fun wr (h : XY w gx sx2 b' gy (.slice so BL sc) b' M wr) => h.lines hN)
      have DS := Lib.hid (fun wr (h : XY w gx sx2 b' gy (.slice so BL sc) b' M wr) => show XY w gx sx2 b' gy (.slice so BL sc) b' M wr ∧ wr.cell? ⟨gy, 0, none⟩ = some (.slice so BL sc) ∧ wr.cell? ⟨gy, 1, none⟩ = some (.int .i64 (N : Int)) ∧ (convert 22 9 (.slice so BL sc)).run Try.prog wr = .ok (.string KB) wr from ⟨h, h.y.c0, by rw [hN]; exact h.y.c1, h.texty hKB⟩)
      have sf := DS.out _ (hxf.next ((Below.refl _ _).drew))
      have HB := Lib.hid (And.intro hb1 hb2)
      clear hxf hKB hBN hN hBL hb1 hb2 HR HGR HBD
      go_wp2
      refine wp_region_held_drew (S := fun w' => XY w gx sx2 b' gy (.slice so BL sc) b' M w' ∧ w'.cell? ⟨gy, 0, none⟩ = some (.slice so BL sc) ∧ w'.cell? ⟨gy, 1, none⟩ = some (.int .i64 (N : Int)) ∧ (convert 22 9 (.slice so BL sc)).run Try.prog w' = .ok (.string KB) w') (by kernel_rfl) (by assumption) (fun hH => ?_)
      -- (region 13)
      refine heldTake (i := 0) (v := ?_) rfl (by kernel_rfl) (by kernel_rfl) (fun _ _ _ h => h) (by rfl) (by assumption) (fun w hSw => ?_) ?_; rotate_left; focus ((try dsimp only at hSw); go_simp; try with_reducible rfl)
      try simp only [Act.put, List.setIfInBounds_toArray, List.set_cons_zero, List.set_cons_succ]
      refine heldTake (i := 1) (v := ?_) rfl (by kernel_rfl) (by kernel_rfl) (fun _ _ _ h => h) (by rfl) (by assumption) (fun w hSw => ?_) ?_; rotate_left; focus ((try dsimp only at hSw); go_simp; try with_reducible rfl)
      try simp only [Act.put, List.setIfInBounds_toArray, List.set_cons_zero, List.set_cons_succ]
      refine heldTake (i := 2) (v := ?_) rfl (by kernel_rfl) (by kernel_rfl) (fun _ _ _ h => h) (by rfl) (by assumption) (fun w hSw => ?_) ?_; rotate_left; focus ((try dsimp only at hSw); go_simp; try with_reducible rfl)
      try simp only [Act.put, List.setIfInBounds_toArray, List.set_cons_zero, List.set_cons_succ]
      refine heldTake (i := 3) (v := ?_) rfl (by kernel_rfl) (by kernel_rfl) (fun _ _ _ h => h) (by rfl) (by assumption) (fun w hSw => ?_) ?_; rotate_left; focus ((try dsimp only at hSw); go_simp; try with_reducible rfl)
      try simp only [Act.put, List.setIfInBounds_toArray, List.set_cons_zero, List.set_cons_succ]
      refine heldTake (i := 4) (v := ?_) rfl (by kernel_rfl) (by kernel_rfl) (fun _ _ _ h => h) (by rfl) (by assumption) (fun w hSw => ?_) ?_; rotate_left; focus ((try dsimp only at hSw); go_simp; try with_reducible rfl)
      try simp only [Act.put, List.setIfInBounds_toArray, List.set_cons_zero, List.set_cons_succ]
      refine heldTake (i := 5) (v := ?_) rfl (by kernel_rfl) (by kernel_rfl) (fun _ _ _ h => h) (by rfl) (by assumption) (fun w hSw => ?_) ?_; rotate_left; focus ((try dsimp only at hSw); go_simp; try with_reducible rfl)
      try simp only [Act.put, List.setIfInBounds_toArray, List.set_cons_zero, List.set_cons_succ]
      refine heldTake (i := 6) (v := ?_) rfl (by kernel_rfl) (by kernel_rfl) (fun _ _ _ h => h) (by rfl) (by assumption) (fun w hSw => ?_) ?_; rotate_left; focus ((try dsimp only at hSw); go_simp; try with_reducible rfl)
      try simp only [Act.put, List.setIfInBounds_toArray, List.set_cons_zero, List.set_cons_succ]
      refine heldTake (i := 7) (v := ?_) rfl (by kernel_rfl) (by kernel_rfl) (fun _ _ _ h => h) (by rfl) (by assumption) (fun w hSw => ?_) ?_; rotate_left; focus ((try dsimp only at hSw); go_simp; try with_reducible rfl)
      try simp only [Act.put, List.setIfInBounds_toArray, List.set_cons_zero, List.set_cons_succ]
      refine heldTake (i := 8) (v := ?_) rfl (by kernel_rfl) (by kernel_rfl) (fun _ _ _ h => h) (by rfl) (by assumption) (fun w hSw => ?_) ?_; rotate_left; focus ((try dsimp only at hSw); go_simp; try with_reducible rfl)
      try simp only [Act.put, List.setIfInBounds_toArray, List.set_cons_zero, List.set_cons_succ]
      refine heldTake (i := 9) (v := ?_) rfl (by kernel_rfl) (by kernel_rfl) (fun _ _ _ h => h) (by rfl) (by assumption) (fun w hSw => ?_) ?_; rotate_left; focus ((try dsimp only at hSw); go_simp; try with_reducible rfl)
      try simp only [Act.put, List.setIfInBounds_toArray, List.set_cons_zero, List.set_cons_succ]
      refine heldTake (i := 12) (v := ?_) rfl (by kernel_rfl) (by kernel_rfl) (fun _ _ _ h => h) (by rfl) (by assumption) (fun w hSw => ?_) ?_; rotate_left; focus ((try dsimp only at hSw); go_simp; try with_reducible rfl)
      try simp only [Act.put, List.setIfInBounds_toArray, List.set_cons_zero, List.set_cons_succ]
      refine heldTake (i := 13) (v := ?_) rfl (by kernel_rfl) (by kernel_rfl) (fun _ _ _ h => h) (by rfl) (by assumption) (fun w hSw => ?_) ?_; rotate_left; focus ((try dsimp only at hSw); go_simp; try with_reducible rfl)
      try simp only [Act.put, List.setIfInBounds_toArray, List.set_cons_zero, List.set_cons_succ]
      refine heldTake (i := 14) (v := ?_) rfl (by kernel_rfl) (by kernel_rfl) (fun _ _ _ h => h) (by rfl) (by assumption) (fun w hSw => ?_) ?_; rotate_left; focus ((try dsimp only at hSw); go_simp; try with_reducible rfl)
      try simp only [Act.put, List.setIfInBounds_toArray, List.set_cons_zero, List.set_cons_succ]
      refine heldTake (i := 15) (v := ?_) rfl (by kernel_rfl) (by kernel_rfl) (fun _ _ _ h => h) (by rfl) (by assumption) (fun w hSw => ?_) ?_; rotate_left; focus ((try dsimp only at hSw); go_simp; try with_reducible rfl)
      try simp only [Act.put, List.setIfInBounds_toArray, List.set_cons_zero, List.set_cons_succ]
      refine heldTake (i := 16) (v := ?_) rfl (by kernel_rfl) (by kernel_rfl) (fun _ _ _ h => h) (by rfl) (by assumption) (fun w hSw => ?_) ?_; rotate_left; focus ((try dsimp only at hSw); go_simp; try with_reducible rfl)
      try simp only [Act.put, List.setIfInBounds_toArray, List.set_cons_zero, List.set_cons_succ]
      -- NEXT 10 Op.call { callee := Callee.value (Operand.func 17), args := #[Operand.tmp 85], argTypes := #[26] }
      refine heldNext (i := 10) rfl (by kernel_rfl) (by rfl) (fun K hK => ?_)
      go_simp; go_at_call 17; refine (D1.out _ (And.left (by assumption))).mono ?_; rintro e wx ⟨uo, uc, rfl, kx, AX⟩; have sx := DS.out _ AX; first | (refine hK.out _ _ (by assumption) ?_) | (go_wp2_with fail; refine hK.out _ _ (by assumption) ?_); clear hK K
      try simp only [Act.put, List.setIfInBounds_toArray, List.set_cons_zero, List.set_cons_succ]
      -- NEXT 11 Op.convert 22 9 (Operand.tmp 86)
      refine heldNext (i := 11) rfl (by kernel_rfl) (by rfl) (fun K hK => ?_)
      go_simp; refine hK.out _ _ (by assumption) ?_; clear hK K
      try simp only [Act.put, List.setIfInBounds_toArray, List.set_cons_zero, List.set_cons_succ]
      refine heldTake (i := 17) (v := ?_) rfl (by kernel_rfl) (by kernel_rfl) (fun _ _ _ h => h) (by rfl) (by assumption) (fun w hSw => ?_) ?_; rotate_left; focus ((try dsimp only at hSw); go_simp; try with_reducible rfl)
      try simp only [Act.put, List.setIfInBounds_toArray, List.set_cons_zero, List.set_cons_succ]
      refine heldTake (i := 18) (v := ?_) rfl (by kernel_rfl) (by kernel_rfl) (fun _ _ _ h => h) (by rfl) (by assumption) (fun w hSw => ?_) ?_; rotate_left; focus ((try dsimp only at hSw); go_simp; try with_reducible rfl)
      try simp only [Act.put, List.setIfInBounds_toArray, List.set_cons_zero, List.set_cons_succ]
      refine heldTake (i := 19) (v := ?_) rfl (by kernel_rfl) (by kernel_rfl) (fun _ _ _ h => h) (by rfl) (by assumption) (fun w hSw => ?_) ?_; rotate_left; focus ((try dsimp only at hSw); go_simp; try with_reducible rfl)
      try simp only [Act.put, List.setIfInBounds_toArray, List.set_cons_zero, List.set_cons_succ]
      refine heldTake (i := 20) (v := ?_) rfl (by kernel_rfl) (by kernel_rfl) (fun _ _ _ h => h) (by rfl) (by assumption) (fun w hSw => ?_) ?_; rotate_left; focus ((try dsimp only at hSw); go_simp; try with_reducible rfl)
      try simp only [Act.put, List.setIfInBounds_toArray, List.set_cons_zero, List.set_cons_succ]
      refine heldTake (i := 22) (v := ?_) rfl (by kernel_rfl) (by kernel_rfl) (fun _ _ _ h => h) (by rfl) (by assumption) (fun w hSw => ?_) ?_; rotate_left; focus ((try dsimp only at hSw); go_simp; try with_reducible rfl)
      try simp only [Act.put, List.setIfInBounds_toArray, List.set_cons_zero, List.set_cons_succ]
      refine heldTake (i := 23) (v := ?_) rfl (by kernel_rfl) (by kernel_rfl) (fun _ _ _ h => h) (by rfl) (by assumption) (fun w hSw => ?_) ?_; rotate_left; focus ((try dsimp only at hSw); go_simp; try with_reducible rfl)
      try simp only [Act.put, List.setIfInBounds_toArray, List.set_cons_zero, List.set_cons_succ]
      refine heldTake (i := 24) (v := ?_) rfl (by kernel_rfl) (by kernel_rfl) (fun _ _ _ h => h) (by rfl) (by assumption) (fun w hSw => ?_) ?_; rotate_left; focus ((try dsimp only at hSw); go_simp; try with_reducible rfl)
      try simp only [Act.put, List.setIfInBounds_toArray, List.set_cons_zero, List.set_cons_succ]
      refine heldTake (i := 25) (v := ?_) rfl (by kernel_rfl) (by kernel_rfl) (fun _ _ _ h => h) (by rfl) (by assumption) (fun w hSw => ?_) ?_; rotate_left; focus ((try dsimp only at hSw); go_simp; try with_reducible rfl)
      try simp only [Act.put, List.setIfInBounds_toArray, List.set_cons_zero, List.set_cons_succ]
      -- NEXT 21 Op.call { callee := Callee.value (Operand.func 18), args := #[Operand.tmp 96], argTypes := #[26] }
      refine heldNext (i := 21) rfl (by kernel_rfl) (by rfl) (fun K hK => ?_)
      go_simp; go_at_call 18; refine (D2.out _ (And.left (by assumption))).mono ?_; rintro e wz ⟨rfl, hwz⟩; have AZ := AX; have sz := sx; rw [hwz] at AZ sz; first | (refine hK.out _ _ (by assumption) ?_) | (go_wp2_with fail; refine hK.out _ _ (by assumption) ?_); clear hK K
      try simp only [Act.put, List.setIfInBounds_toArray, List.set_cons_zero, List.set_cons_succ]
      refine heldTake (i := 26) (v := ?_) rfl (by kernel_rfl) (by kernel_rfl) (fun _ _ _ h => h) (by rfl) (by assumption) (fun w hSw => ?_) ?_; rotate_left; focus ((try dsimp only at hSw); go_simp; try with_reducible rfl)
      try simp only [Act.put, List.setIfInBounds_toArray, List.set_cons_zero, List.set_cons_succ]
      refine heldTake (i := 27) (v := ?_) rfl (by kernel_rfl) (by kernel_rfl) (fun _ _ _ h => h) (by rfl) (by assumption) (fun w hSw => ?_) ?_; rotate_left; focus ((try dsimp only at hSw); go_simp; try with_reducible rfl)
      try simp only [Act.put, List.setIfInBounds_toArray, List.set_cons_zero, List.set_cons_succ]
      refine wpAnyH_done (by kernel_rfl) ?_ _
      -- (behind region 13)
      go_wp2
      go_roundw
      case rel => exact ⟨k + 1, b', sx2, _, by go_num, by omega, AZ, HB.out.1, HB.out.2⟩
      case measure => simp [intOf]; omega
    · have hR2 := hR.out.1.b
      clear hR
      by_cases hkL : k < L
      · obtain rfl : k = 30 := by omega
        go_wp2
        go_ret
        exact ⟨rfl, hR2⟩
      · clear hlt
        go_wp2
        go_ret
        exact ⟨rfl, hR2⟩
end Go.Proofs.Ythfefbpfgepbjaa
