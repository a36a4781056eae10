/- CapsOwn walked. -/
import Derived.Test.YtomeoploojjacaaDoorLawAllC
namespace Go.Proofs.YtomeoploojjacaaDoor
open Go.RowKit
namespace Cp
open Tx
theorem mem_flat {x : List UInt8} : ∀ {ws : List (List UInt8)}, x ∈ ws → x.length ≤ ws.flatten.length
  | [], h => by cases h
  | y :: ws, h => by
    rw [List.flatten_cons, List.length_append]
    rcases List.mem_cons.1 h with rfl | h
    · omega
    · have := mem_flat h
      omega
theorem word_len {ls : List (List UInt8)} {m : Nat} (h : ∀ x ∈ ls, x.length ≤ m) : ∀ c ∈ ofLines ls, c.name.length ≤ m ∧ ∀ x ∈ c.args, x.length ≤ m := by
  intro c hc
  obtain ⟨l, hl, e⟩ := List.mem_filterMap.1 hc
  have h1 := cap_words e
  have h2 := (words_len (up l)).1
  rw [up_len] at h2
  have h3 := h l hl
  refine ⟨?_, fun x hx => ?_⟩
  · have := mem_flat (x := c.name) (ws := words (up l)) (by rw [h1]; simp)
    omega
  · have := mem_flat (x := x) (ws := words (up l)) (by rw [h1]; simp [hx])
    omega
theorem of_few (proto : Int) {ls : List (List UInt8)} {xs : List UInt8} (h1 : ls.length ≤ 24) (h2 : xs.length ≤ 1000) : (of proto ls xs).length ≤ 600 := by
  have h3 := ofLines_len (count proto ls xs)
  have h4 : (count proto ls xs).length ≤ 600 := by
    unfold count
    split
    · rw [List.length_drop]; omega
    · split
      · rw [List.length_dropLast, List.length_drop]; omega
      · split
        · have := linesOf_len xs; omega
        · simp
  unfold of
  omega
/-- What CapsOwn asks of each. -/
structure OwnC (cs : List Cap) (c : Cap) : Prop where
  name : has cs c.name = true
  up : Tx.up c.name = c.name
  ne : c.name ≠ []
  len : c.name.length ≤ 1000
  argLen : ∀ x ∈ c.args, x.length ≤ 1000
  args : ∀ x ∈ c.args, has cs (32 :: c.name ++ 32 :: 32 :: x) = true
theorem own_of (proto : Int) {ls : List (List UInt8)} {xs : List UInt8} (h : ∀ x ∈ count proto ls xs, x.length ≤ 1000) : ∀ c ∈ of proto ls xs, OwnC (of proto ls xs) c := fun c hc =>
  ⟨own_name hc, (cap_word hc).1.2.2, (cap_word hc).1.1, (word_len h c hc).1, (word_len h c hc).2, fun _ hx => own_arg hc hx⟩
end Cp

set_option maxRecDepth 20000 in
set_option maxHeartbeats 2000000 in
theorem lawOwnC (proto : Int) (code : ByteArray) (lv : Value) (ys : List ByteArray) (bo : Value) (xs : List UInt8) (_hp : (Lit.int .i64 proto).wf = true) (_hc : code.size ≤ maxLen) (hn : ys.length ≤ maxLen) (hx : xs.length ≤ maxLen)
    (w : World) (rd : RdN 1 w lv (ys.map fun y => [.string y])) (_hz : ∀ y ∈ ys, y.size ≤ maxLen) (rb : Rd w bo (xs.map bv)) (hm : MX w) :
    Calls Tryd.prog 4 #[.int .i64 proto, .agg #[.string code, lv, bo]] w fun e w' => e = .returned (.bool true) ∧ Below w.heap.size w w' := by
  obtain ⟨w0, hw0⟩ : ∃ w0, w0 = w.alloc (.cells #[.string code, lv, bo] 25 (0, 0)) := ⟨_, rfl⟩
  have hal : Below w.heap.size w w0 := by rw [hw0]; exact (Below.refl _ _).alloc (Nat.le_refl _) _
  have hrb : RB w0 w.heap.size code lv bo := by rw [hw0]; exact heap_alloc_new w _
  have CS := Lib.hid (cshown_any w0 (hm.below hal))
  have hls : (ys.map fun y => y.data.toList).length ≤ maxLen := by rw [List.length_map]; exact hn
  have CF := Lib.hid (fun wx (h : Below w.heap.size w wx) => few_any code lv bo _ xs wx ((Rw1.of_n rd).below h) (rb.below h) hls hx)
  have HM := Lib.hid hm
  have HRB := Lib.hid rb
  have HAL := Lib.hid hal
  have HR := Lib.hid hrb
  have HW0 := Lib.hid hw0
  clear hm hls hal hrb rd rb hw0 hn hx
  go_enter Tryd.func4, Tryd.ntmps4
  go_wp2_with fail
  rw [← HW0.out]
  refine CS.out.mono ?_
  rintro e w1 ⟨rfl, hb1⟩
  have HR1 := Lib.hid (HR.out.below hb1)
  have HB1 := Lib.hid (HAL.out.trans (hb1.mono HAL.out.size))
  obtain ⟨k0, k1, k2, k3⟩ := HR1.out.k
  clear hb1
  go_wp2_with fail
  refine (CF.out _ HB1.out).mono ?_
  rintro e w2 ⟨lv', bo', ls', xs', rfl, hlv, hbo, hl1, hl2, hx1, hown, hb2⟩
  have hb2' := HB1.out.trans (hb2.mono HB1.out.size)
  have h24 : ∀ x ∈ ls', x.length ≤ 1000 := fun x hx => Nat.le_trans (hl2 x hx) (by decide)
  have CA := of_any proto code lv' bo' ls' xs' w2 hlv (hbo w2 (HRB.out.below hb2')) (Nat.le_trans hl1 (by decide)) hx1 h24 (HM.out.below hb2')
  have hcl := Cp.of_few proto hl1 hx1
  have hca := Cp.of_args proto (Cp.count_each proto h24 hx1)
  have hoc := Cp.own_of proto (Cp.count_each proto h24 hx1)
  obtain ⟨cs, hcs⟩ : ∃ cs, cs = Cp.of proto ls' xs' := ⟨_, rfl⟩
  rw [← hcs] at CA hcl hca hoc
  have CA := Lib.hid CA
  have HCA := Lib.hid (show ∀ c ∈ cs, c.args.length ≤ 1048576 from fun c hc => Nat.le_trans (hca c hc) (by decide))
  have HOC := Lib.hid hoc
  have HB2 := Lib.hid hb2'
  have HCL := Lib.hid (show cs.length ≤ 1048576 by omega)
  clear hlv hbo hl1 hl2 hx1 hown hb2 hb2' h24 hca hoc hcs k0 k1 k2 k3
  go_wp2_with fail
  refine CA.out.mono ?_
  rintro e w3 ⟨va, rfl, hva, hb3⟩
  have HB3 := Lib.hid (HB2.out.trans (hb3.mono HB2.out.size))
  have HVA := Lib.hid hva
  have CH := Lib.hid (fun (s : ByteArray) wx (h : Below w3.heap.size w3 wx) (hs : s.size ≤ 1048575) => chas_any va cs s wx (HVA.out.below h) HCL.out HCA.out hs)
  obtain ⟨ao, lc, rfl, hc1, hc3⟩ := hva.form
  obtain ⟨N, hN⟩ : ∃ N, N = cs.length := ⟨_, rfl⟩
  rw [← hN] at hcl hc1 hc3 CH ⊢
  have HN := Lib.hid hN
  have HC3 := Lib.hid hc3
  have t1 : ((600 : Int) < (N : Int)) = False := eq_false (by omega)
  have ce1 := CH.out ⟨#[]⟩ w3 (Below.refl _ _) (by decide)
  have ce2 := fun wx h => CH.out ⟨#[32]⟩ wx h (by decide)
  rw [show Cp.has cs (⟨#[]⟩ : ByteArray).data.toList = false from Cp.has_empty cs] at ce1
  rw [show Cp.has cs (⟨#[32]⟩ : ByteArray).data.toList = false from Cp.has_blank cs] at ce2
  have CE1 := Lib.hid ce1
  have CE2 := Lib.hid ce2
  have CE3 := Lib.hid (fun wx => chas_any (.slice none 0 0) [] ⟨#[65]⟩ wx (CL.nil wx none 0) (by decide) (fun c hc => by cases hc) (by decide))
  clear hva hb3 hN hc3 ce1 ce2
  go_wp2_with fail
  refine CE1.out.mono ?_
  rintro e w4 ⟨rfl, hb4⟩
  have CE2' := Lib.hid (CE2.out _ hb4)
  have HB4 := Lib.hid hb4
  clear hb4
  go_wp2_with fail
  refine CE2'.out.mono ?_
  rintro e w5 ⟨rfl, hb5⟩
  have HB5 := Lib.hid (HB4.out.trans (hb5.mono HB4.out.size))
  clear hb5
  go_wp2_with fail
  refine (CE3.out _).mono ?_
  rintro e w6 ⟨rfl, hb6⟩
  have HB6 := Lib.hid (HB5.out.trans (hb6.mono HB5.out.size))
  rw [show Cp.has [] (⟨#[65]⟩ : ByteArray).data.toList = false from rfl]
  clear hb6
  go_wp2
  go_loopw [7, 8] (fun i _ wr => ∃ k : Nat, k ≤ N ∧ k ≤ 24 ∧ i = .int .i64 k ∧ Hid (Below w3.heap.size w3 wr)) (fun i _ _ => 24 - (intOf i).toNat)
  case atStart => exact ⟨0, Nat.zero_le _, Nat.zero_le _, rfl, HB6.out⟩
  case round =>
    obtain ⟨k, hk1, hk2, rfl, HB⟩ := hrel
    by_cases hgo : k < N ∧ k < 24
    · obtain ⟨g1, g2⟩ := hgo
      have u1 : (k : Int) < (N : Int) := by omega
      have u2 : (k : Int) < 24 := by omega
      obtain ⟨b, o, rfl, hm, hc⟩ := HC3.out (by omega)
      unfold maxLen at hm
      obtain ⟨c, hck⟩ : ∃ c, cs[k]? = some c := ⟨_, List.getElem?_eq_getElem (by rw [← HN.out]; exact g1)⟩
      obtain ⟨n1, a, n2, r2⟩ := hc k c hck
      have hmem := List.mem_of_getElem? hck
      have hO := HOC.out c hmem
      obtain ⟨a2, c2, rfl, f1, f2, f3⟩ := r2.formV
      rw [List.length_map] at n2 f1 f3
      obtain ⟨M, hM⟩ : ∃ M, M = c.args.length := ⟨_, rfl⟩
      rw [← hM] at n2 f1 f3
      rw [← Nat.add_assoc] at n2
      obtain ⟨NM, hNM⟩ : ∃ NM : ByteArray, NM = ⟨c.name.toArray⟩ := ⟨_, rfl⟩
      have hnl : NM.data.toList = c.name := by rw [hNM]
      obtain ⟨A, hA⟩ : ∃ A, A = NM.size := ⟨_, rfl⟩
      have hA1 : A ≤ 1000 := by rw [hA, Lib.size_eq, hnl]; exact hO.len
      have hA0 : 0 < A := by
        rw [hA, Lib.size_eq, hnl]
        exact List.length_pos_iff.2 hO.ne
      have n1 : w3.cell? ⟨b, o + k * 2, none⟩ = some (.string NM) := by rw [hNM]; exact n1
      have HN1 := Lib.hid n1
      have HN2 := Lib.hid n2
      have HF3 := Lib.hid f3
      have HO := Lib.hid hO
      have HNL := Lib.hid hnl
      have HMM := Lib.hid hM
      have hbd : Below w3.heap.size w3 wr.drew := HB.out.drew
      have HBD := Lib.hid hbd
      have SS := Lib.hid (fun wx (h : Below wr.drew.heap.size wr.drew wx) => (show wx.cell? ⟨b, o + k * 2, none⟩ = some (.string NM) from up_cell (hbd.trans (h.mono hbd.size)) HN1.out))
      have hcn := fun wx (h : Below wr.drew.heap.size wr.drew wx) => CH.out NM wx (hbd.trans (h.mono hbd.size)) (by omega)
      rw [hnl, hO.name] at hcn
      have CN := Lib.hid hcn
      have hcu := fun wx => ref_upper NM wx (by omega)
      rw [hnl, hO.up, sv, ← hNM] at hcu
      have CU := Lib.hid hcu
      have z1 : NM.toList.isEmpty = false := by rw [Lib.toList_data, hnl]; exact List.isEmpty_eq_false_iff.2 hO.ne
      have z2 : NM.data.toList.isEmpty = false := by rw [hnl]; exact List.isEmpty_eq_false_iff.2 hO.ne
      have z4 : (NM = (⟨#[]⟩ : ByteArray)) = False := eq_false fun e => hO.ne (by rw [← hnl, e])
      have s0 := Lib.hid (SS.out _ (Below.refl _ _))
      clear hc hck r2 n1 n2 f2 f3 hM hNM hnl hO hmem hbd hcn hcu
      go_wp2_with fail
      refine wp_region_held_drew (S := fun w' => w'.cell? ⟨b, o + k * 2, none⟩ = some (.string NM)) (by kernel_rfl) s0.out (fun hH => ?_)
      generalize wr.drew = wd at *
      refine heldTake (i := 0) (v := ?_) rfl (by kernel_rfl) (by kernel_rfl) (fun _ _ _ h => h) (by rfl) (by assumption) (fun w hSw => ?_) ?_; rotate_left; focus ((try dsimp only at hSw); go_simp; try with_reducible rfl)
      try simp only [Act.put, List.setIfInBounds_toArray, List.set_cons_zero, List.set_cons_succ]
      refine heldTake (i := 1) (v := ?_) rfl (by kernel_rfl) (by kernel_rfl) (fun _ _ _ h => h) (by rfl) (by assumption) (fun w hSw => ?_) ?_; rotate_left; focus ((try dsimp only at hSw); go_simp; try with_reducible rfl)
      try simp only [Act.put, List.setIfInBounds_toArray, List.set_cons_zero, List.set_cons_succ]
      refine heldTake (i := 2) (v := ?_) rfl (by kernel_rfl) (by kernel_rfl) (fun _ _ _ h => h) (by rfl) (by assumption) (fun w hSw => ?_) ?_; rotate_left; focus ((try dsimp only at hSw); go_simp; try with_reducible rfl)
      try simp only [Act.put, List.setIfInBounds_toArray, List.set_cons_zero, List.set_cons_succ]
      refine heldTake (i := 3) (v := ?_) rfl (by kernel_rfl) (by kernel_rfl) (fun _ _ _ h => h) (by rfl) (by assumption) (fun w hSw => ?_) ?_; rotate_left; focus ((try dsimp only at hSw); go_simp; try with_reducible rfl)
      try simp only [Act.put, List.setIfInBounds_toArray, List.set_cons_zero, List.set_cons_succ]
      refine heldTake (i := 4) (v := ?_) rfl (by kernel_rfl) (by kernel_rfl) (fun _ _ _ h => h) (by rfl) (by assumption) (fun w hSw => ?_) ?_; rotate_left; focus ((try dsimp only at hSw); go_simp; try with_reducible rfl)
      try simp only [Act.put, List.setIfInBounds_toArray, List.set_cons_zero, List.set_cons_succ]
      refine heldTake (i := 5) (v := ?_) rfl (by kernel_rfl) (by kernel_rfl) (fun _ _ _ h => h) (by rfl) (by assumption) (fun w hSw => ?_) ?_; rotate_left; focus ((try dsimp only at hSw); go_simp; try with_reducible rfl)
      try simp only [Act.put, List.setIfInBounds_toArray, List.set_cons_zero, List.set_cons_succ]
      -- NEXT 6 Op.call { callee := Callee.value (Operand.func 14), args := #[Operand.tmp 38, Operand.tmp 43], argTypes := #[2
      refine heldNext (i := 6) rfl (by kernel_rfl) (by rfl) (fun K hK => ?_)
      go_simp; go_at_call 14; refine (CN.out _ (Below.refl _ _)).mono ?_; rintro e w6 ⟨rfl, hb6⟩; have s6 := SS.out _ hb6; first | (refine hK.out _ _ s6 ?_) | (go_wp2_with fail; refine hK.out _ _ s6 ?_); clear hK K
      try simp only [Act.put, List.setIfInBounds_toArray, List.set_cons_zero, List.set_cons_succ]
      refine heldTake (i := 7) (v := ?_) rfl (by kernel_rfl) (by kernel_rfl) (fun _ _ _ h => h) (by rfl) (by assumption) (fun w hSw => ?_) ?_; rotate_left; focus ((try dsimp only at hSw); go_simp; try with_reducible rfl)
      try simp only [Act.put, List.setIfInBounds_toArray, List.set_cons_zero, List.set_cons_succ]
      refine heldTake (i := 8) (v := ?_) rfl (by kernel_rfl) (by kernel_rfl) (fun _ _ _ h => h) (by rfl) (by assumption) (fun w hSw => ?_) ?_; rotate_left; focus ((try dsimp only at hSw); go_simp; try with_reducible rfl)
      try simp only [Act.put, List.setIfInBounds_toArray, List.set_cons_zero, List.set_cons_succ]
      refine heldTake (i := 9) (v := ?_) rfl (by kernel_rfl) (by kernel_rfl) (fun _ _ _ h => h) (by rfl) (by assumption) (fun w hSw => ?_) ?_; rotate_left; focus ((try dsimp only at hSw); go_simp; try with_reducible rfl)
      try simp only [Act.put, List.setIfInBounds_toArray, List.set_cons_zero, List.set_cons_succ]
      refine heldTake (i := 10) (v := ?_) rfl (by kernel_rfl) (by kernel_rfl) (fun _ _ _ h => h) (by rfl) (by assumption) (fun w hSw => ?_) ?_; rotate_left; focus ((try dsimp only at hSw); go_simp; try with_reducible rfl)
      try simp only [Act.put, List.setIfInBounds_toArray, List.set_cons_zero, List.set_cons_succ]
      refine heldTake (i := 11) (v := ?_) rfl (by kernel_rfl) (by kernel_rfl) (fun _ _ _ h => h) (by rfl) (by assumption) (fun w hSw => ?_) ?_; rotate_left; focus ((try dsimp only at hSw); go_simp; try with_reducible rfl)
      try simp only [Act.put, List.setIfInBounds_toArray, List.set_cons_zero, List.set_cons_succ]
      refine heldTake (i := 12) (v := ?_) rfl (by kernel_rfl) (by kernel_rfl) (fun _ _ _ h => h) (by rfl) (by assumption) (fun w hSw => ?_) ?_; rotate_left; focus ((try dsimp only at hSw); go_simp; try with_reducible rfl)
      try simp only [Act.put, List.setIfInBounds_toArray, List.set_cons_zero, List.set_cons_succ]
      refine heldTake (i := 13) (v := ?_) rfl (by kernel_rfl) (by kernel_rfl) (fun _ _ _ h => h) (by rfl) (by assumption) (fun w hSw => ?_) ?_; rotate_left; focus ((try dsimp only at hSw); go_simp; try with_reducible rfl)
      try simp only [Act.put, List.setIfInBounds_toArray, List.set_cons_zero, List.set_cons_succ]
      refine heldTake (i := 15) (v := ?_) rfl (by kernel_rfl) (by kernel_rfl) (fun _ _ _ h => h) (by rfl) (by assumption) (fun w hSw => ?_) ?_; rotate_left; focus ((try dsimp only at hSw); go_simp; try with_reducible rfl)
      try simp only [Act.put, List.setIfInBounds_toArray, List.set_cons_zero, List.set_cons_succ]
      refine heldTake (i := 16) (v := ?_) rfl (by kernel_rfl) (by kernel_rfl) (fun _ _ _ h => h) (by rfl) (by assumption) (fun w hSw => ?_) ?_; rotate_left; focus ((try dsimp only at hSw); go_simp; try with_reducible rfl)
      try simp only [Act.put, List.setIfInBounds_toArray, List.set_cons_zero, List.set_cons_succ]
      refine heldTake (i := 17) (v := ?_) rfl (by kernel_rfl) (by kernel_rfl) (fun _ _ _ h => h) (by rfl) (by assumption) (fun w hSw => ?_) ?_; rotate_left; focus ((try dsimp only at hSw); go_simp; try with_reducible rfl)
      try simp only [Act.put, List.setIfInBounds_toArray, List.set_cons_zero, List.set_cons_succ]
      refine heldTake (i := 18) (v := ?_) rfl (by kernel_rfl) (by kernel_rfl) (fun _ _ _ h => h) (by rfl) (by assumption) (fun w hSw => ?_) ?_; rotate_left; focus ((try dsimp only at hSw); go_simp; try with_reducible rfl)
      try simp only [Act.put, List.setIfInBounds_toArray, List.set_cons_zero, List.set_cons_succ]
      refine heldTake (i := 19) (v := ?_) rfl (by kernel_rfl) (by kernel_rfl) (fun _ _ _ h => h) (by rfl) (by assumption) (fun w hSw => ?_) ?_; rotate_left; focus ((try dsimp only at hSw); go_simp; try with_reducible rfl)
      try simp only [Act.put, List.setIfInBounds_toArray, List.set_cons_zero, List.set_cons_succ]
      -- NEXT 14 Op.call { callee := Callee.value (Operand.func 16), args := #[Operand.tmp 51], argTypes := #[9] }
      refine heldNext (i := 14) rfl (by kernel_rfl) (by rfl) (fun K hK => ?_)
      go_simp; go_at_call 16; refine (CU.out _).mono ?_; rintro e w7 ⟨rfl, hb7⟩; have s7 := SS.out _ (hb6.trans (hb7.mono hb6.size)); first | (refine hK.out _ _ s7 ?_) | (go_wp2_with fail; refine hK.out _ _ s7 ?_); clear hK K
      try simp only [Act.put, List.setIfInBounds_toArray, List.set_cons_zero, List.set_cons_succ]
      refine heldTake (i := 20) (v := ?_) rfl (by kernel_rfl) (by kernel_rfl) (fun _ _ _ h => h) (by rfl) (by assumption) (fun w hSw => ?_) ?_; rotate_left; focus ((try dsimp only at hSw); go_simp; try with_reducible rfl)
      try simp only [Act.put, List.setIfInBounds_toArray, List.set_cons_zero, List.set_cons_succ]
      refine heldTake (i := 21) (v := ?_) rfl (by kernel_rfl) (by kernel_rfl) (fun _ _ _ h => h) (by rfl) (by assumption) (fun w hSw => ?_) ?_; rotate_left; focus ((try dsimp only at hSw); go_simp; try with_reducible rfl)
      try simp only [Act.put, List.setIfInBounds_toArray, List.set_cons_zero, List.set_cons_succ]
      refine heldTake (i := 22) (v := ?_) rfl (by kernel_rfl) (by kernel_rfl) (fun _ _ _ h => h) (by rfl) (by assumption) (fun w hSw => ?_) ?_; rotate_left; focus ((try dsimp only at hSw); go_simp; try with_reducible rfl)
      try simp only [Act.put, List.setIfInBounds_toArray, List.set_cons_zero, List.set_cons_succ]
      refine heldTake (i := 23) (v := ?_) rfl (by kernel_rfl) (by kernel_rfl) (fun _ _ _ h => h) (by rfl) (by assumption) (fun w hSw => ?_) ?_; rotate_left; focus ((try dsimp only at hSw); go_simp; try with_reducible rfl)
      try simp only [Act.put, List.setIfInBounds_toArray, List.set_cons_zero, List.set_cons_succ]
      refine heldTake (i := 24) (v := ?_) rfl (by kernel_rfl) (by kernel_rfl) (fun _ _ _ h => h) (by rfl) (by assumption) (fun w hSw => ?_) ?_; rotate_left; focus ((try dsimp only at hSw); go_simp; try with_reducible rfl)
      try simp only [Act.put, List.setIfInBounds_toArray, List.set_cons_zero, List.set_cons_succ]
      refine heldTake (i := 25) (v := ?_) rfl (by kernel_rfl) (by kernel_rfl) (fun _ _ _ h => h) (by rfl) (by assumption) (fun w hSw => ?_) ?_; rotate_left; focus ((try dsimp only at hSw); go_simp; try with_reducible rfl)
      try simp only [Act.put, List.setIfInBounds_toArray, List.set_cons_zero, List.set_cons_succ]
      refine heldTake (i := 26) (v := ?_) rfl (by kernel_rfl) (by kernel_rfl) (fun _ _ _ h => h) (by rfl) (by assumption) (fun w hSw => ?_) ?_; rotate_left; focus ((try dsimp only at hSw); go_simp; try with_reducible rfl)
      try simp only [Act.put, List.setIfInBounds_toArray, List.set_cons_zero, List.set_cons_succ]
      refine heldTake (i := 27) (v := ?_) rfl (by kernel_rfl) (by kernel_rfl) (fun _ _ _ h => h) (by rfl) (by assumption) (fun w hSw => ?_) ?_; rotate_left; focus ((try dsimp only at hSw); go_simp; try with_reducible rfl)
      try simp only [Act.put, List.setIfInBounds_toArray, List.set_cons_zero, List.set_cons_succ]
      refine heldTake (i := 28) (v := ?_) rfl (by kernel_rfl) (by kernel_rfl) (fun _ _ _ h => h) (by rfl) (by assumption) (fun w hSw => ?_) ?_; rotate_left; focus ((try dsimp only at hSw); go_simp; try with_reducible rfl)
      try simp only [Act.put, List.setIfInBounds_toArray, List.set_cons_zero, List.set_cons_succ]
      refine heldTake (i := 29) (v := ?_) rfl (by kernel_rfl) (by kernel_rfl) (fun _ _ _ h => h) (by rfl) (by assumption) (fun w hSw => ?_) ?_; rotate_left; focus ((try dsimp only at hSw); go_simp; try with_reducible rfl)
      try simp only [Act.put, List.setIfInBounds_toArray, List.set_cons_zero, List.set_cons_succ]
      refine wpAnyH_done (by kernel_rfl) ?_ _
      have HW7 := Lib.hid (show Below w3.heap.size w3 w7 from HBD.out.trans ((hb6.trans (hb7.mono hb6.size)).mono HBD.out.size))
      clear hb6 hb7 s6 s7 hH z1 z2 z4 s0 CN CU SS
      go_wp2
      go_loopw [8] (fun j wr => ∃ m : Nat, m ≤ M ∧ m ≤ 10 ∧ j = .int .i64 m ∧ Hid (Below w3.heap.size w3 wr)) (fun j _ => 10 - (intOf j).toNat)
      case atStart => exact ⟨0, Nat.zero_le _, Nat.zero_le _, rfl, HW7.out⟩
      case round =>
        obtain ⟨m, hm1, hm2, rfl, HE⟩ := hrel
        have n2 := up_cell HE.out HN2.out
        by_cases hin : m < M ∧ m < 10
        · obtain ⟨i1, i2⟩ := hin
          have v1 : (m : Int) < (M : Int) := by omega
          have v2 : (m : Int) < 10 := by omega
          obtain ⟨b2, o2, rfl, hm4, hc4⟩ := HF3.out (by omega)
          unfold maxLen at hm4
          obtain ⟨y, hy⟩ : ∃ y, y = c.args.getD m [] := ⟨_, rfl⟩
          have hcy := hc4 m _ (svs_at (by rw [← HMM.out]; exact i1))
          rw [← hy] at hcy
          have hym : y ∈ c.args := by rw [hy, List.getD_eq_getElem?_getD, List.getElem?_eq_getElem (by rw [← HMM.out]; exact i1)]; exact List.getElem_mem _
          obtain ⟨Y, hY⟩ : ∃ Y : ByteArray, Y = ⟨y.toArray⟩ := ⟨_, rfl⟩
          have hyl : Y.data.toList = y := by rw [hY]
          have hcy : w3.cell? ⟨b2, o2 + m, none⟩ = some (.string Y) := by rw [hY]; exact hcy
          obtain ⟨D, hD⟩ : ∃ D, D = Y.size := ⟨_, rfl⟩
          have hD1 : D ≤ 1000 := by rw [hD, Lib.size_eq, hyl]; exact HO.out.argLen y hym
          obtain ⟨T1, hT1⟩ : ∃ T1, (⟨#[32]⟩ : ByteArray) ++ NM = T1 := ⟨_, rfl⟩
          have hs1 : T1.size = A + 1 := by rw [← hT1, ByteArray.size_append, ← hA]; show 1 + A = _; omega
          obtain ⟨T2, hT2⟩ : ∃ T2, T1 ++ (⟨#[32, 32]⟩ : ByteArray) = T2 := ⟨_, rfl⟩
          have hs2 : T2.size = A + 3 := by rw [← hT2, ByteArray.size_append, hs1]; rfl
          obtain ⟨T3, hT3⟩ : ∃ T3, T2 ++ Y = T3 := ⟨_, rfl⟩
          have hs3 : T3.size = A + 3 + D := by rw [← hT3, ByteArray.size_append, hs2, ← hD]
          have hl3 : T3.data.toList = 32 :: c.name ++ 32 :: 32 :: y := by
            rw [← hT3, ← hT2, ← hT1, Go.Joins.data_append, Go.Joins.data_append, Go.Joins.data_append, HNL.out, hyl]
            simp
          have hbd : Below w3.heap.size w3 wr.drew := HE.out.drew
          have HBD := Lib.hid hbd
          have HCY := Lib.hid hcy
          have SS := Lib.hid (fun wx (h : Below wr.drew.heap.size wr.drew wx) => (show wx.cell? ⟨b, o + k * 2, none⟩ = some (.string NM) ∧ wx.cell? ⟨b, o + k * 2 + 1, none⟩ = some (.slice (some ⟨b2, o2, none⟩) M c2) ∧ wx.cell? ⟨b2, o2 + m, none⟩ = some (.string Y) from ⟨up_cell (hbd.trans (h.mono hbd.size)) HN1.out, up_cell (hbd.trans (h.mono hbd.size)) HN2.out, up_cell (hbd.trans (h.mono hbd.size)) HCY.out⟩))
          have hct := CH.out T3 wr.drew hbd (by omega)
          rw [hl3, HO.out.args y hym] at hct
          have CT := Lib.hid hct
          have s0 := Lib.hid (SS.out _ (Below.refl _ _))
          have y0 : (⟨#[32]⟩ : ByteArray).size = 1 := rfl
          have y1 : (⟨#[32, 32]⟩ : ByteArray).size = 2 := rfl
          have hA' := hA.symm
          have p1 : (9223372036854775807 < 1 + A) = False := eq_false (by omega)
          have p2 : (9223372036854775807 < A + 1 + 2) = False := eq_false (by omega)
          have p3 : (9223372036854775807 < A + 3) = False := eq_false (by omega)
          have p4 : (9223372036854775807 < A + 3 + D) = False := eq_false (by omega)
          have hD' := hD.symm
          clear hc4 hy hcy hym hY hyl hl3 hbd hct hA hD
          go_wp2_with fail
          refine wp_region_held_drew (S := fun w' => w'.cell? ⟨b, o + k * 2, none⟩ = some (.string NM) ∧ w'.cell? ⟨b, o + k * 2 + 1, none⟩ = some (.slice (some ⟨b2, o2, none⟩) M c2) ∧ w'.cell? ⟨b2, o2 + m, none⟩ = some (.string Y)) (by kernel_rfl) s0.out (fun hH => ?_)
          generalize wr.drew = wd at *
          refine heldTake (i := 0) (v := ?_) rfl (by kernel_rfl) (by kernel_rfl) (fun _ _ _ h => h) (by rfl) (by assumption) (fun w hSw => ?_) ?_; rotate_left; focus ((try dsimp only at hSw); go_simp; try with_reducible rfl)
          try simp only [Act.put, List.setIfInBounds_toArray, List.set_cons_zero, List.set_cons_succ]
          refine heldTake (i := 1) (v := ?_) rfl (by kernel_rfl) (by kernel_rfl) (fun _ _ _ h => h) (by rfl) (by assumption) (fun w hSw => ?_) ?_; rotate_left; focus ((try dsimp only at hSw); go_simp; try with_reducible rfl)
          try simp only [Act.put, List.setIfInBounds_toArray, List.set_cons_zero, List.set_cons_succ]
          refine heldTake (i := 2) (v := ?_) rfl (by kernel_rfl) (by kernel_rfl) (fun _ _ _ h => h) (by rfl) (by assumption) (fun w hSw => ?_) ?_; rotate_left; focus ((try dsimp only at hSw); go_simp; try with_reducible rfl)
          try simp only [Act.put, List.setIfInBounds_toArray, List.set_cons_zero, List.set_cons_succ]
          refine heldTake (i := 3) (v := ?_) rfl (by kernel_rfl) (by kernel_rfl) (fun _ _ _ h => h) (by rfl) (by assumption) (fun w hSw => ?_) ?_; rotate_left; focus ((try dsimp only at hSw); go_simp; try with_reducible rfl)
          try simp only [Act.put, List.setIfInBounds_toArray, List.set_cons_zero, List.set_cons_succ]
          refine heldTake (i := 4) (v := ?_) rfl (by kernel_rfl) (by kernel_rfl) (fun _ _ _ h => h) (by rfl) (by assumption) (fun w hSw => ?_) ?_; rotate_left; focus ((try dsimp only at hSw); go_simp; try with_reducible rfl)
          try simp only [Act.put, List.setIfInBounds_toArray, List.set_cons_zero, List.set_cons_succ]
          refine heldTake (i := 5) (v := ?_) rfl (by kernel_rfl) (by kernel_rfl) (fun _ _ _ h => h) (by rfl) (by assumption) (fun w hSw => ?_) ?_; rotate_left; focus ((try dsimp only at hSw); go_simp; try with_reducible rfl)
          try simp only [Act.put, List.setIfInBounds_toArray, List.set_cons_zero, List.set_cons_succ]
          refine heldTake (i := 6) (v := ?_) rfl (by kernel_rfl) (by kernel_rfl) (fun _ _ _ h => h) (by rfl) (by assumption) (fun w hSw => ?_) ?_; rotate_left; focus ((try dsimp only at hSw); go_simp; try with_reducible rfl)
          try simp only [Act.put, List.setIfInBounds_toArray, List.set_cons_zero, List.set_cons_succ]
          refine heldTake (i := 7) (v := ?_) rfl (by kernel_rfl) (by kernel_rfl) (fun _ _ _ h => h) (by rfl) (by assumption) (fun w hSw => ?_) ?_; rotate_left; focus ((try dsimp only at hSw); go_simp; try with_reducible rfl)
          try simp only [Act.put, List.setIfInBounds_toArray, List.set_cons_zero, List.set_cons_succ]
          refine heldTake (i := 8) (v := ?_) rfl (by kernel_rfl) (by kernel_rfl) (fun _ _ _ h => h) (by rfl) (by assumption) (fun w hSw => ?_) ?_; rotate_left; focus ((try dsimp only at hSw); go_simp; try with_reducible rfl)
          try simp only [Act.put, List.setIfInBounds_toArray, List.set_cons_zero, List.set_cons_succ]
          refine heldTake (i := 9) (v := ?_) rfl (by kernel_rfl) (by kernel_rfl) (fun _ _ _ h => h) (by rfl) (by assumption) (fun w hSw => ?_) ?_; rotate_left; focus ((try dsimp only at hSw); go_simp; try with_reducible rfl)
          try simp only [Act.put, List.setIfInBounds_toArray, List.set_cons_zero, List.set_cons_succ]
          refine heldTake (i := 10) (v := ?_) rfl (by kernel_rfl) (by kernel_rfl) (fun _ _ _ h => h) (by rfl) (by assumption) (fun w hSw => ?_) ?_; rotate_left; focus ((try dsimp only at hSw); go_simp; try with_reducible rfl)
          try simp only [Act.put, List.setIfInBounds_toArray, List.set_cons_zero, List.set_cons_succ]
          refine heldTake (i := 11) (v := ?_) rfl (by kernel_rfl) (by kernel_rfl) (fun _ _ _ h => h) (by rfl) (by assumption) (fun w hSw => ?_) ?_; rotate_left; focus ((try dsimp only at hSw); go_simp; try with_reducible rfl)
          try simp only [Act.put, List.setIfInBounds_toArray, List.set_cons_zero, List.set_cons_succ]
          refine heldTake (i := 12) (v := ?_) rfl (by kernel_rfl) (by kernel_rfl) (fun _ _ _ h => h) (by rfl) (by assumption) (fun w hSw => ?_) ?_; rotate_left; focus ((try dsimp only at hSw); go_simp; try with_reducible rfl)
          try simp only [Act.put, List.setIfInBounds_toArray, List.set_cons_zero, List.set_cons_succ]
          refine heldTake (i := 13) (v := ?_) rfl (by kernel_rfl) (by kernel_rfl) (fun _ _ _ h => h) (by rfl) (by assumption) (fun w hSw => ?_) ?_; rotate_left; focus ((try dsimp only at hSw); go_simp; try with_reducible rfl)
          try simp only [Act.put, List.setIfInBounds_toArray, List.set_cons_zero, List.set_cons_succ]
          refine heldTake (i := 14) (v := ?_) rfl (by kernel_rfl) (by kernel_rfl) (fun _ _ _ h => h) (by rfl) (by assumption) (fun w hSw => ?_) ?_; rotate_left; focus ((try dsimp only at hSw); go_simp; try with_reducible rfl)
          try simp only [Act.put, List.setIfInBounds_toArray, List.set_cons_zero, List.set_cons_succ]
          refine heldTake (i := 15) (v := ?_) rfl (by kernel_rfl) (by kernel_rfl) (fun _ _ _ h => h) (by rfl) (by assumption) (fun w hSw => ?_) ?_; rotate_left; focus ((try dsimp only at hSw); go_simp; try with_reducible rfl)
          try simp only [Act.put, List.setIfInBounds_toArray, List.set_cons_zero, List.set_cons_succ]
          refine heldTake (i := 16) (v := ?_) rfl (by kernel_rfl) (by kernel_rfl) (fun _ _ _ h => h) (by rfl) (by assumption) (fun w hSw => ?_) ?_; rotate_left; focus ((try dsimp only at hSw); go_simp; try with_reducible rfl)
          try simp only [Act.put, List.setIfInBounds_toArray, List.set_cons_zero, List.set_cons_succ]
          -- NEXT 17 Op.call { callee := Callee.value (Operand.func 14), args := #[Operand.tmp 82, Operand.tmp 98], argTypes := #[2
          refine heldNext (i := 17) rfl (by kernel_rfl) (by rfl) (fun K hK => ?_)
          go_simp; go_at_call 14; refine (CT.out).mono ?_; rintro e w6 ⟨rfl, hb6⟩; have s6 := SS.out _ hb6; first | (refine hK.out _ _ s6 ?_) | (go_wp2_with fail; refine hK.out _ _ s6 ?_); clear hK K
          try simp only [Act.put, List.setIfInBounds_toArray, List.set_cons_zero, List.set_cons_succ]
          refine heldTake (i := 18) (v := ?_) rfl (by kernel_rfl) (by kernel_rfl) (fun _ _ _ h => h) (by rfl) (by assumption) (fun w hSw => ?_) ?_; rotate_left; focus ((try dsimp only at hSw); go_simp; try with_reducible rfl)
          try simp only [Act.put, List.setIfInBounds_toArray, List.set_cons_zero, List.set_cons_succ]
          refine wpAnyH_done (by kernel_rfl) ?_ _
          have HW8 := Lib.hid (show Below w3.heap.size w3 w6 from HBD.out.trans (hb6.mono HBD.out.size))
          clear hb6 s6 hH
          go_wp2
          go_roundw
          case rel => exact ⟨m + 1, by omega, by omega, by go_num, HW8.out⟩
          case measure => simp [intOf]; omega
        · by_cases i1 : m < M
          · have v1 : (m : Int) < (M : Int) := by omega
            have v2 : ((m : Int) < 10) = False := eq_false (by omega)
            clear hin
            go_wp2
            go_roundw
            case rel => exact ⟨k + 1, by omega, by omega, by go_num, HE.out⟩
            case measure => simp [intOf]; omega
          · have v1 : ((m : Int) < (M : Int)) = False := eq_false (by omega)
            clear hin
            go_wp2
            go_roundw
            case rel => exact ⟨k + 1, by omega, by omega, by go_num, HE.out⟩
            case measure => simp [intOf]; omega
    · have t2 : k = N ∨ k = 24 := by omega
      by_cases hkN : k < N
      · have u1 : (k : Int) < (N : Int) := by omega
        have u2 : ((k : Int) < 24) = False := eq_false (by omega)
        clear hgo t2
        go_wp2
        go_ret
        exact ⟨rfl, HB3.out.trans (HB.out.mono HB3.out.size)⟩
      · have u1 : ((k : Int) < (N : Int)) = False := eq_false (by omega)
        clear hgo t2
        go_wp2
        go_ret
        exact ⟨rfl, HB3.out.trans (HB.out.mono HB3.out.size)⟩
end Go.Proofs.YtomeoploojjacaaDoor
