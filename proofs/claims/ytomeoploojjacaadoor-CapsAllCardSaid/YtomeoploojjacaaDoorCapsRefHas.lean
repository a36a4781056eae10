/- The reference's Has walked. -/
import Derived.Test.YtomeoploojjacaaDoorCapsHasC
import Derived.Test.YtomeoploojjacaaDoorCapsRefOf
namespace Go.Proofs.YtomeoploojjacaaDoor
open Go.RowKit

theorem within_any (v : Value) (xs : List (List UInt8)) (x : List UInt8) (w : World) (h : Rd w v (xs.map sv)) (hl : xs.length ≤ 1048576) :
    Calls Tryd.prog 29 #[v, sv x] w fun e w' => e = .returned (.bool (xs.contains x)) ∧ w' = w := by
  obtain ⟨ao, cap, rfl, hc1, _, hc3⟩ := h.formV
  rw [List.length_map] at hc1 hc3 ⊢
  obtain ⟨N, hN⟩ : ∃ N, N = xs.length := ⟨_, rfl⟩
  rw [← hN] at hl hc1 hc3 ⊢
  have HN := Lib.hid hN
  have HC := Lib.hid hc3
  clear hN hc3 h
  unfold sv
  go_enter Tryd.func29, Tryd.ntmps29
  go_wp2
  go_loopw [5] (fun i wr => ∃ k : Nat, k ≤ N ∧ i = .int .i64 k ∧ Hid ((xs.take k).any (fun y => x == y) = false) ∧ wr = w) (fun i _ => N - (intOf i).toNat)
  case atStart => exact ⟨0, Nat.zero_le _, rfl, rfl, rfl⟩
  case round =>
    obtain ⟨k, hk, rfl, HE, rfl⟩ := hrel
    by_cases hlt : k < N
    · obtain ⟨b, o, rfl, hm, hc⟩ := HC.out (by omega)
      have hcx := hc k _ (svs_at (by rw [← HN.out]; exact hlt))
      unfold maxLen at hm
      clear hc
      obtain ⟨y, hy⟩ : ∃ y, y = xs.getD k [] := ⟨_, rfl⟩
      rw [← hy, sv] at hcx
      have HY := Lib.hid hy
      clear hy
      by_cases hxy : x = y
      · have HB := Lib.hid (show (x == y) = true from beq_iff_eq.2 hxy)
        have hb : (y == x) = true := beq_iff_eq.2 hxy.symm
        clear hxy
        go_wp2
        go_ret
        refine ⟨?_, rfl⟩
        rw [contains_any, any_hit (k := k) (by rw [← HN.out]; exact hlt) (by rw [← HY.out]; exact HB.out)]
        rfl
      · have HB := Lib.hid (show (x == y) = false from beq_eq_false_iff_ne.2 hxy)
        have hb : (y == x) = false := beq_eq_false_iff_ne.2 fun e => hxy e.symm
        clear hxy
        go_wp2
        go_roundw
        case rel => exact ⟨k + 1, by omega, by go_num, any_take_more HE.out (by rw [← HN.out]; exact hlt) (by rw [← HY.out]; exact HB.out), trivial⟩
        case measure => simp [intOf]; omega
    · go_wp2
      go_ret
      refine ⟨?_, rfl⟩
      rw [contains_any, any_take_all HE.out (by have := HN.out; omega)]
      rfl

/-- As far as the first j words behind the name. -/
def hasTo (n : List UInt8) (r : List (List UInt8)) (c : Cp.Cap) (j : Nat) : Bool := (c.name == n) && (r.take j).all fun y => c.args.contains y
theorem hasTo_zero (n : List UInt8) (r : List (List UInt8)) (c : Cp.Cap) : hasTo n r c 0 = (c.name == n) := by unfold hasTo; rw [List.take_zero, List.all_nil, Bool.and_true]
theorem hasTo_succ {n : List UInt8} {r : List (List UInt8)} {c : Cp.Cap} {j : Nat} (h : j < r.length) : hasTo n r c (j + 1) = (hasTo n r c j && c.args.contains (r.getD j [])) := by
  have e : r[j] = r.getD j [] := by rw [List.getD_eq_getElem?_getD, List.getElem?_eq_getElem h]; rfl
  unfold hasTo
  rw [List.take_succ_eq_append_getElem h, List.all_append, e, Bool.and_assoc]
  congr 2
  simp
theorem hasTo_all {n : List UInt8} {r : List (List UInt8)} {c : Cp.Cap} {j : Nat} (h : r.length ≤ j) : hasTo n r c j = Cp.hasOne (n :: r) c := by
  unfold hasTo
  rw [List.take_of_length_le h]
  rfl

set_option maxHeartbeats 2000000 in
theorem rhas_any (v : Value) (cs : List Cp.Cap) (s : ByteArray) (w : World) (hv : CL w v cs) (hcs : cs.length ≤ 1048576) (hl : ∀ c ∈ cs, c.args.length ≤ 1048576) (hs : s.size ≤ 1048575) :
    Calls Tryd.prog 15 #[v, .string s] w fun e w' => e = .returned (.bool (Cp.has cs s.data.toList)) ∧ Below w.heap.size w w' := by
  obtain ⟨CA, CB⟩ := rcap_any s (by omega)
  have hwl := (Tx.words_len (Tx.up s.data.toList)).2
  rw [Tx.up_len, ← Lib.size_eq] at hwl
  unfold Cp.has
  cases hW : Tx.words (Tx.up s.data.toList) with
  | nil =>
    rw [hW] at CB
    have e : Cp.hasW cs [] = false := Cp.hasW_nil cs
    rw [e]
    clear hW e hv hl hwl
    go_enter Tryd.func15, Tryd.ntmps15
    go_wp2_with fail
    refine (CA _).mono ?_
    rintro e w1 ⟨rfl, hb1⟩
    go_wp2_with fail
    refine (CB _).mono ?_
    rintro e w2 ⟨vw, rfl, how, hb2⟩
    obtain ⟨wo, wc, rfl⟩ := own_form how
    have HB := Lib.hid (hb1.trans (hb2.mono hb1.size))
    clear how hb1 hb2
    go_wp2
    go_ret
    exact ⟨rfl, HB.out⟩
  | cons n r =>
    rw [hW] at CB hwl
    rw [List.length_cons] at hwl
    obtain ⟨ao, lc, rfl, hc1, hc3⟩ := hv.form
    obtain ⟨N, hN⟩ : ∃ N, N = cs.length := ⟨_, rfl⟩
    rw [← hN] at hcs hc1 hc3 ⊢
    have HN := Lib.hid hN
    have HC := Lib.hid hc3
    have HL := Lib.hid hl
    obtain ⟨R, hR⟩ : ∃ R, R = (n :: r).length := ⟨_, rfl⟩
    have hR2 : R = r.length + 1 := hR
    have hR1 : R ≤ 1048575 := by omega
    have q0 : ((R : Int) == 0) = false := beq_eq_false_iff_ne.2 (by omega)
    have q00 : ((R : Int) = 0) = False := eq_false (by omega)
    have q01 : (R = 0) = False := eq_false (by omega)
    have q02 : (0 : Int) < (R : Int) := by omega
    have q03 : 0 < R := by omega
    have HR := Lib.hid hR2
    clear hR2
    unfold Cp.hasW
    clear hW hv hl hwl hs hN hc3
    go_enter Tryd.func15, Tryd.ntmps15
    go_wp2_with fail
    refine (CA _).mono ?_
    rintro e w1 ⟨rfl, hb1⟩
    go_wp2_with fail
    refine (CB _).mono ?_
    rintro e w2 ⟨vw, rfl, how, hb2⟩
    have HB2 := Lib.hid (hb1.trans (hb2.mono hb1.size))
    obtain ⟨g, wc, rfl, _, hwc, hwm, hg⟩ := own_pos how (by simp)
    rw [← hR] at hwc ⊢
    have hg0 : w2.cell? ⟨g, 0, none⟩ = some (sv n) := hg 0 _ rfl
    have hgj : ∀ i j, i = j + 1 → i < R → w2.cell? ⟨g, i, none⟩ = some (sv (r.getD j [])) := fun i j e hj => hg i _ (by
      rw [e, List.map_cons, List.getElem?_cons_succ]
      exact svs_at (by have := HR.out; omega))
    have HG0 := Lib.hid hg0
    have HGJ := Lib.hid hgj
    unfold maxLen at hwm
    clear hg0 hgj hg how hb1 hb2 hR
    go_wp2
    go_loopw [6, 7, 8, 9] (fun i _ _ _ wr => ∃ k : Nat, k ≤ N ∧ i = .int .i64 k ∧ Hid ((cs.take k).any (Cp.hasOne (n :: r)) = false) ∧ Hid (Below w.heap.size w wr) ∧ Hid (Below w2.heap.size w2 wr)) (fun i _ _ _ _ => N - (intOf i).toNat)
    case atStart => exact ⟨0, Nat.zero_le _, rfl, rfl, HB2.out, Below.refl _ _⟩
    case round =>
      obtain ⟨k, hk, rfl, HE, HB, HB3⟩ := hrel
      by_cases hlt : k < N
      · obtain ⟨b, o, rfl, hm, hc⟩ := HC.out (by omega)
        unfold maxLen at hm
        obtain ⟨c, hck⟩ : ∃ c, cs[k]? = some c := ⟨_, List.getElem?_eq_getElem (by rw [← HN.out]; exact hlt)⟩
        obtain ⟨g1, a, g2, g3⟩ := hc k c hck
        have HCK := Lib.hid hck
        have HAL := Lib.hid (HL.out c (List.mem_of_getElem? hck))
        have HGA := Lib.hid g2
        have HGR := Lib.hid g3
        have HG1 := Lib.hid g1
        clear hc g1 g2 g3 hck
        go_upto_region 7 with fail
        go_cut [7] from 22 to 30 (fun s7 wx => s7 = .bool (c.name == n) ∧ wx = wr.drew)
        case first =>
          have hbd : Below w.heap.size w wr.drew := HB.out.drew
          have hbd3 : Below w2.heap.size w2 wr.drew := HB3.out.drew
          have k1 : wr.drew.cell? ⟨b, o + k * 2, none⟩ = some (.string ⟨c.name.toArray⟩) := (hbd.cell (World.block_lt_of_cell? _ _ HG1.out)).trans HG1.out
          have k2 : wr.drew.cell? ⟨g, 0, none⟩ = some (.string ⟨n.toArray⟩) := (hbd3.cell (World.block_lt_of_cell? _ _ HG0.out)).trans HG0.out
          have S1 := Lib.hid (show _ ∧ _ from ⟨k1, k2⟩)
          clear k1 k2 hbd hbd3
          by_cases hnn : c.name = n
          · have hb : (c.name == n) = true := beq_iff_eq.2 hnn
            have HQ := Lib.hid hb
            clear hnn
            refine wp_region_held_drew (S := fun w' => w'.cell? ⟨b, o + k * 2, none⟩ = some (.string ⟨c.name.toArray⟩) ∧ w'.cell? ⟨g, 0, none⟩ = some (.string ⟨n.toArray⟩)) (by kernel_rfl) S1.out (fun hH => ?_)
            refine heldTake (i := 0) (v := ?_) rfl (by kernel_rfl) (by kernel_rfl) (fun _ _ _ h => h) (by rfl) (by assumption) (fun w hSw => ?_) ?_; rotate_left; focus ((try dsimp only at hSw); go_simp; try with_reducible rfl)
            try simp only [Act.put, List.setIfInBounds_toArray, List.set_cons_zero, List.set_cons_succ]
            refine heldTake (i := 1) (v := ?_) rfl (by kernel_rfl) (by kernel_rfl) (fun _ _ _ h => h) (by rfl) (by assumption) (fun w hSw => ?_) ?_; rotate_left; focus ((try dsimp only at hSw); go_simp; try with_reducible rfl)
            try simp only [Act.put, List.setIfInBounds_toArray, List.set_cons_zero, List.set_cons_succ]
            refine heldTake (i := 2) (v := ?_) rfl (by kernel_rfl) (by kernel_rfl) (fun _ _ _ h => h) (by rfl) (by assumption) (fun w hSw => ?_) ?_; rotate_left; focus ((try dsimp only at hSw); go_simp; try with_reducible rfl)
            try simp only [Act.put, List.setIfInBounds_toArray, List.set_cons_zero, List.set_cons_succ]
            refine heldTake (i := 3) (v := ?_) rfl (by kernel_rfl) (by kernel_rfl) (fun _ _ _ h => h) (by rfl) (by assumption) (fun w hSw => ?_) ?_; rotate_left; focus ((try dsimp only at hSw); go_simp; try with_reducible rfl)
            try simp only [Act.put, List.setIfInBounds_toArray, List.set_cons_zero, List.set_cons_succ]
            refine heldTake (i := 4) (v := ?_) rfl (by kernel_rfl) (by kernel_rfl) (fun _ _ _ h => h) (by rfl) (by assumption) (fun w hSw => ?_) ?_; rotate_left; focus ((try dsimp only at hSw); go_simp; try with_reducible rfl)
            try simp only [Act.put, List.setIfInBounds_toArray, List.set_cons_zero, List.set_cons_succ]
            refine heldTake (i := 5) (v := ?_) rfl (by kernel_rfl) (by kernel_rfl) (fun _ _ _ h => h) (by rfl) (by assumption) (fun w hSw => ?_) ?_; rotate_left; focus ((try dsimp only at hSw); go_simp; try with_reducible rfl)
            try simp only [Act.put, List.setIfInBounds_toArray, List.set_cons_zero, List.set_cons_succ]
            refine heldTake (i := 6) (v := ?_) rfl (by kernel_rfl) (by kernel_rfl) (fun _ _ _ h => h) (by rfl) (by assumption) (fun w hSw => ?_) ?_; rotate_left; focus ((try dsimp only at hSw); go_simp; try with_reducible rfl)
            try simp only [Act.put, List.setIfInBounds_toArray, List.set_cons_zero, List.set_cons_succ]
            refine heldTake (i := 7) (v := ?_) rfl (by kernel_rfl) (by kernel_rfl) (fun _ _ _ h => h) (by rfl) (by assumption) (fun w hSw => ?_) ?_; rotate_left; focus ((try dsimp only at hSw); go_simp; try with_reducible rfl)
            try simp only [Act.put, List.setIfInBounds_toArray, List.set_cons_zero, List.set_cons_succ]
            refine heldTake (i := 8) (v := ?_) rfl (by kernel_rfl) (by kernel_rfl) (fun _ _ _ h => h) (by rfl) (by assumption) (fun w hSw => ?_) ?_; rotate_left; focus ((try dsimp only at hSw); go_simp; try with_reducible rfl)
            try simp only [Act.put, List.setIfInBounds_toArray, List.set_cons_zero, List.set_cons_succ]
            refine heldTake (i := 9) (v := ?_) rfl (by kernel_rfl) (by kernel_rfl) (fun _ _ _ h => h) (by rfl) (by assumption) (fun w hSw => ?_) ?_; rotate_left; focus ((try dsimp only at hSw); go_simp; try with_reducible rfl)
            try simp only [Act.put, List.setIfInBounds_toArray, List.set_cons_zero, List.set_cons_succ]
            refine wpAnyH_done (by kernel_rfl) ?_ _
            clear hH
            go_wp2
            go_meet
            exact ⟨congrArg Value.bool HQ.out.symm, rfl⟩
          · have hb : (c.name == n) = false := beq_eq_false_iff_ne.2 hnn
            have HQ := Lib.hid hb
            clear hnn
            refine wp_region_held_drew (S := fun w' => w'.cell? ⟨b, o + k * 2, none⟩ = some (.string ⟨c.name.toArray⟩) ∧ w'.cell? ⟨g, 0, none⟩ = some (.string ⟨n.toArray⟩)) (by kernel_rfl) S1.out (fun hH => ?_)
            refine heldTake (i := 0) (v := ?_) rfl (by kernel_rfl) (by kernel_rfl) (fun _ _ _ h => h) (by rfl) (by assumption) (fun w hSw => ?_) ?_; rotate_left; focus ((try dsimp only at hSw); go_simp; try with_reducible rfl)
            try simp only [Act.put, List.setIfInBounds_toArray, List.set_cons_zero, List.set_cons_succ]
            refine heldTake (i := 1) (v := ?_) rfl (by kernel_rfl) (by kernel_rfl) (fun _ _ _ h => h) (by rfl) (by assumption) (fun w hSw => ?_) ?_; rotate_left; focus ((try dsimp only at hSw); go_simp; try with_reducible rfl)
            try simp only [Act.put, List.setIfInBounds_toArray, List.set_cons_zero, List.set_cons_succ]
            refine heldTake (i := 2) (v := ?_) rfl (by kernel_rfl) (by kernel_rfl) (fun _ _ _ h => h) (by rfl) (by assumption) (fun w hSw => ?_) ?_; rotate_left; focus ((try dsimp only at hSw); go_simp; try with_reducible rfl)
            try simp only [Act.put, List.setIfInBounds_toArray, List.set_cons_zero, List.set_cons_succ]
            refine heldTake (i := 3) (v := ?_) rfl (by kernel_rfl) (by kernel_rfl) (fun _ _ _ h => h) (by rfl) (by assumption) (fun w hSw => ?_) ?_; rotate_left; focus ((try dsimp only at hSw); go_simp; try with_reducible rfl)
            try simp only [Act.put, List.setIfInBounds_toArray, List.set_cons_zero, List.set_cons_succ]
            refine heldTake (i := 4) (v := ?_) rfl (by kernel_rfl) (by kernel_rfl) (fun _ _ _ h => h) (by rfl) (by assumption) (fun w hSw => ?_) ?_; rotate_left; focus ((try dsimp only at hSw); go_simp; try with_reducible rfl)
            try simp only [Act.put, List.setIfInBounds_toArray, List.set_cons_zero, List.set_cons_succ]
            refine heldTake (i := 5) (v := ?_) rfl (by kernel_rfl) (by kernel_rfl) (fun _ _ _ h => h) (by rfl) (by assumption) (fun w hSw => ?_) ?_; rotate_left; focus ((try dsimp only at hSw); go_simp; try with_reducible rfl)
            try simp only [Act.put, List.setIfInBounds_toArray, List.set_cons_zero, List.set_cons_succ]
            refine heldTake (i := 6) (v := ?_) rfl (by kernel_rfl) (by kernel_rfl) (fun _ _ _ h => h) (by rfl) (by assumption) (fun w hSw => ?_) ?_; rotate_left; focus ((try dsimp only at hSw); go_simp; try with_reducible rfl)
            try simp only [Act.put, List.setIfInBounds_toArray, List.set_cons_zero, List.set_cons_succ]
            refine heldTake (i := 7) (v := ?_) rfl (by kernel_rfl) (by kernel_rfl) (fun _ _ _ h => h) (by rfl) (by assumption) (fun w hSw => ?_) ?_; rotate_left; focus ((try dsimp only at hSw); go_simp; try with_reducible rfl)
            try simp only [Act.put, List.setIfInBounds_toArray, List.set_cons_zero, List.set_cons_succ]
            refine heldTake (i := 8) (v := ?_) rfl (by kernel_rfl) (by kernel_rfl) (fun _ _ _ h => h) (by rfl) (by assumption) (fun w hSw => ?_) ?_; rotate_left; focus ((try dsimp only at hSw); go_simp; try with_reducible rfl)
            try simp only [Act.put, List.setIfInBounds_toArray, List.set_cons_zero, List.set_cons_succ]
            refine heldTake (i := 9) (v := ?_) rfl (by kernel_rfl) (by kernel_rfl) (fun _ _ _ h => h) (by rfl) (by assumption) (fun w hSw => ?_) ?_; rotate_left; focus ((try dsimp only at hSw); go_simp; try with_reducible rfl)
            try simp only [Act.put, List.setIfInBounds_toArray, List.set_cons_zero, List.set_cons_succ]
            refine wpAnyH_done (by kernel_rfl) ?_ _
            clear hH
            go_wp2
            go_meet
            exact ⟨congrArg Value.bool HQ.out.symm, rfl⟩
        case rest =>
        obtain ⟨rfl, rfl⟩ := hcut
        go_step
        have HD := Lib.hid (HB.out.drew)
        have HD3 := Lib.hid (HB3.out.drew)
        generalize wr.drew = wd at *
        go_wp2
        go_loopw [7, 8, 9] (fun al i _ wr => ∃ i1 j : Nat, i1 ≤ R ∧ Hid (i1 = j + 1) ∧ i = .int .i64 i1 ∧ al = .bool (hasTo n r c j) ∧ Hid (Below w.heap.size w wr) ∧ Hid (Below w2.heap.size w2 wr)) (fun _ i _ _ => R - (intOf i).toNat)
        case atStart => exact ⟨1, 0, by have := HR.out; omega, rfl, rfl, by rw [hasTo_zero], HD.out, HD3.out⟩
        case round =>
          obtain ⟨i1, j, hj, HJ, rfl, rfl, HD, HD3⟩ := hrel
          by_cases hjR : i1 < R
          · have hbd : Below w.heap.size w wr.drew := HD.out.drew
            have hbd3 : Below w2.heap.size w2 wr.drew := HD3.out.drew
            obtain ⟨y, hy⟩ : ∃ y, y = r.getD j [] := ⟨_, rfl⟩
            have k1 : wr.drew.cell? ⟨b, o + k * 2 + 1, none⟩ = some a := (hbd.cell (World.block_lt_of_cell? _ _ HGA.out)).trans HGA.out
            have k2 : wr.drew.cell? ⟨g, i1, none⟩ = some (.string ⟨y.toArray⟩) := by
              rw [hy]
              exact (hbd3.cell (World.block_lt_of_cell? _ _ (HGJ.out i1 j HJ.out hjR))).trans (HGJ.out i1 j HJ.out hjR)
            have S1 := Lib.hid (show _ ∧ _ from ⟨k1, k2⟩)
            have HWI := Lib.hid (within_any a c.args y wr.drew (HGR.out.below hbd) HAL.out)
            have HDD := Lib.hid hbd
            have HDD3 := Lib.hid hbd3
            have HSS := Lib.hid (show hasTo n r c (j + 1) = (hasTo n r c j && c.args.contains y) by rw [hy]; exact hasTo_succ (by have := HR.out; have := HJ.out; omega))
            clear k1 k2 hbd hbd3 hy
            unfold sv at HWI
            obtain ⟨F, hF⟩ : ∃ F, F = c.args.contains y := ⟨_, rfl⟩
            rw [← hF] at HWI HSS
            clear hF
            cases hE : hasTo n r c j with
            | true =>
              have HS := Lib.hid (show hasTo n r c (j + 1) = F by rw [HSS.out, hE, Bool.true_and])
              clear hE
              go_wp2_with fail
              refine wp_region_held_drew (S := fun w' => w'.cell? ⟨b, o + k * 2 + 1, none⟩ = some a ∧ w'.cell? ⟨g, i1, none⟩ = some (.string ⟨y.toArray⟩)) (by kernel_rfl) S1.out (fun hH => ?_)
              clear hH
              refine heldTake (i := 0) (v := ?_) rfl (by kernel_rfl) (by kernel_rfl) (fun _ _ _ h => h) (by rfl) (by assumption) (fun w hSw => ?_) ?_; rotate_left; focus ((try dsimp only at hSw); go_simp; try with_reducible rfl)
              try simp only [Act.put, List.setIfInBounds_toArray, List.set_cons_zero, List.set_cons_succ]
              refine heldTake (i := 1) (v := ?_) rfl (by kernel_rfl) (by kernel_rfl) (fun _ _ _ h => h) (by rfl) (by assumption) (fun w hSw => ?_) ?_; rotate_left; focus ((try dsimp only at hSw); go_simp; try with_reducible rfl)
              try simp only [Act.put, List.setIfInBounds_toArray, List.set_cons_zero, List.set_cons_succ]
              refine heldTake (i := 2) (v := ?_) rfl (by kernel_rfl) (by kernel_rfl) (fun _ _ _ h => h) (by rfl) (by assumption) (fun w hSw => ?_) ?_; rotate_left; focus ((try dsimp only at hSw); go_simp; try with_reducible rfl)
              try simp only [Act.put, List.setIfInBounds_toArray, List.set_cons_zero, List.set_cons_succ]
              refine heldTake (i := 3) (v := ?_) rfl (by kernel_rfl) (by kernel_rfl) (fun _ _ _ h => h) (by rfl) (by assumption) (fun w hSw => ?_) ?_; rotate_left; focus ((try dsimp only at hSw); go_simp; try with_reducible rfl)
              try simp only [Act.put, List.setIfInBounds_toArray, List.set_cons_zero, List.set_cons_succ]
              refine heldTake (i := 4) (v := ?_) rfl (by kernel_rfl) (by kernel_rfl) (fun _ _ _ h => h) (by rfl) (by assumption) (fun w hSw => ?_) ?_; rotate_left; focus ((try dsimp only at hSw); go_simp; try with_reducible rfl)
              try simp only [Act.put, List.setIfInBounds_toArray, List.set_cons_zero, List.set_cons_succ]
              refine heldTake (i := 5) (v := ?_) rfl (by kernel_rfl) (by kernel_rfl) (fun _ _ _ h => h) (by rfl) (by assumption) (fun w hSw => ?_) ?_; rotate_left; focus ((try dsimp only at hSw); go_simp; try with_reducible rfl)
              try simp only [Act.put, List.setIfInBounds_toArray, List.set_cons_zero, List.set_cons_succ]
              refine heldTake (i := 6) (v := ?_) rfl (by kernel_rfl) (by kernel_rfl) (fun _ _ _ h => h) (by rfl) (by assumption) (fun w hSw => ?_) ?_; rotate_left; focus ((try dsimp only at hSw); go_simp; try with_reducible rfl)
              try simp only [Act.put, List.setIfInBounds_toArray, List.set_cons_zero, List.set_cons_succ]
              refine heldTake (i := 7) (v := ?_) rfl (by kernel_rfl) (by kernel_rfl) (fun _ _ _ h => h) (by rfl) (by assumption) (fun w hSw => ?_) ?_; rotate_left; focus ((try dsimp only at hSw); go_simp; try with_reducible rfl)
              try simp only [Act.put, List.setIfInBounds_toArray, List.set_cons_zero, List.set_cons_succ]
              refine heldTake (i := 8) (v := ?_) rfl (by kernel_rfl) (by kernel_rfl) (fun _ _ _ h => h) (by rfl) (by assumption) (fun w hSw => ?_) ?_; rotate_left; focus ((try dsimp only at hSw); go_simp; try with_reducible rfl)
              try simp only [Act.put, List.setIfInBounds_toArray, List.set_cons_zero, List.set_cons_succ]
              -- NEXT 9 Op.call { callee := Callee.value (Operand.func 29), args := #[Operand.tmp 41, Operand.tmp 45], argTypes := #[2
              refine heldNext (i := 9) rfl (by kernel_rfl) (by rfl) (fun K hK => ?_)
              go_simp; go_at_call 29; refine (HWI.out).mono ?_; rintro e w9 ⟨rfl, rfl⟩; first | (refine hK.out _ _ S1.out ?_) | (go_wp2_with fail; refine hK.out _ _ S1.out ?_); clear hK K
              try simp only [Act.put, List.setIfInBounds_toArray, List.set_cons_zero, List.set_cons_succ]
              refine heldTake (i := 10) (v := ?_) rfl (by kernel_rfl) (by kernel_rfl) (fun _ _ _ h => h) (by rfl) (by assumption) (fun w hSw => ?_) ?_; rotate_left; focus ((try dsimp only at hSw); go_simp; try with_reducible rfl)
              try simp only [Act.put, List.setIfInBounds_toArray, List.set_cons_zero, List.set_cons_succ]
              refine wpAnyH_done (by kernel_rfl) ?_ _
              go_wp2
              go_roundw
              case rel => exact ⟨i1 + 1, j + 1, by omega, by rw [HJ.out]; rfl, by go_num, congrArg Value.bool HS.out.symm, HDD.out, HDD3.out⟩
              case measure => simp [intOf]; omega
            | false =>
              have HS := Lib.hid (show hasTo n r c (j + 1) = false by rw [HSS.out, hE, Bool.false_and])
              clear hE
              go_wp2_with fail
              refine wp_region_held_drew (S := fun w' => w'.cell? ⟨b, o + k * 2 + 1, none⟩ = some a ∧ w'.cell? ⟨g, i1, none⟩ = some (.string ⟨y.toArray⟩)) (by kernel_rfl) S1.out (fun hH => ?_)
              clear hH
              refine heldTake (i := 0) (v := ?_) rfl (by kernel_rfl) (by kernel_rfl) (fun _ _ _ h => h) (by rfl) (by assumption) (fun w hSw => ?_) ?_; rotate_left; focus ((try dsimp only at hSw); go_simp; try with_reducible rfl)
              try simp only [Act.put, List.setIfInBounds_toArray, List.set_cons_zero, List.set_cons_succ]
              refine heldTake (i := 1) (v := ?_) rfl (by kernel_rfl) (by kernel_rfl) (fun _ _ _ h => h) (by rfl) (by assumption) (fun w hSw => ?_) ?_; rotate_left; focus ((try dsimp only at hSw); go_simp; try with_reducible rfl)
              try simp only [Act.put, List.setIfInBounds_toArray, List.set_cons_zero, List.set_cons_succ]
              refine heldTake (i := 2) (v := ?_) rfl (by kernel_rfl) (by kernel_rfl) (fun _ _ _ h => h) (by rfl) (by assumption) (fun w hSw => ?_) ?_; rotate_left; focus ((try dsimp only at hSw); go_simp; try with_reducible rfl)
              try simp only [Act.put, List.setIfInBounds_toArray, List.set_cons_zero, List.set_cons_succ]
              refine heldTake (i := 3) (v := ?_) rfl (by kernel_rfl) (by kernel_rfl) (fun _ _ _ h => h) (by rfl) (by assumption) (fun w hSw => ?_) ?_; rotate_left; focus ((try dsimp only at hSw); go_simp; try with_reducible rfl)
              try simp only [Act.put, List.setIfInBounds_toArray, List.set_cons_zero, List.set_cons_succ]
              refine heldTake (i := 4) (v := ?_) rfl (by kernel_rfl) (by kernel_rfl) (fun _ _ _ h => h) (by rfl) (by assumption) (fun w hSw => ?_) ?_; rotate_left; focus ((try dsimp only at hSw); go_simp; try with_reducible rfl)
              try simp only [Act.put, List.setIfInBounds_toArray, List.set_cons_zero, List.set_cons_succ]
              refine heldTake (i := 5) (v := ?_) rfl (by kernel_rfl) (by kernel_rfl) (fun _ _ _ h => h) (by rfl) (by assumption) (fun w hSw => ?_) ?_; rotate_left; focus ((try dsimp only at hSw); go_simp; try with_reducible rfl)
              try simp only [Act.put, List.setIfInBounds_toArray, List.set_cons_zero, List.set_cons_succ]
              refine heldTake (i := 6) (v := ?_) rfl (by kernel_rfl) (by kernel_rfl) (fun _ _ _ h => h) (by rfl) (by assumption) (fun w hSw => ?_) ?_; rotate_left; focus ((try dsimp only at hSw); go_simp; try with_reducible rfl)
              try simp only [Act.put, List.setIfInBounds_toArray, List.set_cons_zero, List.set_cons_succ]
              refine heldTake (i := 7) (v := ?_) rfl (by kernel_rfl) (by kernel_rfl) (fun _ _ _ h => h) (by rfl) (by assumption) (fun w hSw => ?_) ?_; rotate_left; focus ((try dsimp only at hSw); go_simp; try with_reducible rfl)
              try simp only [Act.put, List.setIfInBounds_toArray, List.set_cons_zero, List.set_cons_succ]
              refine heldTake (i := 8) (v := ?_) rfl (by kernel_rfl) (by kernel_rfl) (fun _ _ _ h => h) (by rfl) (by assumption) (fun w hSw => ?_) ?_; rotate_left; focus ((try dsimp only at hSw); go_simp; try with_reducible rfl)
              try simp only [Act.put, List.setIfInBounds_toArray, List.set_cons_zero, List.set_cons_succ]
              -- NEXT 9 Op.call { callee := Callee.value (Operand.func 29), args := #[Operand.tmp 41, Operand.tmp 45], argTypes := #[2
              refine heldNext (i := 9) rfl (by kernel_rfl) (by rfl) (fun K hK => ?_)
              go_simp; go_at_call 29; refine (HWI.out).mono ?_; rintro e w9 ⟨rfl, rfl⟩; first | (refine hK.out _ _ S1.out ?_) | (go_wp2_with fail; refine hK.out _ _ S1.out ?_); clear hK K
              try simp only [Act.put, List.setIfInBounds_toArray, List.set_cons_zero, List.set_cons_succ]
              refine heldTake (i := 10) (v := ?_) rfl (by kernel_rfl) (by kernel_rfl) (fun _ _ _ h => h) (by rfl) (by assumption) (fun w hSw => ?_) ?_; rotate_left; focus ((try dsimp only at hSw); go_simp; try with_reducible rfl)
              try simp only [Act.put, List.setIfInBounds_toArray, List.set_cons_zero, List.set_cons_succ]
              refine wpAnyH_done (by kernel_rfl) ?_ _
              go_wp2
              go_roundw
              case rel => exact ⟨i1 + 1, j + 1, by omega, by rw [HJ.out]; rfl, by go_num, congrArg Value.bool HS.out.symm, HDD.out, HDD3.out⟩
              case measure => simp [intOf]; omega
          · obtain rfl : i1 = R := by omega
            have HO := Lib.hid (hasTo_all (n := n) (r := r) (c := c) (j := j) (by have := HR.out; have := HJ.out; omega))
            cases hE : hasTo n r c j with
            | true =>
              have HX := Lib.hid (show cs.any (Cp.hasOne (n :: r)) = true from List.any_eq_true.2 ⟨c, List.mem_of_getElem? HCK.out, HO.out.symm.trans hE⟩)
              clear hE
              go_wp2
              go_ret
              refine ⟨?_, HD.out⟩
              rw [HX.out]
              rfl
            | false =>
              have HX := Lib.hid (show (cs.take (k + 1)).any (Cp.hasOne (n :: r)) = false from cany_more HE.out HCK.out (HO.out.symm.trans hE))
              clear hE
              go_wp2
              go_roundw
              case rel => exact ⟨k + 1, by omega, by go_num, HX.out, HD.out, HD3.out⟩
              case measure => simp [intOf]; omega
      · have HF := Lib.hid (show cs.any (Cp.hasOne (n :: r)) = false by
          have := HE.out
          rwa [List.take_of_length_le (by have := HN.out; omega)] at this)
        go_wp2
        go_ret
        refine ⟨?_, HB.out⟩
        rw [HF.out]
        rfl
end Go.Proofs.YtomeoploojjacaaDoor
