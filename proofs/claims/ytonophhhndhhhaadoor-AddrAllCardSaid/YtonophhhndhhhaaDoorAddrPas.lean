/- addr.passive walked (layer 13). -/
import Derived.Test.YtonophhhndhhhaaDoorAddrGo
import Derived.Test.YtonophhhndhhhaaDoorAddrFlo
import Derived.WalkSpells
import Derived.WalkSmall
import Derived.WalkLawsBesides
namespace Go.Proofs.YtonophhhndhhhaaDoor
open Go.RowKit

def iv (n : Nat) : Value := .int .i64 (n : Int)
/-- What holds at the head of a round. -/
structure PR (B : Nat) (w wr : World) (l s : List UInt8) (k : Nat) (xs : List Nat) : Prop where
  below : Below B w wr
  res : AB wr B ad0
  row : wr.heap[B + 1]? = some (.cells (xs.map iv).toArray 61 (0, 0))
  len : xs.length = 6
  small : ∀ x ∈ xs, x ≤ 255
  hk : k ≤ 6
  hs : s.length ≤ l.length
  eq : Ad.go 6 l = (Ad.go (6 - k) s).map fun y => (xs.take k).map (fun (n : Nat) => (n : Int)) ++ y

theorem PR.start {w : World} {l : List UInt8} : PR w.heap.size w ((w.alloc (.cells #[.int .i64 0, .int .i64 0, .int .i64 0, .int .i64 0, .int .i64 0] 24)).alloc (.cells #[.int .i64 0, .int .i64 0, .int .i64 0, .int .i64 0, .int .i64 0, .int .i64 0] 61)) l l 0 [0, 0, 0, 0, 0, 0] where
  below := ((Below.refl _ _).alloc (Nat.le_refl _) _).alloc (by simp) _
  res := ⟨heap_alloc2_old _ _ _⟩
  row := heap_alloc2_new _ _ _
  len := rfl
  small := by intro x hx; simp at hx; omega
  hk := by omega
  hs := Nat.le_refl _
  eq := by simp

theorem PR.cell {B : Nat} {w wr : World} {l s : List UInt8} {k : Nat} {xs : List Nat} (h : PR B w wr l s k xs) {i : Nat} (hi : i < 6) : wr.cell? ⟨B + 1, i, none⟩ = some (.int .i64 (((xs.getD i 0 : Nat)) : Int)) := by
  have hl := h.len
  simp [World.cell?, h.row, iv, List.getD, List.getElem?_eq_getElem (show i < xs.length by omega)]
theorem PR.froz {B : Nat} {w wr : World} {l s : List UInt8} {k : Nat} {xs : List Nat} (h : PR B w wr l s k xs) (i : Nat) : wr.frozen? ⟨B + 1, i, none⟩ = false := by simp [World.frozen?, h.row]
theorem PR.later {B : Nat} {w wr w' : World} {l s : List UInt8} {k : Nat} {xs : List Nat} (h : PR B w wr l s k xs) (hb : Below wr.heap.size wr w') (hB : B + 1 < wr.heap.size) : PR B w w' l s k xs :=
  { h with below := h.below.trans (hb.mono (by omega)), res := h.res.below hb (by omega), row := (hb.block _ hB).trans h.row }
theorem PR.lt {B : Nat} {w wr : World} {l s : List UInt8} {k : Nat} {xs : List Nat} (h : PR B w wr l s k xs) : B + 1 < wr.heap.size := (Array.getElem?_eq_some_iff.1 h.row).1
/-- A round more. -/
theorem PR.step {B : Nat} {w wr : World} {l s : List UInt8} {k : Nat} {xs : List Nat} (h : PR B w wr l s k xs) (hk : k < 6) {v : Nat} (hv : v ≤ 255) (h1 : (Ad.numb 255 3 s).1 = v) (h2 : (Ad.numb 255 3 s).2.2 = true) (h3 : (Ad.numb 255 3 s).2.1.head? = some 44 ∨ k = 5) :
    PR B w (wr.setCell ⟨B + 1, k, none⟩ (.int .i64 (v : Int))) l (Ad.next (Ad.numb 255 3 s).2.1) (k + 1) (xs.set k v) where
  below := h.below.setCell (by show B ≤ B + 1; omega) _
  res := ⟨(heap_setCell_other _ _ _ _ (by show B ≠ B + 1; omega)).trans h.res.blk⟩
  row := by
    rw [setCell_row h.row, List.map_set]
    simp [iv]
  len := by rw [List.length_set]; exact h.len
  small := by
    intro x hx
    rcases List.mem_or_eq_of_mem_set hx with hx | rfl
    · exact h.small x hx
    · exact hv
  hk := by omega
  hs := Nat.le_trans (Nat.le_trans (Ad.next_len _) (Ad.numb_len _ _ _)) h.hs
  eq := by
    have hl := h.len
    rw [h.eq, show 6 - k = (6 - (k + 1)) + 1 by omega, Ad.go, if_pos ⟨h2, by rcases h3 with h3 | h3; exact .inl h3; exact .inr (by omega)⟩, h1, Option.map_map]
    congr 1
    funext y
    rw [List.take_add_one, List.take_set_of_le (Nat.le_refl k), List.getElem?_set_self (by omega)]
    simp
theorem PR.fail {B : Nat} {w wr : World} {l s : List UInt8} {k : Nat} {xs : List Nat} (h : PR B w wr l s k xs) (hk : k < 6) (hf : ¬ ((Ad.numb 255 3 s).2.2 = true ∧ ((Ad.numb 255 3 s).2.1.head? = some 44 ∨ k = 5))) : Ad.passive l = ad0 := by
  unfold Ad.passive
  rw [h.eq, show 6 - k = (6 - (k + 1)) + 1 by omega, Ad.go, if_neg (fun e => hf ⟨e.1, by rcases e.2 with e | e; exact .inl e; exact .inr (by omega)⟩)]
  rfl
theorem PR.done {B : Nat} {w wr : World} {l s : List UInt8} {xs : List Nat} (h : PR B w wr l s 6 xs) : ∃ a b c d e f : Nat, xs = [a, b, c, d, e, f] ∧ e ≤ 255 ∧ f ≤ 255 ∧ Ad.passive l = if e * 256 + f = 0 then ad0 else ⟨a, b, c, d, ((e * 256 + f : Nat) : Int)⟩ := by
  have hl := h.len
  have hq := h.eq
  have hsm := h.small
  match xs, hl with
  | [a, b, c, d, e, f], _ =>
    refine ⟨a, b, c, d, e, f, rfl, hsm e (by simp), hsm f (by simp), ?_⟩
    unfold Ad.passive
    rw [hq]
    simp only [Nat.sub_self, Ad.go, Option.map_some, List.append_nil, List.take_succ_cons, List.take_zero, List.map_cons, List.map_nil, Option.bind_some, Ad.place]
    by_cases h0 : e * 256 + f = 0
    · rw [if_pos h0, if_pos (by omega)]
      rfl
    · rw [if_neg h0, if_neg (by omega)]
      simp

set_option maxHeartbeats 4000000 in
theorem passive_any (l : List UInt8) (hl : l.length ≤ 1048576) (w : World) :
    Calls Tryd.prog 20 #[.string ⟨l.toArray⟩] w fun e w' => e = .returned (adv (Ad.passive l)) ∧ Below w.heap.size w w' := by
  have NUM := Lib.hid (fun (s : List UInt8) (hs : s.length ≤ l.length) wx => anum_any s (by omega) 3 255 wx)
  have COM := Lib.hid (fun (s : List UInt8) wx => comma_any s wx)
  have HLL := Lib.hid hl
  obtain ⟨B, hB⟩ : ∃ B, w.heap.size = B := ⟨_, rfl⟩
  have HBB := Lib.hid hB
  clear hl
  go_enter Tryd.func20, Tryd.ntmps20
  go_wp2_with fail
  go_loopw [0, 11] (fun s0 s11 wr => ∃ (s : List UInt8) (k : Nat) (xs : List Nat), k ≤ 6 ∧ s0 = .string ⟨s.toArray⟩ ∧ s11 = .int .i64 k ∧ Hid (PR B w wr l s k xs)) (fun _ s11 _ => 6 - (intOf s11).toNat)
  case atStart => exact ⟨l, 0, [0, 0, 0, 0, 0, 0], by omega, rfl, rfl, by subst hB; exact PR.start⟩
  case round =>
    obtain ⟨s, k, xs, hk, rfl, rfl, HR⟩ := hrel
    by_cases hlt : k < 6
    · have hn := NUM.out s HR.out.hs
      have hc0 := HR.out.res.c0
      obtain ⟨nb, hnb⟩ : ∃ nb, Ad.numb 255 3 s = nb := ⟨_, rfl⟩
      rw [hnb] at hn
      obtain ⟨n, b, ok⟩ := nb
      dsimp only at hn
      have hcm := COM.out b
      obtain ⟨nx, hnx⟩ : ∃ nx, Ad.next b = nx := ⟨_, rfl⟩
      rw [show (if b.head? = some 44 then b.tail else b) = nx from hnx] at hcm
      obtain ⟨pt, hpt⟩ : ∃ pt, decide (b.head? = some 44) = pt := ⟨_, rfl⟩
      rw [hpt] at hcm
      have HNB := Lib.hid hnb
      have HNX := Lib.hid hnx
      have HPT := Lib.hid hpt
      clear hnb hnx hpt
      have hn2 := hn wr
      clear hn
      go_wp2_with fail
      refine hn2.mono ?_
      rintro e w1 ⟨rfl, hb1⟩
      have HR1 := Lib.hid (HR.out.later hb1 HR.out.lt)
      clear hb1 hn2 hc0
      go_wp2_with fail
      refine (hcm _).mono ?_
      rintro e w2 ⟨rfl, hw2⟩
      rw [hw2]
      clear hw2 hcm w2
      by_cases hq : ok = true ∧ (pt = true ∨ k = 5)
      · have hok := hq.1
        subst hok
        obtain ⟨v, hv1, hv2⟩ := Ad.numb_255 (l := s) (by rw [HNB.out])
        rw [HNB.out] at hv1
        dsimp only at hv1
        subst hv1
        have HST := Lib.hid (HR1.out.step hlt hv2 (by rw [HNB.out]) (by rw [HNB.out]) (by rw [HNB.out]; rcases hq.2 with h | h; exact .inl (of_decide_eq_true (HPT.out.trans h)); exact .inr h))
        rw [HNB.out] at HST
        dsimp only at HST
        rw [HNX.out] at HST
        have hcc := HR1.out.cell hlt
        have hcf := HR1.out.froz k
        cases pt
        · have hk5 : k = 5 := by rcases hq.2 with h | h; cases h; exact h
          subst hk5
          clear hq
          go_wp2
          go_roundw
          case rel => exact ⟨nx, 6, xs.set 5 v, by omega, rfl, by go_num, HST.out⟩
          case measure => simp [intOf]
        · clear hq
          go_wp2
          go_roundw
          case rel => exact ⟨nx, k + 1, xs.set k v, by omega, rfl, by go_num, HST.out⟩
          case measure => simp [intOf]; omega
      · have HF := Lib.hid (HR1.out.fail hlt (by rw [HNB.out]; rintro ⟨h1, h2⟩; refine hq ⟨h1, ?_⟩; rcases h2 with h2 | h2; exact .inl (HPT.out.symm.trans (decide_eq_true h2)); exact .inr h2))
        have d0 := HR1.out.res.c0
        have d1 := HR1.out.res.c1
        have d2 := HR1.out.res.c2
        have d3 := HR1.out.res.c3
        have d4 := HR1.out.res.c4
        have df := HR1.out.res.froz
        have HZ := HR1.out.res.put ⟨0, 0, 0, 0, 0⟩
        dsimp only at HZ
        have HBZ := Lib.hid (below_set5 HR1.out.below (Nat.le_refl _) (.int .i64 0) (.int .i64 0) (.int .i64 0) (.int .i64 0) (.int .i64 0))
        have HZZ := Lib.hid HZ
        clear HZ
        cases ok
        · clear hq
          go_wp2
          refine bodyPost_ret (v := adv ad0) (by have d0 := HZZ.out.c0; have d1 := HZZ.out.c1; have d2 := HZZ.out.c2; have d3 := HZZ.out.c3; have d4 := HZZ.out.c4; simp [results, Tryd.results20, go_sem, d0, d1, d2, d3, d4, adv, adc, ad0]) rfl ⟨by rw [HF.out], by rw [HBB.out]; exact HBZ.out⟩
        · cases pt
          · have hk5 : k < 5 := by
              rcases (show k < 5 ∨ k = 5 by omega) with h | h
              · exact h
              · exact absurd ⟨rfl, .inr h⟩ hq
            clear hq
            go_wp2
            refine bodyPost_ret (v := adv ad0) (by have d0 := HZZ.out.c0; have d1 := HZZ.out.c1; have d2 := HZZ.out.c2; have d3 := HZZ.out.c3; have d4 := HZZ.out.c4; simp [results, Tryd.results20, go_sem, d0, d1, d2, d3, d4, adv, adc, ad0]) rfl ⟨by rw [HF.out], by rw [HBB.out]; exact HBZ.out⟩
          · exact absurd ⟨rfl, .inl rfl⟩ hq
    · obtain rfl : k = 6 := by omega
      obtain ⟨a, b, c, d, e, f, rfl, he, hf, hp⟩ := HR.out.done
      have hc4 : wr.cell? ⟨B + 1, 4, none⟩ = some (.int .i64 (e : Int)) := HR.out.cell (by omega)
      have hc5 : wr.cell? ⟨B + 1, 5, none⟩ = some (.int .i64 (f : Int)) := HR.out.cell (by omega)
      have PO := fun wx => port_any e f he hf wx
      obtain ⟨p, hpp⟩ : ∃ p, e * 256 + f = p := ⟨_, rfl⟩
      rw [hpp] at PO hp
      have hp65 : p ≤ 65535 := by omega
      go_wp2_with fail
      refine (PO _).mono ?_
      rintro e1 w1 ⟨rfl, rfl⟩
      clear PO
      have hsz := HR.out.lt
      have HBW := Lib.hid HR.out.below
      have hz1 : B < wr.heap.size := by omega
      have hrow : wr.heap[B + 1]? = some (.cells #[.int .i64 (a : Int), .int .i64 (b : Int), .int .i64 (c : Int), .int .i64 (d : Int), .int .i64 (e : Int), .int .i64 (f : Int)] 61 (0, 0)) := HR.out.row
      have HRES := HR.out.res
      have d0 := HRES.c0
      have d1 := HRES.c1
      have d2 := HRES.c2
      have d3 := HRES.c3
      have d4 := HRES.c4
      have df := HRES.froz
      by_cases h0 : p = 0
      · rw [if_pos h0] at hp
        have HP := Lib.hid hp
        have HRR := Lib.hid HRES
        clear hp hrow HRES
        subst h0
        have HZ := HRR.out.put ⟨0, 0, 0, 0, 0⟩
        dsimp only at HZ
        have HBZ := Lib.hid (below_set5 HBW.out (Nat.le_refl _) (.int .i64 0) (.int .i64 0) (.int .i64 0) (.int .i64 0) (.int .i64 0))
        have HZZ := Lib.hid HZ
        clear HZ
        go_wp2
        have hz2 := hz1
        generalize hwz : ((((wr.setCell ⟨B, 0, none⟩ (.int .i64 0)).setCell ⟨B, 1, none⟩ (.int .i64 0)).setCell ⟨B, 2, none⟩ (.int .i64 0)).setCell ⟨B, 3, none⟩ (.int .i64 0)).setCell ⟨B, 4, none⟩ (.int .i64 0) = wz at *
        have hsz3 : wz.heap.size = wr.heap.size := by rw [← hwz]; simp
        rw [← hsz3] at hz1
        clear d0 d1 d2 d3 d4
        have HA := HZZ.out
        refine bodyPost_ret (v := adv ad0) (by have d0 := HA.c0; have d1 := HA.c1; have d2 := HA.c2; have d3 := HA.c3; have d4 := HA.c4; simp [results, Tryd.results20, go_sem, d0, d1, d2, d3, d4, adv, adc, ad0, hz1]) rfl ⟨by rw [HP.out], by rw [HBB.out]; exact HBZ.out.alloc (by omega) _⟩
      · rw [if_neg h0] at hp
        have hp0 : ((p : Int) == 0) = false := beq_eq_false_iff_ne.2 (by omega)
        have hp1 : ((p : Int) = 0) = False := eq_false (by omega)
        have HP := Lib.hid hp
        have HRR := Lib.hid HRES
        have HRW := Lib.hid hrow
        have hzz : (B + 1 = wr.heap.size) = False := eq_false (by omega)
        clear hp HRES
        go_wp2_with fail
        obtain ⟨w3, hw3⟩ : ∃ w3, wr.alloc (.cells #[.int .i64 0, .int .i64 0, .int .i64 0, .int .i64 0, .int .i64 (p : Int)] 24) = w3 := ⟨_, rfl⟩
        rw [hw3]
        have k1 : w3.heap[wr.heap.size]? = some (.cells #[.int .i64 0, .int .i64 0, .int .i64 0, .int .i64 0, .int .i64 (p : Int)] 24 (0, 0)) := by rw [← hw3]; exact heap_alloc_new _ _
        have k2 : w3.heap[B + 1]? = some (.cells #[.int .i64 (a : Int), .int .i64 (b : Int), .int .i64 (c : Int), .int .i64 (d : Int), .int .i64 (e : Int), .int .i64 (f : Int)] 61 (0, 0)) := by rw [← hw3, heap_alloc_old _ _ hsz]; exact HRW.out
        have k3 : AB w3 B ad0 := ⟨by rw [← hw3]; exact (heap_alloc_old _ _ hz1).trans HRR.out.blk⟩
        have HB3 := Lib.hid (show Below B w w3 by rw [← hw3]; exact HBW.out.alloc (by omega) _)
        have hs3 : w3.heap.size = wr.heap.size + 1 := by rw [← hw3]; simp
        obtain ⟨g2, hg2⟩ : ∃ g2, wr.heap.size = g2 := ⟨_, rfl⟩
        rw [hg2] at k1 hzz ⊢
        have hne : (B = g2) = False := eq_false (by omega)
        have hne2 : B ≠ g2 := by omega
        have hcp : ∀ q, (Builtin.copy_ #[43, 43] 3 #[.slice (some ⟨g2, 0, none⟩) 4 4, .slice (some ⟨B + 1, 0, none⟩) 6 6]).run Tryd.prog (w3.drewN q) = .ok (.int .i64 4) ((w3.drewN q).setCells g2 0 [.int .i64 (a : Int), .int .i64 (b : Int), .int .i64 (c : Int), .int .i64 (d : Int)]) := by
          intro q
          refine run_copy_cells _ _ _ _ 3 g2 0 4 4 ⟨B + 1, 0, none⟩ 6 6 [.int .i64 (a : Int), .int .i64 (b : Int), .int .i64 (c : Int), .int .i64 (d : Int)] Tryd.underlying43 (by kernel_rfl) rfl ?_ ?_ ?_ ?_
          · intro j v hj
            match j with
            | 0 => simp at hj; subst hj; simp [World.cell?, Addr.add, k2]
            | 1 => simp at hj; subst hj; simp [World.cell?, Addr.add, k2]
            | 2 => simp at hj; subst hj; simp [World.cell?, Addr.add, k2]
            | 3 => simp at hj; subst hj; simp [World.cell?, Addr.add, k2]
            | j + 4 => simp at hj
          · intro j hj
            match j with
            | 0 => simp [World.cell?, k1]
            | 1 => simp [World.cell?, k1]
            | 2 => simp [World.cell?, k1]
            | 3 => simp [World.cell?, k1]
            | j + 4 => exact absurd hj (by simp)
          · intro j hj
            simp [World.frozen?, k1]
          · intro v hv
            simp at hv
            rcases hv with rfl | rfl | rfl | rfl <;> rfl
        have hcp0 := hcp 0
        have hcp1 := hcp 1
        change Sem.run _ _ w3 = _ at hcp0
        change Sem.run _ _ w3.drew = _ at hcp1
        clear d0 d1 d2 d3 d4 df hw3 hcp
        have hrow2 := HRW.out
        clear hrow hrow2
        go_region
        have k4 : AB ((w3.drewN 1).setCells g2 0 [.int .i64 (a : Int), .int .i64 (b : Int), .int .i64 (c : Int), .int .i64 (d : Int)]) g2 ⟨a, b, c, d, p⟩ := by
          refine ⟨?_⟩
          have k1' : (w3.drewN 1).heap[g2]? = some (.cells #[.int .i64 0, .int .i64 0, .int .i64 0, .int .i64 0, .int .i64 (p : Int)] 24 (0, 0)) := k1
          simp only [World.setCells]
          exact (setCell_row (setCell_row (setCell_row (setCell_row k1')))).trans (by simp [adc])
        have k5 : AB ((w3.drewN 1).setCells g2 0 [.int .i64 (a : Int), .int .i64 (b : Int), .int .i64 (c : Int), .int .i64 (d : Int)]) B ad0 := by
          refine ⟨?_⟩
          have k3' : (w3.drewN 1).heap[B]? = some (.cells (adc ad0) 24 (0, 0)) := k3.blk
          simp only [World.setCells]
          rw [heap_setCell_other _ _ _ _ hne2, heap_setCell_other _ _ _ _ hne2, heap_setCell_other _ _ _ _ hne2, heap_setCell_other _ _ _ _ hne2]
          exact k3'
        have k6 : Below B w ((w3.drewN 1).setCells g2 0 [.int .i64 (a : Int), .int .i64 (b : Int), .int .i64 (c : Int), .int .i64 (d : Int)]) := by
          have hBg : B ≤ g2 := by omega
          simp only [World.setCells]
          exact ((((below_drewN HB3.out 1).setCell (p := ⟨g2, 0, none⟩) hBg _).setCell (p := ⟨g2, 0 + 1, none⟩) hBg _).setCell (p := ⟨g2, 0 + 1 + 1, none⟩) hBg _).setCell (p := ⟨g2, 0 + 1 + 1 + 1, none⟩) hBg _
        generalize (w3.drewN 1).setCells g2 0 [.int .i64 (a : Int), .int .i64 (b : Int), .int .i64 (c : Int), .int .i64 (d : Int)] = w4 at *
        have s0 := k4.c0
        have s1 := k4.c1
        have s2 := k4.c2
        have s3 := k4.c3
        have s4 := k4.c4
        dsimp only at s0 s1 s2 s3 s4
        have r0 := k5.c0
        have r1 := k5.c1
        have r2 := k5.c2
        have r3 := k5.c3
        have r4 := k5.c4
        have rf := k5.froz
        have HZ := Lib.hid (k5.put ⟨a, b, c, d, p⟩)
        have HBZ := Lib.hid (below_set5 k6 (Nat.le_refl _) (.int .i64 (a : Int)) (.int .i64 (b : Int)) (.int .i64 (c : Int)) (.int .i64 (d : Int)) (.int .i64 (p : Int)))
        clear k1 k2 k3 k4 k5 k6 hcp0 hcp1
        go_wp2
        try dsimp only at HZ
        generalize ((((w4.setCell ⟨B, 0, none⟩ (.int .i64 (a : Int))).setCell ⟨B, 1, none⟩ (.int .i64 (b : Int))).setCell ⟨B, 2, none⟩ (.int .i64 (c : Int))).setCell ⟨B, 3, none⟩ (.int .i64 (d : Int))).setCell ⟨B, 4, none⟩ (.int .i64 (p : Int)) = wz at *
        have HA := HZ.out
        clear r0 r1 r2 r3 r4
        refine bodyPost_ret (v := adv ⟨a, b, c, d, p⟩) (by have d0 := HA.c0; have d1 := HA.c1; have d2 := HA.c2; have d3 := HA.c3; have d4 := HA.c4; simp [results, Tryd.results20, go_sem, d0, d1, d2, d3, d4, adv, adc]) rfl ⟨by rw [HP.out], by first | exact HBZ.out | (rw [HBB.out]; exact HBZ.out)⟩
end Go.Proofs.YtonophhhndhhhaaDoor
