/- The reference's ends, Whole and Put, walked. -/
import Derived.Test.YthfefbpfgepbjaaStuffP
import Derived.Test.YthfefbpfgepbjaaRdB
import Derived.Test.YthfefbpfgepbjaaRdCut
import Derived.Test.YthfefbpfgepbjaaBits
import Derived.Test.YthfefbpfgepbjaaOwnSet
namespace Go.Proofs.Ythfefbpfgepbjaa
open Go.RowKit

theorem rends_any (v : Value) (xs : List UInt8) (w : World) (h : Rd w v (xs.map bv)) (hs : xs.length ≤ 2000000) :
    Calls Try.prog 22 #[v] w fun e w' => e = .returned (.bool (St.ends xs)) ∧ w = w' := by
  obtain ⟨ao, cap, rfl, hcap, hc⟩ := h.form
  rw [St.ends_get]
  obtain ⟨L, hL⟩ : ∃ L, L = xs.length := ⟨_, rfl⟩
  rw [← hL] at hs hcap hc ⊢
  by_cases h2 : 2 ≤ L
  · obtain ⟨b, o, rfl, _, hcell⟩ := hc (by omega)
    have c1 := hcell (L - 2) (by omega)
    have c2 := hcell (L - 1) (by omega)
    obtain ⟨x, hx⟩ : ∃ x, x = xs.getD (L - 2) 0 := ⟨_, rfl⟩
    obtain ⟨y, hy⟩ : ∃ y, y = xs.getD (L - 1) 0 := ⟨_, rfl⟩
    rw [← hx] at c1 ⊢
    rw [← hy] at c2 ⊢
    obtain ⟨K, hK⟩ : ∃ K, L = K + 2 := ⟨L - 2, by omega⟩
    have e1 : (((x.toNat : Int) == 13)) = (x == 13) := by
      rw [Bool.eq_iff_iff]
      simp only [beq_iff_eq]
      exact ⟨fun h => UInt8.toNat_inj.1 (show x.toNat = 13 by omega), fun h => by subst h; rfl⟩
    have e2 : (((y.toNat : Int) == 10)) = (y == 10) := by
      rw [Bool.eq_iff_iff]
      simp only [beq_iff_eq]
      exact ⟨fun h => UInt8.toNat_inj.1 (show y.toNat = 10 by omega), fun h => by subst h; rfl⟩
    rw [decide_eq_true h2, Bool.true_and, ← e1, ← e2]
    have x1 := x.toNat_lt
    have y1 := y.toNat_lt
    rw [hK] at c1 c2 hs ⊢
    rw [show K + 2 - 2 = K by omega] at c1
    rw [show K + 2 - 1 = K + 1 by omega] at c2
    unfold bv at c1 c2
    generalize x.toNat = X at *
    generalize y.toNat = Y at *
    clear hx hy hcell hc e1 e2 h hcap hL hK h2
    by_cases h13 : X = 13
    · subst h13
      go_enter Try.func22, Try.ntmps22
      go_wp2
      go_ret
      exact ⟨ret_b (by simp), rfl⟩
    · have hf : ((X : Int) == 13) = false := beq_eq_false_iff_ne.2 (by omega)
      rw [hf, Bool.false_and]
      clear h13
      go_enter Try.func22, Try.ntmps22
      go_wp2
      go_ret
      exact ⟨rfl, rfl⟩
  · rw [decide_eq_false h2]
    clear hc h hL
    go_enter Try.func22, Try.ntmps22
    go_wp2
    go_ret
    exact ⟨rfl, rfl⟩

set_option maxHeartbeats 1000000 in
theorem rwhole_any (v : Value) (xs : List UInt8) (w : World) (h : Rd w v (xs.map bv)) (hs : xs.length ≤ 1000000) :
    Calls Try.prog 14 #[v] w fun e w' => ∃ ao c, e = .returned (.slice ao (St.whole xs).length c) ∧ Rd w' (.slice ao (St.whole xs).length c) ((St.whole xs).map bv) ∧ Below w.heap.size w w' := by
  have ha : Below w.heap.size w (w.alloc (.cells #[] 5)) := (Below.refl _ _).alloc (Nat.le_refl _) _
  have H := Lib.hid (h.below ha)
  have HA := Lib.hid ha
  have HS := Lib.hid hs
  obtain ⟨W, hW⟩ : ∃ W, W = (St.whole xs).length := ⟨_, rfl⟩
  rw [← hW]
  have HW := Lib.hid hW
  clear h ha hs hW
  go_enter Try.func14, Try.ntmps14
  go_wp2_with (at_builtin; refine append_u8s rfl (.tmp 5) (.tmp 6) rfl rfl (World.ownsRow_made (base := w.heap.size) w #[] 0 (Nat.le_refl _) (Nat.zero_le _) rfl) (xs.map bv) H.out (bv_cell _) ?ca HA.out.size ?_)
  case ca => rw [List.length_map]; have := HS.out; omega
  intro v1 w1 ho1 hg1
  have hb1 := HA.out.grown hg1 HA.out.size (fun k hk => by cases hk; exact Nat.le_refl _)
  obtain ⟨bo, bc, rfl⟩ := own_form ho1
  have hre := rends_any _ xs w1 (Rd.of_own ho1) (by have := HS.out; omega)
  have hLb := HS.out
  have hL0 : xs.length = 0 ↔ xs = [] := List.length_eq_zero_iff
  generalize hLL : xs.length = L at ho1 hre hLb hL0 ⊢
  have HL := Lib.hid hLL
  clear hLL
  have HO := Lib.hid ho1
  have HB := Lib.hid hb1
  have HE := Lib.hid hre
  clear ho1 hg1 hb1 hre H HA HS
  go_wp2_with fail
  refine HE.out.mono ?_
  rintro e w2 ⟨rfl, hw⟩
  rw [← hw]
  clear hw HE
  by_cases hx : xs = []
  · have hl0 : L = 0 := hL0.2 hx
    have he : St.ends xs = false := by rw [hx]; rfl
    have hwe : St.whole xs = xs := by rw [hx]; rfl
    have hWL : W = L := by rw [HW.out, hwe, HL.out]
    rw [he]
    have HWE := Lib.hid hwe
    have WL := Lib.hid hWL
    clear hWL
    subst hl0
    clear hx hL0 hwe he
    go_wp2
    go_ret
    exact ⟨bo, bc, by rw [WL.out]; rfl, by rw [WL.out, HWE.out]; exact Rd.of_own HO.out, HB.out⟩
  · have hl0 : 0 < L := Nat.pos_of_ne_zero fun e => hx (hL0.1 e)
    cases he : St.ends xs with
    | true =>
      have hwe : St.whole xs = xs := St.whole_ends he
      have hWL : W = L := by rw [HW.out, hwe, HL.out]
      have HWE := Lib.hid hwe
      have WL := Lib.hid hWL
      clear hWL
      clear hx hL0 hwe he
      go_wp2
      go_ret
      exact ⟨bo, bc, by rw [WL.out]; rfl, by rw [WL.out, HWE.out]; exact Rd.of_own HO.out, HB.out⟩
    | false =>
      have hwe : St.whole xs = xs ++ [13, 10] := St.whole_more hx he
      have WL := Lib.hid (show W = L + 2 by rw [HW.out, hwe, List.length_append, HL.out]; rfl)
      have HWE := Lib.hid hwe
      have hal : Below w1.heap.size w1 (w1.alloc (.cells ([13, 10].map bv).toArray 5)) := (Below.refl _ _).alloc (Nat.le_refl _) _
      have HO2 := Lib.hid (own_below HO.out hal)
      have HR2 := Lib.hid (Rd.made w1 [13, 10] 5 (0, 0) 2 rfl (by decide))
      have HB2 := Lib.hid (HB.out.trans (hal.mono HB.out.size))
      clear hx hL0 hwe he hal
      go_wp2_with (at_builtin; refine append_u8s rfl (.tmp 17) (.tmp 18) rfl rfl HO2.out ([13, 10].map bv) HR2.out (bv_cell _) ?ca HB2.out.size ?_)
      case ca => show L + 2 ≤ _; omega
      intro v3 w3 ho3 hg3
      obtain ⟨co, cc, rfl⟩ := own_form ho3
      have hb3 := Lib.hid (HB2.out.grown hg3 HB2.out.size (fun k hk => (HO2.out.lt k hk).1))
      have hrd := Lib.hid (Rd.of_own ho3)
      clear ho3 hg3 HO2 HR2 HB2
      go_wp2
      go_ret
      exact ⟨co, cc, by rw [WL.out]; rfl, by rw [WL.out, HWE.out, List.map_append]; exact hrd.out, hb3.out⟩
end Go.Proofs.Ythfefbpfgepbjaa
