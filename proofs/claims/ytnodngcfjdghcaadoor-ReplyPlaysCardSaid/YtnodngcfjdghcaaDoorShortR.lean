/- 'short' of a row of texts, walked. -/
import Derived.Test.YtnodngcfjdghcaaDoorStrs
import Derived.Test.YtnodngcfjdghcaaDoorBa
import Derived.Test.YtnodngcfjdghcaaDoorOwnSet
import Derived.Test.YtnodngcfjdghcaaDoorOpenRows
namespace Go.Proofs.YtnodngcfjdghcaaDoor
open Go.RowKit

/-- At most 40 texts, of 200 bytes. -/
def cut40 (ys : List ByteArray) : List (List UInt8) := (ys.take 40).map fun y => y.data.toList.take 200
theorem cut40_len (ys : List ByteArray) : (cut40 ys).length = min 40 ys.length := by simp [cut40]
theorem cut40_le (ys : List ByteArray) : (cut40 ys).length ≤ 40 := by rw [cut40_len]; exact Nat.min_le_left _ _
theorem cut40_each (ys : List ByteArray) : ∀ x ∈ cut40 ys, x.length ≤ 200 := by
  intro x hx
  obtain ⟨y, _, rfl⟩ := List.mem_map.1 hx
  exact List.length_take_le _ _
theorem cut40_more {ys : List ByteArray} {k : Nat} (h1 : k < ys.length) (h2 : k < 40) : (cut40 ys).take (k + 1) = (cut40 ys).take k ++ [(ys.getD k ByteArray.empty).data.toList.take 200] := by
  have hk : k < (cut40 ys).length := by rw [cut40_len]; omega
  rw [List.take_succ_eq_append_getElem hk]
  congr 2
  simp [cut40, List.getElem_take, List.getD_eq_getElem?_getD, h1]

set_option maxHeartbeats 4000000 in
theorem shorts_any (v : Value) (ys : List ByteArray) (w : World) (h : RdN 1 w v (ys.map fun y => [.string y])) (hl : ys.length ≤ maxLen) :
    Calls Tryd.prog 11 #[v] w fun e w' => ∃ ao cap, e = .returned (.slice ao (cut40 ys).length cap) ∧ w'.ownsRow w.heap.size 9 1 (.slice ao (cut40 ys).length cap) (cut40 ys).length ((cut40 ys).map sv) ∧ Below w.heap.size w w' := by
  obtain ⟨lo, cl, rfl, hcl, hll⟩ := h.form
  rw [List.length_map] at hcl hll ⊢
  obtain ⟨L, hL⟩ : ∃ L, L = ys.length := ⟨_, rfl⟩
  rw [← hL] at hl hcl hll ⊢
  obtain ⟨N, hN⟩ : ∃ N, N = (cut40 ys).length := ⟨_, rfl⟩
  have hN2 : N = min 40 L := by rw [hN, cut40_len, hL]
  rw [← hN]
  have hcell : ∀ k, k < L → ∃ b o, lo = some ⟨b, o, none⟩ ∧ cl ≤ maxLen ∧ w.cell? ⟨b, o + k, none⟩ = some (.string (ys.getD k ByteArray.empty)) := by
    intro k hk
    obtain ⟨b, o, e, hm, hc⟩ := hll (by omega)
    refine ⟨b, o, e, hm, ?_⟩
    have := hc k [.string (ys.getD k ByteArray.empty)] (by rw [List.getElem?_map, List.getD_eq_getElem?_getD, List.getElem?_eq_getElem (by omega)]; rfl) 0 _ rfl
    rwa [Nat.mul_one, Nat.add_zero] at this
  have HC := Lib.hid hcell
  have HL := Lib.hid hL
  have HN := Lib.hid hN
  have HN2 := Lib.hid hN2
  unfold maxLen at hl
  clear hcell hL hN hN2 hll h
  have hmade := Lib.hid (World.ownsRow_made (base := w.heap.size) (e := 9) (size := 1) w #[] 0 (Nat.le_refl _) (Nat.zero_le _) rfl)
  have hal := Lib.hid ((Below.refl w.heap.size w).alloc (Nat.le_refl _) (.cells #[] 9))
  go_enter Tryd.func11, Tryd.ntmps11
  go_wp2
  go_loopw [3, 4, 5] (fun o i _ wr => ∃ k : Nat, k ≤ L ∧ k ≤ 40 ∧ i = .int .i64 k ∧ Hid (wr.ownsRow w.heap.size 9 1 o k (((cut40 ys).take k).map sv)) ∧ Hid (Below w.heap.size w wr)) (fun _ i _ _ => 41 - (intOf i).toNat)
  case atStart => exact ⟨0, Nat.zero_le _, Nat.zero_le _, rfl, hmade.out, hal.out⟩
  case round =>
    obtain ⟨k, hk, hk40, rfl, HO, HB⟩ := hrel
    obtain ⟨oo, oc, rfl⟩ := own_form HO.out
    by_cases hgo : k < L ∧ k < 40
    · obtain ⟨h1, h2⟩ := hgo
      obtain ⟨b, o, rfl, hm, hc⟩ := HC.out k h1
      have hcr := (HB.out.cell (World.block_lt_of_cell? w _ hc)).trans hc
      obtain ⟨Y, hY⟩ : ∃ Y, Y = ys.getD k ByteArray.empty := ⟨_, rfl⟩
      rw [← hY] at hcr
      obtain ⟨T, hT⟩ : ∃ T, T = ba (Y.data.toList.take 200) := ⟨_, rfl⟩
      have HT := Lib.hid (show (cut40 ys).take (k + 1) = (cut40 ys).take k ++ [Y.data.toList.take 200] by rw [hY, cut40_more (by rw [← HL.out]; exact h1) h2])
      have HTT := Lib.hid hT
      unfold maxLen at hm
      have t1 : (k : Int) < (L : Int) := by omega
      have t2 : (k : Int) < 40 := by omega
      have hfin : ∀ (v' : Value) (wz : World), wz.ownsRow w.heap.size 9 1 v' (k + 1) (((cut40 ys).take k).map sv ++ [.string T]) → wz.ownsRow w.heap.size 9 1 v' (k + 1) (((cut40 ys).take (k + 1)).map sv) := by
        intro v' wz h
        rw [HT.out, List.map_append]
        rw [HTT.out] at h
        exact h
      have HF := Lib.hid hfin
      clear hY hT hc hfin
      by_cases hlong : (200 : Int) < Y.size
      · have hx : Y.extract 0 200 = T := by
          have h2 := ba_extract Y.data.toList 0 200
          rw [HTT.out, ← ba_self Y, ba, h2]
          simp [ba]
        have h3 : (200 : Int) ≤ Y.size := by omega
        go_wp2_with (at_builtin; refine append_str rfl (.tmp 26) (.tmp 28) rfl rfl HO.out rfl rfl rfl ?ca HB.out.size ?_)
        case ca => omega
        intro v2 w2 ho2 hg2
        rw [← List.map_take] at ho2
        have HO2 := Lib.hid (HF.out _ _ ho2)
        have HB2 := Lib.hid (HB.out.grown hg2 HB.out.size (fun j hj => (HO.out.lt j hj).1))
        clear ho2 hg2
        go_wp2
        go_roundw
        case rel => exact ⟨k + 1, by omega, by omega, by go_num, HO2.out, HB2.out⟩
        case measure => simp [intOf]; omega
      · have hx : Y = T := by
          rw [HTT.out, List.take_of_length_le (by rw [← Lib.size_eq]; omega)]
          exact (ba_self Y).symm
        have h3 : ((200 : Int) < Y.size) = False := eq_false hlong
        have HX := Lib.hid hx
        clear hx hlong
        go_wp2_with (at_builtin; refine append_str rfl (.tmp 26) (.tmp 28) rfl rfl HO.out rfl rfl rfl ?ca HB.out.size ?_)
        case ca => omega
        intro v2 w2 ho2 hg2
        rw [HX.out] at ho2
        rw [← List.map_take] at ho2
        have HO2 := Lib.hid (HF.out _ _ ho2)
        have HB2 := Lib.hid (HB.out.grown hg2 HB.out.size (fun j hj => (HO.out.lt j hj).1))
        clear ho2 hg2
        go_wp2
        go_roundw
        case rel => exact ⟨k + 1, by omega, by omega, by go_num, HO2.out, HB2.out⟩
        case measure => simp [intOf]; omega
    · have hkN : k = N := by have := HN2.out; omega
      have HE := Lib.hid (show wr.ownsRow w.heap.size 9 1 (.slice oo N oc) N ((cut40 ys).map sv) by
        have := HO.out
        rw [hkN, HN.out, List.take_length, ← HN.out] at this
        exact this)
      by_cases h1 : k < L
      · have t1 : (k : Int) < (L : Int) := by omega
        have t2 : ((k : Int) < 40) = False := eq_false (by omega)
        subst hkN
        clear hgo HO
        go_wp2
        go_ret
        exact ⟨_, _, rfl, HE.out, HB.out⟩
      · have t1 : ((k : Int) < (L : Int)) = False := eq_false (by omega)
        subst hkN
        clear hgo HO
        go_wp2
        go_ret
        exact ⟨_, _, rfl, HE.out, HB.out⟩

theorem getD_mem {xs : List (List UInt8)} {k : Nat} (h : k < xs.length) : xs.getD k [] ∈ xs := by
  rw [List.getD_eq_getElem?_getD, List.getElem?_eq_getElem h]
  exact List.getElem_mem h
/-- A row of texts cut to its first m. -/
theorem Rd.cutV {w : World} {ao : Option Addr} {L cap m : Nat} {vs : List Value} (h : Rd w (.slice ao L cap) vs) (hL : L = vs.length) (hm : m ≤ L) : Rd w (.slice ao m cap) (vs.take m) := by
  rcases Nat.eq_zero_or_pos m with h0 | hp
  · subst h0
    rcases h with ⟨_, ao', cap', h1, e⟩ | ⟨b, o, cap', e, _⟩
    · simp only [Value.slice.injEq] at e
      obtain ⟨rfl, _, rfl⟩ := e
      exact .inl ⟨List.take_zero, _, _, h1, rfl⟩
    · simp only [Value.slice.injEq] at e
      obtain ⟨rfl, _, rfl⟩ := e
      exact .inl ⟨List.take_zero, _, _, (fun h => by cases h), rfl⟩
  · rcases h with ⟨e, _⟩ | ⟨b, o, cap', e, h1, h2, h3⟩
    · subst e
      simp only [List.length_nil] at hL
      omega
    · simp only [Value.slice.injEq] at e
      obtain ⟨rfl, _, rfl⟩ := e
      refine .inr ⟨b, o, cap, by rw [List.length_take, Nat.min_eq_left (by omega)], by rw [List.length_take]; omega, h2, fun j u hj => h3 j u ?_⟩
      rw [List.getElem?_take] at hj
      split at hj
      · exact hj
      · cases hj
end Go.Proofs.YtnodngcfjdghcaaDoor
