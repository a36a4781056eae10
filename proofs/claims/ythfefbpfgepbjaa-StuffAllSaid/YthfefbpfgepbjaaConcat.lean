/- slices.Grow (of none), slices.Concat (of rows of bytes) walked. -/
import Derived.Test.YthfefbpfgepbjaaQueue
import Derived.Test.YthfefbpfgepbjaaBits
import Derived.Test.YthfefbpfgepbjaaOwnSet
import Derived.Lib.AppendZeros
namespace Go.Proofs.Ythfefbpfgepbjaa
open Go.RowKit

/-- 'slices.Grow' of none: room for n. -/
theorem sgrow_any (n : Nat) (w : World) (hn : n ≤ 16777216) :
    Calls Try.prog 29 #[.slice none 0 0, .int .i64 (n : Int)] w fun e w' => ∃ v, e = .returned v ∧ Below w.heap.size w w' ∧ w'.ownsRow w.heap.size 5 1 v 0 [] ∧ (n = 0 → v = .slice none 0 0) ∧ ∃ bo c, v = .slice bo 0 c := by
  by_cases h0 : n = 0
  · subst h0
    go_enter Try.func29, Try.ntmps29
    go_wp2
    go_ret
    exact ⟨_, rfl, Below.refl _ _, World.ownsRow_nil _ _ _ _, fun _ => rfl, _, _, rfl⟩
  · obtain ⟨i0, hi, hz0, hz1, hz2⟩ := info_parts info_u8
    have hr := Lib.run_append_nil_zeros (P := Try.prog) w 22 3 22 5 i0 (.int .u8 0) .i64 .i64 Try.underlying22 Try.underlying3 hi hz0 n (by omega) (by rw [hz1]; decide) (by omega) (by rw [hz2]; omega)
    have hge := grownCap_ge w n 0 5
    have hle := grownCap_le_maxLen w n 0 5 (by unfold maxLen; omega)
    generalize grownCap w n 0 5 = cap at *
    obtain ⟨Z, hZ⟩ : ∃ Z, Z = Builtin.zeroCells (Value.int IntKind.u8 0).cells n ++ Builtin.zeroCells (Value.int IntKind.u8 0).cells (cap - n) := ⟨_, rfl⟩
    have hsz : Z.size = cap * 1 := by
      rw [hZ, Array.size_append, size_zeroCells, size_zeroCells, show (Value.int IntKind.u8 0).cells.size = 1 from rfl]
      omega
    rw [← hZ] at hr
    have ho := World.ownsRow_made (base := w.heap.size) (e := 5) (size := 1) w.drew Z cap (Nat.le_refl _) hle hsz
    have hb : Below w.heap.size w (w.drew.alloc (.cells Z 5)) := ((Below.refl _ _).drew).alloc (Nat.le_refl _) _
    have hpos : (0 : Int) < (n : Int) := by omega
    have HO := Lib.hid ho
    have HB := Lib.hid hb
    have HR := Lib.hid hr
    unfold maxLen at hle
    clear ho hb hr hZ hsz
    have HN := Lib.hid h0
    clear h0
    go_enter Try.func29, Try.ntmps29
    go_wp2_with (at_builtin; refine Lib.wpList_append_run _ rfl (.tmp 20) (.tmp 21) _ _ rfl _ _ rfl rfl _ _ HR.out ?_)
    go_wp2
    go_ret
    exact ⟨_, rfl, HB.out, HO.out, fun e => absurd e HN.out, _, _, rfl⟩

/-- What stands in rows of bytes, one behind the other. -/
def cat (vs : List (Value × List UInt8)) : List UInt8 := (vs.map (·.2)).flatten
theorem cat_step {vs : List (Value × List UInt8)} {k : Nat} {p : Value × List UInt8} (h : vs[k]? = some p) : cat (vs.take (k + 1)) = cat (vs.take k) ++ p.2 := by
  obtain ⟨hk, he⟩ := List.getElem?_eq_some_iff.1 h
  rw [List.take_succ_eq_append_getElem hk, he]
  simp [cat]
theorem cat_le (vs : List (Value × List UInt8)) (k : Nat) : (cat (vs.take k)).length ≤ (cat vs).length := by
  have h : cat vs = cat (vs.take k) ++ cat (vs.drop k) := by
    unfold cat
    rw [← List.flatten_append, ← List.map_append, List.take_append_drop]
  rw [h, List.length_append]
  omega

set_option maxHeartbeats 1000000 in
/-- 'slices.Concat'. -/
theorem concat_any (b n : Nat) (vs : List (Value × List UInt8)) (w : World) (hn : n = vs.length) (hn0 : n ≤ 1000) (hc : ∀ j p, vs[j]? = some p → w.cell? ⟨b, j, none⟩ = some p.1) (hr : ∀ p ∈ vs, Rd w p.1 (p.2.map bv)) (hs : (cat vs).length ≤ 16777216) :
    Calls Try.prog 25 #[.slice (some ⟨b, 0, none⟩) n n] w fun e w' => ∃ bo c, e = .returned (.slice bo (cat vs).length c) ∧ Below w.heap.size w w' ∧ w'.ownsRow w.heap.size 5 1 (.slice bo (cat vs).length c) (cat vs).length ((cat vs).map bv) ∧ (cat vs = [] → Value.slice bo (cat vs).length c = .slice none 0 0) := by
  have HN := Lib.hid hn
  have HC := Lib.hid hc
  have HR := Lib.hid hr
  have HS := Lib.hid hs
  clear hn hc hr hs
  go_enter Try.func25, Try.ntmps25
  go_wp2
  go_loop [3, 11] (fun s i => ∃ k m : Nat, k ≤ n ∧ i = .int .i64 k ∧ s = .int .i64 m ∧ Hid (m = (cat (vs.take k)).length)) (fun _ i => n - (intOf i).toNat)
  case atStart => exact ⟨0, 0, by omega, rfl, rfl, rfl⟩
  case round =>
    obtain ⟨k, m, hk, rfl, rfl, HM⟩ := hrel
    by_cases hlt : k < n
    · obtain ⟨p, hp⟩ : ∃ p, vs[k]? = some p := ⟨_, List.getElem?_eq_getElem (by rw [← HN.out]; exact hlt)⟩
      obtain ⟨v, ys⟩ := p
      have hcell := HC.out _ _ hp
      have hrd : Rd w v (ys.map bv) := HR.out _ (List.mem_of_getElem? hp)
      obtain ⟨ao, cap, rfl, _, _⟩ := hrd.form
      have hstep : m + ys.length = (cat (vs.take (k + 1))).length := by rw [cat_step hp, List.length_append, HM.out]
      have hle := cat_le vs (k + 1)
      have hs := HS.out
      have hM2 : m + ys.length ≤ 16777216 := by omega
      obtain ⟨Y, hY⟩ : ∃ Y, Y = ys.length := ⟨_, rfl⟩
      simp only at hcell
      rw [← hY] at hcell hstep hM2
      have HST := Lib.hid hstep
      clear hstep hle hs hp hY HM hrd
      go_wp2
      go_round
      case rel => exact ⟨k + 1, m + Y, by omega, by go_num, by go_num, HST.out⟩
      case measure => simp [intOf]; omega
    · obtain rfl : n = k := by omega
      have hm : m = (cat vs).length := by rw [HM.out, HN.out, List.take_length]
      have HM2 := Lib.hid hm
      have hm2 : m ≤ 16777216 := by rw [hm]; exact HS.out
      clear HM hm
      go_wp2_with fail
      refine (sgrow_any m _ hm2).mono ?_
      rintro e w1 ⟨v, rfl, hb, ho, hz, bo, c, rfl⟩
      have HB := Lib.hid hb
      have HO := Lib.hid ho
      have HZ := Lib.hid hz
      clear hb ho hz
      go_wp2
      go_loopw [6, 27] (fun s i wr => ∃ (k q : Nat) (bo : Option Addr) (c : Nat), k ≤ n ∧ i = .int .i64 k ∧ s = .slice bo q c ∧ Hid (q = (cat (vs.take k)).length) ∧ Hid (wr.ownsRow w.heap.size 5 1 (.slice bo q c) q ((cat (vs.take k)).map bv)) ∧ Hid (cat vs = [] → Value.slice bo q c = .slice none 0 0) ∧ Below w.heap.size w wr) (fun _ i _ => n - (intOf i).toNat)
      case atStart => exact ⟨0, 0, bo, c, by omega, rfl, rfl, rfl, HO.out, fun e => HZ.out (by rw [HM2.out, e]; rfl), HB.out⟩
      case round =>
        obtain ⟨k2, q, bo2, c2, hk2, rfl, rfl, HQ, HO2, HZ2, hb2⟩ := hrel
        have HB2 := Lib.hid hb2
        by_cases hlt2 : k2 < n
        · obtain ⟨p, hp⟩ : ∃ p, vs[k2]? = some p := ⟨_, List.getElem?_eq_getElem (by rw [← HN.out]; exact hlt2)⟩
          obtain ⟨v, ys⟩ := p
          have hcell := HC.out _ _ hp
          have hcell2 := (hb2.cell (World.block_lt_of_cell? w _ hcell)).trans hcell
          have hrd : Rd w v (ys.map bv) := HR.out _ (List.mem_of_getElem? hp)
          have RR := Lib.hid (hrd.below hb2)
          obtain ⟨ao, cap, rfl, _, _⟩ := hrd.form
          have hstep : q + ys.length = (cat (vs.take (k2 + 1))).length := by rw [cat_step hp, List.length_append, HQ.out]
          have hle := cat_le vs (k2 + 1)
          have hs := HS.out
          have hM2 : q + ys.length ≤ 16777216 := by omega
          have HM3 := Lib.hid hM2
          have HST := Lib.hid hstep
          have HCS := Lib.hid (cat_step hp)
          have HYZ := Lib.hid (show cat vs = [] → ys = [] from fun e => by
            have h1 : (cat (vs.take (k2 + 1))).length ≤ 0 := by rw [e] at hle; exact hle
            rw [← hstep] at h1
            exact List.eq_nil_of_length_eq_zero (by omega))
          simp only at hcell2
          clear hstep hle hs hp hM2 hrd hcell hb2
          go_wp2_with (at_builtin; refine append_where rfl (.tmp 31) (.tmp 32) rfl rfl HO2.out ys RR.out HM3.out HB2.out.size ?_)
          intro v' w2 ho hT hy _
          obtain ⟨bo3, c3, rfl⟩ := own_form ho
          have HB3 := Lib.hid (HB2.out.grown hT HB2.out.size (fun k hk => (HO2.out.lt k hk).1))
          have HO3 := Lib.hid ho
          have HZ3 := Lib.hid (fun e => (hy (HYZ.out e)).trans (HZ2.out e))
          clear ho hT hy hcell2
          go_wp2
          go_roundw
          case rel => exact ⟨k2 + 1, q + ys.length, bo3, c3, by omega, by go_num, rfl, HST.out, by rw [HCS.out, List.map_append]; exact HO3.out, HZ3.out, HB3.out⟩
          case measure => simp [intOf]; omega
        · obtain rfl : n = k2 := by omega
          have hq : (cat (vs.take n)) = cat vs := by rw [HN.out, List.take_length]
          rw [hq] at HQ HO2
          clear hq hb2
          go_wp2
          go_ret
          refine ⟨bo2, c2, ?_, HB2.out, ?_⟩
          · show Ending.returned (Value.slice bo2 q c2) = _
            rw [← HQ.out]
          · rw [← HQ.out]; exact ⟨HO2.out, HZ2.out⟩
end Go.Proofs.Ythfefbpfgepbjaa
