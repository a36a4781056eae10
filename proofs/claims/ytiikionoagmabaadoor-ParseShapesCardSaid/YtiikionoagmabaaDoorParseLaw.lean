/- The small functions of the laws of layer 15, walked. -/
import Derived.Test.YtiikionoagmabaaDoorParseAll
namespace Go.Proofs.YtiikionoagmabaaDoor
open Go.RowKit

theorem short_any (s : ByteArray) (hs : s.size ≤ maxLen) (w : World) :
    Calls Tryd.prog 10 #[.string s] w fun e w' => e = .returned (.string ⟨(s.data.toList.take 2100).toArray⟩) ∧ w = w' := by
  unfold maxLen at hs
  have hl := Lib.size_eq s
  obtain ⟨L, hL⟩ : ∃ L, s.size = L := ⟨_, rfl⟩
  rw [hL] at hs
  have hz : s.size = L := hL
  by_cases hlt : 2100 < L
  · have hx : s.extract 0 2100 = ⟨(s.data.toList.take 2100).toArray⟩ := by
      have := ba_extract s.data.toList 0 2100
      simpa using this
    have h1 : ((2100 : Int) < (L : Int)) = True := eq_true (by omega)
    have h2 : (2100 : Int) ≤ (L : Int) := by omega
    rw [← hx]
    clear hx hlt hL hl
    go_enter Tryd.func10, Tryd.ntmps10
    go_wp2
    go_ret
    exact ⟨rfl, rfl⟩
  · have e : (⟨(s.data.toList.take 2100).toArray⟩ : ByteArray) = s := by
      rw [List.take_of_length_le (by rw [← hl]; omega)]
    have h1 : ((2100 : Int) < (L : Int)) = False := eq_false (by omega)
    rw [e]
    clear e hlt hL hl
    go_enter Tryd.func10, Tryd.ntmps10
    go_wp2
    go_ret
    exact ⟨rfl, rfl⟩


/-- A statement of a row that is read: what stands where. -/
theorem PR.at {B : Nat} {w : World} {sv tv : Value} {row : List Ps.St} {top : List Nat} (h : PR B w sv tv row top) : ∃ ao cap, sv = .slice ao row.length cap ∧ (0 < row.length → ∃ g, ao = some ⟨g, 0, none⟩) ∧
    ∀ (k : Nat) st, row[k]? = some st → ∃ g l m, ao = some ⟨g, 0, none⟩ ∧ Rd w l (st.l.map nv) ∧ Rd w m (st.m.map nv) ∧ ∀ i u, (stCells ⟨st, l, m⟩)[i]? = some u → w.cell? ⟨g, k * 8 + i, none⟩ = some u := by
  obtain ⟨cs, rfl, ⟨ao, cap, rfl, h3⟩, h4, _, _⟩ := h
  have hl : (rowOf cs).length = cs.length := by unfold rowOf; rw [List.length_map]
  rw [hl]
  refine ⟨ao, cap, rfl, fun h0 => ?_, fun k st hk => ?_⟩
  · obtain ⟨g, e, _⟩ := h3 0 (cs[0]'h0) (List.getElem?_eq_getElem h0)
    exact ⟨g, e⟩
  · unfold rowOf at hk
    rw [List.getElem?_map] at hk
    cases hc : cs[k]? with
    | none => rw [hc] at hk; cases hk
    | some c =>
      rw [hc] at hk
      obtain rfl : c.st = st := by simpa using hk
      obtain ⟨g, e, _, hcell⟩ := h3 k c hc
      obtain ⟨⟨r1, r2⟩, _⟩ := h4 c (List.mem_of_getElem? hc)
      exact ⟨g, c.l, c.m, e, r1, r2, hcell⟩
theorem PR.top {B : Nat} {w : World} {sv tv : Value} {row : List Ps.St} {top : List Nat} (h : PR B w sv tv row top) : Rd w tv (top.map nv) := h.choose_spec.2.2.2.1
set_option maxRecDepth 20000 in
set_option maxHeartbeats 4000000 in
theorem shown_any (w : World) (hS : SHP w) : Calls Tryd.prog 9 #[] w fun e w' => e = .returned (.bool true) ∧ Below w.heap.size w w' := by
  have ha := pall_any [109, 111, 100, 101, 32, 102, 116, 112, 59, 32, 105, 102, 32, 99, 97, 112, 32, 34, 97, 34, 32, 123, 32, 115, 116, 111, 112, 59, 32, 125] (by decide) w hS
  rw [Ps.all_shown] at ha
  unfold PAllP at ha
  clear hS
  go_enter Tryd.func9, Tryd.ntmps9
  go_wp2_with fail
  refine ha.mono ?_
  rintro e w1 ⟨hb, sv', tv, rfl, hr⟩
  have ht := hr.top
  obtain ⟨ao, cap, rfl, _, hat⟩ := hr.at
  obtain ⟨g, l0, m0, rfl, _, _, c0⟩ := hat 0 _ rfl
  obtain ⟨g', l1, m1, hg, rl, _, c1⟩ := hat 1 _ rfl
  cases hg
  obtain ⟨lo, lc, rfl, _⟩ := rl.formV
  obtain ⟨tvo, tvc, rfl, _, _, htc⟩ := ht.formV
  obtain ⟨bt, ot, rfl, _, htc⟩ := htc (by simp)
  have d0 := c0 0 _ rfl
  have d8 := c1 0 _ rfl
  have d14 := c1 6 _ rfl
  have t0 := htc 0 _ rfl
  simp only [Nat.zero_mul, Nat.one_mul, Nat.add_zero, Nat.reduceAdd] at d0 d8 d14 t0
  simp only [List.length_map, List.length_cons, List.length_nil, Nat.reduceAdd] at d14 ⊢
  unfold nv at t0
  have hlts := World.block_lt_of_cell? w1 _ d0
  have hltt := World.block_lt_of_cell? w1 _ t0
  dsimp only at hlts hltt
  have kp : ∀ (o : Obj) (k i : Nat) v, k < w1.heap.size → w1.cell? ⟨k, i, none⟩ = some v → (w1.alloc o).cell? ⟨k, i, none⟩ = some v := fun o k i v hk hv => (World.cell?_of_block (a := ⟨k, i, none⟩) (Below.heap_alloc _ _ _ hk)).trans hv
  have e0 := fun o => kp o _ _ _ hlts d0
  have e8 := fun o => kp o _ _ _ hlts d8
  have e14 := fun o => kp o _ _ _ hlts d14
  have et := fun o => kp o _ _ _ hltt t0
  have HB := Lib.hid hb
  clear hat hr ht hb ha rl htc c0 c1 d0 d8 d14 t0 kp hlts hltt
  go_wp2
  go_ret
  exact ⟨rfl, HB.out.alloc HB.out.size _⟩
end Go.Proofs.YtiikionoagmabaaDoor
