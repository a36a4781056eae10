/- The reference's Upper walked. -/
import Derived.Test.YtomeoploojjacaaDoorBlank
import Derived.Laws.IdiomStrings
namespace Go.Proofs.YtomeoploojjacaaDoor
open Go.RowKit

/-- What holds at the head of a round of the reference's Upper. -/
structure VRel (B : Nat) (w wr : World) (s : ByteArray) (N : Nat) (pos : Nat) : Prop where
  row : ∃ C : Array Value, wr.heap[B]? = some (.cells C 5 (N, N + 1)) ∧ C.size = N ∧ ∀ j, j < s.size → C[j]? = some (.int .u8 ((mix s.data.toList pos j).toNat : Int))
  below : Below B w wr
  big : s.size ≤ N
  h2 : pos ≤ s.size
theorem VRel.cell {B : Nat} {w wr : World} {s : ByteArray} {N pos : Nat} (h : VRel B w wr s N pos) (hp : pos < s.size) : wr.cell? ⟨B, pos, none⟩ = some (.int .u8 (((s[pos]'hp).toNat : Nat) : Int)) ∧ wr.frozen? ⟨B, pos, none⟩ = false := by
  obtain ⟨C, h1, h2, h3⟩ := h.row
  refine ⟨?_, ?_⟩
  · rw [cell_of_row _ _ _ _ _ _ h1, h3 pos hp, mix, if_neg (by omega), Tx.get_eq]
  · have := h.big
    simp [World.frozen?, h1]
    omega
theorem mix_one {s : ByteArray} {pos : Nat} (j : Nat) (hj : j ≠ pos) : mix s.data.toList (pos + 1) j = mix s.data.toList pos j := by
  unfold mix
  by_cases h : j < pos
  · rw [if_pos h, if_pos (by omega)]
  · rw [if_neg h, if_neg (by omega)]
theorem VRel.skip {B : Nat} {w wr : World} {s : ByteArray} {N pos : Nat} (h : VRel B w wr s N pos) (hp : pos < s.size) (hb : ¬ (97 ≤ (s[pos]'hp).toNat ∧ (s[pos]'hp).toNat ≤ 122)) : VRel B w wr s N (pos + 1) := by
  obtain ⟨C, h1, h2, h3⟩ := h.row
  refine ⟨⟨C, h1, h2, fun j hj => ?_⟩, h.below, h.big, by omega⟩
  rw [h3 j hj]
  by_cases hj2 : j = pos
  · subst hj2
    rw [mix, if_neg (by omega), mix, if_pos (by omega), ← Tx.get_eq s j hp, Tx.upB_other hb]
  · rw [mix_one j hj2]
theorem VRel.turn {B : Nat} {w wr : World} {s : ByteArray} {N pos : Nat} (h : VRel B w wr s N pos) (hp : pos < s.size) (h1 : 97 ≤ (s[pos]'hp).toNat) (h2 : (s[pos]'hp).toNat ≤ 122) :
    VRel B w (wr.setCell ⟨B, pos, none⟩ (.int .u8 (((s[pos]'hp).toNat : Int) - 32))) s N (pos + 1) := by
  obtain ⟨C, g1, g2, g3⟩ := h.row
  have hbig := h.big
  refine ⟨⟨C.setIfInBounds pos (.int .u8 (((s[pos]'hp).toNat : Int) - 32)), heap_setCell_row g1, by simpa using g2, fun j hj => ?_⟩, h.below.setCell (Nat.le_refl _) _, h.big, by omega⟩
  by_cases hj2 : j = pos
  · subst hj2
    rw [Array.getElem?_setIfInBounds_self_of_lt (by omega), mix, if_pos (by omega), ← Tx.get_eq s j hp, Tx.upB_low h1 h2]
    congr 2
    omega
  · rw [Array.getElem?_setIfInBounds_ne (by omega), g3 j hj, mix_one j hj2]
theorem VRel.back {B : Nat} {w wr : World} {s : ByteArray} {N : Nat} (cap : Nat) (h : VRel B w wr s N s.size) : (convert 23 9 (.slice (some ⟨B, 0, none⟩) s.size cap)).run Tryd.prog wr = .ok (sv (Tx.up s.data.toList)) wr := by
  obtain ⟨C, g1, g2, g3⟩ := h.row
  have hl : s.data.toList.length = s.size := (Lib.size_eq s).symm
  have := run_convert_bytes_back (P := Tryd.prog) wr 23 9 5 ⟨B, 0, none⟩ cap (Tx.up s.data.toList) Tryd.underlying23 Tryd.underlying5 Tryd.underlying9 (fun j hj => by
    have hj2 : j < s.size := by rw [Tx.up, List.length_map, hl] at hj; exact hj
    rw [Addr.add_lit, Nat.zero_add, cell_of_row _ _ _ _ _ _ g1, g3 j hj2, mix, if_pos hj2]
    simp only [Tx.up, List.getElem_map]
    rw [List.getD_eq_getElem?_getD, List.getElem?_eq_getElem (by omega)]
    rfl)
  have e : (Tx.up s.data.toList).length = s.size := by rw [Tx.up, List.length_map, hl]
  rw [e] at this
  exact this
theorem ref_upper (s : ByteArray) (w : World) (hs : s.size ≤ 1048576) :
    Calls Tryd.prog 16 #[.string s] w fun e w' => e = .returned (sv (Tx.up s.data.toList)) ∧ Below w.heap.size w w' := by
  have hcv := run_bytes_of_string (P := Tryd.prog) w 9 23 5 s Tryd.underlying9 Tryd.underlying23 Tryd.underlying5
  generalize grownCap w s.size 0 5 = cap at hcv
  have hst : VRel w.heap.size w (w.alloc (.cells (bytesRow s cap) 5 ((bytesRow s cap).size, (bytesRow s cap).size + 1))).drew s (bytesRow s cap).size 0 := by
    refine ⟨⟨bytesRow s cap, heap_alloc_new w _, rfl, fun j hj => ?_⟩, ((Below.refl _ _).alloc (Nat.le_refl _) _).drew, by rw [bytesRow_size]; omega, Nat.zero_le _⟩
    rw [bytesRow_at s cap j hj, mix, if_neg (by omega), Tx.get_data s j hj]
  have HST := Lib.hid hst
  clear hst
  go_enter Tryd.func16, Tryd.ntmps16
  go_wp2
  go_loopw [4] (fun i wr => ∃ pos : Nat, i = .int .i64 pos ∧ VRel w.heap.size w wr s (bytesRow s cap).size pos) (fun i _ => s.size - (intOf i).toNat)
  case atStart => exact ⟨0, rfl, HST.out⟩
  case round =>
    obtain ⟨pos, rfl, hR⟩ := hrel
    clear HST hcv
    generalize (bytesRow s cap).size = N at *
    have g2 := hR.h2
    by_cases hlt : pos < s.size
    · obtain ⟨hc1, hc2⟩ := hR.cell hlt
      by_cases h1 : 97 ≤ (s[pos]'hlt).toNat
      · by_cases h2 : (s[pos]'hlt).toNat ≤ 122
        · have RS := Lib.hid (hR.turn hlt h1 h2)
          go_wp2
          go_roundw
          case rel => exact ⟨pos + 1, by go_num, RS.out⟩
          case measure => simp [intOf]; omega
        · have RS := Lib.hid (hR.skip hlt (by omega))
          go_wp2
          go_roundw
          case rel => exact ⟨pos + 1, by go_num, RS.out⟩
          case measure => simp [intOf]; omega
      · have RS := Lib.hid (hR.skip hlt (by omega))
        go_wp2
        go_roundw
        case rel => exact ⟨pos + 1, by go_num, RS.out⟩
        case measure => simp [intOf]; omega
    · obtain rfl : pos = s.size := by omega
      have hbk := hR.back cap
      go_wp2
      go_ret
      exact ⟨rfl, hR.below⟩
end Go.Proofs.YtomeoploojjacaaDoor
