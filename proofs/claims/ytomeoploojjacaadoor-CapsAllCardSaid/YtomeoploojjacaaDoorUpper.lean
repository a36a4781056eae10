/- text.Upper walked. -/
import Derived.Test.YtomeoploojjacaaDoorBlank
import Derived.Laws.IdiomStrings
namespace Go.Proofs.YtomeoploojjacaaDoor
open Go.RowKit

namespace Tx
end Tx

structure URel (B : Nat) (w wr : World) (s : ByteArray) (N : Nat) (pos : Nat) : Prop where
  row : ∃ C : Array Value, wr.heap[B]? = some (.cells C 5 (N, N + 1)) ∧ C.size = N ∧ ∀ j, j < s.size → C[j]? = some (.int .u8 ((mix s.data.toList pos j).toNat : Int))
  iter : wr.heap[B + 1]? = some (.stringIter s pos)
  below : Below B w wr
  big : s.size ≤ N
  h2 : pos ≤ s.size

theorem URel.start (w : World) (s : ByteArray) (cap : Nat) :
    URel w.heap.size w ((w.alloc (.cells (bytesRow s cap) 5 ((bytesRow s cap).size, (bytesRow s cap).size + 1))).drew.iter s 0) s (bytesRow s cap).size 0 := by
  refine ⟨⟨bytesRow s cap, ?_, rfl, fun j hj => ?_⟩, ?_, ?_, ?_, Nat.zero_le _⟩
  · exact (Below.heap_alloc _ _ _ (by show w.heap.size < (w.alloc _).heap.size; simp)).trans (Go.heap_alloc_new w _)
  · rw [bytesRow_at s cap j hj, mix, if_neg (by omega), Tx.get_data s j hj]
  · have := World.iter_heap (w.alloc (.cells (bytesRow s cap) 5 ((bytesRow s cap).size, (bytesRow s cap).size + 1))).drew s 0
    simpa using this
  · exact (((Below.refl _ _).alloc (Nat.le_refl _) _).drew).alloc (by show w.heap.size ≤ (w.alloc _).heap.size; simp) _
  · rw [bytesRow_size]; omega

theorem URel.lt {B : Nat} {w wr : World} {s : ByteArray} {N pos : Nat} (h : URel B w wr s N pos) : B + 1 < wr.heap.size := (Array.getElem?_eq_some_iff.1 h.iter).1

theorem mix_seg {s : ByteArray} {pos r n : Nat} {seg : List UInt8} (h : Tx.Rune s pos r n seg) (hr : ¬ (97 ≤ r ∧ r ≤ 122)) (j : Nat) : mix s.data.toList (pos + n) j = mix s.data.toList pos j := by
  unfold mix
  by_cases h1 : j < pos
  · rw [if_pos h1, if_pos (by omega)]
  · by_cases h2 : j < pos + n
    · rw [if_pos h2, if_neg h1]
      have hl : s.data.toList.length = s.size := (Lib.size_eq s).symm
      have hf := h.fits
      have hm : s.data.toList.getD j 0 ∈ seg := by
        have e : s.data.toList.getD j 0 = seg.getD (j - pos) 0 := by
          rw [List.getD_eq_getElem?_getD, List.getD_eq_getElem?_getD]
          have e2 : s.data.toList[j]? = (s.data.toList.drop pos)[j - pos]? := by rw [List.getElem?_drop]; congr 1; omega
          rw [e2, h.rest, List.getElem?_append_left (by rw [h.len]; omega)]
        rw [e, List.getD_eq_getElem?_getD, List.getElem?_eq_getElem (by rw [h.len]; omega)]
        exact List.getElem_mem _
      refine Tx.upB_other fun hb => ?_
      by_cases h3 : r < 128
      · obtain ⟨c, rfl, rfl⟩ := h.low h3
        simp only [List.mem_singleton] at hm
        rw [hm] at hb
        exact hr hb
      · have := h.high (by omega) _ hm
        omega
    · rw [if_neg h2, if_neg h1]

/-- A rune that stays. -/
theorem URel.skip {B : Nat} {w wr : World} {s : ByteArray} {N pos r n : Nat} {seg : List UInt8} (h : URel B w wr s N pos) (hU : Tx.Rune s pos r n seg) (hr : ¬ (97 ≤ r ∧ r ≤ 122)) : URel B w (wr.iterAt (B + 1) s (pos + n)) s N (pos + n) := by
  obtain ⟨C, h1, h2, h3⟩ := h.row
  refine ⟨⟨C, (Lib.iterAt_other _ _ _ _ _ (by omega)).trans h1, h2, fun j hj => ?_⟩, Lib.iterAt_heap _ _ _ _ _ h.iter, Lib.below_iterAt h.below (Nat.le_succ _) _ _, h.big, hU.fits⟩
  rw [mix_seg hU hr]
  exact h3 j hj

theorem URel.cell {B : Nat} {w wr : World} {s : ByteArray} {N pos : Nat} (h : URel B w wr s N pos) (p : Nat) : pos < s.size → (wr.iterAt (B + 1) s p).cell? ⟨B, pos, none⟩ = some (.int .u8 ((s.data.toList.getD pos 0).toNat : Int)) ∧ (wr.iterAt (B + 1) s p).frozen? ⟨B, pos, none⟩ = false := by
  intro hp
  obtain ⟨C, h1, h2, h3⟩ := h.row
  have hb : (wr.iterAt (B + 1) s p).heap[B]? = some (.cells C 5 (N, N + 1)) := (Lib.iterAt_other _ _ _ _ _ (by omega)).trans h1
  refine ⟨?_, ?_⟩
  · rw [cell_of_row _ _ _ _ _ _ hb, h3 pos hp, mix, if_neg (by omega)]
  · have := h.big
    simp [World.frozen?, hb]
    omega

/-- A small letter. -/
theorem URel.turn {B : Nat} {w wr : World} {s : ByteArray} {N pos r n : Nat} {seg : List UInt8} (h : URel B w wr s N pos) (hU : Tx.Rune s pos r n seg) (h1 : 97 ≤ r) (h2 : r ≤ 122) :
    n = 1 ∧ URel B w ((wr.iterAt (B + 1) s (pos + n)).setCell ⟨B, pos, none⟩ (.int .u8 ((r : Int) - 97 + 65))) s N (pos + n) := by
  obtain ⟨b, rfl, rfl⟩ := hU.low (by omega)
  have hn : n = 1 := by have := hU.len; simpa using this.symm
  subst hn
  obtain ⟨C, g1, g2, g3⟩ := h.row
  have hl : s.data.toList.length = s.size := (Lib.size_eq s).symm
  have hf := hU.fits
  have hbig := h.big
  have hb : (wr.iterAt (B + 1) s (pos + 1)).heap[B]? = some (.cells C 5 (N, N + 1)) := (Lib.iterAt_other _ _ _ _ _ (by omega)).trans g1
  have hat : s.data.toList.getD pos 0 = b := by
    have e := hU.rest
    have e2 : (s.data.toList.drop pos)[0]? = some b := by rw [e]; rfl
    rw [List.getElem?_drop] at e2
    rw [List.getD_eq_getElem?_getD, show pos = pos + 0 from rfl, e2]
    rfl
  refine ⟨rfl, ⟨C.setIfInBounds pos (.int .u8 ((b.toNat : Int) - 97 + 65)), ?_, by simpa using g2, fun j hj => ?_⟩, ?_, (Lib.below_iterAt h.below (Nat.le_succ _) _ _).setCell (Nat.le_refl _) _, h.big, hU.fits⟩
  · exact heap_setCell_row hb
  · by_cases hj2 : j = pos
    · subst hj2
      rw [Array.getElem?_setIfInBounds_self_of_lt (by omega), mix, if_pos (by omega), hat, Tx.upB_low h1 h2]
      congr 2
      omega
    · rw [Array.getElem?_setIfInBounds_ne (by omega), g3 j hj]
      unfold mix
      by_cases h5 : j < pos
      · rw [if_pos h5, if_pos (by omega)]
      · rw [if_neg h5, if_neg (by omega)]
  · rw [Below.heap_setCell _ _ _ _ (by show B + 1 ≠ B; omega)]
    exact Lib.iterAt_heap _ _ _ _ _ h.iter

theorem URel.back {B : Nat} {w wr : World} {s : ByteArray} {N : Nat} (cap : Nat) (h : URel B w wr s N s.size) : (convert 23 9 (.slice (some ⟨B, 0, none⟩) s.size cap)).run Tryd.prog wr = .ok (sv (Tx.up s.data.toList)) wr := by
  obtain ⟨C, g1, g2, g3⟩ := h.row
  have hl : s.data.toList.length = s.size := (Lib.size_eq s).symm
  have := run_convert_bytes_back (P := Tryd.prog) wr 23 9 5 ⟨B, 0, none⟩ cap (Tx.up s.data.toList) Tryd.underlying23 Tryd.underlying5 Tryd.underlying9 (fun j hj => by
    have hj2 : j < s.size := by rw [Tx.up, List.length_map, hl] at hj; exact hj
    rw [Addr.add_lit, Nat.zero_add, cell_of_row _ _ _ _ _ _ g1, g3 j hj2, mix, if_pos hj2]
    simp only [Tx.up, List.getElem_map]
    rw [List.getD_eq_getElem?_getD, List.getElem?_eq_getElem (by omega)]
    rfl)
  have e : (Tx.up s.data.toList).length = s.size := by rw [Tx.up, List.length_map, hl]
  rw [e] at this
  exact this

theorem upper_any (s : ByteArray) (w : World) (_hs : s.size ≤ 1048576) :
    Calls Tryd.prog 33 #[.string s] w fun e w' => e = .returned (sv (Tx.up s.data.toList)) ∧ Below w.heap.size w w' := by
  have hcv := run_bytes_of_string (P := Tryd.prog) w 9 23 5 s Tryd.underlying9 Tryd.underlying23 Tryd.underlying5
  generalize grownCap w s.size 0 5 = cap at hcv
  have hst := URel.start w s cap
  go_enter Tryd.func33, Tryd.ntmps33
  go_wp2
  go_loopw [] (fun wr => ∃ pos : Nat, URel w.heap.size w wr s (bytesRow s cap).size pos) (fun wr => s.size - wr.iterPos (w.heap.size + 1))
  case atStart => exact ⟨0, hst⟩
  case round =>
    obtain ⟨pos, hR⟩ := hrel
    clear hst hcv
    generalize (bytesRow s cap).size = N at *
    have g2 := hR.h2
    by_cases hlt : pos < s.size
    · obtain ⟨r, n, seg, hU, hnx⟩ := Tx.next_rune (P := Tryd.prog) wr (w.heap.size + 1) s pos hR.iter hlt
      have HN := Lib.hid (iterPos_of hR.iter)
      have hn := hU.one
      have hf := hU.fits
      by_cases h1 : 97 ≤ r
      · by_cases h2 : r ≤ 122
        · obtain ⟨hc1, hc2⟩ := hR.cell (pos + n) hlt
          obtain ⟨e1, RS⟩ := hR.turn hU h1 h2
          subst e1
          go_wp2
          go_roundw
          case rel => exact ⟨pos + 1, RS⟩
          case measure =>
            rw [iterPos_of RS.iter, HN.out]
            omega
        · have RS := hR.skip hU (by omega)
          go_wp2
          go_roundw
          case rel => exact ⟨pos + n, RS⟩
          case measure =>
            rw [iterPos_of RS.iter, HN.out]
            omega
      · have RS := hR.skip hU (by omega)
        go_wp2
        go_roundw
        case rel => exact ⟨pos + n, RS⟩
        case measure =>
          rw [iterPos_of RS.iter, HN.out]
          omega
    · have hnx := fun ty => Lib.run_next_end_at (P := Tryd.prog) wr (w.heap.size + 1) s pos ty hR.iter hlt
      obtain rfl : pos = s.size := by omega
      have hbk := hR.back cap
      go_wp2
      go_ret
      exact ⟨rfl, hR.below⟩

theorem upper_at {s : ByteArray} {us : List UInt8} (h : us = Tx.up s.data.toList) (w : World) (hs : s.size ≤ 1048576) :
    Calls Tryd.prog 33 #[.string s] w fun e w' => e = .returned (.string ⟨us.toArray⟩) ∧ Below w.heap.size w w' := by
  subst h
  exact upper_any s w hs

theorem upper_cat {s t : ByteArray} {us ut : List UInt8} (h1 : us = Tx.up s.data.toList) (h2 : ut = Tx.up t.data.toList) (w : World) (hs : s.size + t.size ≤ 1048576) :
    Calls Tryd.prog 33 #[.string (s ++ t)] w fun e w' => e = .returned (.string (⟨us.toArray⟩ ++ ⟨ut.toArray⟩)) ∧ Below w.heap.size w w' := by
  subst h1 h2
  refine (upper_any (s ++ t) w (by rw [ByteArray.size_append']; exact hs)).mono ?_
  rintro e w' ⟨rfl, hb⟩
  refine ⟨?_, hb⟩
  rw [show (s ++ t).data.toList = s.data.toList ++ t.data.toList from by simp, ByteArray.mk_append_mk, sv, Tx.up, List.map_append]
  rfl

end Go.Proofs.YtomeoploojjacaaDoor
