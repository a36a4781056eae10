/- Emit walked. -/
import Derived.Test.YtagedockmlbebaaDoorIndexS3
import Derived.Test.YtagedockmlbebaaDoorToBytes
import Derived.Test.YtagedockmlbebaaDoorLinesP
namespace Go.Proofs.YtagedockmlbebaaDoor
open Go.RowKit

theorem bare_iff (xs : List UInt8) : decide (0 ≤ Lib.indexAny xs [13, 10]) = true ↔ ¬ Li.Bare xs := by
  rw [decide_eq_true_eq]
  obtain ⟨h1, h2⟩ := Tx.indexAny_run xs
  have hle := Tx.run_le xs
  by_cases hr : Tx.run xs = xs.length
  · rw [h1 hr]
    refine ⟨fun h => absurd h (by decide), fun h => absurd ?_ h⟩
    intro b hb
    have := Tx.run_bare xs
    rw [hr, List.take_length] at this
    exact this b hb
  · rw [h2 (by omega)]
    refine ⟨fun _ h => ?_, fun _ => Int.natCast_nonneg _⟩
    rcases Tx.run_end xs with e | e | e
    · exact hr e
    · exact (h 13 (List.mem_of_mem_drop (by rw [e]; exact List.mem_cons_self ..))).1 rfl
    · exact (h 10 (List.mem_of_mem_drop (by rw [e]; exact List.mem_cons_self ..))).2 rfl

/-- 'Emit' of a line with an end in it. -/
theorem emit_not (s : ByteArray) (hs : s.size ≤ 1048576) (hb : ¬ Li.Bare s.data.toList) (w : World) :
    Calls Tryd.prog 17 #[.string s] w fun e w' => e = .returned (.tuple #[.slice none 0 0, .bool false]) ∧ Below w.heap.size w w' := by
  have C := containsS_any s (by omega) w
  rw [(bare_iff _).2 hb] at C
  have C := Lib.hid C
  go_enter Tryd.func17, Tryd.ntmps17
  go_wp2_with fail
  refine C.out.mono ?_
  rintro e w1 ⟨rfl, hb1⟩
  have HB := Lib.hid hb1
  clear hb1 C
  go_wp2
  go_ret2
  exact ⟨rfl, HB.out⟩

/-- .. of one without. -/
theorem emit_bare (s : ByteArray) (hs : s.size ≤ 1048576) (hb : Li.Bare s.data.toList) (w : World) :
    Calls Tryd.prog 17 #[.string s] w fun e w' => ∃ k cap, e = .returned (.tuple #[.slice (some ⟨k, 0, none⟩) (s.size + 2) cap, .bool true]) ∧ w.heap.size ≤ k ∧ Rd w' (.slice (some ⟨k, 0, none⟩) (s.size + 2) cap) ((s.data.toList ++ [13, 10]).map bv) ∧ Below w.heap.size w w' := by
  have C := containsS_any s (by omega) w
  have hf : decide (0 ≤ Lib.indexAny s.data.toList [13, 10]) = false := by
    rw [← Bool.not_eq_true, bare_iff]; exact not_not_intro hb
  rw [hf] at C
  have C := Lib.hid C
  clear hf hb
  have hz : (s ++ ⟨#[13, 10]⟩ : ByteArray).size = s.size + 2 := by rw [ByteArray.size_append]; rfl
  have hT := Lib.hid (fun w1 => to_bytes w1 (s ++ ⟨#[13, 10]⟩ : ByteArray) (by rw [hz]; unfold maxLen; omega))
  have hlim : (9223372036854775807 < s.size + 2) = False := eq_false (by omega)
  go_enter Tryd.func17, Tryd.ntmps17
  go_wp2_with fail
  refine C.out.mono ?_
  rintro e w1 ⟨rfl, hb1⟩
  have HB := Lib.hid hb1
  obtain ⟨w2, cap, hcv, hrd, hb2⟩ := hT.out w1
  have HRD := Lib.hid hrd
  have HB2 := Lib.hid (HB.out.trans (hb2.mono HB.out.size))
  clear hb1 C hT hrd hb2
  rw [hz] at hcv
  go_wp2
  go_ret2
  refine ⟨w1.heap.size, cap, ?_, HB.out.size, ?_, HB2.out⟩
  · rfl
  · have := HRD.out
    rw [hz, ba_app] at this
    exact this
end Go.Proofs.YtagedockmlbebaaDoor
