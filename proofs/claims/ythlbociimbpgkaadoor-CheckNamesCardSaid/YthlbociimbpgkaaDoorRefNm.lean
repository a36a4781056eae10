/- The reference's Names walked (layer 16). -/
import Derived.Test.YthlbociimbpgkaaDoorRefParts
import Derived.Test.YthlbociimbpgkaaDoorVB
import Derived.Test.YthlbociimbpgkaaDoorOwnEmpty
import Derived.Test.YthlbociimbpgkaaDoorAppendT
namespace Go.Proofs.YthlbociimbpgkaaDoor
open Go.RowKit

/-- What holds at the head of a round of Names. -/
structure RNs (w1 wr : World) (ps : List Va.Pt) (k M : Nat) (v : Value) : Prop where
  below : Below w1.heap.size w1 wr
  row : wr.ownsRow w1.heap.size 9 1 v M ((Va.names (ps.take k)).map sv)
  le : M ≤ k

set_option maxHeartbeats 4000000 in
theorem rnames_any (w : World) (t : List UInt8) (ht : t.length ≤ 10000) :
    Calls Tryd.prog 12 #[.string ⟨t.toArray⟩] w fun e w' => ∃ v, e = .returned (.tuple #[v, .bool (Va.parts t).isSome]) ∧ Rd w' v ((((Va.parts t).map Va.names).getD []).map sv) ∧ Below w.heap.size w w' := by
  have hp := rparts_any t ht w
  cases hps : Va.parts t with
  | none =>
    rw [hps] at hp
    have HP := Lib.hid hp
    clear hp hps
    go_enter Tryd.func12, Tryd.ntmps12
    go_wp2_with fail
    refine HP.out.mono ?_
    rintro e w1 ⟨hb, rfl⟩
    have HB := Lib.hid (hb.trans (((Below.refl w1.heap.size w1).alloc (Nat.le_refl _) (.cells #[] 9)).mono hb.size))
    have HR := Lib.hid (Rd.of_own (own_empty w1 w1.heap.size (Nat.le_refl _)))
    clear hb HP
    go_wp2
    go_loopw [6, 7] (fun s6 i wr => s6 = .slice (some ⟨w1.heap.size, 0, none⟩) 0 0 ∧ i = .int .i64 0 ∧ wr = w1.alloc (.cells #[] 9)) (fun _ _ _ => 0)
    case atStart => exact ⟨rfl, rfl, rfl⟩
    case round =>
      obtain ⟨rfl, rfl, rfl⟩ := hrel
      go_wp2
      go_ret2
      exact ⟨_, rfl, HR.out, HB.out⟩
  | some ps =>
    rw [hps] at hp
    obtain ⟨hfew, htx⟩ := Va.parts_few hps
    have HTX := Lib.hid htx
    have HP := Lib.hid hp
    obtain ⟨N, hN⟩ : ∃ N, N = ps.length := ⟨_, rfl⟩
    have HN := Lib.hid hN
    rw [← hN] at hfew
    have hN1 : N ≤ 10000 := by omega
    clear hp hps htx hfew hN
    go_enter Tryd.func12, Tryd.ntmps12
    go_wp2_with fail
    refine HP.out.mono ?_
    rintro e w1 ⟨hb, v, rfl, ho⟩
    obtain ⟨ao, cap, rfl, hao, hcap, hmax⟩ := ho.form
    rw [← HN.out] at ho hcap
    rw [← HN.out]
    unfold maxLen at hmax
    have HB := Lib.hid hb
    have HO := Lib.hid ho
    have HAO := Lib.hid hao
    have HST := Lib.hid (show RNs w1 (w1.alloc (.cells #[] 9)) ps 0 0 (.slice (some ⟨w1.heap.size, 0, none⟩) 0 0) from ⟨(Below.refl _ _).alloc (Nat.le_refl _) _, own_empty w1 w1.heap.size (Nat.le_refl _), Nat.le_refl _⟩)
    clear hb ho hao HP
    go_wp2
    go_loopw [6, 7] (fun s6 s7 wr => ∃ (k M cap : Nat) (bo : Option Addr), s6 = .slice bo M cap ∧ s7 = .int .i64 k ∧ k ≤ N ∧ M ≤ 10000 ∧ Hid (RNs w1 wr ps k M (.slice bo M cap))) (fun _ s7 _ => N - (intOf s7).toNat)
    case atStart => exact ⟨0, 0, 0, _, rfl, rfl, Nat.zero_le _, Nat.zero_le _, HST⟩
    case round =>
      obtain ⟨k, M, mcap, bo, rfl, rfl, hk, hM, HR⟩ := hrel
      clear HST
      by_cases hlt : k < N
      · obtain ⟨p, hpk⟩ : ∃ p, ps[k]? = some p := ⟨ps[k]'(by rw [← HN.out]; exact hlt), List.getElem?_eq_getElem _⟩
        obtain ⟨g, rfl⟩ : ∃ g, ao = some ⟨g, 0, none⟩ := by
          rcases HAO.out with h | h
          · rw [h] at hpk; cases hpk
          · exact h
        obtain ⟨c0, c1⟩ := (HO.out.below HR.out.below).cells rfl k p hpk
        have hki : ((k : Int) < (N : Int)) := by omega
        have hnm := Va.names_more hpk
        cases hb : p.isName with
        | false =>
          rw [hb] at c1
          rw [hb, if_neg (by simp), List.append_nil] at hnm
          have HN2 := Lib.hid (show RNs w1 wr ps (k + 1) M (.slice bo M mcap) from ⟨HR.out.below, by rw [hnm]; exact HR.out.row, by have := HR.out.le; omega⟩)
          clear hnm hpk hb
          go_wp2
          go_roundw
          case rel => exact ⟨k + 1, M, mcap, bo, rfl, by go_num, by omega, hM, HN2⟩
          case measure => simp [intOf]; omega
        | true =>
          rw [hb] at c1
          rw [hb, if_pos rfl] at hnm
          have HNM := Lib.hid hnm
          have hle := HR.out.le
          obtain ⟨x, hx⟩ : ∃ x, x = p.text := ⟨_, rfl⟩
          rw [← hx] at c0 HNM
          clear hnm hpk hb hx
          go_wp2_with (at_builtin; refine append_str rfl (.tmp 25) (.tmp 31) rfl rfl HR.out.row rfl rfl (b := sv x) rfl ?ca HR.out.below.size ?_)
          case ca => omega
          intro v3 w3 ho3 hg3
          obtain ⟨bo3, cap3, rfl⟩ := own_form ho3
          have HN2 := Lib.hid (show RNs w1 w3 ps (k + 1) (M + 1) (.slice bo3 (M + 1) cap3) from ⟨HR.out.below.grown hg3 HR.out.below.size (fun k hk => (HR.out.row.lt k hk).1), by rw [HNM.out, List.map_append]; exact ho3, by omega⟩)
          clear ho3 hg3
          go_wp2
          go_roundw
          case rel => exact ⟨k + 1, M + 1, cap3, bo3, rfl, by go_num, by omega, by omega, HN2⟩
          case measure => simp [intOf]; omega
      · obtain rfl : k = N := by omega
        have hrow := HR.out.row
        rw [List.take_of_length_le (by rw [← HN.out]; exact Nat.le_refl _)] at hrow
        have HRD := Lib.hid (Rd.of_own hrow)
        have HB2 := Lib.hid (HB.out.trans (HR.out.below.mono HB.out.size))
        clear hrow
        go_wp2
        go_ret2
        exact ⟨_, rfl, HRD.out, HB2.out⟩
end Go.Proofs.YthlbociimbpgkaaDoor
