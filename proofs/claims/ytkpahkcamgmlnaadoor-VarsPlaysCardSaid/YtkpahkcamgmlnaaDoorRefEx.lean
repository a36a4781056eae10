/- The reference's Names and Expand walked (layer 16). -/
import Derived.Test.YtkpahkcamgmlnaaDoorRefParts
import Derived.Test.YtkpahkcamgmlnaaDoorRefSet
import Derived.Test.YtkpahkcamgmlnaaDoorVarsPl
namespace Go.Proofs.YtkpahkcamgmlnaaDoor
open Go.RowKit

/-- What holds at the head of a round of Names. -/
structure RNs (w1 wr : World) (ps : List Va.Pt) (k M : Nat) (v : Value) : Prop where
  below : Below w1.heap.size w1 wr
  row : wr.ownsRow w1.heap.size 9 1 v M ((Va.names (ps.take k)).map sv)
  le : M ≤ k

set_option maxHeartbeats 4000000 in
theorem rnames_any (w : World) (t : List UInt8) (ht : t.length ≤ 10000) :
    Calls Tryd.prog 12 #[.string ⟨t.toArray⟩] w fun e w' => ∃ v, e = .returned (.tuple #[v, .bool (Va.parts t).isSome]) ∧ Rd w' v ((((Va.parts t).map Va.names).getD []).map sv) ∧ Below w.heap.size w w' := by
  have hp := rparts_any t ht w
  cases hps : Va.parts t with
  | none =>
    rw [hps] at hp
    have HP := Lib.hid hp
    clear hp hps
    go_enter Tryd.func12, Tryd.ntmps12
    go_wp2_with fail
    refine HP.out.mono ?_
    rintro e w1 ⟨hb, rfl⟩
    have HB := Lib.hid (hb.trans (((Below.refl w1.heap.size w1).alloc (Nat.le_refl _) (.cells #[] 9)).mono hb.size))
    have HR := Lib.hid (Rd.of_own (own_empty w1 w1.heap.size (Nat.le_refl _)))
    clear hb HP
    go_wp2
    go_loopw [6, 7] (fun s6 i wr => s6 = .slice (some ⟨w1.heap.size, 0, none⟩) 0 0 ∧ i = .int .i64 0 ∧ wr = w1.alloc (.cells #[] 9)) (fun _ _ _ => 0)
    case atStart => exact ⟨rfl, rfl, rfl⟩
    case round =>
      obtain ⟨rfl, rfl, rfl⟩ := hrel
      go_wp2
      go_ret2
      exact ⟨_, rfl, HR.out, HB.out⟩
  | some ps =>
    rw [hps] at hp
    obtain ⟨hfew, htx⟩ := Va.parts_few hps
    have HTX := Lib.hid htx
    have HP := Lib.hid hp
    obtain ⟨N, hN⟩ : ∃ N, N = ps.length := ⟨_, rfl⟩
    have HN := Lib.hid hN
    rw [← hN] at hfew
    have hN1 : N ≤ 10000 := by omega
    clear hp hps htx hfew hN
    go_enter Tryd.func12, Tryd.ntmps12
    go_wp2_with fail
    refine HP.out.mono ?_
    rintro e w1 ⟨hb, v, rfl, ho⟩
    obtain ⟨ao, cap, rfl, hao, hcap, hmax⟩ := ho.form
    rw [← HN.out] at ho hcap
    rw [← HN.out]
    unfold maxLen at hmax
    have HB := Lib.hid hb
    have HO := Lib.hid ho
    have HAO := Lib.hid hao
    have HST := Lib.hid (show RNs w1 (w1.alloc (.cells #[] 9)) ps 0 0 (.slice (some ⟨w1.heap.size, 0, none⟩) 0 0) from ⟨(Below.refl _ _).alloc (Nat.le_refl _) _, own_empty w1 w1.heap.size (Nat.le_refl _), Nat.le_refl _⟩)
    clear hb ho hao HP
    go_wp2
    go_loopw [6, 7] (fun s6 s7 wr => ∃ (k M cap : Nat) (bo : Option Addr), s6 = .slice bo M cap ∧ s7 = .int .i64 k ∧ k ≤ N ∧ M ≤ 10000 ∧ Hid (RNs w1 wr ps k M (.slice bo M cap))) (fun _ s7 _ => N - (intOf s7).toNat)
    case atStart => exact ⟨0, 0, 0, _, rfl, rfl, Nat.zero_le _, Nat.zero_le _, HST⟩
    case round =>
      obtain ⟨k, M, mcap, bo, rfl, rfl, hk, hM, HR⟩ := hrel
      clear HST
      by_cases hlt : k < N
      · obtain ⟨p, hpk⟩ : ∃ p, ps[k]? = some p := ⟨ps[k]'(by rw [← HN.out]; exact hlt), List.getElem?_eq_getElem _⟩
        obtain ⟨g, rfl⟩ : ∃ g, ao = some ⟨g, 0, none⟩ := by
          rcases HAO.out with h | h
          · rw [h] at hpk; cases hpk
          · exact h
        obtain ⟨c0, c1⟩ := (HO.out.below HR.out.below).cells rfl k p hpk
        have hki : ((k : Int) < (N : Int)) := by omega
        have hnm := Va.names_more hpk
        cases hb : p.isName with
        | false =>
          rw [hb] at c1
          rw [hb, if_neg (by simp), List.append_nil] at hnm
          have HN2 := Lib.hid (show RNs w1 wr ps (k + 1) M (.slice bo M mcap) from ⟨HR.out.below, by rw [hnm]; exact HR.out.row, by have := HR.out.le; omega⟩)
          clear hnm hpk hb
          go_wp2
          go_roundw
          case rel => exact ⟨k + 1, M, mcap, bo, rfl, by go_num, by omega, hM, HN2⟩
          case measure => simp [intOf]; omega
        | true =>
          rw [hb] at c1
          rw [hb, if_pos rfl] at hnm
          have HNM := Lib.hid hnm
          have hle := HR.out.le
          obtain ⟨x, hx⟩ : ∃ x, x = p.text := ⟨_, rfl⟩
          rw [← hx] at c0 HNM
          clear hnm hpk hb hx
          go_wp2_with (at_builtin; refine append_str rfl (.tmp 25) (.tmp 31) rfl rfl HR.out.row rfl rfl (b := sv x) rfl ?ca HR.out.below.size ?_)
          case ca => omega
          intro v3 w3 ho3 hg3
          obtain ⟨bo3, cap3, rfl⟩ := own_form ho3
          have HN2 := Lib.hid (show RNs w1 w3 ps (k + 1) (M + 1) (.slice bo3 (M + 1) cap3) from ⟨HR.out.below.grown hg3 HR.out.below.size (fun k hk => (HR.out.row.lt k hk).1), by rw [HNM.out, List.map_append]; exact ho3, by omega⟩)
          clear ho3 hg3
          go_wp2
          go_roundw
          case rel => exact ⟨k + 1, M + 1, cap3, bo3, rfl, by go_num, by omega, by omega, HN2⟩
          case measure => simp [intOf]; omega
      · obtain rfl : k = N := by omega
        have hrow := HR.out.row
        rw [List.take_of_length_le (by rw [← HN.out]; exact Nat.le_refl _)] at hrow
        have HRD := Lib.hid (Rd.of_own hrow)
        have HB2 := Lib.hid (HB.out.trans (HR.out.below.mono HB.out.size))
        clear hrow
        go_wp2
        go_ret2
        exact ⟨_, rfl, HRD.out, HB2.out⟩

set_option maxHeartbeats 4000000 in
theorem rexpand_any {w : World} {b : Nat} {nv vv : Value} {σ : Va.Env} (h : RV w b nv vv σ) (t : List UInt8) (ht : t.length ≤ 10000) :
    Calls Tryd.prog 19 #[.pointer (some ⟨b, 0, none⟩), .string ⟨t.toArray⟩] w fun e w' => e = .returned (.tuple #[sv ((Va.expand σ t).getD []), .bool (Va.expand σ t).isSome]) ∧ Below w.heap.size w w' := by
  have hp := rparts_any t ht w
  unfold Va.expand
  cases hps : Va.parts t with
  | none =>
    rw [hps] at hp
    have HP := Lib.hid hp
    show Calls _ _ _ _ fun e w' => e = .returned (.tuple #[.string ⟨#[]⟩, .bool false]) ∧ _
    clear hp hps h
    go_enter Tryd.func19, Tryd.ntmps19
    go_wp2_with fail
    refine HP.out.mono ?_
    rintro e w1 ⟨hb, rfl⟩
    have HB := Lib.hid hb
    clear hb HP
    go_wp2
    go_ret2
    exact ⟨rfl, HB.out⟩
  | some ps =>
    rw [hps] at hp
    obtain ⟨hfew, htx⟩ := Va.parts_few hps
    have HTX := Lib.hid htx
    have HP := Lib.hid hp
    obtain ⟨N, hN⟩ : ∃ N, N = ps.length := ⟨_, rfl⟩
    have HN := Lib.hid hN
    rw [← hN] at hfew
    have hN1 : N ≤ 10000 := by omega
    have HV := Lib.hid h
    have hval : ∀ p ∈ ps, ∀ v, Va.look σ p.text = some v → v.length ≤ 1000 := fun p _ v hv => by
      have key : ∀ σ : Va.Env, (∀ p ∈ σ, p.2.length ≤ 1000) → ∀ n v, Va.look σ n = some v → v.length ≤ 1000 := fun σ => by
        induction σ with
        | nil => intro _ n v e; cases e
        | cons p σ ih =>
          obtain ⟨y, u⟩ := p
          intro hp n v e
          rw [Va.look] at e
          by_cases he : y = n
          · rw [if_pos he] at e; cases e; exact hp _ (List.mem_cons_self ..)
          · rw [if_neg he] at e; exact ih (fun q hq => hp q (List.mem_cons_of_mem _ hq)) n v e
      exact key σ (fun p hp => (h.nm p hp).2) _ v hv
    have HVAL := Lib.hid hval
    show Calls _ _ _ _ fun e w' => e = .returned (.tuple #[sv ((Va.fill σ ps).getD []), .bool (Va.fill σ ps).isSome]) ∧ _
    clear hp hps htx hfew hN h hval
    go_enter Tryd.func19, Tryd.ntmps19
    go_wp2_with fail
    refine HP.out.mono ?_
    rintro e w1 ⟨hb, v, rfl, ho⟩
    obtain ⟨ao, cap, rfl, hao, hcap, hmax⟩ := ho.form
    rw [← HN.out] at ho hcap
    rw [← HN.out]
    unfold maxLen at hmax
    have HB := Lib.hid hb
    have HO := Lib.hid ho
    have HAO := Lib.hid hao
    have HV1 := Lib.hid (HV.out.below hb)
    have HST := Lib.hid (Va.Fi.start σ ps)
    clear hb ho hao HP
    go_wp2
    go_loopw [8, 9, 10, 11, 12] (fun s8 s9 _ _ _ wr => ∃ (k : Nat) (o : List UInt8), s8 = .string ⟨o.toArray⟩ ∧ s9 = .int .i64 k ∧ k ≤ N ∧ o.length ≤ 10000 * k ∧ wr = w1 ∧ Hid (Va.Fi σ ps k o)) (fun _ s9 _ _ _ _ => N - (intOf s9).toNat)
    case atStart => exact ⟨0, [], rfl, rfl, Nat.zero_le _, Nat.zero_le _, rfl, HST⟩
    case round =>
      obtain ⟨k, o, rfl, rfl, hk, hol, rfl, HF⟩ := hrel
      clear HST
      have hzo : (⟨o.toArray⟩ : ByteArray).size = o.length := rfl
      by_cases hlt : k < N
      · obtain ⟨p, hpk⟩ : ∃ p, ps[k]? = some p := ⟨ps[k]'(by rw [← HN.out]; exact hlt), List.getElem?_eq_getElem _⟩
        obtain ⟨g, rfl⟩ : ∃ g, ao = some ⟨g, 0, none⟩ := by
          rcases HAO.out with h | h
          · rw [h] at hpk; cases hpk
          · exact h
        obtain ⟨c0, c1⟩ := HO.out.cells rfl k p hpk
        have hki : ((k : Int) < (N : Int)) := by omega
        have hpx : p.text.length ≤ 10000 := Nat.le_trans (HTX.out p (List.mem_of_getElem? hpk)) ht
        have HPM := Lib.hid (List.mem_of_getElem? hpk)
        have HPK := Lib.hid hpk
        have hk10 : 10000 * k + 10000 ≤ 100000000 := by omega
        have hk11 : 10000 * (k + 1) = 10000 * k + 10000 := by omega
        obtain ⟨K, hK⟩ : ∃ K, K = 10000 * k := ⟨_, rfl⟩
        have hk12 : 10000 * (k + 1) = K + 10000 := by omega
        have HK12 := Lib.hid hk12
        rw [← hK] at hol hk10
        clear hk11 hK hk12
        cases hb : p.isName with
        | false =>
          rw [hb] at c1
          have HF2 := Lib.hid (HF.out.byte hpk hb)
          obtain ⟨x, hx⟩ : ∃ x, x = p.text := ⟨_, rfl⟩
          rw [← hx] at c0 HF2 hpx
          have hzx : (⟨x.toArray⟩ : ByteArray).size = x.length := rfl
          have hcat : (⟨o.toArray⟩ : ByteArray) ++ ⟨x.toArray⟩ = ⟨(o ++ x).toArray⟩ := ba_append o x
          have hov : (9223372036854775807 < o.length + x.length) = False := eq_false (by omega)
          clear hpk hb hx
          go_wp2
          go_roundw
          case rel => exact ⟨k + 1, o ++ x, rfl, by go_num, by omega, by rw [List.length_append, HK12.out]; omega, trivial, HF2⟩
          case measure => simp [intOf]; omega
        | true =>
          rw [hb] at c1
          have hget := rget_any HV1.out p.text
          cases hv : Va.look σ p.text with
          | none =>
            rw [hv] at hget
            have HG : Hid (Calls Tryd.prog 17 #[.pointer (some ⟨b, 0, none⟩), .string ⟨p.text.toArray⟩] wr fun e w' => e = .returned (.tuple #[.string ⟨#[]⟩, .bool false]) ∧ wr = w') := Lib.hid hget
            have HR := Lib.hid (HF.out.unset hpk hb hv)
            obtain ⟨x, hx⟩ : ∃ x, x = p.text := ⟨_, rfl⟩
            rw [← hx] at c0 HG hpx
            clear hpk hb hx hget hv
            go_wp2_with fail
            refine HG.out.mono ?_
            rintro e w4 ⟨rfl, rfl⟩
            go_wp2
            go_ret2
            exact ⟨by rw [HR.out]; rfl, HB.out⟩
          | some v =>
            rw [hv] at hget
            have HG : Hid (Calls Tryd.prog 17 #[.pointer (some ⟨b, 0, none⟩), .string ⟨p.text.toArray⟩] wr fun e w' => e = .returned (.tuple #[.string ⟨v.toArray⟩, .bool true]) ∧ wr = w') := Lib.hid hget
            have HF2 := Lib.hid (HF.out.name hpk hb hv)
            have hvl := HVAL.out p HPM.out v hv
            obtain ⟨x, hx⟩ : ∃ x, x = p.text := ⟨_, rfl⟩
            rw [← hx] at c0 HG hpx
            have hzv : (⟨v.toArray⟩ : ByteArray).size = v.length := rfl
            have hcat : (⟨o.toArray⟩ : ByteArray) ++ ⟨v.toArray⟩ = ⟨(o ++ v).toArray⟩ := ba_append o v
            have hov : (9223372036854775807 < o.length + v.length) = False := eq_false (by omega)
            clear hpk hb hx hget hv
            go_wp2_with fail
            refine HG.out.mono ?_
            rintro e w4 ⟨rfl, rfl⟩
            go_wp2
            go_roundw
            case rel => exact ⟨k + 1, o ++ v, rfl, by go_num, by omega, by rw [List.length_append, HK12.out]; omega, trivial, HF2⟩
            case measure => simp [intOf]; omega
      · obtain rfl : k = N := by omega
        have HR := Lib.hid (HF.out.end (by rw [HN.out]; exact Nat.le_refl _))
        go_wp2
        go_ret2
        exact ⟨by rw [HR.out]; rfl, HB.out⟩
end Go.Proofs.YtkpahkcamgmlnaaDoor
