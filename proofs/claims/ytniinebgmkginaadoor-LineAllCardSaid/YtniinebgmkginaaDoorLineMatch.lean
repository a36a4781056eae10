/- line.Match walked. -/
import Derived.Test.YtniinebgmkginaaDoorSplitSeq
namespace Go.Proofs.YtniinebgmkginaaDoor
open Go.RowKit
attribute [local go_sem] Oper.semAt_some

set_option maxRecDepth 100000 in
set_option maxHeartbeats 2000000 in
theorem match_any (s c : List UInt8) (hs : s.length ≤ 16777216) (hc : c.length ≤ 16777216) (w : World) :
    Calls Tryd.prog 14 #[.string (ba s), .string (ba c)] w fun e w' => e = .returned (.bool (Ln.mat s c)) ∧ Below w.heap.size w w' := by
  refine callsIn_wide (n := 0).1 (callsIn_of_wp_marks Tryd.func14 rfl trivial (wpIn_wide.2 ?_))
  simp only [Tryd.ntmps14, List.size_toArray, List.length_cons, List.length_nil, Nat.reduceAdd, Nat.reduceSub, Array.replicate_succ, Array.replicate_zero, List.push_toArray, List.append_toArray, List.nil_append, List.cons_append]
  go_wp2_with (go_at_call 22; refine (SplitSeq_any s _).mono ?_; rintro e w' ⟨rfl, hw⟩; rw [hw])
  obtain ⟨W0, hW0⟩ : ∃ W0, sqLaid ((w.alloc (.cells #[.string (ba c)] 9)).alloc (.cells #[.bool false] 4)) s = W0 := ⟨_, rfl⟩
  have hsz : W0.heap.size = w.heap.size + 5 := by rw [← hW0, sqLaid_size]; simp
  have hb0 : Below w.heap.size w W0 := by
    rw [← hW0]
    exact (((Below.refl _ w).alloc (Nat.le_refl _) _).alloc (by simp) _).trans ((sqLaid_below _ _).mono (by simp; omega))
  have hsb : Below (w.heap.size + 2) ((w.alloc (.cells #[.string (ba c)] 9)).alloc (.cells #[.bool false] 4)) W0 := by
    rw [← hW0]; exact (sqLaid_below _ _).mono (by simp)
  have hC : Box W0 w.heap.size 9 (.string (ba c)) := ((Box.new w _ _).alloc _).same (hsb.block _ (by omega))
  have hR : Box W0 (w.heap.size + 1) 4 (.bool false) := by
    have := Box.new (w.alloc (.cells #[.string (ba c)] 9)) 4 (.bool false)
    rw [World.size_alloc] at this
    exact this.same (hsb.block _ (by omega))
  have hq : Sq (w.heap.size + 1 + 1) s W0 := by
    rw [← hW0]
    have := sqLaid_sq ((w.alloc (.cells #[.string (ba c)] 9)).alloc (.cells #[.bool false] 4)) s
    simpa using this
  rw [hW0]
  clear hW0 hsb
  refine wp_rangeBox (gf := 32) rfl (enters_of Tryd.func32 (by kernel_rfl) rfl) rfl (splitSeq_gives (w.heap.size + 1 + 1) s hs W0 hq) SqK.t (SqK.two (by omega)) (SqK.put (by omega)) (SqS.far (by omega))
    (fun pre W => Below w.heap.size w W ∧ Box W w.heap.size 9 (.string (ba c)) ∧ Box W (w.heap.size + 1) 4 (.bool false) ∧ ∀ x ∈ pre, Ln.hit c x.data.toList = false)
    (fun k pre W => k = .ret ∧ Below w.heap.size w W ∧ Box W (w.heap.size + 1) 4 (.bool true) ∧ ∃ x ∈ pre, Ln.hit c x.data.toList = true)
    (fun xs W l o h1 h2 _ h => ⟨below_putObj h.1 o (by omega), h.2.1.putObj o (by omega), h.2.2.1.putObj o (by omega), h.2.2.2⟩)
    (fun k xs W l o h1 h2 _ h => ⟨h.1, below_putObj h.2.1 o (by omega), h.2.2.1.putObj o (by omega), h.2.2.2⟩)
    (fun xs A B h hs => by
      obtain ⟨v, rfl⟩ := hs
      exact ⟨h.1.setCell (p := ⟨w.heap.size + 1 + 1, 0, none⟩) (by show w.heap.size ≤ w.heap.size + 1 + 1; omega) v, h.2.1.other (by omega) v, h.2.2.1.other (by omega) v, h.2.2.2⟩)
    (fun o o' => ⟨below_two hb0 o o' (by omega), hC.two o o', hR.two o o', by simp⟩)
    (fun x => { tmps := #[.string (ba s), .string (ba c), undef, .pointer (some ⟨w.heap.size, 0, none⟩), .pointer (some ⟨w.heap.size + 1, 0, none⟩), .string x, .string (ba s), sqFun (w.heap.size + 1 + 1), .string x, undef, undef, undef, undef, undef, undef, undef], defers := [] }) ?assign ?body ?done ?stop
  case assign =>
    intro l x W K hK
    gi_wp2
    exact hK
  case body =>
    rintro l pre x W hpre ⟨hb, hc1, hr1, hno⟩ hW
    have c1 := hc1.cell
    have c2 := hr1.cell
    have f1 := hr1.frozen
    have hp := fun n => callsIn_wide (n := n).2 (Tryd.strings_HasPrefix (ba c) x W)
    have hpre0 : ∀ v, Ln.hit c x.data.toList = v → ∀ y ∈ pre ++ [x], y ∈ pre ∨ Ln.hit c y.data.toList = v := fun v hv y hy => (List.mem_append.1 hy).imp id (fun e => by rw [List.mem_singleton.1 e]; exact hv)
    by_cases hx : x.toList.isEmpty = true
    · have hx1 : (!x.toList.isEmpty) = false := by rw [hx]; rfl
      have hh : Ln.hit c x.data.toList = false := by unfold Ln.hit; rw [← Lib.toList_data, hx]; rfl
      have HH := Lib.hid hh
      have HP := Lib.hid hpre0
      clear hh hpre0
      gi_wp2
      refine ⟨trivial, ?_⟩
      gi_wp2
      exact ⟨fun _ _ _ => rfl, fun _ _ _ => rfl, hb, hc1, hr1, fun y hy => (HP.out _ HH.out y hy).elim (hno y) id⟩
    · have hx0 : x.toList.isEmpty = false := by simpa using hx
      have hx1 : (!x.toList.isEmpty) = true := by rw [hx0]; rfl
      have hh : Ln.hit c x.data.toList = Lib.hasPrefix (ba c).data.toList x.data.toList := by unfold Ln.hit; rw [← Lib.toList_data, hx0, Bool.not_false, Bool.true_and]; rfl
      rw [← hh] at hp
      clear hx
      cases hv : Ln.hit c x.data.toList
      · rw [hv] at hp
        have HV := Lib.hid hv
        have HP := Lib.hid hpre0
        clear hv hh hpre0
        gi_wp2
        refine ⟨trivial, rfl, ?_⟩
        refine (CallsIn.inRound l (hp _)).mono ?_
        rintro e w' ⟨rfl, hw⟩
        rw [hw]
        gi_wp2
        exact ⟨fun _ _ _ => rfl, fun _ _ _ => rfl, hb, hc1, hr1, fun y hy => (HP.out _ HV.out y hy).elim (hno y) id⟩
      · rw [hv] at hp
        have HV := Lib.hid hv
        have HP := Lib.hid hpre0
        clear hv hh hpre0
        gi_wp2
        refine ⟨trivial, rfl, ?_⟩
        refine (CallsIn.inRound l (hp _)).mono ?_
        rintro e w' ⟨rfl, hw⟩
        rw [hw]
        gi_wp2
        exact ⟨fun k h1 _ => Below.heap_setCell _ _ _ _ (by show k ≠ w.heap.size + 1; omega), rfl, hb.setCell (p := ⟨w.heap.size + 1, 0, none⟩) (by show w.heap.size ≤ w.heap.size + 1; omega) _, hr1.set _, x, List.mem_append.2 (.inr (List.mem_singleton.2 rfl)), HV.out⟩
  case done =>
    rintro W ⟨hb, hc1, hr1, hno⟩ hK
    have c1 := hr1.cell
    have f1 := hr1.frozen
    go_wp2
    have hK2 : (W.setCell ⟨w.heap.size + 1, 0, none⟩ (.bool false)).heap[W0.heap.size]? = some (.deferred (some [])) := (Below.heap_setCell _ _ _ _ (by show W0.heap.size ≠ w.heap.size + 1; omega)).trans hK
    refine ⟨by simp, .inl ⟨_, _, rfl, run_takeDeferred hK2, ?_⟩⟩
    have c5 := ((hr1.set (.bool false)).putObj (l := W0.heap.size) (.deferred none) (by omega)).cell
    refine ⟨.bool false, ?_, ?_, below_putObj (hb.setCell (p := ⟨w.heap.size + 1, 0, none⟩) (by show w.heap.size ≤ w.heap.size + 1; omega) _) _ (by omega)⟩
    · simp [results, Tryd.f14, go_sem, c5]
    · congr 2
      unfold Ln.mat
      refine (List.any_eq_false.2 fun p hp => ?_).symm
      have := hno (ba p) (List.mem_map.2 ⟨p, hp, rfl⟩)
      rw [ba_list] at this
      rw [this]
      simp
  case stop =>
    rintro k pre W hpre ⟨rfl, hb, hr1, x, hx, hyes⟩ hK
    go_wp2
    refine ⟨by simp, .inl ⟨_, _, rfl, run_takeDeferred hK, ?_⟩⟩
    have c5 := (hr1.putObj (l := W0.heap.size) (.deferred none) (by omega)).cell
    refine ⟨.bool true, ?_, ?_, below_putObj hb _ (by omega)⟩
    · simp [results, Tryd.f14, go_sem, c5]
    · congr 2
      unfold Ln.mat
      obtain ⟨p, hp, rfl⟩ := List.mem_map.1 (hpre.subset hx)
      exact (List.any_eq_true.2 ⟨p, hp, hyes⟩).symm
end Go.Proofs.YtniinebgmkginaaDoor
