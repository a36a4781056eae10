/- stuff.Whole walked. -/
import Derived.Test.YthfefbpfgepbjaaStuffPut
import Derived.Test.YthfefbpfgepbjaaConcat
namespace Go.Proofs.Ythfefbpfgepbjaa
open Go.RowKit

set_option maxHeartbeats 1000000 in
theorem whole_any (v : Value) (xs : List UInt8) (w : World) (h : Rd w v (xs.map bv)) (hs : xs.length ≤ 1000000) :
    Calls Try.prog 13 #[v] w fun e w' => ∃ ao c, e = .returned (.slice ao (St.whole xs).length c) ∧ Rd w' (.slice ao (St.whole xs).length c) ((St.whole xs).map bv) ∧ Below w.heap.size w w' := by
  obtain ⟨ao, cap, rfl, hcap, _⟩ := h.form
  obtain ⟨L, hL⟩ : ∃ L, L = xs.length := ⟨_, rfl⟩
  rw [← hL] at hcap hs h ⊢
  have kc := fun (w : World) (C : Array Value) (n c : Nat) => Lib.run_convert_bytes_const (P := Try.prog) w 22 5 C n c Try.underlying22 Try.underlying5
  by_cases hx : xs = []
  · have hL0 : L = 0 := by rw [hL, hx]; rfl
    have hcl := bclone_any _ xs w h (by omega)
    rw [← hL] at hcl
    have e : St.whole xs = xs := by rw [hx]; rfl
    rw [e]
    subst hL0
    rw [← hL]
    have HC := Lib.hid hcl
    clear hcl hL hx h e
    go_enter Try.func13, Try.ntmps13
    go_wp2_with fail
    refine HC.out.mono ?_
    rintro e w' ⟨bo, c, rfl, hr, hb⟩
    go_wp2
    go_ret
    exact ⟨_, _, rfl, hr, hb⟩
  · have hp : 0 < L := by rw [hL]; exact List.length_pos_iff.2 hx
    have ha := (Below.refl w.heap.size w).alloc (Nat.le_refl _) (.cells ([13, 10].map bv).toArray 5 (2, 3))
    have hsf := bsuffix_any _ _ xs [13, 10] _ (h.below ha) (Rd.made w [13, 10] 5 (2, 3) 2 rfl (by decide)) (by unfold maxLen; omega)
    rw [St.end_suffix] at hsf
    cases he : St.ends xs with
    | true =>
      rw [he] at hsf
      have hcl := fun w' (hb : Below w.heap.size w w') => bclone_any _ xs w' (h.below hb) (by omega)
      have e : St.whole xs = xs := St.whole_ends he
      rw [e]
      rw [← hL] at hcl ⊢
      have HC := Lib.hid hcl
      have HF := Lib.hid hsf
      have HA := Lib.hid ha
      clear hcl hsf hL hx h e he ha
      go_enter Try.func13, Try.ntmps13
      go_wp2_with fail
      refine HF.out.mono ?_
      rintro e w1 ⟨rfl, hw⟩
      have hb1 : Below w.heap.size w w1 := hw ▸ HA.out
      clear hw HA HF
      go_wp2_with fail
      refine (HC.out _ hb1).mono ?_
      rintro e w' ⟨bo, c, rfl, hr, hb⟩
      go_wp2
      go_ret
      exact ⟨_, _, rfl, hr, hb1.trans (hb.mono hb1.size)⟩
    | false =>
      rw [he] at hsf
      have e : St.whole xs = xs ++ [13, 10] := St.whole_more hx he
      rw [e]
      have hlen : (xs ++ [13, 10]).length = L + 2 := by rw [List.length_append, hL]; rfl
      rw [hlen]
      have HL := Lib.hid hlen
      have HF := Lib.hid hsf
      have HA := Lib.hid ha
      have HR := Lib.hid h
      clear hsf hL hx h e he ha hlen
      go_enter Try.func13, Try.ntmps13
      go_wp2_with fail
      refine HF.out.mono ?_
      rintro e w1 ⟨rfl, hw⟩
      have hb1 : Below w.heap.size w w1 := hw ▸ HA.out
      clear hw HA HF
      have kc2 : ∀ (n c : Nat), (convert 22 22 (.slice (some ⟨w1.heap.size, 0, none⟩) n c)).run Try.prog (w1.alloc (.cells #[.int .u8 13, .int .u8 10] 5)) = .ok (.slice (some ⟨w1.heap.size, 0, none⟩) n c) (w1.alloc (.cells #[.int .u8 13, .int .u8 10] 5 (2, 3))) := fun n c => kc w1 _ n c
      go_wp2_with fail
      have ha := (Below.refl w1.heap.size w1).alloc (Nat.le_refl _) (.cells ([13, 10].map bv).toArray 5 (2, 3))
      have hb2 := hb1.trans (ha.mono hb1.size)
      have hr0 := HR.out.below hb2
      have hr1 := Rd.made w1 [13, 10] 5 (2, 3) 2 rfl (by decide)
      have hsz : (w1.alloc (.cells ([13, 10].map bv).toArray 5 (2, 3))).heap.size = w1.heap.size + 1 := by simp
      change Calls _ _ _ ((w1.alloc (.cells ([13, 10].map bv).toArray 5 (2, 3))).alloc _) _
      generalize w1.alloc (.cells ([13, 10].map bv).toArray 5 (2, 3)) = w2 at hb2 hr0 hr1 hsz ⊢
      have ha2 := (Below.refl w2.heap.size w2).alloc (Nat.le_refl _) (.cells #[.slice ao L cap, .slice (some ⟨w1.heap.size, 0, none⟩) 2 2] 22)
      have hnew := heap_alloc_new w2 (.cells #[.slice ao L cap, .slice (some ⟨w1.heap.size, 0, none⟩) 2 2] 22)
      have hb3 := hb2.trans (ha2.mono hb2.size)
      have hcc := concat_any w2.heap.size 2 [(.slice ao L cap, xs), (.slice (some ⟨w1.heap.size, 0, none⟩) 2 2, [13, 10])] (w2.alloc (.cells #[.slice ao L cap, .slice (some ⟨w1.heap.size, 0, none⟩) 2 2] 22)) rfl (by decide) (fun j p hj => by
        rw [cell_of_row _ _ _ _ _ _ hnew]
        rcases j with _ | _ | j
        · simp at hj; subst hj; rfl
        · simp at hj; subst hj; rfl
        · simp at hj) (fun p hp => by
        rcases List.mem_cons.1 hp with rfl | hp
        · exact hr0.below ha2
        · rw [List.mem_singleton] at hp
          subst hp
          exact hr1.below ha2) (by simp [cat]; have := HL.out; simp at this; omega)
      have hcat : cat [(Value.slice ao L cap, xs), (.slice (some ⟨w1.heap.size, 0, none⟩) 2 2, [13, 10])] = xs ++ [13, 10] := by simp [cat]
      rw [hcat, hsz, HL.out] at hcc
      refine hcc.mono ?_
      rintro e w' ⟨bo, c, rfl, hb, ho, _⟩
      have hrd := Lib.hid (Rd.of_own ho)
      have hbb := hb3.trans (hb.mono hb3.size)
      clear ho hcc hcat hnew hsz ha ha2 hb3 hb2 hr0 hr1 hb kc2
      go_wp2
      go_ret
      exact ⟨_, _, rfl, hrd.out, hbb⟩
end Go.Proofs.Ythfefbpfgepbjaa
