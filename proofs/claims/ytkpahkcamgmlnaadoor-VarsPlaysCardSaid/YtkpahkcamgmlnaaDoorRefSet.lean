/- The reference's Set walked (layer 16). -/
import Derived.Test.YtkpahkcamgmlnaaDoorRefVars
import Derived.Test.YtkpahkcamgmlnaaDoorVarsSet
import Derived.Test.YtkpahkcamgmlnaaDoorOwnStore
namespace Go.Proofs.YtkpahkcamgmlnaaDoor
open Go.RowKit

/-- A row of nothing, just made. -/
theorem own_empty (w : World) (B : Nat) (hB : B ≤ w.heap.size) : (w.alloc (.cells #[] 9)).ownsRow B 9 1 (.slice (some ⟨w.heap.size, 0, none⟩) 0 0) 0 [] :=
  World.ownsRow_made (base := B) w #[] 0 hB (Nat.zero_le _) rfl

/-- Rows of texts: both behind block g. -/
theorem RV.set0 {w w1 : World} {g : Nat} {nv vv : Value} {σ : Va.Env} (h : RV w g nv vv σ) (hb : Below w.heap.size w w1) (u : Value) : Below g w (w1.setCell ⟨g, 0, none⟩ u) ∧ (w1.setCell ⟨g, 0, none⟩ u).heap[g]? = some (.cells #[u, vv] 29 (0, 0)) ∧ Trn (fun k => k = g) w (w1.setCell ⟨g, 0, none⟩ u) :=
  ⟨(hb.mono (Nat.le_of_lt h.lt)).setCell (p := ⟨g, 0, none⟩) (Nat.le_refl _) u, (setCell_row ((hb.block g h.lt).trans h.c)).trans rfl, (Trn.of_below hb).setCell (F := fun k => k = g) rfl u⟩

/-- A row of texts, where the two rows' block alone turned. -/
theorem RV.rows {w w' : World} {g : Nat} {nv vv u : Value} {σ : Va.Env} {ys : List (List UInt8)} (h : RV w g nv vv σ) (ht : Trn (fun k => k = g) w w') (hr : Rd w u (ys.map sv)) : Rd w' u (ys.map sv) := by
  obtain ⟨a1, b1, e1, _⟩ := h.n.formV
  obtain ⟨a2, b2, e2, _⟩ := h.v.formV
  have hc := h.c
  rw [e1, e2] at hc
  rcases hr with hr | ⟨b, o, cp, g1, g2, g3, g4⟩
  · exact .inl hr
  · refine .inr ⟨b, o, cp, g1, g2, g3, fun j u hj => ?_⟩
    have hcc := g4 j u hj
    refine (World.cell?_of_block (ht.block b (World.block_lt_of_cell? w _ hcc) (fun e => ?_))).trans hcc
    rw [show b = g from e] at hcc
    obtain ⟨y, _, hy⟩ := List.mem_map.1 (List.mem_of_getElem? hj)
    rw [← hy, World.cell?] at hcc
    simp only [hc] at hcc
    generalize o + j = m at hcc
    rcases m with _ | _ | m <;> simp [sv] at hcc

set_option maxHeartbeats 4000000 in
theorem rset_any {w : World} {g : Nat} {nv vv : Value} {σ : Va.Env} (h : RV w g nv vv σ) (n v : List UInt8) (hn : n.length ≤ 16777216) (hv : v.length ≤ 16777216) :
    Calls Tryd.prog 15 #[.pointer (some ⟨g, 0, none⟩), .string ⟨n.toArray⟩, .string ⟨v.toArray⟩] w fun e w' =>
      ∃ nv' vv', e = .returned (.int .i64 ((Va.set σ n v).2 : Int)) ∧ RV w' g nv' vv' (Va.set σ n v).1 ∧ Trn (fun k => k = g) w w' := by
  have hz : (⟨v.toArray⟩ : ByteArray).size = v.length := rfl
  unfold Va.set
  by_cases hbig : 1000 < v.length
  · rw [if_pos hbig]
    have h1 : ((1000 : Int) < (v.length : Int)) = True := eq_true (by omega)
    have HH := Lib.hid h
    clear h hbig
    go_enter Tryd.func15, Tryd.ntmps15
    go_wp2
    go_ret
    exact ⟨nv, vv, rfl, HH.out, Trn.refl _ _⟩
  · rw [if_neg hbig]
    have h1 : ((1000 : Int) < (v.length : Int)) = False := eq_false (by omega)
    have hv1 : v.length ≤ 1000 := by omega
    have ha := rat_any h n
    have HH := Lib.hid h
    obtain ⟨ao, cap, rfl, _, _⟩ := h.n.formV
    obtain ⟨vo, vcap, rfl, _, _⟩ := h.v.formV
    rw [List.length_map, keys_len, List.length_map, vals_len] at *
    have hlen := h.len
    have c0 := h.c0
    have c1 := h.c1
    have c0a : ∀ o, (w.alloc o).cell? ⟨g, 0, none⟩ = _ := fun o => (h.below ((Below.refl _ _).alloc (Nat.le_refl _) o)).c0
    have c1a : ∀ o, (w.alloc o).cell? ⟨g, 1, none⟩ = _ := fun o => (h.below ((Below.refl _ _).alloc (Nat.le_refl _) o)).c1
    have hpl := Va.put_length σ n v
    clear hbig
    rcases look_pos σ n with ⟨e1, e2, e3⟩ | ⟨k, u, e1, e2, e3⟩
    · rw [e2] at ha
      obtain ⟨hk1, hk2⟩ := Va.put_keys (v := v) e3
      rw [if_pos e1] at hpl
      by_cases hfull : 16 ≤ σ.length
      · rw [if_pos ⟨e1, hfull⟩]
        obtain ⟨N, hN⟩ : ∃ N, N = σ.length := ⟨_, rfl⟩
        rw [← hN] at c0 c1 c0a c1a hfull HH
        have h2 : ((16 : Int) ≤ (N : Int)) = True := eq_true (by omega)
        clear h hpl e1 e2 e3 hk1 hk2 hN hfull
        go_enter Tryd.func15, Tryd.ntmps15
        go_wp2_with (go_at_call 26; refine ha.mono ?_; rintro e w' ⟨rfl, rfl⟩)
        go_ret
        exact ⟨_, _, rfl, HH.out, Trn.refl _ _⟩
      · rw [if_neg (fun e => hfull e.2)]
        obtain ⟨N, hN⟩ : ∃ N, N = σ.length := ⟨_, rfl⟩
        have HN := Lib.hid hN
        have h2 : ((16 : Int) ≤ (N : Int)) = False := eq_false (by omega)
        rw [← hN] at c0 c1 c0a c1a hfull HH
        have hN16 : N ≤ 15 := by omega
        have hrn := HH.out.n
        have hrv := HH.out.v
        have HKK := Lib.hid (And.intro hk1 hk2)
        have HPL := Lib.hid hpl
        clear h hpl e1 e2 e3 hk1 hk2 hN hfull
        go_enter Tryd.func15, Tryd.ntmps15
        go_wp2_with (first | (go_at_call 26; refine ha.mono ?_; rintro e w' ⟨rfl, rfl⟩) | (at_builtin; refine append_strs rfl (.tmp 27) (.tmp 31) rfl rfl (own_empty w w.heap.size (Nat.le_refl _)) ((keys σ).map sv) (hrn.below ((Below.refl _ _).alloc (Nat.le_refl _) _)) (sv_cell _) ?ca ?cb ?_))
        case ca => rw [List.length_map, keys_len, ← HN.out]; omega
        case cb => simp
        intro v2 w2 ho2 hg2
        have hb2 : Below w.heap.size w w2 := ((Below.refl _ _).alloc (Nat.le_refl _) _).grown hg2 (by simp) (fun k hk => by cases hk; exact Nat.le_refl _)
        have ho2b : w2.ownsRow w.heap.size 9 1 v2 N ((keys σ).map sv) := by rw [keys_len, ← HN.out] at ho2; exact ho2
        have HO2 := Lib.hid ho2b
        have HB2 := Lib.hid hb2
        clear ho2 hg2 hb2 ho2b ha hrn
        go_wp2_with (at_builtin; refine append_str rfl (.tmp 32) (.tmp 34) rfl rfl HO2.out rfl rfl (b := sv n) rfl ?ca HB2.out.size ?_)
        case ca => omega
        intro v3 w3 ho3 hg3
        obtain ⟨ao3, cap3, rfl⟩ := own_form ho3
        have hb3 : Below w.heap.size w w3 := HB2.out.grown hg3 HB2.out.size (fun k hk => (HO2.out.lt k hk).1)
        obtain ⟨s1, s2, s3⟩ := HH.out.set0 hb3 (.slice ao3 (N + 1) cap3)
        have f3 : w3.frozen? ⟨g, 0, none⟩ = false := (HH.out.below hb3).fr 0
        have c3 : w3.cell? ⟨g, 0, none⟩ = some (.slice ao N cap) := (HH.out.below hb3).c0
        have hne3 : ∀ k, (Value.slice ao3 (N + 1) cap3).ownBlock = some k → w.heap.size ≤ k := fun k hk => (ho3.lt k hk).1
        have ho4 : (w3.setCell ⟨g, 0, none⟩ (.slice ao3 (N + 1) cap3)).ownsRow w.heap.size 9 1 (.slice ao3 (N + 1) cap3) (N + 1) ((keys σ).map sv ++ [sv n]) := own_setCell ho3 (fun e => by have := hne3 g e; have := HH.out.lt; omega)
        obtain ⟨w4, hw4⟩ : ∃ w4, w3.setCell ⟨g, 0, none⟩ (.slice ao3 (N + 1) cap3) = w4 := ⟨_, rfl⟩
        rw [hw4] at s1 s2 s3 ho4
        have k4 : ∀ o, (w4.alloc o).cell? ⟨g, 1, none⟩ = some (.slice vo N vcap) := fun o => cell_of_row _ _ _ _ _ _ ((Below.heap_alloc _ _ _ (Array.getElem?_eq_some_iff.1 s2).1).trans s2)
        have hrv4 : Rd w4 (.slice vo N vcap) ((vals σ).map sv) := HH.out.rows s3 hrv
        have HO4 := Lib.hid ho4
        have HS2 := Lib.hid s2
        have HS3 := Lib.hid s3
        have HRV4 := Lib.hid hrv4
        clear ho3 hg3 hb3 s1 s2 s3 hne3 ho4 hrv4 hrv HO2 HB2 c0 c1 c0a c1a
        go_wp2_with (at_builtin; refine append_strs rfl (.tmp 39) (.tmp 43) rfl rfl (own_empty w4 w4.heap.size (Nat.le_refl _)) ((vals σ).map sv) (HRV4.out.below ((Below.refl _ _).alloc (Nat.le_refl _) _)) (sv_cell _) ?ca ?cb ?_)
        case ca => rw [List.length_map, vals_len, ← HN.out]; omega
        case cb => simp
        intro v5 w5 ho5 hg5
        have hb5 : Below w4.heap.size w4 w5 := ((Below.refl _ _).alloc (Nat.le_refl _) _).grown hg5 (by simp) (fun k hk => by cases hk; exact Nat.le_refl _)
        have ho5b : w5.ownsRow w4.heap.size 9 1 v5 N ((vals σ).map sv) := by rw [vals_len, ← HN.out] at ho5; exact ho5
        have HO5 := Lib.hid ho5b
        have HB5 := Lib.hid hb5
        clear ho5 hg5 hb5 ho5b hw4 f3 c3
        go_wp2_with (at_builtin; refine append_str rfl (.tmp 44) (.tmp 46) rfl rfl HO5.out rfl rfl (b := sv v) rfl ?ca HB5.out.size ?_)
        case ca => omega
        intro v6 w6 ho6 hg6
        obtain ⟨ao6, cap6, rfl⟩ := own_form ho6
        have hb6 : Below w4.heap.size w4 w6 := HB5.out.grown hg6 HB5.out.size (fun k hk => (HO5.out.lt k hk).1)
        have hgl : g < w4.heap.size := (Array.getElem?_eq_some_iff.1 HS2.out).1
        have hc6 := (hb6.block g hgl).trans HS2.out
        have f6 : w6.frozen? ⟨g, 1, none⟩ = false := frozen_of_row _ _ _ _ _ hc6
        have c6 : w6.cell? ⟨g, 1, none⟩ = some (.slice vo N vcap) := cell_of_row _ _ _ _ _ _ hc6
        have hfin : RV (w6.setCell ⟨g, 1, none⟩ (.slice ao6 (N + 1) cap6)) g (.slice ao3 (N + 1) cap3) (.slice ao6 (N + 1) cap6) (Va.put σ n v) := {
          c := (setCell_row hc6).trans rfl
          n := by
            have := Rd.of_own (own_setCell (i := 1) (u := .slice ao6 (N + 1) cap6) (own_below HO4.out hb6) (fun e => by have := (HO4.out.lt g e).1; have := HH.out.lt; omega))
            rw [HKK.out.1, List.map_append]; exact this
          v := by
            have := Rd.of_own (own_setCell (i := 1) (u := .slice ao6 (N + 1) cap6) ho6 (fun e => by have := (ho6.lt g e).1; omega))
            rw [HKK.out.2, List.map_append]; exact this
          nm := Va.put_all (p := fun q => q.1.length ≤ 16777216 ∧ q.2.length ≤ 1000) ⟨hn, hv1⟩ HH.out.nm
          len := by rw [HPL.out, ← HN.out]; omega }
        have htr : Trn (fun k => k = g) w (w6.setCell ⟨g, 1, none⟩ (.slice ao6 (N + 1) cap6)) := (HS3.out.then (Trn.of_below hb6)).setCell (F := fun k => k = g) rfl _
        have HFIN := Lib.hid hfin
        have HTR := Lib.hid htr
        clear ho6 hg6 hb6 hc6 hfin htr hgl HO5 HB5 k4
        go_wp2
        go_ret
        exact ⟨_, _, rfl, HFIN.out, HTR.out⟩
    · rw [e2] at ha
      obtain ⟨hk1, hk2⟩ := Va.put_vals (v := v) e3
      obtain ⟨hkl, _, _, _⟩ := Va.hit_at e3
      rw [if_neg (by rw [e1]; simp)] at hpl
      rw [if_neg (fun e => by rw [e1] at e; simp at e)]
      obtain ⟨N, hN⟩ : ∃ N, N = σ.length := ⟨_, rfl⟩
      have HN := Lib.hid hN
      rw [← hN] at c0 c1 c0a c1a HH hlen hkl
      have hki : ((k : Int) < 0) = False := eq_false (by omega)
      have hkN : ((k : Int) < (N : Int)) := by omega
      have hrv := HH.out.v
      have HKK := Lib.hid (And.intro hk1 hk2)
      have HPL := Lib.hid hpl
      clear h hpl e1 e2 e3 hk1 hk2 hN
      go_enter Tryd.func15, Tryd.ntmps15
      go_wp2_with (first | (go_at_call 26; refine ha.mono ?_; rintro e w' ⟨rfl, rfl⟩) | (at_builtin; refine append_strs rfl (.tmp 51) (.tmp 55) rfl rfl (own_empty w w.heap.size (Nat.le_refl _)) ((vals σ).map sv) (hrv.below ((Below.refl _ _).alloc (Nat.le_refl _) _)) (sv_cell _) ?ca ?cb ?_))
      case ca => rw [List.length_map, vals_len, ← HN.out]; omega
      case cb => simp
      intro v2 w2 ho2 hg2
      have hb2 : Below w.heap.size w w2 := ((Below.refl _ _).alloc (Nat.le_refl _) _).grown hg2 (by simp) (fun k hk => by cases hk; exact Nat.le_refl _)
      have ho2b : w2.ownsRow w.heap.size 9 1 v2 N ((vals σ).map sv) := by rw [vals_len, ← HN.out] at ho2; exact ho2
      obtain ⟨g2, cap2, rfl, hg2b, hc2, hm2, _⟩ := own_pos ho2b (by omega)
      have hgl := HH.out.lt
      have hc3 := (hb2.block g hgl).trans HH.out.c
      have f2 : w2.frozen? ⟨g, 1, none⟩ = false := frozen_of_row _ _ _ _ _ hc3
      have k2 : w2.cell? ⟨g, 1, none⟩ = some (.slice vo N vcap) := cell_of_row _ _ _ _ _ _ hc3
      have ho3 := own_setCell (g := g) (i := 1) (u := .slice (some ⟨g2, 0, none⟩) N cap2) ho2b (fun e => by have e2 : g2 = g := (by simpa [Value.ownBlock] using e); omega)
      have hs3 : (w2.setCell ⟨g, 1, none⟩ (.slice (some ⟨g2, 0, none⟩) N cap2)).heap[g]? = some (.cells #[.slice ao N cap, .slice (some ⟨g2, 0, none⟩) N cap2] 29 (0, 0)) := (setCell_row hc3).trans rfl
      have htr : Trn (fun k => k = g) w (w2.setCell ⟨g, 1, none⟩ (.slice (some ⟨g2, 0, none⟩) N cap2)) := (Trn.of_below hb2).setCell (F := fun k => k = g) rfl _
      obtain ⟨w3, hw3⟩ : ∃ w3, w2.setCell ⟨g, 1, none⟩ (.slice (some ⟨g2, 0, none⟩) N cap2) = w3 := ⟨_, rfl⟩
      rw [hw3] at ho3 hs3 htr
      have k3 : w3.cell? ⟨g, 1, none⟩ = some (.slice (some ⟨g2, 0, none⟩) N cap2) := cell_of_row _ _ _ _ _ _ hs3
      obtain ⟨f4, ⟨u0, k4⟩, ho4, _, hg2l⟩ := own_store ho3 hkl (.string ⟨v.toArray⟩)
      have hne : g ≠ g2 := by omega
      have hfin : RV (w3.setCell ⟨g2, k, none⟩ (.string ⟨v.toArray⟩)) g (.slice ao N cap) (.slice (some ⟨g2, 0, none⟩) N cap2) (Va.put σ n v) := {
        c := (Below.heap_setCell _ _ _ _ hne).trans hs3
        n := by
          have h1 := HH.out.rows htr HH.out.n
          have h2 : Trn (fun k => k = g ∨ w.heap.size ≤ k) w (w3.setCell ⟨g2, k, none⟩ (.string ⟨v.toArray⟩)) := (htr.more (fun k hk => .inl hk)).setCell (F := fun k => k = g ∨ w.heap.size ≤ k) (.inr hg2b) _
          have h3 : Trn (fun k => k = g) w (w3.setCell ⟨g2, k, none⟩ (.string ⟨v.toArray⟩)) := ⟨h2.os, h2.tape, h2.output, h2.size, fun i hi hk => h2.block i hi (fun e => e.elim hk (fun e => absurd hi (by omega)))⟩
          rw [HKK.out.1]
          exact HH.out.rows h3 HH.out.n
        v := by
          rw [HKK.out.2, List.map_set]
          exact Rd.of_own ho4
        nm := Va.put_all (p := fun q => q.1.length ≤ 16777216 ∧ q.2.length ≤ 1000) ⟨hn, hv1⟩ HH.out.nm
        len := by rw [HPL.out, ← HN.out]; exact hlen }
      have htr2 : Trn (fun k => k = g) w (w3.setCell ⟨g2, k, none⟩ (.string ⟨v.toArray⟩)) := by
        have h2 : Trn (fun k => k = g ∨ w.heap.size ≤ k) w (w3.setCell ⟨g2, k, none⟩ (.string ⟨v.toArray⟩)) := (htr.more (fun k hk => .inl hk)).setCell (F := fun k => k = g ∨ w.heap.size ≤ k) (.inr hg2b) _
        exact ⟨h2.os, h2.tape, h2.output, h2.size, fun i hi hk => h2.block i hi (fun e => e.elim hk (fun e => absurd hi (by omega)))⟩
      have HFIN := Lib.hid hfin
      have HTR := Lib.hid htr2
      have hm3 : cap2 ≤ 9223372036854775807 := by unfold maxLen at hm2; omega
      clear ho2 hg2 hb2 ho2b hg2b hm2 hc3 ho3 hs3 htr ho4 hg2l hne hfin htr2 hrv ha c0 c1 c0a c1a hgl
      go_wp2
      go_ret
      exact ⟨_, _, rfl, HFIN.out, HTR.out⟩
end Go.Proofs.YtkpahkcamgmlnaaDoor
