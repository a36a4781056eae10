/- vars' Set walked (layer 16). -/
import Derived.Test.YtkpahkcamgmlnaaDoorVarsObj
namespace Go.Proofs.YtkpahkcamgmlnaaDoor
open Go.RowKit

section
variable {w w' : World} {b : Nat} {x : Option Nat} {σ : Va.Env}
/-- A map that stands, with one more, or another one. -/
theorem VO.put {m : Nat} (h : VO w b (some m) σ) (n v : List UInt8) (hn : n.length ≤ 16777216) (hv : v.length ≤ 1000) (hl : (Va.put σ n v).length ≤ 16) : VO (setM w m (Va.put σ n v)) b (some m) (Va.put σ n v) where
  c := h.c.same (setM_other _ _ _ (fun e => (h.m m rfl).1 e.symm))
  m := fun k hk => by
    cases hk
    exact ⟨(h.m m rfl).1, setM_at _ _ _ (Array.getElem?_eq_some_iff.1 (h.m m rfl).2).1⟩
  z := fun e => by cases e
  nm := Va.put_all (p := fun q => q.1.length ≤ 16777216 ∧ q.2.length ≤ 1000) ⟨hn, hv⟩ h.nm
  len := hl
/-- The first one. -/
theorem VO.first (h : VO w b none []) (o : Obj) (n v : List UInt8) (hn : n.length ≤ 16777216) (hv : v.length ≤ 1000) :
    VO (setM (((w.setCell ⟨b, 0, none⟩ (.map (some (w.heap.size + 1)))).alloc o).alloc (.map #[] 0)) (w.heap.size + 1) (Va.put [] n v)) b (some (w.heap.size + 1)) (Va.put [] n v) where
  c := by
    have hb := h.c.lt
    exact ((((h.c.set (.map (some (w.heap.size + 1)))).alloc o).alloc (.map #[] 0)).same (setM_other _ _ _ (by omega)))
  m := fun k hk => by
    cases hk
    have hb := h.c.lt
    exact ⟨by omega, setM_at _ _ _ (by simp [World.setCell])⟩
  z := fun e => by cases e
  nm := Va.put_all (p := fun q => q.1.length ≤ 16777216 ∧ q.2.length ≤ 1000) ⟨hn, hv⟩ (fun q hq => by cases hq)
  len := by show 1 ≤ 16; decide
theorem Trn.setM {F : Nat → Prop} (h : Trn F w w') {m : Nat} (hm : F m ∨ w.heap.size ≤ m) (σ : Va.Env) : Trn F w (setM w' m σ) :=
  ⟨h.os, h.tape, h.output, by rw [setM_size]; exact h.size, fun k hk h1 => (setM_other _ _ _ (by
    rintro rfl
    rcases hm with hm | hm
    · exact h1 hm
    · omega)).trans (h.block k hk h1)⟩
end

set_option maxHeartbeats 2000000 in
theorem vset_any {w : World} {b : Nat} {x : Option Nat} {σ : Va.Env} (h : VO w b x σ) (n v : List UInt8) (hn : n.length ≤ 16777216) (hv : v.length ≤ 16777216) :
    Calls Tryd.prog 14 #[.pointer (some ⟨b, 0, none⟩), .string ⟨n.toArray⟩, .string ⟨v.toArray⟩] w fun e w' =>
      ∃ x', e = .returned (.int .i64 ((Va.set σ n v).2 : Int)) ∧ VO w' b x' (Va.set σ n v).1 ∧ Trn (VF b x) w w' ∧ Fx (VF b x) (VF b x') w.heap.size := by
  have hz : (⟨v.toArray⟩ : ByteArray).size = v.length := rfl
  unfold Va.set
  by_cases hbig : 1000 < v.length
  · rw [if_pos hbig]
    have h1 : ((1000 : Int) < (v.length : Int)) = True := eq_true (by omega)
    have HH := Lib.hid h
    clear h hbig
    go_enter Tryd.func14, Tryd.ntmps14
    go_wp2
    go_ret
    exact ⟨x, rfl, HH.out, Trn.refl _ _, Fx.refl _ _⟩
  · rw [if_neg hbig]
    have h1 : ((1000 : Int) < (v.length : Int)) = False := eq_false (by omega)
    have hv1 : v.length ≤ 1000 := by omega
    clear hbig
    have c1 := h.c.cell
    have c2 : ∀ o, (w.alloc o).cell? ⟨b, 0, none⟩ = some (.map x) := fun o => (h.c.alloc o).cell
    have cf : ∀ o, ((w.alloc o).alloc (.map #[] 0)).frozen? ⟨b, 0, none⟩ = false := fun o => ((h.c.alloc o).alloc _).frozen
    have c3 : ∀ o v, (((w.alloc o).alloc (.map #[] 0)).setCell ⟨b, 0, none⟩ v).cell? ⟨b, 0, none⟩ = some v := fun o v => (((h.c.alloc o).alloc _).set v).cell
    have hlk := h.look n hn
    have hlen := fun o => vlen_any (w := w.alloc o) (h.below ((Below.refl _ _).alloc (Nat.le_refl _) _))
    have hHl := h.len
    obtain ⟨N, hN⟩ : ∃ N, N = σ.length := ⟨_, rfl⟩
    have hpl := Va.put_length σ n v
    rw [← hN] at hlen hHl hpl ⊢
    obtain ⟨u, hu⟩ : ∃ u : List UInt8, u = (Va.look σ n).getD [] := ⟨_, rfl⟩
    rw [← hu] at hlk
    have HN := Lib.hid hN
    have HP := Lib.hid hpl
    have cz := @run_makeMap Tryd.prog
    by_cases hth : Va.look σ n = none
    · have e0 : (Va.look σ n).isSome = false := by rw [hth]; rfl
      rw [e0] at hlk
      by_cases hfull : 16 ≤ N
      · rw [if_pos ⟨hth, hfull⟩]
        have h2 : ((16 : Int) ≤ (N : Int)) = True := eq_true (by omega)
        have HH := Lib.hid h
        clear h hN hpl hu hfull hth e0 hv1
        go_enter Tryd.func14, Tryd.ntmps14
        go_wp2_with (go_at_call 21; refine (hlen _).mono ?_; rintro e w' ⟨rfl, rfl⟩)
        go_ret
        exact ⟨x, rfl, HH.out.below ((Below.refl _ _).alloc (Nat.le_refl _) _), (Trn.refl _ _).alloc _, Fx.refl _ _⟩
      · rw [if_neg (fun e => hfull e.2)]
        rw [if_pos hth] at hpl
        have hpl2 : (Va.put σ n v).length ≤ 16 := by omega
        have h2 : ((16 : Int) ≤ (N : Int)) = False := eq_false (by omega)
        cases x with
        | none =>
          have hσ := h.z rfl
          subst hσ
          have hq := fun w => run_eql_map_nil_sl (P := Tryd.prog) w 46 _ _ none Tryd.underlying46
          have hfst := fun o => h.first o n v hn hv1
          have hup : ∀ o, (Instr.mapUpdate 46 (.map (some (w.heap.size + 1))) (.string ⟨n.toArray⟩) (.agg #[.string ⟨v.toArray⟩])).run Tryd.prog (((w.setCell ⟨b, 0, none⟩ (.map (some (w.heap.size + 1)))).alloc o).alloc (.map #[] 0)) = .ok () (setM (((w.setCell ⟨b, 0, none⟩ (.map (some (w.heap.size + 1)))).alloc o).alloc (.map #[] 0)) (w.heap.size + 1) (Va.put [] n v)) := fun o => by
            have hb := h.c.lt
            refine upd_ents (σ := []) ?_ n v hn
            have := heap_alloc_new ((w.setCell ⟨b, 0, none⟩ (.map (some (w.heap.size + 1)))).alloc o) (.map #[] 0)
            rw [World.size_alloc, show (w.setCell ⟨b, 0, none⟩ (.map (some (w.heap.size + 1)))).heap.size = w.heap.size by simp [World.setCell]] at this
            exact this
          have hHlt := h.c.lt
          have HF := Lib.hid hfst
          clear h hN hpl hu hfull hth e0 hv1 hfst
          go_enter Tryd.func14, Tryd.ntmps14
          go_wp2_with (go_at_call 21; refine (hlen _).mono ?_; rintro e w' ⟨rfl, rfl⟩)
          go_ret
          refine ⟨_, rfl, HF.out _, ((((Trn.refl _ _).setCell (.inl rfl) _).alloc _).alloc _).setM (.inr (Nat.le_succ _)) _, ?_⟩
          rintro k (rfl | hk)
          · exact .inl (.inl rfl)
          · cases hk
            exact .inr (Nat.le_succ _)
        | some m =>
          have hput := fun o => (h.below ((Below.refl _ _).alloc (Nat.le_refl _) o)).put n v hn hv1 hpl2
          have hup : ∀ o, (Instr.mapUpdate 46 (.map (some m)) (.string ⟨n.toArray⟩) (.agg #[.string ⟨v.toArray⟩])).run Tryd.prog (w.alloc o) = .ok () (setM (w.alloc o) m (Va.put σ n v)) := fun o =>
            upd_ents ((h.below ((Below.refl _ _).alloc (Nat.le_refl _) o)).m m rfl).2 n v hn
          have hq := fun w => run_eql_map_nil_sl (P := Tryd.prog) w 46 _ _ (some m) Tryd.underlying46
          have HF := Lib.hid hput
          clear h hN hpl hu hfull hth e0 hv1 hput
          go_enter Tryd.func14, Tryd.ntmps14
          go_wp2_with (go_at_call 21; refine (hlen _).mono ?_; rintro e w' ⟨rfl, rfl⟩)
          go_ret
          exact ⟨_, rfl, HF.out _, ((Trn.refl _ _).alloc _).setM (.inl (.inr rfl)) _, Fx.refl _ _⟩
    · rw [if_neg (fun e => hth e.1)]
      rw [if_neg hth] at hpl
      have hpl2 : (Va.put σ n v).length ≤ 16 := by omega
      have e0 : (Va.look σ n).isSome = true := by
        cases hl : Va.look σ n with
        | none => exact absurd hl hth
        | some u => rfl
      rw [e0] at hlk
      cases x with
      | none =>
        have hσ := h.z rfl
        subst hσ
        exact absurd rfl hth
      | some m =>
        have hput := fun o => (h.below ((Below.refl _ _).alloc (Nat.le_refl _) o)).put n v hn hv1 hpl2
        have hup : ∀ o, (Instr.mapUpdate 46 (.map (some m)) (.string ⟨n.toArray⟩) (.agg #[.string ⟨v.toArray⟩])).run Tryd.prog (w.alloc o) = .ok () (setM (w.alloc o) m (Va.put σ n v)) := fun o =>
          upd_ents ((h.below ((Below.refl _ _).alloc (Nat.le_refl _) o)).m m rfl).2 n v hn
        have hq := fun w => run_eql_map_nil_sl (P := Tryd.prog) w 46 _ _ (some m) Tryd.underlying46
        have HF := Lib.hid hput
        clear h hN hpl hu hth e0 hv1 hput hlen
        go_enter Tryd.func14, Tryd.ntmps14
        go_wp2
        go_ret
        exact ⟨_, rfl, HF.out _, ((Trn.refl _ _).alloc _).setM (.inl (.inr rfl)) _, Fx.refl _ _⟩
end Go.Proofs.YtkpahkcamgmlnaaDoor
