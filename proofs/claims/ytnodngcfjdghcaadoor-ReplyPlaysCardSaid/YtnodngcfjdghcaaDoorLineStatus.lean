/- line.Status walked. -/
import Derived.Test.YtnodngcfjdghcaaDoorLineNumbered
import Derived.Test.YtnodngcfjdghcaaDoorLineHeads
namespace Go.Proofs.YtnodngcfjdghcaaDoor
open Go.RowKit

set_option maxHeartbeats 2000000 in
theorem status_num (proto : Int) (hp : proto = 1 ∨ proto = 3) (l : List UInt8) (hl : l.length ≤ 16777216) (w : World) :
    Calls Tryd.prog 23 #[.int .i64 proto, .string (ba l)] w fun e w' => e = .returned (.tuple #[stv (Ln.num l), .bool (Ln.num l).isSome]) ∧ Below w.heap.size w w' := by
  have hN := numbered_any l hl
  obtain ⟨c, m, t, hst⟩ := stv_form (Ln.num l)
  rw [hst] at hN ⊢
  generalize (Ln.num l).isSome = ok at hN ⊢
  clear hst
  rcases hp with rfl | rfl
  all_goals
    go_enter Tryd.func23, Tryd.ntmps23
    go_wp2_with (go_at_call 28; refine (hN _).mono ?_; rintro e w1 ⟨rfl, hb⟩; have hs := (St3.new w ⟨#[]⟩ ⟨#[]⟩ false).same (hb.block _ (by simp)); have hb0 := ((Below.refl _ w).alloc (Nat.le_refl _) _).trans (hb.mono (by simp)); have c0 := hs.c0; have c1 := hs.c1; have c2 := hs.c2; have f0 := hs.fr 0; have f1 := hs.fr 1; have f2 := hs.fr 2; clear hN hb)
    clear c0 c1 c2 f0 f1 f2
    have hs2 := hs.set c t m
    have hb2 := below_set3 hb0 (Nat.le_refl _) (.string c) (.bool m) (.string t)
    generalize World.setCell _ _ _ = wz at hs2 hb2 ⊢
    have d0 := hs2.c0
    have d1 := hs2.c1
    have d2 := hs2.c2
    exact bodyPost_ret (v := .tuple #[.agg #[.string c, .bool m, .string t], .bool ok]) (by simp [results, Tryd.f23, go_sem, d0, d1, d2]) rfl ⟨rfl, hb2⟩

set_option maxHeartbeats 2000000 in
theorem status_no (proto : Int) (h1 : proto ≠ 1) (h2 : proto ≠ 2) (h3 : proto ≠ 3) (l : List UInt8) (w : World) :
    Calls Tryd.prog 23 #[.int .i64 proto, .string (ba l)] w fun e w' => e = .returned (.tuple #[stv none, .bool false]) ∧ Below w.heap.size w w' := by
  have e1 : (proto == 1) = false := by simpa using h1
  have e2 : (proto == 2) = false := by simpa using h2
  have e3 : (proto == 3) = false := by simpa using h3
  go_enter Tryd.func23, Tryd.ntmps23
  go_wp2
  have hs := St3.new w ⟨#[]⟩ ⟨#[]⟩ false
  have hb2 := (Below.refl _ w).alloc (Nat.le_refl _) (.cells #[.string ⟨#[]⟩, .bool false, .string ⟨#[]⟩] 54)
  generalize World.alloc _ _ = wz at hs hb2 ⊢
  have d0 := hs.c0
  have d1 := hs.c1
  have d2 := hs.c2
  exact bodyPost_ret (v := .tuple #[.agg #[.string ⟨#[]⟩, .bool false, .string ⟨#[]⟩], .bool false]) (by simp [results, Tryd.f23, go_sem, d0, d1, d2]) rfl ⟨rfl, hb2⟩

set_option maxHeartbeats 2000000 in
theorem status_pop (l : List UInt8) (hl : l.length ≤ 16777216) (w : World) :
    Calls Tryd.prog 23 #[.int .i64 2, .string (ba l)] w fun e w' => e = .returned (.tuple #[stv (Ln.pop l), .bool (Ln.pop l).isSome]) ∧ Below w.heap.size w w' := by
  rw [pop_cut]
  have hC := sCut_any l 32 hl
  have hlen := cut1_len 32 l
  generalize cut1 32 l = p at hC hlen ⊢
  obtain ⟨h, t, found⟩ := p
  have hL := fun w b hb => look_head w b hb h (Nat.le_trans hlen.1 hl)
  clear hlen
  have hC : ∀ w, Calls Tryd.prog 29 #[.string (ba l), .string ⟨#[32]⟩] w fun e w' => e = .returned (.tuple #[.string (ba h), .string (ba t), .bool found]) ∧ ∃ q, w' = w.drewN q := hC
  have hL : ∀ (w : World) (b : Nat), w.heap[b]? = some (.map HD 3) → (Instr.lookup 69 (.map (some b)) (.string (ba h)) true).run Tryd.prog w = .ok (.tuple #[.agg #[.string (ba ((headOf h).getD [])), .bool false, .string ⟨#[]⟩], .bool (headOf h).isSome]) w := hL
  cases ho : headOf h with
  | none =>
    rw [ho] at hL
    show Calls _ _ _ _ fun e w' => e = .returned (.tuple #[.agg #[.string ⟨#[]⟩, .bool false, .string ⟨#[]⟩], .bool false]) ∧ _
    have hL : ∀ (w : World) (b : Nat), w.heap[b]? = some (.map HD 3) → (Instr.lookup 69 (.map (some b)) (.string (ba h)) true).run Tryd.prog w = .ok (.tuple #[.agg #[.string ⟨#[]⟩, .bool false, .string ⟨#[]⟩], .bool false]) w := hL
    clear ho
    go_enter Tryd.func23, Tryd.ntmps23
    go_wp2_with (first
      | (go_at_call 29; refine (hC _).mono ?_; rintro e w1 ⟨rfl, q, hw⟩; have hb : Below (w.heap.size + 1) (w.alloc (.cells #[.string ⟨#[]⟩, .bool false, .string ⟨#[]⟩] 54)) w1 := (by rw [hw]; exact ⟨rfl, rfl, rfl, Nat.le_refl _, fun _ _ => rfl⟩); have hs := (St3.new w ⟨#[]⟩ ⟨#[]⟩ false).same (hb.block _ (by simp)); have hb0 := ((Below.refl _ w).alloc (Nat.le_refl _) _).trans (hb.mono (by simp)); clear hC hb hw)
      | (go_at_call 30; refine (heads_any _).mono ?_; rintro e w2 ⟨rfl, hw⟩; have hk := hL w2 w1.heap.size (by rw [hw]; exact heap_alloc_new _ _); have hs1 := hs.alloc (.map HD 3); have hb1 := hb0.alloc hb0.size (.map HD 3); rw [← hw] at hs1 hb1; have c0 := fun o => (hs1.alloc o).c0; have c1 := fun o => (hs1.alloc o).c1; have c2 := fun o => (hs1.alloc o).c2; have f0 := fun o => (hs1.alloc o).fr 0; have f1 := fun o => (hs1.alloc o).fr 1; have f2 := fun o => (hs1.alloc o).fr 2; clear hL hw hs))
    clear c0 c1 c2 f0 f1 f2
    have hs2 := (hs1.alloc (.cells #[.string ⟨#[]⟩, .bool false, .string ⟨#[]⟩] 54)).set ⟨#[]⟩ ⟨#[]⟩ false
    have hb2 := below_set3 (hb1.alloc hb1.size (.cells #[.string ⟨#[]⟩, .bool false, .string ⟨#[]⟩] 54)) (Nat.le_refl _) (.string ⟨#[]⟩) (.bool false) (.string ⟨#[]⟩)
    generalize World.setCell _ _ _ = wz at hs2 hb2 ⊢
    have d0 := hs2.c0
    have d1 := hs2.c1
    have d2 := hs2.c2
    exact bodyPost_ret (v := .tuple #[.agg #[.string ⟨#[]⟩, .bool false, .string ⟨#[]⟩], .bool false]) (by simp [results, Tryd.f23, go_sem, d0, d1, d2]) rfl ⟨rfl, hb2⟩
  | some c =>
    rw [ho] at hL
    show Calls _ _ _ _ fun e w' => e = .returned (.tuple #[.agg #[.string (ba c), .bool false, .string (ba t)], .bool true]) ∧ _
    have hL : ∀ (w : World) (b : Nat), w.heap[b]? = some (.map HD 3) → (Instr.lookup 69 (.map (some b)) (.string (ba h)) true).run Tryd.prog w = .ok (.tuple #[.agg #[.string (ba c), .bool false, .string ⟨#[]⟩], .bool true]) w := hL
    clear ho
    go_enter Tryd.func23, Tryd.ntmps23
    go_wp2_with (first
      | (go_at_call 29; refine (hC _).mono ?_; rintro e w1 ⟨rfl, q, hw⟩; have hb : Below (w.heap.size + 1) (w.alloc (.cells #[.string ⟨#[]⟩, .bool false, .string ⟨#[]⟩] 54)) w1 := (by rw [hw]; exact ⟨rfl, rfl, rfl, Nat.le_refl _, fun _ _ => rfl⟩); have hs := (St3.new w ⟨#[]⟩ ⟨#[]⟩ false).same (hb.block _ (by simp)); have hb0 := ((Below.refl _ w).alloc (Nat.le_refl _) _).trans (hb.mono (by simp)); clear hC hb hw)
      | (go_at_call 30; refine (heads_any _).mono ?_; rintro e w2 ⟨rfl, hw⟩; have hk := hL w2 w1.heap.size (by rw [hw]; exact heap_alloc_new _ _); have hs1 := hs.alloc (.map HD 3); have hb1 := hb0.alloc hb0.size (.map HD 3); rw [← hw] at hs1 hb1; have c0 := fun o => (hs1.alloc o).c0; have c1 := fun o => (hs1.alloc o).c1; have c2 := fun o => (hs1.alloc o).c2; have f0 := fun o => (hs1.alloc o).fr 0; have f1 := fun o => (hs1.alloc o).fr 1; have f2 := fun o => (hs1.alloc o).fr 2; clear hL hw hs))
    clear c0 c1 c2 f0 f1 f2
    have hs2 := (hs1.alloc (.cells #[.string (ba c), .bool false, .string (ba t)] 54)).set (ba c) (ba t) false
    have hb2 := below_set3 (hb1.alloc hb1.size (.cells #[.string (ba c), .bool false, .string (ba t)] 54)) (Nat.le_refl _) (.string (ba c)) (.bool false) (.string (ba t))
    generalize World.setCell _ _ _ = wz at hs2 hb2 ⊢
    have d0 := hs2.c0
    have d1 := hs2.c1
    have d2 := hs2.c2
    exact bodyPost_ret (v := .tuple #[.agg #[.string (ba c), .bool false, .string (ba t)], .bool true]) (by simp [results, Tryd.f23, go_sem, d0, d1, d2]) rfl ⟨rfl, hb2⟩

/-- 'Status'. -/
theorem status_any (proto : Int) (l : List UInt8) (hl : l.length ≤ 16777216) (w : World) :
    Calls Tryd.prog 23 #[.int .i64 proto, .string (ba l)] w fun e w' => e = .returned (.tuple #[stv (Ln.status proto l), .bool (Ln.status proto l).isSome]) ∧ Below w.heap.size w w' := by
  unfold Ln.status
  by_cases h2 : proto = 2
  · subst h2; exact status_pop l hl w
  · rw [if_neg h2]
    by_cases h13 : proto = 1 ∨ proto = 3
    · rw [if_pos h13]; exact status_num proto h13 l hl w
    · rw [if_neg h13]
      exact status_no proto (fun e => h13 (.inl e)) h2 (fun e => h13 (.inr e)) l w
end Go.Proofs.YtnodngcfjdghcaaDoor
