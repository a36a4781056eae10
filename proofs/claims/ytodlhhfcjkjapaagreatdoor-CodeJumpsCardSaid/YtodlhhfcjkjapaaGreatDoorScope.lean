/- A scope in which the run jumps to whatever labels: what holds at each jump, and a measure that every pass lowers. -/
import Derived.Scope
import Derived.WalkMore
namespace Go.Proofs.YtodlhhfcjkjapaaGreatDoor
def jumps (J : Nat → Act → World → Prop) (Q : Exit → Act → World → Prop) : Exit → Act → World → Prop
 | .goto l, a, w => J l a w
 | e, a, w => Q e a w
section
variable {P : Program} {a : Act} {w : World} {Q : Exit → Act → World → Prop}
theorem scope_pass {c rest : Code} {J : Nat → Act → World → Prop} (h : rest.wp P (jumps J Q) a w) (b : Frame) (k : List Item) (cs : List Frame) :
  (∃ e a' w', Q e a' w' ∧ Arrives P (lone (b.at a (.code rest :: .inScope c :: k)) cs w) b k cs e a' w') ∨
  ∃ l a' w', J l a' w' ∧ ∀ r, findLabel c l = some r → Steps P (lone (b.at a (.code rest :: .inScope c :: k)) cs w) (lone (b.at a' (.code r :: .inScope c :: k)) cs w') := by
 obtain ⟨e, a₁, w₁, hq, harr⟩ := h b (.inScope c :: k) cs
 cases e with
 | goto l => exact .inr ⟨l, a₁, w₁, hq, fun r hr => harr _ (by simp [gotoIn, hr])⟩
 | normal => exact .inl ⟨.normal, a₁, w₁, hq, Steps.trans harr (.one step_inScope)⟩
 | exit id => exact .inl ⟨.exit id, a₁, w₁, hq, fun k' hk => harr k' (by simp [exitTo, hk])⟩
 | ret => exact .inl ⟨_, a₁, w₁, hq, harr⟩
 | panic ch => exact .inl ⟨_, a₁, w₁, hq, harr⟩
 | outgrown => exact .inl ⟨_, a₁, w₁, hq, harr⟩
theorem jumps_mono {J K : Nat → Act → World → Prop} (h : ∀ l a w, J l a w → K l a w) : ∀ (e : Exit) (a : Act) (w : World), jumps J Q e a w → jumps K Q e a w := by
 intro e a w hj
 cases e
 case goto l => exact h l a w hj
 all_goals exact hj
theorem wp_scope_many {c : Code} (J : Nat → Act → World → Prop) (μ : Nat → Act → World → Nat)
  (pass : ∀ l a w, J l a w → ∃ r, findLabel c l = some (.seq .skip r) ∧ r.wp P (jumps (fun l' a' w' => J l' a' w' ∧ μ l' a' w' < μ l a w) Q) a w)
  (first : (∀ l a w, J l a w → ∃ r, findLabel c l = some (.seq .skip r) ∧ r.wp P (jumps J Q) a w) → c.wp P (jumps J Q) a w) : (Code.scope c).wp P Q a w := by
 have first := first (fun l a w hJ => by
  obtain ⟨r, hr, hw⟩ := pass l a w hJ
  exact ⟨r, hr, Code.wp_mono (jumps_mono fun _ _ _ h => h.1) hw⟩)
 have pass : ∀ l a w, J l a w → ∃ r, findLabel c l = some r ∧ r.wp P (jumps (fun l' a' w' => J l' a' w' ∧ μ l' a' w' < μ l a w) Q) a w := fun l a w hJ => by
  obtain ⟨r, hr, hw⟩ := pass l a w hJ
  exact ⟨_, hr, wp_seq (wp_skip hw)⟩
 intro b k cs
 have key : ∀ n l a w, μ l a w ≤ n → J l a w → ∀ r, findLabel c l = some r → ∃ e a' w', Q e a' w' ∧ Arrives P (lone (b.at a (.code r :: .inScope c :: k)) cs w) b k cs e a' w' := by
  intro n
  induction n with
  | zero =>
   intro l a w hn hJ r hr
   obtain ⟨r', hr', hw⟩ := pass l a w hJ
   obtain rfl : r' = r := Option.some.inj (hr'.symm.trans hr)
   rcases scope_pass hw b k cs with h | ⟨l', a', w', ⟨_, hlt⟩, _⟩
   ·exact h
   ·omega
  | succ n ih =>
   intro l a w hn hJ r hr
   obtain ⟨r', hr', hw⟩ := pass l a w hJ
   obtain rfl : r' = r := Option.some.inj (hr'.symm.trans hr)
   rcases scope_pass hw b k cs with h | ⟨l', a', w', ⟨hJ', hlt⟩, hs⟩
   ·exact h
   ·obtain ⟨r2, hr2, _⟩ := pass l' a' w' hJ'
    obtain ⟨e, a2, w2, hq, ha⟩ := ih l' a' w' (by omega) hJ' r2 hr2
    exact ⟨e, a2, w2, hq, .of_steps (hs r2 hr2) ha⟩
 rcases scope_pass (c := c) first b k cs with ⟨e, a', w', hq, ha⟩ | ⟨l, a', w', hJ, hs⟩
 ·exact ⟨e, a', w', hq, .of_steps (.one step_scope) ha⟩
 ·obtain ⟨r, hr, _⟩ := pass l a' w' hJ
  obtain ⟨e, a2, w2, hq, ha⟩ := key _ l a' w' (Nat.le_refl _) hJ r hr
  exact ⟨e, a2, w2, hq, .of_steps (.head step_scope (hs r hr)) ha⟩
theorem jumps_ret {J : Nat → Act → World → Prop} : jumps J Q .ret a w = Q .ret a w := rfl
end
end Go.Proofs.YtodlhhfcjkjapaaGreatDoor
