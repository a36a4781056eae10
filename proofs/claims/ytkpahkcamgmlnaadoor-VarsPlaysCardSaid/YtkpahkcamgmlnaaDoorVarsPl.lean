/- How many pieces a text has, and how long they are (layer 16). -/
import Derived.Test.YtkpahkcamgmlnaaDoorPartRow
namespace Go.Proofs.YtkpahkcamgmlnaaDoor
namespace Va
theorem go_few : ∀ (f : Nat) (l : List UInt8) (ps : List Pt), go f l = some ps → ps.length ≤ l.length ∧ ∀ p ∈ ps, p.text.length ≤ l.length
  | 0, l, ps, h => by cases h; exact ⟨Nat.zero_le _, fun p hp => by cases hp⟩
  | _ + 1, [], ps, h => by cases h; exact ⟨Nat.zero_le _, fun p hp => by cases hp⟩
  | f + 1, c :: l, ps, h => by
    rw [go] at h
    have more : ∀ (m : List UInt8) (p : Pt), m.length ≤ l.length → p.text.length ≤ l.length + 1 → (go f m).map (p :: ·) = some ps → ps.length ≤ l.length + 1 ∧ ∀ p ∈ ps, p.text.length ≤ l.length + 1 := fun m p hm hp e => by
      cases hg : go f m with
      | none => rw [hg] at e; cases e
      | some qs =>
        rw [hg] at e
        cases e
        obtain ⟨h1, h2⟩ := go_few f m qs hg
        refine ⟨by rw [List.length_cons]; omega, fun q hq => ?_⟩
        rcases List.mem_cons.1 hq with rfl | hq
        · exact hp
        · have := h2 q hq; omega
    rw [List.length_cons]
    by_cases h1 : c = 36
    · rw [if_pos h1] at h
      by_cases h0 : l = []
      · rw [if_pos h0] at h; cases h
      · rw [if_neg h0] at h
        by_cases h2 : small (l.headD 0) = true
        · rw [if_pos h2] at h
          exact more _ _ (drop_len _ _) (by show (l.takeWhile inName).length ≤ _; have := len_parts inName l; omega) h
        · rw [if_neg h2] at h
          by_cases h3 : l.headD 0 = 36
          · rw [if_pos h3] at h
            exact more _ _ (by rw [List.length_tail]; omega) (by show 1 ≤ _; omega) h
          · rw [if_neg h3] at h; cases h
    · rw [if_neg h1] at h
      exact more _ _ (Nat.le_refl _) (by show 1 ≤ _; omega) h
theorem parts_few {l : List UInt8} {ps : List Pt} (h : parts l = some ps) : ps.length ≤ l.length ∧ ∀ p ∈ ps, p.text.length ≤ l.length := go_few _ _ _ h

/-- The names among the first pieces. -/
theorem names_more {ps : List Pt} {k : Nat} {p : Pt} (h : ps[k]? = some p) : names (ps.take (k + 1)) = names (ps.take k) ++ if p.isName = true then [p.text] else [] := by
  obtain ⟨hk, he⟩ := List.getElem?_eq_some_iff.1 h
  rw [List.take_succ_eq_append_getElem hk, he]
  unfold names
  rw [List.filterMap_append]
  cases p <;> rfl
/-- What a row of pieces stands for, when k of them have been laid down as o. -/
def Fi (σ : Env) (ps : List Pt) (k : Nat) (o : List UInt8) : Prop := fill σ ps = (fill σ (ps.drop k)).map (o ++ ·)
section
variable {σ : Env} {ps : List Pt} {k : Nat} {o : List UInt8} {p : Pt}
theorem Fi.start (σ : Env) (ps : List Pt) : Fi σ ps 0 [] := by
  unfold Fi
  rw [List.drop_zero]
  cases fill σ ps <;> rfl
theorem Fi.drop (h : ps[k]? = some p) : ps.drop k = p :: ps.drop (k + 1) := by
  obtain ⟨hk, he⟩ := List.getElem?_eq_some_iff.1 h
  rw [← he]
  exact List.drop_eq_getElem_cons hk
theorem Fi.byte (h : Fi σ ps k o) (hp : ps[k]? = some p) (hn : p.isName = false) : Fi σ ps (k + 1) (o ++ p.text) := by
  unfold Fi at *
  rw [h, Fi.drop hp]
  cases p with
  | n x => cases hn
  | b c =>
    rw [fill]
    cases fill σ (ps.drop (k + 1)) with
    | none => rfl
    | some q => show some (o ++ (c :: q)) = some ((o ++ [c]) ++ q); rw [List.append_assoc]; rfl
theorem Fi.name {v : List UInt8} (h : Fi σ ps k o) (hp : ps[k]? = some p) (hn : p.isName = true) (hv : look σ p.text = some v) : Fi σ ps (k + 1) (o ++ v) := by
  unfold Fi at *
  rw [h, Fi.drop hp]
  cases p with
  | b x => cases hn
  | n x =>
    rw [fill, show look σ x = some v from hv]
    show ((fill σ (ps.drop (k + 1))).map _).map _ = _
    cases fill σ (ps.drop (k + 1)) with
    | none => rfl
    | some q => show some (o ++ (v ++ q)) = some ((o ++ v) ++ q); rw [List.append_assoc]
theorem Fi.unset (h : Fi σ ps k o) (hp : ps[k]? = some p) (hn : p.isName = true) (hv : look σ p.text = none) : fill σ ps = none := by
  unfold Fi at *
  rw [h, Fi.drop hp]
  cases p with
  | b x => cases hn
  | n x => rw [fill, show look σ x = none from hv]; rfl
theorem Fi.end (h : Fi σ ps k o) (hk : ps.length ≤ k) : fill σ ps = some o := by
  unfold Fi at *
  rw [h, List.drop_eq_nil_of_le hk, fill]
  show some (o ++ []) = _
  rw [List.append_nil]
end
end Va
end Go.Proofs.YtkpahkcamgmlnaaDoor
