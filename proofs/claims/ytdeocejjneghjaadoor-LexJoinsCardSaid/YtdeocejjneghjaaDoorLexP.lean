/- A script as tokens, in plain words (layer 14). (Laid in round 13, ahead of stage 14.) -/
import Init
namespace Go.Proofs.YtdeocejjneghjaaDoor
namespace Lx

/-- A token: its kind, its text, its first byte's place. -/
structure Tok where
  kind : Nat
  text : List UInt8
  place : Nat
deriving DecidableEq, Repr

def small (c : UInt8) : Bool := decide (97 ≤ c.toNat) && decide (c.toNat ≤ 122)
def digit (c : UInt8) : Bool := decide (48 ≤ c.toNat) && decide (c.toNat ≤ 57)
def inName (c : UInt8) : Bool := small c || digit c || c == 95
def blank (c : UInt8) : Bool := c == 32 || c == 9 || c == 10 || c == 13
def sign (c : UInt8) : Bool := c == 123 || c == 125 || c == 59 || c == 61
/-- Behind what is passed over; within a remark or not. -/
def skip : Bool → List UInt8 → List UInt8
  | _, [] => []
  | true, c :: l => if c = 10 then skip false l else skip true l
  | false, c :: l => if c = 35 then skip true l else if blank c = true then skip false l else c :: l
/-- What one behind a backslash stands for. -/
def turned (c : UInt8) : Option UInt8 := if c = 92 then some 92 else if c = 34 then some 34 else if c = 110 then some 10 else if c = 114 then some 13 else if c = 116 then some 9 else none
/-- A text's bytes, as they stand for others, and what is behind its end. -/
def txt : List UInt8 → Option (List UInt8 × List UInt8)
  | [] => none
  | c :: l => if c = 34 then some ([], l) else if c.toNat < 32 ∨ 126 < c.toNat then none else
    if c = 92 then (match l with
      | [] => none
      | e :: l => match turned e with
        | none => none
        | some t => (txt l).map fun p => (t :: p.1, p.2))
    else (txt l).map fun p => (c :: p.1, p.2)
/-- The token that begins here, and what is behind it; or how it is wrong. -/
def next (c : UInt8) (l : List UInt8) : Except Nat (Nat × List UInt8 × List UInt8) :=
    if c = 34 then (match txt l with
      | none => .error 11
      | some (t, r) => if 100 < t.length then .error 11 else .ok (3, t, r))
    else if small c = true then
      (if 12 < ((c :: l).takeWhile inName).length then .error 13 else .ok (1, (c :: l).takeWhile inName, (c :: l).dropWhile inName))
    else if digit c = true then
      (if 9 < ((c :: l).takeWhile digit).length then .error 12 else .ok (2, (c :: l).takeWhile digit, (c :: l).dropWhile digit))
    else if sign c = true then .ok (4, [c], l)
    else .error 10

theorem txt_len : ∀ (l : List UInt8) {t r : List UInt8}, txt l = some (t, r) → r.length < l.length ∧ t.length + r.length < l.length
  | [], _, _, h => by cases h
  | c :: l, t, r, h => by
    unfold txt at h
    split at h
    · cases h; simp
    · split at h
      · cases h
      · split at h
        · split at h
          · cases h
          · rename_i e l
            split at h
            · cases h
            · rename_i q hq
              cases hx : txt l with
              | none => rw [hx] at h; cases h
              | some p =>
                rw [hx] at h
                cases h
                have := txt_len l (t := p.1) (r := p.2) (by rw [hx])
                simp only [List.length_cons]
                omega
        · cases hx : txt l with
          | none => rw [hx] at h; cases h
          | some p =>
            rw [hx] at h
            cases h
            have := txt_len l (t := p.1) (r := p.2) (by rw [hx])
            simp only [List.length_cons]
            omega

theorem next_len {c : UInt8} {l : List UInt8} {k : Nat} {t r : List UInt8} (h : next c l = .ok (k, t, r)) : r.length ≤ l.length := by
  unfold next at h
  by_cases c1 : c = 34
  · rw [if_pos c1] at h
    cases hx : txt l with
    | none => rw [hx] at h; cases h
    | some p =>
      rw [hx] at h
      dsimp only at h
      by_cases hb : 100 < p.1.length
      · rw [if_pos hb] at h; cases h
      · rw [if_neg hb] at h
        cases h
        exact Nat.le_of_lt (txt_len l hx).1
  · rw [if_neg c1] at h
    by_cases c2 : small c = true
    · rw [if_pos c2] at h
      by_cases hb : 12 < ((c :: l).takeWhile inName).length
      · rw [if_pos hb] at h; cases h
      · rw [if_neg hb] at h
        cases h
        have : inName c = true := by simp [inName, c2]
        rw [List.dropWhile_cons, this, if_pos rfl]
        exact List.Sublist.length_le (List.dropWhile_sublist _)
    · rw [if_neg c2] at h
      by_cases c3 : digit c = true
      · rw [if_pos c3] at h
        by_cases hb : 9 < ((c :: l).takeWhile digit).length
        · rw [if_pos hb] at h; cases h
        · rw [if_neg hb] at h
          cases h
          rw [List.dropWhile_cons, c3, if_pos rfl]
          exact List.Sublist.length_le (List.dropWhile_sublist _)
      · rw [if_neg c3] at h
        by_cases c4 : sign c = true
        · rw [if_pos c4] at h; cases h; exact Nat.le_refl _
        · rw [if_neg c4] at h; cases h

/-- All tokens from here on: n is how many bytes the source has, k how many tokens were ahead, f bounds the rounds. -/
def go (n : Nat) : Nat → Nat → List UInt8 → Except (Nat × Nat) (List Tok)
  | 0, _, _ => .ok [⟨0, [], n⟩]
  | f + 1, k, l => match l with
    | [] => .ok [⟨0, [], n⟩]
    | c :: l' => match next c l' with
      | .error e => .error (n - (c :: l').length, e)
      | .ok (kd, t, r) => if 400 ≤ k then .error (0, 4) else
        (match go n f (k + 1) (skip false r) with
        | .error x => .error x
        | .ok ts => .ok (⟨kd, t, n - (c :: l').length⟩ :: ts))
def all (l : List UInt8) : Except (Nat × Nat) (List Tok) := if 2000 < l.length then .error (0, 4) else go l.length l.length 0 (skip false l)

theorem skip_len : ∀ (b : Bool) (l : List UInt8), (skip b l).length ≤ l.length
  | _, [] => by simp [skip]
  | true, c :: l => by
    unfold skip
    split
    · have := skip_len false l; simp only [List.length_cons]; omega
    · have := skip_len true l; simp only [List.length_cons]; omega
  | false, c :: l => by
    unfold skip
    split
    · have := skip_len true l; simp only [List.length_cons]; omega
    · split
      · have := skip_len false l; simp only [List.length_cons]; omega
      · exact Nat.le_refl _

/-- Rounds enough are rounds enough. -/
theorem go_fuel (n : Nat) : ∀ (f g k : Nat) (l : List UInt8), l.length ≤ f → l.length ≤ g → go n f k l = go n g k l
  | 0, g, k, l, hf, hg => by
    obtain rfl : l = [] := List.eq_nil_of_length_eq_zero (by omega)
    cases g <;> rfl
  | f + 1, 0, k, l, hf, hg => by
    obtain rfl : l = [] := List.eq_nil_of_length_eq_zero (by omega)
    rfl
  | f + 1, g + 1, k, l, hf, hg => by
    cases l with
    | nil => rfl
    | cons c l =>
      rw [go, go]
      cases hn : next c l with
      | error e => rfl
      | ok x =>
        obtain ⟨kd, t, r⟩ := x
        have h1 := next_len hn
        have h2 := skip_len false r
        dsimp only
        rw [go_fuel n f g (k + 1) (skip false r) (by simp only [List.length_cons] at hf; omega) (by simp only [List.length_cons] at hg; omega)]

/-! What is ahead of a text. -/
theorem skip_gap : ∀ (g : List UInt8), (∀ c ∈ g, blank c = true) → ∀ s, skip false (g ++ s) = skip false s
  | [], _, s => rfl
  | c :: g, h, s => by
    have hc := h c (by simp)
    have h35 : ¬ c = 35 := fun e => by rw [e] at hc; cases hc
    rw [List.cons_append, skip, if_neg h35, if_pos hc]
    exact skip_gap g (fun x hx => h x (by simp [hx])) s
theorem skip_remark : ∀ (g : List UInt8), (∀ c ∈ g, c ≠ 10) → ∀ s, skip true (g ++ 10 :: s) = skip false s
  | [], _, s => by rw [List.nil_append, skip, if_pos rfl]
  | c :: g, h, s => by
    rw [List.cons_append, skip, if_neg (h c (by simp))]
    exact skip_remark g (fun x hx => h x (by simp [hx])) s

/-- Tokens, further behind. -/
def shift (d : Nat) (t : Tok) : Tok := { t with place := t.place + d }
def shiftE (d : Nat) : Except (Nat × Nat) (List Tok) → Except (Nat × Nat) (List Tok)
  | .error (p, e) => .error (if e = 4 then p else p + d, e)
  | .ok ts => .ok (ts.map (shift d))
theorem next_err {c : UInt8} {l : List UInt8} {e : Nat} (h : next c l = .error e) : e ≠ 4 := by
  unfold next at h
  by_cases c1 : c = 34
  · rw [if_pos c1] at h
    cases hx : txt l with
    | none => rw [hx] at h; cases h; decide
    | some p =>
      rw [hx] at h
      dsimp only at h
      by_cases hb : 100 < p.1.length
      · rw [if_pos hb] at h; cases h; decide
      · rw [if_neg hb] at h; cases h
  · rw [if_neg c1] at h
    by_cases c2 : small c = true
    · rw [if_pos c2] at h
      by_cases hb : 12 < ((c :: l).takeWhile inName).length
      · rw [if_pos hb] at h; cases h; decide
      · rw [if_neg hb] at h; cases h
    · rw [if_neg c2] at h
      by_cases c3 : digit c = true
      · rw [if_pos c3] at h
        by_cases hb : 9 < ((c :: l).takeWhile digit).length
        · rw [if_pos hb] at h; cases h; decide
        · rw [if_neg hb] at h; cases h
      · rw [if_neg c3] at h
        by_cases c4 : sign c = true
        · rw [if_pos c4] at h; cases h
        · rw [if_neg c4] at h; cases h; decide
theorem go_shift (n d : Nat) : ∀ (f k : Nat) (l : List UInt8), l.length ≤ n → go (n + d) f k l = shiftE d (go n f k l)
  | 0, k, l, _ => rfl
  | f + 1, k, l, hl => by
    cases l with
    | nil => rfl
    | cons c l =>
      rw [go, go]
      cases hn : next c l with
      | error e =>
        dsimp only
        rw [shiftE, if_neg (next_err hn), show n + d - (c :: l).length = n - (c :: l).length + d by omega]
      | ok x =>
        obtain ⟨kd, t, r⟩ := x
        have h1 := next_len hn
        have h2 := skip_len false r
        simp only [List.length_cons] at hl
        dsimp only
        by_cases hk : 400 ≤ k
        · rw [if_pos hk, if_pos hk]; rfl
        · rw [if_neg hk, if_neg hk, go_shift n d f (k + 1) (skip false r) (by omega)]
          cases go n f (k + 1) (skip false r) with
          | error y => rfl
          | ok ts =>
            simp only [shiftE, List.map_cons, shift, List.length_cons]
            rw [show n + d - (l.length + 1) = n - (l.length + 1) + d by omega]
/-- What is passed over ahead of a text turns nothing but where its tokens are. -/
theorem all_gap (g s : List UInt8) (h : skip false (g ++ s) = skip false s) (hl : (g ++ s).length ≤ 2000) : all (g ++ s) = shiftE g.length (all s) := by
  unfold all
  rw [if_neg (by omega), if_neg (by rw [List.length_append] at hl; omega), h]
  have h2 := skip_len false s
  rw [List.length_append, go_fuel _ (g.length + s.length) s.length 0 _ (by omega) h2, Nat.add_comm g.length, go_shift _ _ _ _ _ h2]

/-! Two texts, an end of a line between. -/
theorem txt_app : ∀ (l : List UInt8) {t r : List UInt8} (u : List UInt8), txt l = some (t, r) → txt (l ++ u) = some (t, r ++ u)
  | [], _, _, _, h => by cases h
  | c :: l, t, r, u, h => by
    rw [List.cons_append]
    unfold txt at h ⊢
    by_cases c1 : c = 34
    · rw [if_pos c1] at h ⊢; cases h; rfl
    · rw [if_neg c1] at h ⊢
      by_cases c2 : c.toNat < 32 ∨ 126 < c.toNat
      · rw [if_pos c2] at h; cases h
      · rw [if_neg c2] at h ⊢
        by_cases c3 : c = 92
        · rw [if_pos c3] at h ⊢
          cases l with
          | nil => cases h
          | cons e l =>
            dsimp only [List.cons_append] at h ⊢
            cases hq : turned e with
            | none => rw [hq] at h; cases h
            | some q =>
              rw [hq] at h
              dsimp only at h ⊢
              cases hx : txt l with
              | none => rw [hx] at h; cases h
              | some p =>
                rw [hx] at h
                cases h
                rw [txt_app l (t := p.1) (r := p.2) u (by rw [hx])]
                rfl
        · rw [if_neg c3] at h ⊢
          cases hx : txt l with
          | none => rw [hx] at h; cases h
          | some p =>
            rw [hx] at h
            cases h
            rw [txt_app l (t := p.1) (r := p.2) u (by rw [hx])]
            rfl
theorem txt_none : ∀ (l : List UInt8) (u : List UInt8), txt l = none → txt (l ++ 10 :: u) = none
  | [], u, _ => by
    show txt (10 :: u) = none
    unfold txt
    rw [if_neg (by decide), if_pos (by decide)]
  | c :: l, u, h => by
    rw [List.cons_append]
    unfold txt at h ⊢
    by_cases c1 : c = 34
    · rw [if_pos c1] at h; cases h
    · rw [if_neg c1] at h ⊢
      by_cases c2 : c.toNat < 32 ∨ 126 < c.toNat
      · rw [if_pos c2]
      · rw [if_neg c2] at h ⊢
        by_cases c3 : c = 92
        · rw [if_pos c3] at h ⊢
          cases l with
          | nil => rfl
          | cons e l =>
            dsimp only [List.cons_append] at h ⊢
            cases hq : turned e with
            | none => rfl
            | some q =>
              rw [hq] at h
              dsimp only at h ⊢
              cases hx : txt l with
              | none => rw [txt_none l u hx]; rfl
              | some p => rw [hx] at h; cases h
        · rw [if_neg c3] at h ⊢
          cases hx : txt l with
          | none => rw [txt_none l u hx]; rfl
          | some p => rw [hx] at h; cases h
theorem skip_app : ∀ (b : Bool) (l : List UInt8) {c : UInt8} {r : List UInt8} (u : List UInt8), skip b l = c :: r → skip b (l ++ u) = c :: (r ++ u)
  | true, [], _, _, _, h => by cases h
  | false, [], _, _, _, h => by cases h
  | true, x :: l, c, r, u, h => by
    rw [skip] at h
    rw [List.cons_append, skip]
    by_cases hx : x = 10
    · rw [if_pos hx] at h ⊢; exact skip_app false l u h
    · rw [if_neg hx] at h ⊢; exact skip_app true l u h
  | false, x :: l, c, r, u, h => by
    rw [skip] at h
    rw [List.cons_append, skip]
    by_cases hx : x = 35
    · rw [if_pos hx] at h ⊢; exact skip_app true l u h
    · rw [if_neg hx] at h ⊢
      by_cases hb : blank x = true
      · rw [if_pos hb] at h ⊢; exact skip_app false l u h
      · rw [if_neg hb] at h ⊢; cases h; rfl
theorem skip_end : ∀ (b : Bool) (l : List UInt8) (u : List UInt8), skip b l = [] → skip b (l ++ 10 :: u) = skip false u
  | true, [], u, _ => by rw [List.nil_append, skip, if_pos rfl]
  | false, [], u, _ => by rw [List.nil_append, skip, if_neg (by decide), if_pos (by decide)]
  | true, x :: l, u, h => by
    rw [skip] at h
    rw [List.cons_append, skip]
    by_cases hx : x = 10
    · rw [if_pos hx] at h ⊢; exact skip_end false l u h
    · rw [if_neg hx] at h ⊢; exact skip_end true l u h
  | false, x :: l, u, h => by
    rw [skip] at h
    rw [List.cons_append, skip]
    by_cases hx : x = 35
    · rw [if_pos hx] at h ⊢; exact skip_end true l u h
    · rw [if_neg hx] at h ⊢
      by_cases hb : blank x = true
      · rw [if_pos hb] at h ⊢; exact skip_end false l u h
      · rw [if_neg hb] at h; cases h
theorem take_app {p : UInt8 → Bool} (hp : p 10 = false) (u : List UInt8) : ∀ l : List UInt8, (l ++ 10 :: u).takeWhile p = l.takeWhile p ∧ (l ++ 10 :: u).dropWhile p = l.dropWhile p ++ 10 :: u
  | [] => by simp [hp]
  | c :: l => by
    obtain ⟨h1, h2⟩ := take_app hp u l
    cases hc : p c
    · simp [hc]
    · simp [hc, h1, h2]
theorem next_app {c : UInt8} {l : List UInt8} {k : Nat} {t r : List UInt8} (u : List UInt8) (h : next c l = .ok (k, t, r)) : next c (l ++ 10 :: u) = .ok (k, t, r ++ 10 :: u) := by
  unfold next at h ⊢
  by_cases c1 : c = 34
  · rw [if_pos c1] at h ⊢
    cases hx : txt l with
    | none => rw [hx] at h; cases h
    | some p =>
      rw [hx] at h
      rw [txt_app l (t := p.1) (r := p.2) (10 :: u) (by rw [hx])]
      dsimp only at h ⊢
      by_cases hb : 100 < p.1.length
      · rw [if_pos hb] at h; cases h
      · rw [if_neg hb] at h ⊢; cases h; rfl
  · rw [if_neg c1] at h ⊢
    obtain ⟨a1, a2⟩ := take_app (p := inName) (by decide) u (c :: l)
    obtain ⟨b1, b2⟩ := take_app (p := digit) (by decide) u (c :: l)
    rw [List.cons_append] at a1 a2 b1 b2
    rw [a1, a2, b1, b2]
    by_cases c2 : small c = true
    · rw [if_pos c2] at h ⊢
      by_cases hb : 12 < ((c :: l).takeWhile inName).length
      · rw [if_pos hb] at h; cases h
      · rw [if_neg hb] at h ⊢; cases h; rfl
    · rw [if_neg c2] at h ⊢
      by_cases c3 : digit c = true
      · rw [if_pos c3] at h ⊢
        by_cases hb : 9 < ((c :: l).takeWhile digit).length
        · rw [if_pos hb] at h; cases h
        · rw [if_neg hb] at h ⊢; cases h; rfl
      · rw [if_neg c3] at h ⊢
        by_cases c4 : sign c = true
        · rw [if_pos c4] at h ⊢; cases h; rfl
        · rw [if_neg c4] at h; cases h
theorem next_bad {c : UInt8} {l : List UInt8} {e : Nat} (u : List UInt8) (h : next c l = .error e) : next c (l ++ 10 :: u) = .error e := by
  unfold next at h ⊢
  by_cases c1 : c = 34
  · rw [if_pos c1] at h ⊢
    cases hx : txt l with
    | none => rw [hx] at h; rw [txt_none l u hx]; exact h
    | some p =>
      rw [hx] at h
      rw [txt_app l (t := p.1) (r := p.2) (10 :: u) (by rw [hx])]
      dsimp only at h ⊢
      by_cases hb : 100 < p.1.length
      · rw [if_pos hb] at h ⊢; exact h
      · rw [if_neg hb] at h; cases h
  · rw [if_neg c1] at h ⊢
    obtain ⟨a1, a2⟩ := take_app (p := inName) (by decide) u (c :: l)
    obtain ⟨b1, b2⟩ := take_app (p := digit) (by decide) u (c :: l)
    rw [List.cons_append] at a1 a2 b1 b2
    rw [a1, a2, b1, b2]
    by_cases c2 : small c = true
    · rw [if_pos c2] at h ⊢
      by_cases hb : 12 < ((c :: l).takeWhile inName).length
      · rw [if_pos hb] at h ⊢; exact h
      · rw [if_neg hb] at h; cases h
    · rw [if_neg c2] at h ⊢
      by_cases c3 : digit c = true
      · rw [if_pos c3] at h ⊢
        by_cases hb : 9 < ((c :: l).takeWhile digit).length
        · rw [if_pos hb] at h ⊢; exact h
        · rw [if_neg hb] at h; cases h
      · rw [if_neg c3] at h ⊢
        by_cases c4 : sign c = true
        · rw [if_pos c4] at h; cases h
        · rw [if_neg c4] at h ⊢; exact h
/-- What is left of the first text, the second behind it. -/
def tailJ (t l : List UInt8) : List UInt8 := match l with
  | [] => skip false t
  | c :: r => c :: r ++ 10 :: t
theorem skip_tailJ (t r : List UInt8) : skip false (r ++ 10 :: t) = tailJ t (skip false r) := by
  cases h : skip false r with
  | nil => exact skip_end false r t h
  | cons c q => exact skip_app false r (10 :: t) h
theorem go_joins (t : List UInt8) (ns : Nat) : ∀ (f k : Nat) (l : List UInt8), l.length ≤ f → l.length ≤ ns → ∀ F, (tailJ t l).length ≤ F →
    go (ns + 1 + t.length) F k (tailJ t l) = match go ns f k l with
      | .error x => .error x
      | .ok ts => (match go (ns + 1 + t.length) t.length (k + (ts.length - 1)) (skip false t) with
        | .error x => .error x
        | .ok bs => .ok (ts.dropLast ++ bs))
  | f, k, [], hf, hn, F, hF => by
    have e : go ns f k [] = .ok [⟨0, [], ns⟩] := by cases f <;> rfl
    rw [e]
    dsimp only
    rw [show tailJ t [] = skip false t from rfl, go_fuel _ F t.length k (skip false t) hF (skip_len false t)]
    simp only [List.length_cons, List.length_nil, Nat.zero_add, Nat.sub_self, Nat.add_zero]
    cases go (ns + 1 + t.length) t.length k (skip false t) with
    | error x => rfl
    | ok bs => rfl
  | 0, k, c :: l, hf, hn, F, hF => by simp at hf
  | f + 1, k, c :: l, hf, hn, 0, hF => by simp [tailJ] at hF
  | f + 1, k, c :: l, hf, hn, F + 1, hF => by
    rw [show tailJ t (c :: l) = c :: (l ++ 10 :: t) from rfl] at hF ⊢
    simp only [List.length_cons, List.length_append] at hF hf hn
    rw [go, go]
    cases hx : next c l with
    | error e =>
      rw [next_bad t hx]
      dsimp only
      rw [show ns + 1 + t.length - (c :: (l ++ 10 :: t)).length = ns - (c :: l).length by simp only [List.length_cons, List.length_append]; omega]
    | ok x =>
      obtain ⟨kd, q, r⟩ := x
      have h1 := next_len hx
      have h2 := skip_len false r
      rw [next_app t hx]
      dsimp only
      by_cases hk : 400 ≤ k
      · rw [if_pos hk, if_pos hk]
      · rw [if_neg hk, if_neg hk, skip_tailJ]
        have h3 : (tailJ t (skip false r)).length ≤ F := by
          rw [← skip_tailJ]
          have := skip_len false (r ++ 10 :: t)
          simp only [List.length_append, List.length_cons] at this
          omega
        rw [go_joins t ns f (k + 1) (skip false r) (by omega) (by omega) F h3]
        cases hg : go ns f (k + 1) (skip false r) with
        | error y => rfl
        | ok ts =>
          dsimp only
          have hne : ts ≠ [] := by
            intro e
            subst e
            clear h3
            revert hg
            generalize skip false r = w
            intro hg
            cases f with
            | zero => cases hg
            | succ f =>
              cases w with
              | nil => cases hg
              | cons c w =>
                rw [go] at hg
                cases hy : next c w with
                | error e => rw [hy] at hg; cases hg
                | ok y =>
                  rw [hy] at hg
                  dsimp only at hg
                  split at hg
                  · cases hg
                  · split at hg <;> cases hg
          obtain ⟨t0, ts0, rfl⟩ := List.exists_cons_of_ne_nil hne
          simp only [List.length_cons, Nat.add_sub_cancel]
          rw [show k + 1 + ts0.length = k + (ts0.length + 1) by omega]
          cases go (ns + 1 + t.length) t.length (k + (ts0.length + 1)) (skip false t) with
          | error x => rfl
          | ok bs =>
            dsimp only
            rw [show ns + 1 + t.length - (l ++ 10 :: t).length.succ = ns - l.length.succ by simp only [List.length_cons, List.length_append]; omega]
            simp

theorem go_ne {n : Nat} : ∀ {f k : Nat} {l : List UInt8} {ts : List Tok}, go n f k l = .ok ts → ts ≠ []
  | 0, k, l, ts, h => by cases h; simp
  | f + 1, k, [], ts, h => by cases h; simp
  | f + 1, k, c :: l, ts, h => by
    rw [go] at h
    cases hy : next c l with
    | error e => rw [hy] at h; cases h
    | ok y =>
      rw [hy] at h
      dsimp only at h
      split at h
      · cases h
      · split at h
        · cases h
        · cases h; simp
/-- Tokens ahead: too many, or the same ones. -/
theorem go_count (n d : Nat) : ∀ (f j : Nat) (l : List UInt8) {ts : List Tok}, go n f j l = .ok ts → go n f (j + d) l = if ts.length = 1 ∨ j + d + (ts.length - 1) ≤ 400 then .ok ts else .error (0, 4)
  | 0, j, l, ts, h => by cases h; rfl
  | f + 1, j, [], ts, h => by cases h; rfl
  | f + 1, j, c :: l, ts, h => by
    rw [go] at h ⊢
    cases hx : next c l with
    | error e => rw [hx] at h; cases h
    | ok x =>
      obtain ⟨kd, q, r⟩ := x
      rw [hx] at h
      dsimp only at h ⊢
      by_cases hk : 400 ≤ j
      · rw [if_pos hk] at h; cases h
      · rw [if_neg hk] at h
        cases hg : go n f (j + 1) (skip false r) with
        | error x => rw [hg] at h; cases h
        | ok ts' =>
          rw [hg] at h
          cases h
          have hne := go_ne hg
          obtain ⟨a, ts'', rfl⟩ := List.exists_cons_of_ne_nil hne
          have ih := go_count n d f (j + 1) (skip false r) hg
          rw [show j + 1 + d = j + d + 1 by omega] at ih
          rw [ih]
          simp only [List.length_cons] at *
          by_cases hd : 400 ≤ j + d
          · rw [if_pos hd, if_neg (by omega)]
          · rw [if_neg hd]
            by_cases hc : ts''.length + 1 = 1 ∨ j + d + 1 + (ts''.length + 1 - 1) ≤ 400
            · rw [if_pos hc, if_pos (by omega)]
            · rw [if_neg hc, if_neg (by omega)]
theorem go_later (n d : Nat) : ∀ (f j : Nat) (l : List UInt8) {x : Nat × Nat}, go n f j l = .error x → go n f (j + d) l = .error x ∨ go n f (j + d) l = .error (0, 4)
  | 0, j, l, x, h => by cases h
  | f + 1, j, [], x, h => by cases h
  | f + 1, j, c :: l, x, h => by
    rw [go] at h ⊢
    cases hx : next c l with
    | error e => rw [hx] at h; exact .inl h
    | ok y =>
      obtain ⟨kd, q, r⟩ := y
      rw [hx] at h
      dsimp only at h ⊢
      by_cases hd : 400 ≤ j + d
      · rw [if_pos hd]; exact .inr rfl
      · rw [if_neg hd]
        rw [if_neg (by omega)] at h
        cases hg : go n f (j + 1) (skip false r) with
        | ok ts => rw [hg] at h; cases h
        | error y =>
          rw [hg] at h
          cases h
          have ih := go_later n d f (j + 1) (skip false r) hg
          rw [show j + 1 + d = j + d + 1 by omega] at ih
          rcases ih with ih | ih
          · rw [ih]; exact .inl rfl
          · rw [ih]; exact .inr rfl

/-- Two texts, an end of a line between: what is told. -/
theorem all_bad {s t : List UInt8} (hl : (s ++ 10 :: t).length ≤ 2000) {x : Nat × Nat} (h : all s = .error x) : all (s ++ 10 :: t) = .error x := by
  have hl2 : s.length + (t.length + 1) ≤ 2000 := by simpa using hl
  unfold all at h ⊢
  rw [if_neg (by omega)] at h
  rw [if_neg (by simp; omega), skip_tailJ, show (s ++ 10 :: t).length = s.length + 1 + t.length by simp; omega,
    go_joins t s.length s.length 0 (skip false s) (skip_len _ _) (skip_len _ _) _ (by rw [← skip_tailJ]; have := skip_len false (s ++ 10 :: t); simp at this; omega), h]
theorem all_join {s t : List UInt8} (hl : (s ++ 10 :: t).length ≤ 2000) {a : List Tok} (h : all s = .ok a) :
    all (s ++ 10 :: t) = match go (s.length + 1 + t.length) t.length (a.length - 1) (skip false t) with
      | .error x => .error x
      | .ok bs => .ok (a.dropLast ++ bs) := by
  have hl2 : s.length + (t.length + 1) ≤ 2000 := by simpa using hl
  unfold all at h ⊢
  rw [if_neg (by omega)] at h
  rw [if_neg (by simp; omega), skip_tailJ, show (s ++ 10 :: t).length = s.length + 1 + t.length by simp; omega,
    go_joins t s.length s.length 0 (skip false s) (skip_len _ _) (skip_len _ _) _ (by rw [← skip_tailJ]; have := skip_len false (s ++ 10 :: t); simp at this; omega), h]
  simp only [Nat.zero_add]
theorem all_go {t : List UInt8} (h : t.length ≤ 2000) (d : Nat) : go (d + t.length) t.length 0 (skip false t) = shiftE d (all t) := by
  unfold all
  rw [if_neg (by omega), Nat.add_comm d, go_shift _ _ _ _ _ (skip_len false t)]
theorem all_ne {s : List UInt8} {a : List Tok} (h : all s = .ok a) : 1 ≤ a.length := by
  unfold all at h
  split at h
  · cases h
  · have := go_ne h
    cases a with
    | nil => exact absurd rfl this
    | cons _ _ => simp
theorem all_both {s t : List UInt8} (hl : (s ++ 10 :: t).length ≤ 2000) {a b : List Tok} (h : all s = .ok a) (h2 : all t = .ok b) :
    all (s ++ 10 :: t) = if 400 < a.length + b.length - 2 then .error (0, 4) else .ok (a.dropLast ++ b.map (shift (s.length + 1))) := by
  have hl2 : s.length + (t.length + 1) ≤ 2000 := by simpa using hl
  have ha := all_ne h
  have hb := all_ne h2
  have hg := all_go (t := t) (by omega) (s.length + 1)
  rw [h2, shiftE] at hg
  have hc := go_count (s.length + 1 + t.length) (a.length - 1) t.length 0 (skip false t) hg
  rw [Nat.zero_add, List.length_map] at hc
  have hk : a.length - 1 ≤ 400 := by
    have h0 := h
    unfold all at h0
    rw [if_neg (by omega)] at h0
    have := go_count s.length 0 s.length 0 (skip false s) h0
    rw [Nat.add_zero, h0] at this
    by_cases hq : a.length = 1 ∨ 0 + (a.length - 1) ≤ 400
    · omega
    · rw [if_neg hq] at this; cases this
  rw [all_join hl h, hc]
  by_cases hx : 400 < a.length + b.length - 2
  · rw [if_pos hx, if_neg (by omega)]
  · rw [if_neg hx, if_pos (by omega)]
theorem all_second {s t : List UInt8} (hl : (s ++ 10 :: t).length ≤ 2000) {a : List Tok} {q f : Nat} (h : all s = .ok a) (h2 : all t = .error (q, f)) :
    all (s ++ 10 :: t) = .error (if f = 4 then q else q + (s.length + 1), f) ∨ (all (s ++ 10 :: t) = .error (0, 4) ∧ 1 < a.length) := by
  have hl2 : s.length + (t.length + 1) ≤ 2000 := by simpa using hl
  have ha := all_ne h
  have hg := all_go (t := t) (by omega) (s.length + 1)
  rw [h2, shiftE] at hg
  rw [all_join hl h]
  by_cases h1 : a.length = 1
  · rw [h1, show 1 - 1 = 0 from rfl, hg]
    exact .inl rfl
  · have := go_later (s.length + 1 + t.length) (a.length - 1) t.length 0 (skip false t) hg
    rw [Nat.zero_add] at this
    rcases this with e | e
    · rw [e]; exact .inl rfl
    · rw [e]; exact .inr ⟨rfl, by omega⟩

/-! Quoted texts. -/
def esc1 (c : UInt8) : List UInt8 := if c = 92 then [92, 92] else if c = 34 then [92, 34] else if c = 10 then [92, 110] else if c = 13 then [92, 114] else if c = 9 then [92, 116] else [c]
def esc (t : List UInt8) : List UInt8 := t.flatMap esc1
def mayQ (c : UInt8) : Bool := (decide (32 ≤ c.toNat) && decide (c.toNat ≤ 126)) || c == 9 || c == 10 || c == 13
/-- P14.3. -/
def quote (t : List UInt8) : Option (List UInt8) := if t.length ≤ 100 ∧ t.all mayQ = true then some (34 :: (esc t ++ [34])) else none
theorem txt_esc : ∀ (t r : List UInt8), t.all mayQ = true → txt (esc t ++ 34 :: r) = some (t, r)
  | [], r, _ => by
    show txt (34 :: r) = _
    unfold txt
    rw [if_pos rfl]
  | c :: t, r, h => by
    rw [List.all_cons, Bool.and_eq_true] at h
    have ih := txt_esc t r h.2
    rw [show esc (c :: t) = esc1 c ++ esc t from rfl, List.append_assoc]
    unfold esc1
    have sp : ∀ e q, turned e = some q → txt ([92, e] ++ (esc t ++ 34 :: r)) = some (q :: t, r) := by
      intro e q he
      show txt (92 :: e :: (esc t ++ 34 :: r)) = _
      unfold txt
      rw [if_neg (by decide), if_neg (by decide), if_pos rfl]
      dsimp only
      rw [he]
      dsimp only
      rw [ih]
      rfl
    by_cases c1 : c = 92
    · subst c1; exact sp 92 92 rfl
    · rw [if_neg c1]
      by_cases c2 : c = 34
      · subst c2; exact sp 34 34 rfl
      · rw [if_neg c2]
        by_cases c3 : c = 10
        · subst c3; exact sp 110 10 rfl
        · rw [if_neg c3]
          by_cases c4 : c = 13
          · subst c4; exact sp 114 13 rfl
          · rw [if_neg c4]
            by_cases c5 : c = 9
            · subst c5; exact sp 116 9 rfl
            · rw [if_neg c5]
              have hb : 32 ≤ c.toNat ∧ c.toNat ≤ 126 := by
                have := h.1
                simp [mayQ, c3, c4, c5] at this
                exact this
              show txt (c :: (esc t ++ 34 :: r)) = _
              unfold txt
              rw [if_neg c2, if_neg (by omega), if_neg c1, ih]
              rfl
theorem esc_len : ∀ t : List UInt8, (esc t).length ≤ 2 * t.length
  | [] => by simp [esc]
  | c :: t => by
    have ih := esc_len t
    rw [show esc (c :: t) = esc1 c ++ esc t from rfl, List.length_append, List.length_cons]
    have : (esc1 c).length ≤ 2 := by
      unfold esc1
      repeat' (first | split | simp)
    omega
/-- What was quoted is one token, of that text, wherever it stands. -/
theorem all_quoted {g t : List UInt8} (hg : ∀ c ∈ g, blank c = true) (hgl : g.length ≤ 1000) (ht : t.length ≤ 100) (hq : t.all mayQ = true) :
    all (g ++ (34 :: (esc t ++ [34]) ++ [59])) = .ok [⟨3, t, g.length⟩, ⟨4, [59], g.length + (esc t).length + 2⟩, ⟨0, [], g.length + (esc t).length + 3⟩] := by
  have he := esc_len t
  have h1 : all (34 :: (esc t ++ [34]) ++ [59]) = .ok [⟨3, t, 0⟩, ⟨4, [59], (esc t).length + 2⟩, ⟨0, [], (esc t).length + 3⟩] := by
    have hs : 34 :: (esc t ++ [34]) ++ [59] = 34 :: (esc t ++ 34 :: [59]) := by simp
    rw [hs]
    unfold all
    rw [if_neg (by simp; omega), show skip false (34 :: (esc t ++ 34 :: [59])) = 34 :: (esc t ++ 34 :: [59]) by rw [skip, if_neg (by decide), if_neg (by decide)]]
    rw [show (34 :: (esc t ++ 34 :: [59])).length = (esc t).length + 1 + 1 + 1 by simp, go]
    have hn : next 34 (esc t ++ 34 :: [59]) = .ok (3, t, [59]) := by
      unfold next
      rw [if_pos rfl, txt_esc t [59] hq]
      dsimp only
      rw [if_neg (by omega)]
    rw [hn]
    dsimp only
    rw [if_neg (by omega), show skip false [59] = [59] from rfl, go, show next 59 [] = .ok (4, [59], []) from rfl]
    dsimp only
    rw [if_neg (by omega), show skip false [] = [] from rfl, go]
    simp
  rw [all_gap g _ (skip_gap g hg _) (by simp; omega), h1, shiftE]
  simp [shift]
  omega

/-! Names and ints, the longest that can begin. -/
theorem rep_take {p : UInt8 → Bool} {c e : UInt8} (hc : p c = true) (he : p e = false) (u : List UInt8) : ∀ n, (List.replicate n c ++ e :: u).takeWhile p = List.replicate n c ∧ (List.replicate n c ++ e :: u).dropWhile p = e :: u
  | 0 => by simp [he]
  | n + 1 => by
    obtain ⟨h1, h2⟩ := rep_take hc he u n
    rw [List.replicate_succ, List.cons_append, List.takeWhile_cons, List.dropWhile_cons, hc, if_pos rfl, if_pos rfl, h1, h2]
    exact ⟨rfl, rfl⟩
theorem rep_all {p : UInt8 → Bool} {c : UInt8} (hc : p c = true) : ∀ n, (List.replicate n c).takeWhile p = List.replicate n c ∧ (List.replicate n c).dropWhile p = []
  | 0 => by simp
  | n + 1 => by
    obtain ⟨h1, h2⟩ := rep_all hc n
    rw [List.replicate_succ, List.takeWhile_cons, List.dropWhile_cons, hc, if_pos rfl, if_pos rfl, h1, h2]
    exact ⟨rfl, rfl⟩
def word (n m : Nat) : List UInt8 := List.replicate n 97 ++ 61 :: List.replicate m 55
theorem next_name (n : Nat) (u : List UInt8) : next 97 (List.replicate n 97 ++ 61 :: u) = if 12 < n + 1 then .error 13 else .ok (1, List.replicate (n + 1) 97, 61 :: u) := by
  unfold next
  obtain ⟨h1, h2⟩ := rep_take (p := inName) (c := 97) (e := 61) (by decide) (by decide) u (n + 1)
  rw [List.replicate_succ, List.cons_append] at h1 h2
  rw [if_neg (by decide), if_pos (by decide), h1, h2]
  simp only [List.length_cons, List.length_replicate]
  rfl
theorem next_int (m : Nat) : next 55 (List.replicate m 55) = if 9 < m + 1 then .error 12 else .ok (2, List.replicate (m + 1) 55, []) := by
  unfold next
  obtain ⟨h1, h2⟩ := rep_all (p := digit) (c := 55) (by decide) (m + 1)
  rw [List.replicate_succ] at h1 h2
  rw [if_neg (by decide), if_neg (by decide), if_pos (by decide), h1, h2]
  simp only [List.length_cons, List.length_replicate]
  rfl
theorem word_long {n m : Nat} (hn : 12 < n) (hl : n + m + 1 ≤ 2000) : all (word n m) = .error (0, 13) := by
  obtain ⟨k, rfl⟩ : ∃ k, n = k + 1 := ⟨n - 1, by omega⟩
  have hlen : (word (k + 1) m).length = k + 1 + (m + 1) := by simp [word]
  unfold all
  rw [hlen, if_neg (by omega)]
  have hs : skip false (word (k + 1) m) = word (k + 1) m := by
    rw [word, List.replicate_succ, List.cons_append, skip, if_neg (by decide), if_neg (by decide)]
  rw [hs, show k + 1 + (m + 1) = k + m + 1 + 1 by omega, word, List.replicate_succ, List.cons_append, go, next_name, if_pos hn]
  simp only [List.length_cons, List.length_append, List.length_replicate]
  rw [show k + m + 1 + 1 - (k + (m + 1) + 1) = 0 by omega]
theorem word_step {n m : Nat} (h1 : 1 ≤ n) (hn : n ≤ 12) (hl : n + m + 1 ≤ 2000) (hm : 1 ≤ m) :
    all (word n m) = if 9 < m then .error (n + 1, 12) else .ok [⟨1, List.replicate n 97, 0⟩, ⟨4, [61], n⟩, ⟨2, List.replicate m 55, n + 1⟩, ⟨0, [], n + m + 1⟩] := by
  obtain ⟨k, rfl⟩ : ∃ k, n = k + 1 := ⟨n - 1, by omega⟩
  obtain ⟨j, rfl⟩ : ∃ j, m = j + 1 := ⟨m - 1, by omega⟩
  have hlen : (word (k + 1) (j + 1)).length = k + 1 + (j + 1 + 1) := by simp [word]
  unfold all
  rw [hlen, if_neg (by omega)]
  have hs : skip false (word (k + 1) (j + 1)) = word (k + 1) (j + 1) := by
    rw [word, List.replicate_succ, List.cons_append, skip, if_neg (by decide), if_neg (by decide)]
  have hs2 : skip false (61 :: List.replicate (j + 1) 55) = 61 :: List.replicate (j + 1) 55 := by rw [skip, if_neg (by decide), if_neg (by decide)]
  have hs3 : skip false (List.replicate (j + 1) 55) = 55 :: List.replicate j 55 := by rw [List.replicate_succ, skip, if_neg (by decide), if_neg (by decide)]
  have hx : next 61 (List.replicate (j + 1) 55) = .ok (4, [61], List.replicate (j + 1) 55) := by
    unfold next
    rw [if_neg (by decide), if_neg (by decide), if_neg (by decide), if_pos (by decide)]
  rw [hs, show k + 1 + (j + 1 + 1) = k + j + 1 + 1 + 1 by omega, word]
  conv => lhs; rw [List.replicate_succ, List.cons_append]
  rw [go, next_name, if_neg (by omega)]
  dsimp only
  rw [if_neg (by omega), hs2, show k + j + 1 + 1 = k + j + 1 + 1 from rfl, go, hx]
  dsimp only
  rw [if_neg (by omega), hs3, go, next_int]
  by_cases h9 : 9 < j + 1
  · rw [if_pos h9, if_pos h9]
    simp only [List.length_cons, List.length_replicate]
    rw [show k + j + 1 + 1 + 1 - (j + 1) = k + 1 + 1 by omega]
  · rw [if_neg h9, if_neg h9]
    dsimp only
    rw [if_neg (by omega), show skip false [] = [] from rfl]
    have e : go (k + j + 1 + 1 + 1) (k + j) (0 + 1 + 1 + 1) [] = .ok [⟨0, [], k + j + 1 + 1 + 1⟩] := by
      cases k + j <;> rfl
    rw [e]
    simp only [List.length_cons, List.length_append, List.length_replicate]
    rw [show k + j + 1 + 1 + 1 - (k + (j + 1 + 1) + 1) = 0 by omega, show k + j + 1 + 1 + 1 - (j + 1 + 1) = k + 1 by omega, show k + j + 1 + 1 + 1 - (j + 1) = k + 1 + 1 by omega, show k + 1 + (j + 1) + 1 = k + j + 1 + 1 + 1 by omega]
theorem all_shown : all [108, 101, 116, 32, 97, 32, 61, 32, 34, 120, 34, 59] = .ok [⟨1, [108, 101, 116], 0⟩, ⟨1, [97], 4⟩, ⟨4, [61], 6⟩, ⟨3, [120], 8⟩, ⟨4, [59], 11⟩, ⟨0, [], 12⟩] := rfl
theorem quote_none {t : List UInt8} : quote t = none ↔ ¬ (t.length ≤ 100 ∧ t.all mayQ = true) := by
  unfold quote
  split <;> simp_all
end Lx
end Go.Proofs.YtdeocejjneghjaaDoor
