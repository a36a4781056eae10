/- The texts LexP, LexQ, ToksP, ParseP, ParseFu, ParseIn, ParseJo, ParseMc, ParseLx, ParseMo, one behind the other. -/
import Init
/- A script as tokens, in plain words (layer 14). (Laid in round 13, ahead of stage 14.) -/
namespace Go.Proofs.YthlbociimbpgkaaDoor
namespace Lx

/-- A token: its kind, its text, its first byte's place. -/
structure Tok where
  kind : Nat
  text : List UInt8
  place : Nat
deriving DecidableEq, Repr

def small (c : UInt8) : Bool := decide (97 ≤ c.toNat) && decide (c.toNat ≤ 122)
def digit (c : UInt8) : Bool := decide (48 ≤ c.toNat) && decide (c.toNat ≤ 57)
def inName (c : UInt8) : Bool := small c || digit c || c == 95
def blank (c : UInt8) : Bool := c == 32 || c == 9 || c == 10 || c == 13
def sign (c : UInt8) : Bool := c == 123 || c == 125 || c == 59 || c == 61
/-- Behind what is passed over; within a remark or not. -/
def skip : Bool → List UInt8 → List UInt8
  | _, [] => []
  | true, c :: l => if c = 10 then skip false l else skip true l
  | false, c :: l => if c = 35 then skip true l else if blank c = true then skip false l else c :: l
/-- What one behind a backslash stands for. -/
def turned (c : UInt8) : Option UInt8 := if c = 92 then some 92 else if c = 34 then some 34 else if c = 110 then some 10 else if c = 114 then some 13 else if c = 116 then some 9 else none
/-- A text's bytes, as they stand for others, and what is behind its end. -/
def txt : List UInt8 → Option (List UInt8 × List UInt8)
  | [] => none
  | c :: l => if c = 34 then some ([], l) else if c.toNat < 32 ∨ 126 < c.toNat then none else
    if c = 92 then (match l with
      | [] => none
      | e :: l => match turned e with
        | none => none
        | some t => (txt l).map fun p => (t :: p.1, p.2))
    else (txt l).map fun p => (c :: p.1, p.2)
/-- The token that begins here, and what is behind it; or how it is wrong. -/
def next (c : UInt8) (l : List UInt8) : Except Nat (Nat × List UInt8 × List UInt8) :=
    if c = 34 then (match txt l with
      | none => .error 11
      | some (t, r) => if 100 < t.length then .error 11 else .ok (3, t, r))
    else if small c = true then
      (if 12 < ((c :: l).takeWhile inName).length then .error 13 else .ok (1, (c :: l).takeWhile inName, (c :: l).dropWhile inName))
    else if digit c = true then
      (if 9 < ((c :: l).takeWhile digit).length then .error 12 else .ok (2, (c :: l).takeWhile digit, (c :: l).dropWhile digit))
    else if sign c = true then .ok (4, [c], l)
    else .error 10

theorem txt_len : ∀ (l : List UInt8) {t r : List UInt8}, txt l = some (t, r) → r.length < l.length ∧ t.length + r.length < l.length
  | [], _, _, h => by cases h
  | c :: l, t, r, h => by
    unfold txt at h
    split at h
    · cases h; simp
    · split at h
      · cases h
      · split at h
        · split at h
          · cases h
          · rename_i e l
            split at h
            · cases h
            · rename_i q hq
              cases hx : txt l with
              | none => rw [hx] at h; cases h
              | some p =>
                rw [hx] at h
                cases h
                have := txt_len l (t := p.1) (r := p.2) (by rw [hx])
                simp only [List.length_cons]
                omega
        · cases hx : txt l with
          | none => rw [hx] at h; cases h
          | some p =>
            rw [hx] at h
            cases h
            have := txt_len l (t := p.1) (r := p.2) (by rw [hx])
            simp only [List.length_cons]
            omega

theorem next_len {c : UInt8} {l : List UInt8} {k : Nat} {t r : List UInt8} (h : next c l = .ok (k, t, r)) : r.length ≤ l.length := by
  unfold next at h
  by_cases c1 : c = 34
  · rw [if_pos c1] at h
    cases hx : txt l with
    | none => rw [hx] at h; cases h
    | some p =>
      rw [hx] at h
      dsimp only at h
      by_cases hb : 100 < p.1.length
      · rw [if_pos hb] at h; cases h
      · rw [if_neg hb] at h
        cases h
        exact Nat.le_of_lt (txt_len l hx).1
  · rw [if_neg c1] at h
    by_cases c2 : small c = true
    · rw [if_pos c2] at h
      by_cases hb : 12 < ((c :: l).takeWhile inName).length
      · rw [if_pos hb] at h; cases h
      · rw [if_neg hb] at h
        cases h
        have : inName c = true := by simp [inName, c2]
        rw [List.dropWhile_cons, this, if_pos rfl]
        exact List.Sublist.length_le (List.dropWhile_sublist _)
    · rw [if_neg c2] at h
      by_cases c3 : digit c = true
      · rw [if_pos c3] at h
        by_cases hb : 9 < ((c :: l).takeWhile digit).length
        · rw [if_pos hb] at h; cases h
        · rw [if_neg hb] at h
          cases h
          rw [List.dropWhile_cons, c3, if_pos rfl]
          exact List.Sublist.length_le (List.dropWhile_sublist _)
      · rw [if_neg c3] at h
        by_cases c4 : sign c = true
        · rw [if_pos c4] at h; cases h; exact Nat.le_refl _
        · rw [if_neg c4] at h; cases h

/-- All tokens from here on: n is how many bytes the source has, k how many tokens were ahead, f bounds the rounds. -/
def go (n : Nat) : Nat → Nat → List UInt8 → Except (Nat × Nat) (List Tok)
  | 0, _, _ => .ok [⟨0, [], n⟩]
  | f + 1, k, l => match l with
    | [] => .ok [⟨0, [], n⟩]
    | c :: l' => match next c l' with
      | .error e => .error (n - (c :: l').length, e)
      | .ok (kd, t, r) => if 400 ≤ k then .error (0, 4) else
        (match go n f (k + 1) (skip false r) with
        | .error x => .error x
        | .ok ts => .ok (⟨kd, t, n - (c :: l').length⟩ :: ts))
def all (l : List UInt8) : Except (Nat × Nat) (List Tok) := if 2000 < l.length then .error (0, 4) else go l.length l.length 0 (skip false l)

theorem skip_len : ∀ (b : Bool) (l : List UInt8), (skip b l).length ≤ l.length
  | _, [] => by simp [skip]
  | true, c :: l => by
    unfold skip
    split
    · have := skip_len false l; simp only [List.length_cons]; omega
    · have := skip_len true l; simp only [List.length_cons]; omega
  | false, c :: l => by
    unfold skip
    split
    · have := skip_len true l; simp only [List.length_cons]; omega
    · split
      · have := skip_len false l; simp only [List.length_cons]; omega
      · exact Nat.le_refl _

/-- Rounds enough are rounds enough. -/
theorem go_fuel (n : Nat) : ∀ (f g k : Nat) (l : List UInt8), l.length ≤ f → l.length ≤ g → go n f k l = go n g k l
  | 0, g, k, l, hf, hg => by
    obtain rfl : l = [] := List.eq_nil_of_length_eq_zero (by omega)
    cases g <;> rfl
  | f + 1, 0, k, l, hf, hg => by
    obtain rfl : l = [] := List.eq_nil_of_length_eq_zero (by omega)
    rfl
  | f + 1, g + 1, k, l, hf, hg => by
    cases l with
    | nil => rfl
    | cons c l =>
      rw [go, go]
      cases hn : next c l with
      | error e => rfl
      | ok x =>
        obtain ⟨kd, t, r⟩ := x
        have h1 := next_len hn
        have h2 := skip_len false r
        dsimp only
        rw [go_fuel n f g (k + 1) (skip false r) (by simp only [List.length_cons] at hf; omega) (by simp only [List.length_cons] at hg; omega)]

/-! What is ahead of a text. -/
theorem skip_gap : ∀ (g : List UInt8), (∀ c ∈ g, blank c = true) → ∀ s, skip false (g ++ s) = skip false s
  | [], _, s => rfl
  | c :: g, h, s => by
    have hc := h c (by simp)
    have h35 : ¬ c = 35 := fun e => by rw [e] at hc; cases hc
    rw [List.cons_append, skip, if_neg h35, if_pos hc]
    exact skip_gap g (fun x hx => h x (by simp [hx])) s
theorem skip_remark : ∀ (g : List UInt8), (∀ c ∈ g, c ≠ 10) → ∀ s, skip true (g ++ 10 :: s) = skip false s
  | [], _, s => by rw [List.nil_append, skip, if_pos rfl]
  | c :: g, h, s => by
    rw [List.cons_append, skip, if_neg (h c (by simp))]
    exact skip_remark g (fun x hx => h x (by simp [hx])) s

/-- Tokens, further behind. -/
def shift (d : Nat) (t : Tok) : Tok := { t with place := t.place + d }
def shiftE (d : Nat) : Except (Nat × Nat) (List Tok) → Except (Nat × Nat) (List Tok)
  | .error (p, e) => .error (if e = 4 then p else p + d, e)
  | .ok ts => .ok (ts.map (shift d))
theorem next_err {c : UInt8} {l : List UInt8} {e : Nat} (h : next c l = .error e) : e ≠ 4 := by
  unfold next at h
  by_cases c1 : c = 34
  · rw [if_pos c1] at h
    cases hx : txt l with
    | none => rw [hx] at h; cases h; decide
    | some p =>
      rw [hx] at h
      dsimp only at h
      by_cases hb : 100 < p.1.length
      · rw [if_pos hb] at h; cases h; decide
      · rw [if_neg hb] at h; cases h
  · rw [if_neg c1] at h
    by_cases c2 : small c = true
    · rw [if_pos c2] at h
      by_cases hb : 12 < ((c :: l).takeWhile inName).length
      · rw [if_pos hb] at h; cases h; decide
      · rw [if_neg hb] at h; cases h
    · rw [if_neg c2] at h
      by_cases c3 : digit c = true
      · rw [if_pos c3] at h
        by_cases hb : 9 < ((c :: l).takeWhile digit).length
        · rw [if_pos hb] at h; cases h; decide
        · rw [if_neg hb] at h; cases h
      · rw [if_neg c3] at h
        by_cases c4 : sign c = true
        · rw [if_pos c4] at h; cases h
        · rw [if_neg c4] at h; cases h; decide
theorem go_shift (n d : Nat) : ∀ (f k : Nat) (l : List UInt8), l.length ≤ n → go (n + d) f k l = shiftE d (go n f k l)
  | 0, k, l, _ => rfl
  | f + 1, k, l, hl => by
    cases l with
    | nil => rfl
    | cons c l =>
      rw [go, go]
      cases hn : next c l with
      | error e =>
        dsimp only
        rw [shiftE, if_neg (next_err hn), show n + d - (c :: l).length = n - (c :: l).length + d by omega]
      | ok x =>
        obtain ⟨kd, t, r⟩ := x
        have h1 := next_len hn
        have h2 := skip_len false r
        simp only [List.length_cons] at hl
        dsimp only
        by_cases hk : 400 ≤ k
        · rw [if_pos hk, if_pos hk]; rfl
        · rw [if_neg hk, if_neg hk, go_shift n d f (k + 1) (skip false r) (by omega)]
          cases go n f (k + 1) (skip false r) with
          | error y => rfl
          | ok ts =>
            simp only [shiftE, List.map_cons, shift, List.length_cons]
            rw [show n + d - (l.length + 1) = n - (l.length + 1) + d by omega]
/-- What is passed over ahead of a text turns nothing but where its tokens are. -/
theorem all_gap (g s : List UInt8) (h : skip false (g ++ s) = skip false s) (hl : (g ++ s).length ≤ 2000) : all (g ++ s) = shiftE g.length (all s) := by
  unfold all
  rw [if_neg (by omega), if_neg (by rw [List.length_append] at hl; omega), h]
  have h2 := skip_len false s
  rw [List.length_append, go_fuel _ (g.length + s.length) s.length 0 _ (by omega) h2, Nat.add_comm g.length, go_shift _ _ _ _ _ h2]

/-! Two texts, an end of a line between. -/
theorem txt_app : ∀ (l : List UInt8) {t r : List UInt8} (u : List UInt8), txt l = some (t, r) → txt (l ++ u) = some (t, r ++ u)
  | [], _, _, _, h => by cases h
  | c :: l, t, r, u, h => by
    rw [List.cons_append]
    unfold txt at h ⊢
    by_cases c1 : c = 34
    · rw [if_pos c1] at h ⊢; cases h; rfl
    · rw [if_neg c1] at h ⊢
      by_cases c2 : c.toNat < 32 ∨ 126 < c.toNat
      · rw [if_pos c2] at h; cases h
      · rw [if_neg c2] at h ⊢
        by_cases c3 : c = 92
        · rw [if_pos c3] at h ⊢
          cases l with
          | nil => cases h
          | cons e l =>
            dsimp only [List.cons_append] at h ⊢
            cases hq : turned e with
            | none => rw [hq] at h; cases h
            | some q =>
              rw [hq] at h
              dsimp only at h ⊢
              cases hx : txt l with
              | none => rw [hx] at h; cases h
              | some p =>
                rw [hx] at h
                cases h
                rw [txt_app l (t := p.1) (r := p.2) u (by rw [hx])]
                rfl
        · rw [if_neg c3] at h ⊢
          cases hx : txt l with
          | none => rw [hx] at h; cases h
          | some p =>
            rw [hx] at h
            cases h
            rw [txt_app l (t := p.1) (r := p.2) u (by rw [hx])]
            rfl
theorem txt_none : ∀ (l : List UInt8) (u : List UInt8), txt l = none → txt (l ++ 10 :: u) = none
  | [], u, _ => by
    show txt (10 :: u) = none
    unfold txt
    rw [if_neg (by decide), if_pos (by decide)]
  | c :: l, u, h => by
    rw [List.cons_append]
    unfold txt at h ⊢
    by_cases c1 : c = 34
    · rw [if_pos c1] at h; cases h
    · rw [if_neg c1] at h ⊢
      by_cases c2 : c.toNat < 32 ∨ 126 < c.toNat
      · rw [if_pos c2]
      · rw [if_neg c2] at h ⊢
        by_cases c3 : c = 92
        · rw [if_pos c3] at h ⊢
          cases l with
          | nil => rfl
          | cons e l =>
            dsimp only [List.cons_append] at h ⊢
            cases hq : turned e with
            | none => rfl
            | some q =>
              rw [hq] at h
              dsimp only at h ⊢
              cases hx : txt l with
              | none => rw [txt_none l u hx]; rfl
              | some p => rw [hx] at h; cases h
        · rw [if_neg c3] at h ⊢
          cases hx : txt l with
          | none => rw [txt_none l u hx]; rfl
          | some p => rw [hx] at h; cases h
theorem skip_app : ∀ (b : Bool) (l : List UInt8) {c : UInt8} {r : List UInt8} (u : List UInt8), skip b l = c :: r → skip b (l ++ u) = c :: (r ++ u)
  | true, [], _, _, _, h => by cases h
  | false, [], _, _, _, h => by cases h
  | true, x :: l, c, r, u, h => by
    rw [skip] at h
    rw [List.cons_append, skip]
    by_cases hx : x = 10
    · rw [if_pos hx] at h ⊢; exact skip_app false l u h
    · rw [if_neg hx] at h ⊢; exact skip_app true l u h
  | false, x :: l, c, r, u, h => by
    rw [skip] at h
    rw [List.cons_append, skip]
    by_cases hx : x = 35
    · rw [if_pos hx] at h ⊢; exact skip_app true l u h
    · rw [if_neg hx] at h ⊢
      by_cases hb : blank x = true
      · rw [if_pos hb] at h ⊢; exact skip_app false l u h
      · rw [if_neg hb] at h ⊢; cases h; rfl
theorem skip_end : ∀ (b : Bool) (l : List UInt8) (u : List UInt8), skip b l = [] → skip b (l ++ 10 :: u) = skip false u
  | true, [], u, _ => by rw [List.nil_append, skip, if_pos rfl]
  | false, [], u, _ => by rw [List.nil_append, skip, if_neg (by decide), if_pos (by decide)]
  | true, x :: l, u, h => by
    rw [skip] at h
    rw [List.cons_append, skip]
    by_cases hx : x = 10
    · rw [if_pos hx] at h ⊢; exact skip_end false l u h
    · rw [if_neg hx] at h ⊢; exact skip_end true l u h
  | false, x :: l, u, h => by
    rw [skip] at h
    rw [List.cons_append, skip]
    by_cases hx : x = 35
    · rw [if_pos hx] at h ⊢; exact skip_end true l u h
    · rw [if_neg hx] at h ⊢
      by_cases hb : blank x = true
      · rw [if_pos hb] at h ⊢; exact skip_end false l u h
      · rw [if_neg hb] at h; cases h
theorem take_app {p : UInt8 → Bool} (hp : p 10 = false) (u : List UInt8) : ∀ l : List UInt8, (l ++ 10 :: u).takeWhile p = l.takeWhile p ∧ (l ++ 10 :: u).dropWhile p = l.dropWhile p ++ 10 :: u
  | [] => by simp [hp]
  | c :: l => by
    obtain ⟨h1, h2⟩ := take_app hp u l
    cases hc : p c
    · simp [hc]
    · simp [hc, h1, h2]
theorem next_app {c : UInt8} {l : List UInt8} {k : Nat} {t r : List UInt8} (u : List UInt8) (h : next c l = .ok (k, t, r)) : next c (l ++ 10 :: u) = .ok (k, t, r ++ 10 :: u) := by
  unfold next at h ⊢
  by_cases c1 : c = 34
  · rw [if_pos c1] at h ⊢
    cases hx : txt l with
    | none => rw [hx] at h; cases h
    | some p =>
      rw [hx] at h
      rw [txt_app l (t := p.1) (r := p.2) (10 :: u) (by rw [hx])]
      dsimp only at h ⊢
      by_cases hb : 100 < p.1.length
      · rw [if_pos hb] at h; cases h
      · rw [if_neg hb] at h ⊢; cases h; rfl
  · rw [if_neg c1] at h ⊢
    obtain ⟨a1, a2⟩ := take_app (p := inName) (by decide) u (c :: l)
    obtain ⟨b1, b2⟩ := take_app (p := digit) (by decide) u (c :: l)
    rw [List.cons_append] at a1 a2 b1 b2
    rw [a1, a2, b1, b2]
    by_cases c2 : small c = true
    · rw [if_pos c2] at h ⊢
      by_cases hb : 12 < ((c :: l).takeWhile inName).length
      · rw [if_pos hb] at h; cases h
      · rw [if_neg hb] at h ⊢; cases h; rfl
    · rw [if_neg c2] at h ⊢
      by_cases c3 : digit c = true
      · rw [if_pos c3] at h ⊢
        by_cases hb : 9 < ((c :: l).takeWhile digit).length
        · rw [if_pos hb] at h; cases h
        · rw [if_neg hb] at h ⊢; cases h; rfl
      · rw [if_neg c3] at h ⊢
        by_cases c4 : sign c = true
        · rw [if_pos c4] at h ⊢; cases h; rfl
        · rw [if_neg c4] at h; cases h
theorem next_bad {c : UInt8} {l : List UInt8} {e : Nat} (u : List UInt8) (h : next c l = .error e) : next c (l ++ 10 :: u) = .error e := by
  unfold next at h ⊢
  by_cases c1 : c = 34
  · rw [if_pos c1] at h ⊢
    cases hx : txt l with
    | none => rw [hx] at h; rw [txt_none l u hx]; exact h
    | some p =>
      rw [hx] at h
      rw [txt_app l (t := p.1) (r := p.2) (10 :: u) (by rw [hx])]
      dsimp only at h ⊢
      by_cases hb : 100 < p.1.length
      · rw [if_pos hb] at h ⊢; exact h
      · rw [if_neg hb] at h; cases h
  · rw [if_neg c1] at h ⊢
    obtain ⟨a1, a2⟩ := take_app (p := inName) (by decide) u (c :: l)
    obtain ⟨b1, b2⟩ := take_app (p := digit) (by decide) u (c :: l)
    rw [List.cons_append] at a1 a2 b1 b2
    rw [a1, a2, b1, b2]
    by_cases c2 : small c = true
    · rw [if_pos c2] at h ⊢
      by_cases hb : 12 < ((c :: l).takeWhile inName).length
      · rw [if_pos hb] at h ⊢; exact h
      · rw [if_neg hb] at h; cases h
    · rw [if_neg c2] at h ⊢
      by_cases c3 : digit c = true
      · rw [if_pos c3] at h ⊢
        by_cases hb : 9 < ((c :: l).takeWhile digit).length
        · rw [if_pos hb] at h ⊢; exact h
        · rw [if_neg hb] at h; cases h
      · rw [if_neg c3] at h ⊢
        by_cases c4 : sign c = true
        · rw [if_pos c4] at h; cases h
        · rw [if_neg c4] at h ⊢; exact h
/-- What is left of the first text, the second behind it. -/
def tailJ (t l : List UInt8) : List UInt8 := match l with
  | [] => skip false t
  | c :: r => c :: r ++ 10 :: t
theorem skip_tailJ (t r : List UInt8) : skip false (r ++ 10 :: t) = tailJ t (skip false r) := by
  cases h : skip false r with
  | nil => exact skip_end false r t h
  | cons c q => exact skip_app false r (10 :: t) h
theorem go_joins (t : List UInt8) (ns : Nat) : ∀ (f k : Nat) (l : List UInt8), l.length ≤ f → l.length ≤ ns → ∀ F, (tailJ t l).length ≤ F →
    go (ns + 1 + t.length) F k (tailJ t l) = match go ns f k l with
      | .error x => .error x
      | .ok ts => (match go (ns + 1 + t.length) t.length (k + (ts.length - 1)) (skip false t) with
        | .error x => .error x
        | .ok bs => .ok (ts.dropLast ++ bs))
  | f, k, [], hf, hn, F, hF => by
    have e : go ns f k [] = .ok [⟨0, [], ns⟩] := by cases f <;> rfl
    rw [e]
    dsimp only
    rw [show tailJ t [] = skip false t from rfl, go_fuel _ F t.length k (skip false t) hF (skip_len false t)]
    simp only [List.length_cons, List.length_nil, Nat.zero_add, Nat.sub_self, Nat.add_zero]
    cases go (ns + 1 + t.length) t.length k (skip false t) with
    | error x => rfl
    | ok bs => rfl
  | 0, k, c :: l, hf, hn, F, hF => by simp at hf
  | f + 1, k, c :: l, hf, hn, 0, hF => by simp [tailJ] at hF
  | f + 1, k, c :: l, hf, hn, F + 1, hF => by
    rw [show tailJ t (c :: l) = c :: (l ++ 10 :: t) from rfl] at hF ⊢
    simp only [List.length_cons, List.length_append] at hF hf hn
    rw [go, go]
    cases hx : next c l with
    | error e =>
      rw [next_bad t hx]
      dsimp only
      rw [show ns + 1 + t.length - (c :: (l ++ 10 :: t)).length = ns - (c :: l).length by simp only [List.length_cons, List.length_append]; omega]
    | ok x =>
      obtain ⟨kd, q, r⟩ := x
      have h1 := next_len hx
      have h2 := skip_len false r
      rw [next_app t hx]
      dsimp only
      by_cases hk : 400 ≤ k
      · rw [if_pos hk, if_pos hk]
      · rw [if_neg hk, if_neg hk, skip_tailJ]
        have h3 : (tailJ t (skip false r)).length ≤ F := by
          rw [← skip_tailJ]
          have := skip_len false (r ++ 10 :: t)
          simp only [List.length_append, List.length_cons] at this
          omega
        rw [go_joins t ns f (k + 1) (skip false r) (by omega) (by omega) F h3]
        cases hg : go ns f (k + 1) (skip false r) with
        | error y => rfl
        | ok ts =>
          dsimp only
          have hne : ts ≠ [] := by
            intro e
            subst e
            clear h3
            revert hg
            generalize skip false r = w
            intro hg
            cases f with
            | zero => cases hg
            | succ f =>
              cases w with
              | nil => cases hg
              | cons c w =>
                rw [go] at hg
                cases hy : next c w with
                | error e => rw [hy] at hg; cases hg
                | ok y =>
                  rw [hy] at hg
                  dsimp only at hg
                  split at hg
                  · cases hg
                  · split at hg <;> cases hg
          obtain ⟨t0, ts0, rfl⟩ := List.exists_cons_of_ne_nil hne
          simp only [List.length_cons, Nat.add_sub_cancel]
          rw [show k + 1 + ts0.length = k + (ts0.length + 1) by omega]
          cases go (ns + 1 + t.length) t.length (k + (ts0.length + 1)) (skip false t) with
          | error x => rfl
          | ok bs =>
            dsimp only
            rw [show ns + 1 + t.length - (l ++ 10 :: t).length.succ = ns - l.length.succ by simp only [List.length_cons, List.length_append]; omega]
            simp

theorem go_ne {n : Nat} : ∀ {f k : Nat} {l : List UInt8} {ts : List Tok}, go n f k l = .ok ts → ts ≠ []
  | 0, k, l, ts, h => by cases h; simp
  | f + 1, k, [], ts, h => by cases h; simp
  | f + 1, k, c :: l, ts, h => by
    rw [go] at h
    cases hy : next c l with
    | error e => rw [hy] at h; cases h
    | ok y =>
      rw [hy] at h
      dsimp only at h
      split at h
      · cases h
      · split at h
        · cases h
        · cases h; simp
/-- Tokens ahead: too many, or the same ones. -/
theorem go_count (n d : Nat) : ∀ (f j : Nat) (l : List UInt8) {ts : List Tok}, go n f j l = .ok ts → go n f (j + d) l = if ts.length = 1 ∨ j + d + (ts.length - 1) ≤ 400 then .ok ts else .error (0, 4)
  | 0, j, l, ts, h => by cases h; rfl
  | f + 1, j, [], ts, h => by cases h; rfl
  | f + 1, j, c :: l, ts, h => by
    rw [go] at h ⊢
    cases hx : next c l with
    | error e => rw [hx] at h; cases h
    | ok x =>
      obtain ⟨kd, q, r⟩ := x
      rw [hx] at h
      dsimp only at h ⊢
      by_cases hk : 400 ≤ j
      · rw [if_pos hk] at h; cases h
      · rw [if_neg hk] at h
        cases hg : go n f (j + 1) (skip false r) with
        | error x => rw [hg] at h; cases h
        | ok ts' =>
          rw [hg] at h
          cases h
          have hne := go_ne hg
          obtain ⟨a, ts'', rfl⟩ := List.exists_cons_of_ne_nil hne
          have ih := go_count n d f (j + 1) (skip false r) hg
          rw [show j + 1 + d = j + d + 1 by omega] at ih
          rw [ih]
          simp only [List.length_cons] at *
          by_cases hd : 400 ≤ j + d
          · rw [if_pos hd, if_neg (by omega)]
          · rw [if_neg hd]
            by_cases hc : ts''.length + 1 = 1 ∨ j + d + 1 + (ts''.length + 1 - 1) ≤ 400
            · rw [if_pos hc, if_pos (by omega)]
            · rw [if_neg hc, if_neg (by omega)]
theorem go_later (n d : Nat) : ∀ (f j : Nat) (l : List UInt8) {x : Nat × Nat}, go n f j l = .error x → go n f (j + d) l = .error x ∨ go n f (j + d) l = .error (0, 4)
  | 0, j, l, x, h => by cases h
  | f + 1, j, [], x, h => by cases h
  | f + 1, j, c :: l, x, h => by
    rw [go] at h ⊢
    cases hx : next c l with
    | error e => rw [hx] at h; exact .inl h
    | ok y =>
      obtain ⟨kd, q, r⟩ := y
      rw [hx] at h
      dsimp only at h ⊢
      by_cases hd : 400 ≤ j + d
      · rw [if_pos hd]; exact .inr rfl
      · rw [if_neg hd]
        rw [if_neg (by omega)] at h
        cases hg : go n f (j + 1) (skip false r) with
        | ok ts => rw [hg] at h; cases h
        | error y =>
          rw [hg] at h
          cases h
          have ih := go_later n d f (j + 1) (skip false r) hg
          rw [show j + 1 + d = j + d + 1 by omega] at ih
          rcases ih with ih | ih
          · rw [ih]; exact .inl rfl
          · rw [ih]; exact .inr rfl

/-- Two texts, an end of a line between: what is told. -/
theorem all_bad {s t : List UInt8} (hl : (s ++ 10 :: t).length ≤ 2000) {x : Nat × Nat} (h : all s = .error x) : all (s ++ 10 :: t) = .error x := by
  have hl2 : s.length + (t.length + 1) ≤ 2000 := by simpa using hl
  unfold all at h ⊢
  rw [if_neg (by omega)] at h
  rw [if_neg (by simp; omega), skip_tailJ, show (s ++ 10 :: t).length = s.length + 1 + t.length by simp; omega,
    go_joins t s.length s.length 0 (skip false s) (skip_len _ _) (skip_len _ _) _ (by rw [← skip_tailJ]; have := skip_len false (s ++ 10 :: t); simp at this; omega), h]
theorem all_join {s t : List UInt8} (hl : (s ++ 10 :: t).length ≤ 2000) {a : List Tok} (h : all s = .ok a) :
    all (s ++ 10 :: t) = match go (s.length + 1 + t.length) t.length (a.length - 1) (skip false t) with
      | .error x => .error x
      | .ok bs => .ok (a.dropLast ++ bs) := by
  have hl2 : s.length + (t.length + 1) ≤ 2000 := by simpa using hl
  unfold all at h ⊢
  rw [if_neg (by omega)] at h
  rw [if_neg (by simp; omega), skip_tailJ, show (s ++ 10 :: t).length = s.length + 1 + t.length by simp; omega,
    go_joins t s.length s.length 0 (skip false s) (skip_len _ _) (skip_len _ _) _ (by rw [← skip_tailJ]; have := skip_len false (s ++ 10 :: t); simp at this; omega), h]
  simp only [Nat.zero_add]
theorem all_go {t : List UInt8} (h : t.length ≤ 2000) (d : Nat) : go (d + t.length) t.length 0 (skip false t) = shiftE d (all t) := by
  unfold all
  rw [if_neg (by omega), Nat.add_comm d, go_shift _ _ _ _ _ (skip_len false t)]
theorem all_ne {s : List UInt8} {a : List Tok} (h : all s = .ok a) : 1 ≤ a.length := by
  unfold all at h
  split at h
  · cases h
  · have := go_ne h
    cases a with
    | nil => exact absurd rfl this
    | cons _ _ => simp
theorem all_both {s t : List UInt8} (hl : (s ++ 10 :: t).length ≤ 2000) {a b : List Tok} (h : all s = .ok a) (h2 : all t = .ok b) :
    all (s ++ 10 :: t) = if 400 < a.length + b.length - 2 then .error (0, 4) else .ok (a.dropLast ++ b.map (shift (s.length + 1))) := by
  have hl2 : s.length + (t.length + 1) ≤ 2000 := by simpa using hl
  have ha := all_ne h
  have hb := all_ne h2
  have hg := all_go (t := t) (by omega) (s.length + 1)
  rw [h2, shiftE] at hg
  have hc := go_count (s.length + 1 + t.length) (a.length - 1) t.length 0 (skip false t) hg
  rw [Nat.zero_add, List.length_map] at hc
  have hk : a.length - 1 ≤ 400 := by
    have h0 := h
    unfold all at h0
    rw [if_neg (by omega)] at h0
    have := go_count s.length 0 s.length 0 (skip false s) h0
    rw [Nat.add_zero, h0] at this
    by_cases hq : a.length = 1 ∨ 0 + (a.length - 1) ≤ 400
    · omega
    · rw [if_neg hq] at this; cases this
  rw [all_join hl h, hc]
  by_cases hx : 400 < a.length + b.length - 2
  · rw [if_pos hx, if_neg (by omega)]
  · rw [if_neg hx, if_pos (by omega)]
theorem all_second {s t : List UInt8} (hl : (s ++ 10 :: t).length ≤ 2000) {a : List Tok} {q f : Nat} (h : all s = .ok a) (h2 : all t = .error (q, f)) :
    all (s ++ 10 :: t) = .error (if f = 4 then q else q + (s.length + 1), f) ∨ (all (s ++ 10 :: t) = .error (0, 4) ∧ 1 < a.length) := by
  have hl2 : s.length + (t.length + 1) ≤ 2000 := by simpa using hl
  have ha := all_ne h
  have hg := all_go (t := t) (by omega) (s.length + 1)
  rw [h2, shiftE] at hg
  rw [all_join hl h]
  by_cases h1 : a.length = 1
  · rw [h1, show 1 - 1 = 0 from rfl, hg]
    exact .inl rfl
  · have := go_later (s.length + 1 + t.length) (a.length - 1) t.length 0 (skip false t) hg
    rw [Nat.zero_add] at this
    rcases this with e | e
    · rw [e]; exact .inl rfl
    · rw [e]; exact .inr ⟨rfl, by omega⟩

/-! Quoted texts. -/
def esc1 (c : UInt8) : List UInt8 := if c = 92 then [92, 92] else if c = 34 then [92, 34] else if c = 10 then [92, 110] else if c = 13 then [92, 114] else if c = 9 then [92, 116] else [c]
def esc (t : List UInt8) : List UInt8 := t.flatMap esc1
def mayQ (c : UInt8) : Bool := (decide (32 ≤ c.toNat) && decide (c.toNat ≤ 126)) || c == 9 || c == 10 || c == 13
/-- P14.3. -/
def quote (t : List UInt8) : Option (List UInt8) := if t.length ≤ 100 ∧ t.all mayQ = true then some (34 :: (esc t ++ [34])) else none
theorem txt_esc : ∀ (t r : List UInt8), t.all mayQ = true → txt (esc t ++ 34 :: r) = some (t, r)
  | [], r, _ => by
    show txt (34 :: r) = _
    unfold txt
    rw [if_pos rfl]
  | c :: t, r, h => by
    rw [List.all_cons, Bool.and_eq_true] at h
    have ih := txt_esc t r h.2
    rw [show esc (c :: t) = esc1 c ++ esc t from rfl, List.append_assoc]
    unfold esc1
    have sp : ∀ e q, turned e = some q → txt ([92, e] ++ (esc t ++ 34 :: r)) = some (q :: t, r) := by
      intro e q he
      show txt (92 :: e :: (esc t ++ 34 :: r)) = _
      unfold txt
      rw [if_neg (by decide), if_neg (by decide), if_pos rfl]
      dsimp only
      rw [he]
      dsimp only
      rw [ih]
      rfl
    by_cases c1 : c = 92
    · subst c1; exact sp 92 92 rfl
    · rw [if_neg c1]
      by_cases c2 : c = 34
      · subst c2; exact sp 34 34 rfl
      · rw [if_neg c2]
        by_cases c3 : c = 10
        · subst c3; exact sp 110 10 rfl
        · rw [if_neg c3]
          by_cases c4 : c = 13
          · subst c4; exact sp 114 13 rfl
          · rw [if_neg c4]
            by_cases c5 : c = 9
            · subst c5; exact sp 116 9 rfl
            · rw [if_neg c5]
              have hb : 32 ≤ c.toNat ∧ c.toNat ≤ 126 := by
                have := h.1
                simp [mayQ, c3, c4, c5] at this
                exact this
              show txt (c :: (esc t ++ 34 :: r)) = _
              unfold txt
              rw [if_neg c2, if_neg (by omega), if_neg c1, ih]
              rfl
theorem esc_len : ∀ t : List UInt8, (esc t).length ≤ 2 * t.length
  | [] => by simp [esc]
  | c :: t => by
    have ih := esc_len t
    rw [show esc (c :: t) = esc1 c ++ esc t from rfl, List.length_append, List.length_cons]
    have : (esc1 c).length ≤ 2 := by
      unfold esc1
      repeat' (first | split | simp)
    omega
/-- What was quoted is one token, of that text, wherever it stands. -/
theorem all_quoted {g t : List UInt8} (hg : ∀ c ∈ g, blank c = true) (hgl : g.length ≤ 1000) (ht : t.length ≤ 100) (hq : t.all mayQ = true) :
    all (g ++ (34 :: (esc t ++ [34]) ++ [59])) = .ok [⟨3, t, g.length⟩, ⟨4, [59], g.length + (esc t).length + 2⟩, ⟨0, [], g.length + (esc t).length + 3⟩] := by
  have he := esc_len t
  have h1 : all (34 :: (esc t ++ [34]) ++ [59]) = .ok [⟨3, t, 0⟩, ⟨4, [59], (esc t).length + 2⟩, ⟨0, [], (esc t).length + 3⟩] := by
    have hs : 34 :: (esc t ++ [34]) ++ [59] = 34 :: (esc t ++ 34 :: [59]) := by simp
    rw [hs]
    unfold all
    rw [if_neg (by simp; omega), show skip false (34 :: (esc t ++ 34 :: [59])) = 34 :: (esc t ++ 34 :: [59]) by rw [skip, if_neg (by decide), if_neg (by decide)]]
    rw [show (34 :: (esc t ++ 34 :: [59])).length = (esc t).length + 1 + 1 + 1 by simp, go]
    have hn : next 34 (esc t ++ 34 :: [59]) = .ok (3, t, [59]) := by
      unfold next
      rw [if_pos rfl, txt_esc t [59] hq]
      dsimp only
      rw [if_neg (by omega)]
    rw [hn]
    dsimp only
    rw [if_neg (by omega), show skip false [59] = [59] from rfl, go, show next 59 [] = .ok (4, [59], []) from rfl]
    dsimp only
    rw [if_neg (by omega), show skip false [] = [] from rfl, go]
    simp
  rw [all_gap g _ (skip_gap g hg _) (by simp; omega), h1, shiftE]
  simp [shift]
  omega

/-! Names and ints, the longest that can begin. -/
theorem rep_take {p : UInt8 → Bool} {c e : UInt8} (hc : p c = true) (he : p e = false) (u : List UInt8) : ∀ n, (List.replicate n c ++ e :: u).takeWhile p = List.replicate n c ∧ (List.replicate n c ++ e :: u).dropWhile p = e :: u
  | 0 => by simp [he]
  | n + 1 => by
    obtain ⟨h1, h2⟩ := rep_take hc he u n
    rw [List.replicate_succ, List.cons_append, List.takeWhile_cons, List.dropWhile_cons, hc, if_pos rfl, if_pos rfl, h1, h2]
    exact ⟨rfl, rfl⟩
theorem rep_all {p : UInt8 → Bool} {c : UInt8} (hc : p c = true) : ∀ n, (List.replicate n c).takeWhile p = List.replicate n c ∧ (List.replicate n c).dropWhile p = []
  | 0 => by simp
  | n + 1 => by
    obtain ⟨h1, h2⟩ := rep_all hc n
    rw [List.replicate_succ, List.takeWhile_cons, List.dropWhile_cons, hc, if_pos rfl, if_pos rfl, h1, h2]
    exact ⟨rfl, rfl⟩
def word (n m : Nat) : List UInt8 := List.replicate n 97 ++ 61 :: List.replicate m 55
theorem next_name (n : Nat) (u : List UInt8) : next 97 (List.replicate n 97 ++ 61 :: u) = if 12 < n + 1 then .error 13 else .ok (1, List.replicate (n + 1) 97, 61 :: u) := by
  unfold next
  obtain ⟨h1, h2⟩ := rep_take (p := inName) (c := 97) (e := 61) (by decide) (by decide) u (n + 1)
  rw [List.replicate_succ, List.cons_append] at h1 h2
  rw [if_neg (by decide), if_pos (by decide), h1, h2]
  simp only [List.length_cons, List.length_replicate]
  rfl
theorem next_int (m : Nat) : next 55 (List.replicate m 55) = if 9 < m + 1 then .error 12 else .ok (2, List.replicate (m + 1) 55, []) := by
  unfold next
  obtain ⟨h1, h2⟩ := rep_all (p := digit) (c := 55) (by decide) (m + 1)
  rw [List.replicate_succ] at h1 h2
  rw [if_neg (by decide), if_neg (by decide), if_pos (by decide), h1, h2]
  simp only [List.length_cons, List.length_replicate]
  rfl
theorem word_long {n m : Nat} (hn : 12 < n) (hl : n + m + 1 ≤ 2000) : all (word n m) = .error (0, 13) := by
  obtain ⟨k, rfl⟩ : ∃ k, n = k + 1 := ⟨n - 1, by omega⟩
  have hlen : (word (k + 1) m).length = k + 1 + (m + 1) := by simp [word]
  unfold all
  rw [hlen, if_neg (by omega)]
  have hs : skip false (word (k + 1) m) = word (k + 1) m := by
    rw [word, List.replicate_succ, List.cons_append, skip, if_neg (by decide), if_neg (by decide)]
  rw [hs, show k + 1 + (m + 1) = k + m + 1 + 1 by omega, word, List.replicate_succ, List.cons_append, go, next_name, if_pos hn]
  simp only [List.length_cons, List.length_append, List.length_replicate]
  rw [show k + m + 1 + 1 - (k + (m + 1) + 1) = 0 by omega]
theorem word_step {n m : Nat} (h1 : 1 ≤ n) (hn : n ≤ 12) (hl : n + m + 1 ≤ 2000) (hm : 1 ≤ m) :
    all (word n m) = if 9 < m then .error (n + 1, 12) else .ok [⟨1, List.replicate n 97, 0⟩, ⟨4, [61], n⟩, ⟨2, List.replicate m 55, n + 1⟩, ⟨0, [], n + m + 1⟩] := by
  obtain ⟨k, rfl⟩ : ∃ k, n = k + 1 := ⟨n - 1, by omega⟩
  obtain ⟨j, rfl⟩ : ∃ j, m = j + 1 := ⟨m - 1, by omega⟩
  have hlen : (word (k + 1) (j + 1)).length = k + 1 + (j + 1 + 1) := by simp [word]
  unfold all
  rw [hlen, if_neg (by omega)]
  have hs : skip false (word (k + 1) (j + 1)) = word (k + 1) (j + 1) := by
    rw [word, List.replicate_succ, List.cons_append, skip, if_neg (by decide), if_neg (by decide)]
  have hs2 : skip false (61 :: List.replicate (j + 1) 55) = 61 :: List.replicate (j + 1) 55 := by rw [skip, if_neg (by decide), if_neg (by decide)]
  have hs3 : skip false (List.replicate (j + 1) 55) = 55 :: List.replicate j 55 := by rw [List.replicate_succ, skip, if_neg (by decide), if_neg (by decide)]
  have hx : next 61 (List.replicate (j + 1) 55) = .ok (4, [61], List.replicate (j + 1) 55) := by
    unfold next
    rw [if_neg (by decide), if_neg (by decide), if_neg (by decide), if_pos (by decide)]
  rw [hs, show k + 1 + (j + 1 + 1) = k + j + 1 + 1 + 1 by omega, word]
  conv => lhs; rw [List.replicate_succ, List.cons_append]
  rw [go, next_name, if_neg (by omega)]
  dsimp only
  rw [if_neg (by omega), hs2, show k + j + 1 + 1 = k + j + 1 + 1 from rfl, go, hx]
  dsimp only
  rw [if_neg (by omega), hs3, go, next_int]
  by_cases h9 : 9 < j + 1
  · rw [if_pos h9, if_pos h9]
    simp only [List.length_cons, List.length_replicate]
    rw [show k + j + 1 + 1 + 1 - (j + 1) = k + 1 + 1 by omega]
  · rw [if_neg h9, if_neg h9]
    dsimp only
    rw [if_neg (by omega), show skip false [] = [] from rfl]
    have e : go (k + j + 1 + 1 + 1) (k + j) (0 + 1 + 1 + 1) [] = .ok [⟨0, [], k + j + 1 + 1 + 1⟩] := by
      cases k + j <;> rfl
    rw [e]
    simp only [List.length_cons, List.length_append, List.length_replicate]
    rw [show k + j + 1 + 1 + 1 - (k + (j + 1 + 1) + 1) = 0 by omega, show k + j + 1 + 1 + 1 - (j + 1 + 1) = k + 1 by omega, show k + j + 1 + 1 + 1 - (j + 1) = k + 1 + 1 by omega, show k + 1 + (j + 1) + 1 = k + j + 1 + 1 + 1 by omega]
theorem all_shown : all [108, 101, 116, 32, 97, 32, 61, 32, 34, 120, 34, 59] = .ok [⟨1, [108, 101, 116], 0⟩, ⟨1, [97], 4⟩, ⟨4, [61], 6⟩, ⟨3, [120], 8⟩, ⟨4, [59], 11⟩, ⟨0, [], 12⟩] := rfl
theorem quote_none {t : List UInt8} : quote t = none ↔ ¬ (t.length ≤ 100 ∧ t.all mayQ = true) := by
  unfold quote
  split <;> simp_all
end Lx
end Go.Proofs.YthlbociimbpgkaaDoor

/- More of a script as tokens, in plain words (layer 14): step by step; what is left; where tokens, and what is wrong, are. -/
namespace Go.Proofs.YthlbociimbpgkaaDoor
namespace Lx
def pl (c : UInt8) : Bool := decide (32 ≤ c.toNat) && decide (c.toNat ≤ 126)
/-- The byte for which the beginning stands, and how many bytes that takes. -/
def stand (c : UInt8) (r : List UInt8) : UInt8 × Nat :=
  if c = 92 then (match r with
    | [] => (0, 0)
    | e :: _ => match turned e with
      | some t => (t, 2)
      | none => (0, 0))
  else if pl c = true then (c, 1) else (0, 0)
theorem txt_step (c : UInt8) (r : List UInt8) (h34 : ¬ c = 34) : txt (c :: r) = if (stand c r).2 = 0 then none else (txt ((c :: r).drop (stand c r).2)).map fun p => ((stand c r).1 :: p.1, p.2) := by
  conv => lhs; unfold txt
  rw [if_neg h34]
  unfold stand
  by_cases h92 : c = 92
  · subst h92
    rw [if_neg (by decide), if_pos rfl, if_pos rfl]
    cases r with
    | nil => rfl
    | cons e l =>
      cases ht : turned e with
      | none => simp [ht]
      | some t => simp [ht]
  · rw [if_neg h92, if_neg h92]
    by_cases hp : c.toNat < 32 ∨ 126 < c.toNat
    · have hpl : pl c = false := by rw [Bool.eq_false_iff]; intro e; simp [pl] at e; omega
      simp [hp, hpl]
    · have hpl : pl c = true := by simp [pl]; omega
      simp [hp, hpl]
theorem stand_len (c : UInt8) (r : List UInt8) : (stand c r).2 ≤ (c :: r).length := by
  unfold stand
  by_cases h92 : c = 92
  · rw [if_pos h92]
    cases r with
    | nil => simp
    | cons e l =>
      dsimp only
      cases turned e <;> simp
  · rw [if_neg h92]
    split <;> simp
def mapE (ts : List Tok) : Except (Nat × Nat) (List Tok) → Except (Nat × Nat) (List Tok)
  | .error x => .error x
  | .ok us => .ok (ts ++ us)
theorem mapE_nil (r : Except (Nat × Nat) (List Tok)) : mapE [] r = r := by cases r <;> rfl
theorem mapE_mapE (ts us : List Tok) (r : Except (Nat × Nat) (List Tok)) : mapE ts (mapE us r) = mapE (ts ++ us) r := by cases r <;> simp [mapE]
theorem go_step (L j : Nat) (c : UInt8) (r : List UInt8) (h : r.length + 1 ≤ L) : go L L j (c :: r) = match next c r with
    | .error e => .error (L - (r.length + 1), e)
    | .ok (kd, t, rest) => if 400 ≤ j then .error (0, 4) else mapE [⟨kd, t, L - (r.length + 1)⟩] (go L L (j + 1) (skip false rest)) := by
  rw [go_fuel L L (L + 1) j (c :: r) (by simpa using h) (by simp; omega)]
  rw [go]
  cases hn : next c r with
  | error e => simp only [List.length_cons]
  | ok x =>
    obtain ⟨kd, t, rest⟩ := x
    dsimp only
    by_cases h4 : 400 ≤ j
    · rw [if_pos h4, if_pos h4]
    · rw [if_neg h4, if_neg h4]
      cases go L L (j + 1) (skip false rest) with
      | error x => rfl
      | ok ts => simp only [mapE, List.length_cons, List.singleton_append]
theorem txt_suf : ∀ (l : List UInt8) {t r : List UInt8}, txt l = some (t, r) → r <:+ l
  | [], _, _, h => by cases h
  | c :: l, t, r, h => by
    by_cases h34 : c = 34
    · subst h34
      unfold txt at h
      rw [if_pos rfl] at h
      cases h
      exact List.suffix_cons _ _
    · rw [txt_step c l h34] at h
      split at h
      · cases h
      · next hn =>
        cases hx : txt ((c :: l).drop (stand c l).2) with
        | none => rw [hx] at h; cases h
        | some p =>
          rw [hx] at h
          cases h
          have hlt : ((c :: l).drop (stand c l).2).length < (c :: l).length := by rw [List.length_drop, List.length_cons]; omega
          have := txt_suf ((c :: l).drop (stand c l).2) (t := p.1) (r := p.2) (by rw [hx])
          exact this.trans (List.drop_suffix _ _)
termination_by l => l.length
theorem next_suf {c : UInt8} {l : List UInt8} {k : Nat} {t r : List UInt8} (h : next c l = .ok (k, t, r)) : r <:+ c :: l := by
  unfold next at h
  by_cases c1 : c = 34
  · rw [if_pos c1] at h
    cases hx : txt l with
    | none => rw [hx] at h; cases h
    | some p =>
      rw [hx] at h
      dsimp only at h
      split at h
      · cases h
      · cases h; exact (txt_suf l (t := p.1) (r := p.2) (by rw [hx])).trans (List.suffix_cons _ _)
  · rw [if_neg c1] at h
    by_cases c2 : small c = true
    · rw [if_pos c2] at h
      split at h
      · cases h
      · cases h; exact List.dropWhile_suffix _
    · rw [if_neg c2] at h
      by_cases c3 : digit c = true
      · rw [if_pos c3] at h
        split at h
        · cases h
        · cases h; exact List.dropWhile_suffix _
      · rw [if_neg c3] at h
        split at h
        · cases h; exact List.suffix_cons _ _
        · cases h
theorem next_small {c : UInt8} {l : List UInt8} {k : Nat} {t r : List UInt8} (h : next c l = .ok (k, t, r)) : r.length < (c :: l).length := by
  have := next_len h
  simp only [List.length_cons]; omega
theorem next_err0 {c : UInt8} {l : List UInt8} {e : Nat} (h : next c l = .error e) : e ≠ 0 := by
  unfold next at h
  by_cases c1 : c = 34
  · rw [if_pos c1] at h
    cases hx : txt l with
    | none => rw [hx] at h; cases h; decide
    | some p =>
      rw [hx] at h
      dsimp only at h
      split at h
      · cases h; decide
      · cases h
  · rw [if_neg c1] at h
    by_cases c2 : small c = true
    · rw [if_pos c2] at h
      split at h
      · cases h; decide
      · cases h
    · rw [if_neg c2] at h
      by_cases c3 : digit c = true
      · rw [if_pos c3] at h
        split at h
        · cases h; decide
        · cases h
      · rw [if_neg c3] at h
        split at h
        · cases h
        · cases h; decide
theorem skip_suf : ∀ (b : Bool) (l : List UInt8), skip b l <:+ l
  | _, [] => by simp [skip]
  | true, c :: l => by
    unfold skip
    split
    · exact (skip_suf false l).trans (List.suffix_cons _ _)
    · exact (skip_suf true l).trans (List.suffix_cons _ _)
  | false, c :: l => by
    unfold skip
    split
    · exact (skip_suf true l).trans (List.suffix_cons _ _)
    · split
      · exact (skip_suf false l).trans (List.suffix_cons _ _)
      · exact List.suffix_refl _
theorem suf_drop {s l : List UInt8} (h : s <:+ l) : l.drop (l.length - s.length) = s := (List.suffix_iff_eq_drop.1 h).symm
/-- What is passed over is passed over. -/
theorem skip_skip : ∀ (b : Bool) (l : List UInt8), skip false (skip b l) = skip b l
  | _, [] => by simp [skip]
  | true, c :: l => by
    rw [skip]
    split
    · exact skip_skip false l
    · exact skip_skip true l
  | false, c :: l => by
    by_cases h1 : c = 35
    · rw [show skip false (c :: l) = skip true l by rw [skip, if_pos h1]]; exact skip_skip true l
    · by_cases h2 : blank c = true
      · rw [show skip false (c :: l) = skip false l by rw [skip, if_neg h1, if_pos h2]]; exact skip_skip false l
      · rw [show skip false (c :: l) = c :: l by rw [skip, if_neg h1, if_neg h2]]
        rw [skip, if_neg h1, if_neg h2]
theorem go_err (n : Nat) : ∀ (f k : Nat) (l : List UInt8) {p e : Nat}, go n f k l = .error (p, e) → e ≠ 0 ∧ p ≤ n
  | 0, k, l, p, e, h => by cases h
  | f + 1, k, [], p, e, h => by cases h
  | f + 1, k, c :: l, p, e, h => by
    rw [go] at h
    cases hx : next c l with
    | error x => rw [hx] at h; cases h; exact ⟨next_err0 hx, Nat.sub_le _ _⟩
    | ok x =>
      obtain ⟨kd, t, r⟩ := x
      rw [hx] at h
      dsimp only at h
      split at h
      · cases h; exact ⟨by decide, Nat.zero_le _⟩
      · split at h
        · next hg => cases h; exact go_err n f (k + 1) _ hg
        · cases h
theorem all_err {l : List UInt8} {p e : Nat} (h : all l = .error (p, e)) : e ≠ 0 ∧ p ≤ l.length := by
  unfold all at h
  split at h
  · cases h; exact ⟨by decide, Nat.zero_le _⟩
  · exact go_err _ _ _ _ h
theorem go_place (n : Nat) : ∀ (f k : Nat) (l : List UInt8) {ts : List Tok}, go n f k l = .ok ts → ∀ t ∈ ts, t.place ≤ n
  | 0, k, l, ts, h => by cases h; simp
  | f + 1, k, [], ts, h => by cases h; simp
  | f + 1, k, c :: l, ts, h => by
    rw [go] at h
    cases hx : next c l with
    | error x => rw [hx] at h; cases h
    | ok x =>
      obtain ⟨kd, t, r⟩ := x
      rw [hx] at h
      dsimp only at h
      split at h
      · cases h
      · split at h
        · cases h
        · next hg =>
          cases h
          intro u hu
          rcases List.mem_cons.1 hu with rfl | hu
          · exact Nat.sub_le _ _
          · exact go_place n f (k + 1) _ hg u hu
theorem all_place {l : List UInt8} {ts : List Tok} (h : all l = .ok ts) : ∀ t ∈ ts, t.place ≤ l.length := by
  unfold all at h
  split at h
  · cases h
  · exact go_place _ _ _ _ h
/-- As many tokens as may be. -/
theorem all_few {l : List UInt8} {ts : List Tok} (h : all l = .ok ts) : ts.length ≤ 401 := by
  unfold all at h
  split at h
  · cases h
  · have h2 := go_count l.length 0 _ _ _ h
    rw [Nat.add_zero, h] at h2
    split at h2
    · omega
    · cases h2
theorem go_big0 (n : Nat) : ∀ (f k : Nat) (l : List UInt8) {p : Nat}, go n f k l = .error (p, 4) → p = 0
  | 0, k, l, p, h => by cases h
  | f + 1, k, [], p, h => by cases h
  | f + 1, k, c :: l, p, h => by
    rw [go] at h
    cases hx : next c l with
    | error x => rw [hx] at h; cases h; exact absurd rfl (next_err hx)
    | ok x =>
      obtain ⟨kd, t, r⟩ := x
      rw [hx] at h
      dsimp only at h
      split at h
      · cases h; rfl
      · split at h
        · next hg => cases h; exact go_big0 n f (k + 1) _ hg
        · cases h
theorem all_big0 {l : List UInt8} {p : Nat} (h : all l = .error (p, 4)) : p = 0 := by
  unfold all at h
  split at h
  · cases h; rfl
  · exact go_big0 _ _ _ _ h
end Lx
end Go.Proofs.YthlbociimbpgkaaDoor

/- The tokens of a text that is written piece by piece, in plain words (layers 14, 15). (Laid in round 14.) -/
namespace Go.Proofs.YthlbociimbpgkaaDoor
namespace Lx

/-- The tokens from here on: L bytes has the source, k tokens were ahead. -/
def toks (L k : Nat) (l : List UInt8) : Except (Nat × Nat) (List Tok) := go L L k (skip false l)
theorem all_toks {l : List UInt8} (h : l.length ≤ 2000) : all l = toks l.length 0 l := by unfold all toks; rw [if_neg (by omega)]
theorem toks_nil (L k : Nat) : toks L k [] = .ok [⟨0, [], L⟩] := by
  unfold toks
  rw [show skip false [] = [] from rfl]
  cases L <;> rfl
theorem toks_blank (L k : Nat) (c : UInt8) (l : List UInt8) (h : blank c = true) : toks L k (c :: l) = toks L k l := by
  unfold toks
  have h35 : ¬ c = 35 := fun e => by rw [e] at h; cases h
  rw [skip, if_neg h35, if_pos h]
/-- A token that begins here. -/
theorem toks_step {L k : Nat} {c : UInt8} {l : List UInt8} {kd : Nat} {t r : List UInt8} (hc : c ≠ 35) (hb : blank c = false) (hn : next c l = .ok (kd, t, r)) (hk : k < 400) (hL : l.length + 1 ≤ L) :
    toks L k (c :: l) = mapE [⟨kd, t, L - (l.length + 1)⟩] (toks L (k + 1) r) := by
  unfold toks
  rw [skip, if_neg hc, if_neg (by rw [hb]; decide), go_step L k c l hL, hn]
  dsimp only
  rw [if_neg (by omega)]
theorem toks_wrong {L k : Nat} {c : UInt8} {l : List UInt8} {e : Nat} (hc : c ≠ 35) (hb : blank c = false) (hn : next c l = .error e) (hL : l.length + 1 ≤ L) :
    toks L k (c :: l) = .error (L - (l.length + 1), e) := by
  unfold toks
  rw [skip, if_neg hc, if_neg (by rw [hb]; decide), go_step L k c l hL, hn]
theorem small_begins {c : UInt8} (h : small c = true) : c ≠ 35 ∧ blank c = false ∧ c ≠ 34 := by
  simp [small] at h
  refine ⟨fun e => ?_, ?_, fun e => ?_⟩
  · subst e; exact absurd h.1 (by decide)
  · rw [Bool.eq_false_iff]
    intro e
    simp [blank] at e
    rcases e with ((e | e) | e) | e <;> (subst e; exact absurd h.1 (by decide))
  · subst e; exact absurd h.1 (by decide)
theorem digit_begins {c : UInt8} (h : digit c = true) : c ≠ 35 ∧ blank c = false ∧ c ≠ 34 ∧ small c = false := by
  simp [digit] at h
  refine ⟨fun e => ?_, ?_, fun e => ?_, ?_⟩
  · subst e; exact absurd h.1 (by decide)
  · rw [Bool.eq_false_iff]
    intro e
    simp [blank] at e
    rcases e with ((e | e) | e) | e <;> (subst e; exact absurd h.1 (by decide))
  · subst e; exact absurd h.1 (by decide)
  · rw [Bool.eq_false_iff]
    intro e
    simp [small] at e
    omega
/-- All of a kind, and what stands behind. -/
theorem while_app {p : UInt8 → Bool} : ∀ (a b : List UInt8), (∀ c ∈ a, p c = true) → (b.head?.map p).getD false = false → (a ++ b).takeWhile p = a ∧ (a ++ b).dropWhile p = b
  | [], b, _, hb => by
    cases b with
    | nil => exact ⟨rfl, rfl⟩
    | cons c b =>
      have hc : p c = false := by simpa using hb
      simp [hc]
  | c :: a, b, h, hb => by
    obtain ⟨h1, h2⟩ := while_app a b (fun x hx => h x (by simp [hx])) hb
    have hc := h c (by simp)
    rw [List.cons_append, List.takeWhile_cons, List.dropWhile_cons, hc, if_pos rfl, if_pos rfl, h1, h2]
    exact ⟨rfl, rfl⟩
/-- A name, and what stands behind. -/
def Name (x : List UInt8) : Prop := (∃ c l, x = c :: l ∧ small c = true) ∧ (∀ c ∈ x, inName c = true) ∧ x.length ≤ 12
theorem toks_name {L k : Nat} {x r : List UInt8} (hx : Name x) (hr : (r.head?.map inName).getD false = false) (hk : k < 400) (hL : x.length + r.length ≤ L) : toks L k (x ++ r) = mapE [⟨1, x, L - (x.length + r.length)⟩] (toks L (k + 1) r) := by
  obtain ⟨⟨c, l, rfl, hc⟩, hall, h12⟩ := hx
  obtain ⟨b1, b2, b3⟩ := small_begins hc
  obtain ⟨w1, w2⟩ := while_app (p := inName) (c :: l) r hall hr
  rw [List.cons_append] at w1 w2 ⊢
  have hn : next c (l ++ r) = .ok (1, c :: l, r) := by
    unfold next
    rw [if_neg b3, if_pos hc, w1, w2, if_neg (by omega)]
  simp only [List.length_cons] at hL
  rw [toks_step b1 b2 hn hk (by rw [List.length_append]; omega), List.length_append, List.length_cons, show l.length + r.length + 1 = l.length + 1 + r.length by omega]
theorem toks_int {L k : Nat} {x r : List UInt8} (h0 : x ≠ []) (hall : ∀ c ∈ x, digit c = true) (h9 : x.length ≤ 9) (hr : (r.head?.map digit).getD false = false) (hk : k < 400) (hL : x.length + r.length ≤ L) : toks L k (x ++ r) = mapE [⟨2, x, L - (x.length + r.length)⟩] (toks L (k + 1) r) := by
  cases x with
  | nil => exact absurd rfl h0
  | cons c l =>
    have hc := hall c (by simp)
    obtain ⟨b1, b2, b3, b4⟩ := digit_begins hc
    obtain ⟨w1, w2⟩ := while_app (p := digit) (c :: l) r hall hr
    rw [List.cons_append] at w1 w2 ⊢
    have hn : next c (l ++ r) = .ok (2, c :: l, r) := by
      unfold next
      rw [if_neg b3, if_neg (by rw [b4]; decide), if_pos hc, w1, w2, if_neg (by omega)]
    simp only [List.length_cons] at hL
    rw [toks_step b1 b2 hn hk (by rw [List.length_append]; omega), List.length_append, List.length_cons, show l.length + r.length + 1 = l.length + 1 + r.length by omega]
theorem toks_sign {L k : Nat} {c : UInt8} {r : List UInt8} (hc : sign c = true) (hk : k < 400) (hL : r.length + 1 ≤ L) : toks L k (c :: r) = mapE [⟨4, [c], L - (r.length + 1)⟩] (toks L (k + 1) r) := by
  have c4 : c = 123 ∨ c = 125 ∨ c = 59 ∨ c = 61 := by simpa [sign, or_assoc] using hc
  refine toks_step (kd := 4) ?_ ?_ ?_ hk hL
  · rcases c4 with rfl | rfl | rfl | rfl <;> decide
  · rcases c4 with rfl | rfl | rfl | rfl <;> decide
  · rcases c4 with rfl | rfl | rfl | rfl <;> rfl
/-- A quoted text. -/
theorem toks_text {L k : Nat} {t r : List UInt8} (ht : t.length ≤ 100) (hq : t.all mayQ = true) (hk : k < 400) (hL : (esc t).length + 2 + r.length ≤ L) : toks L k (34 :: (esc t ++ [34]) ++ r) = mapE [⟨3, t, L - ((esc t).length + 2 + r.length)⟩] (toks L (k + 1) r) := by
  have hs : 34 :: (esc t ++ [34]) ++ r = 34 :: (esc t ++ 34 :: r) := by simp
  have hn : next 34 (esc t ++ 34 :: r) = .ok (3, t, r) := by
    unfold next
    rw [if_pos rfl, txt_esc t r hq]
    dsimp only
    rw [if_neg (by omega)]
  rw [hs, toks_step (by decide) (by decide) hn hk (by simp; omega)]
  simp only [List.length_append, List.length_cons]
  rw [show (esc t).length + (r.length + 1) + 1 = (esc t).length + 2 + r.length by omega]
end Lx
end Go.Proofs.YthlbociimbpgkaaDoor

/- Tokens as statements, in plain words (layer 15). (Laid in round 14, ahead of stage 15.) -/
namespace Go.Proofs.YthlbociimbpgkaaDoor
namespace Ps
open Lx (Tok)

/-- What follows a statement's first word: a name, a text, an int, one of three names, a sign. -/
inductive W where
  | n | t | i | w
  | s (c : UInt8)
deriving DecidableEq

/-- A statement. -/
structure St where
  kind : Nat
  s : List UInt8
  t : List UInt8
  u : List UInt8
  n : Nat
  place : Nat
  l : List Nat
  m : List Nat
deriving DecidableEq, Repr

def wLet : List UInt8 := [108, 101, 116]
def wIf : List UInt8 := [105, 102]
def wElse : List UInt8 := [101, 108, 115, 101]
def wMode : List UInt8 := [109, 111, 100, 101]
def wCap : List UInt8 := [99, 97, 112]
def wCode : List UInt8 := [99, 111, 100, 101]
def wText : List UInt8 := [116, 101, 120, 116]
/-- The first word of each statement. -/
def firsts : List (List UInt8) := [wLet, [103, 114, 101, 101, 116], [115, 101, 110, 100], [99, 97, 112, 115], wIf, [112, 105, 112, 101], [97, 117, 116, 104], [100, 97, 116, 97], [98, 111, 100, 121], [103, 101, 116], [112, 117, 116], [116, 105, 109, 101, 111, 117, 116], [108, 97, 98, 101, 108], [103, 111, 116, 111], [111, 110], [112, 114, 105, 110, 116], [115, 116, 111, 112]]
def kindIn (x : List UInt8) : Nat → List (List UInt8) → Nat
  | _, [] => 0
  | k, y :: l => if x = y then k else kindIn x (k + 1) l
/-- Of which kind a statement is that begins with this name; 0: none. -/
def kindOf (x : List UInt8) : Nat := kindIn x 1 firsts
def mode (x : List UInt8) : Nat := if x = [115, 109, 116, 112] then 1 else if x = [112, 111, 112, 51] then 2 else if x = [102, 116, 112] then 3 else 0
def shape : Nat → List W
  | 1 => [.n, .s 61, .t, .s 59]
  | 2 => [.t, .s 59]
  | 3 => [.t, .t, .s 59]
  | 4 => [.t, .t, .s 59]
  | 5 => [.w, .t]
  | 6 => [.i]
  | 7 => [.n, .t, .t, .s 59]
  | 8 => [.t, .t, .s 59]
  | 9 => [.n, .t, .t, .s 59]
  | 10 => [.n, .t, .s 59]
  | 11 => [.t, .t, .s 59]
  | 12 => [.i, .s 59]
  | 13 => [.n, .s 59]
  | 14 => [.n, .s 59]
  | 15 => [.n, .s 59]
  | 16 => [.t, .s 59]
  | 17 => [.s 59]
  | _ => []
def num (l : List UInt8) : Nat := l.foldl (fun a c => a * 10 + (c.toNat - 48)) 0
def isSign (c : UInt8) (t : Tok) : Bool := t.kind == 4 && t.text == [c]
def isName (x : List UInt8) (t : Tok) : Bool := t.kind == 1 && t.text == x
def fits (x : W) (t : Tok) : Bool := match x with
  | .n => t.kind == 1
  | .t => t.kind == 3
  | .i => t.kind == 2
  | .w => isName wCap t || isName wCode t || isName wText t
  | .s c => isSign c t
/-- What a token adds to the texts, and to the number. -/
def addW (x : W) (t : Tok) (ws : List (List UInt8)) : List (List UInt8) := match x with
  | .n => t.text :: ws
  | .t => t.text :: ws
  | .w => t.text :: ws
  | .i => ws
  | .s _ => ws
def addN (x : W) (t : Tok) (n : Nat) : Nat := match x with
  | .i => num t.text
  | _ => n
/-- The tokens behind a statement's first word. -/
def words : List W → List Tok → Except (Nat × Nat) (List (List UInt8) × Nat × List Tok)
  | [], ts => .ok ([], 0, ts)
  | _ :: _, [] => .error (0, 20)
  | x :: xs, t :: ts => if fits x t = true then (match words xs ts with
    | .error e => .error e
    | .ok (ws, n, r) => .ok (addW x t ws, addN x t n, r)) else .error (t.place, 20)
def mk (k p : Nat) (ws : List (List UInt8)) (n : Nat) (l m : List Nat) : St :=
  if k = 2 then ⟨k, [], ws.getD 0 [], ws.getD 2 [], n, p, l, m⟩ else ⟨k, ws.getD 0 [], ws.getD 1 [], ws.getD 2 [], n, p, l, m⟩

/-- Does an else come next? -/
def elseNext (r : List Tok) : Bool := match r with
  | [] => false
  | u :: _ => isName wElse u
abbrev Res (α : Type) := Except (Nat × Nat) α
mutual
/-- A statement, within d brackets: its place in the row, the row, what is left. -/
def one : Nat → Nat → List St → List Tok → Res (Nat × List St × List Tok)
  | 0, _, _, _ => .error (0, 99)
  | _ + 1, _, _, [] => .error (0, 20)
  | f + 1, d, row, t :: ts =>
    if t.kind = 1 ∧ kindOf t.text ≠ 0 then (match words (shape (kindOf t.text)) ts with
      | .error e => .error e
      | .ok (ws, n, r) =>
        if kindOf t.text = 5 ∨ kindOf t.text = 6 then (match block f d row r with
          | .error e => .error e
          | .ok (l, row1, r1) =>
            if kindOf t.text = 5 ∧ elseNext r1 = true then (match block f d row1 r1.tail with
              | .error e => .error e
              | .ok (m, row2, r2) => .ok (row2.length, row2 ++ [mk (kindOf t.text) t.place ws n l m], r2))
            else .ok (row1.length, row1 ++ [mk (kindOf t.text) t.place ws n l []], r1))
        else .ok (row.length, row ++ [mk (kindOf t.text) t.place ws n [] []], r))
    else .error (t.place, 20)
/-- Statements within a bracket. -/
def block : Nat → Nat → List St → List Tok → Res (List Nat × List St × List Tok)
  | 0, _, _, _ => .error (0, 99)
  | _ + 1, _, _, [] => .error (0, 20)
  | f + 1, d, row, t :: ts => if isSign 123 t = true then (if 8 ≤ d then .error (t.place, 21) else many f (d + 1) row ts) else .error (t.place, 20)
def many : Nat → Nat → List St → List Tok → Res (List Nat × List St × List Tok)
  | 0, _, _, _ => .error (0, 99)
  | _ + 1, _, _, [] => .error (0, 20)
  | f + 1, d, row, t :: ts => if isSign 125 t = true then .ok ([], row, ts) else (match one f d row (t :: ts) with
    | .error e => .error e
    | .ok (i, row1, r1) => (match many f d row1 r1 with
      | .error e => .error e
      | .ok (l, row2, r2) => .ok (i :: l, row2, r2)))
end
/-- Statements up to the end. -/
def tops : Nat → List St → List Tok → Res (List Nat × List St)
  | 0, _, _ => .error (0, 99)
  | _ + 1, _, [] => .error (0, 20)
  | f + 1, row, t :: ts => if t.kind = 0 then .ok ([], row) else (match one f 0 row (t :: ts) with
    | .error e => .error e
    | .ok (i, row1, r1) => (match tops f row1 r1 with
      | .error e => .error e
      | .ok (l, row2) => .ok (i :: l, row2)))
/-- Rounds enough for so many tokens. -/
def fuel (n : Nat) : Nat := 3 * n + 3
/-- The head of a script: its protocol, what is left. -/
def head : List Tok → Res (Nat × List Tok)
  | t0 :: ts => if isName wMode t0 = true then (match ts with
    | t1 :: ts => if t1.kind = 1 ∧ mode t1.text ≠ 0 then (match ts with
      | t2 :: ts => if isSign 59 t2 = true then .ok (mode t1.text, ts) else .error (t2.place, 20)
      | [] => .error (0, 20)) else .error (t1.place, 20)
    | [] => .error (0, 20)) else .error (t0.place, 20)
  | [] => .error (0, 20)
def prog (ts : List Tok) : Res (Nat × List St × List Nat) := match head ts with
  | .error e => .error e
  | .ok (md, r) => (match tops (fuel r.length) [] r with
    | .error e => .error e
    | .ok (l, row) => if 100 < row.length then .error (0, 4) else .ok (md, row, l))
/-- P15.2. -/
def all (src : List UInt8) : Res (Nat × List St × List Nat) := match Lx.all src with
  | .error e => .error e
  | .ok ts => prog ts

/-- Is it just this? (Reckoned by the kernel.) -/
def isOk {α : Type} [DecidableEq α] (r : Res α) (x : α) : Bool := match r with
  | .ok y => decide (y = x)
  | .error _ => false
def isErr {α : Type} (r : Res α) (x : Nat × Nat) : Bool := match r with
  | .ok _ => false
  | .error y => decide (y = x)
theorem of_isOk {α : Type} [DecidableEq α] {r : Res α} {x : α} (h : isOk r x = true) : r = .ok x := by
  cases r with
  | error e => cases h
  | ok y => simp [isOk] at h; rw [h]
theorem of_isErr {α : Type} {r : Res α} {x : Nat × Nat} (h : isErr r x = true) : r = .error x := by
  cases r with
  | ok y => cases h
  | error e => simp [isErr] at h; rw [h]
theorem all_shown : all [109, 111, 100, 101, 32, 102, 116, 112, 59, 32, 105, 102, 32, 99, 97, 112, 32, 34, 97, 34, 32, 123, 32, 115, 116, 111, 112, 59, 32, 125] = .ok (3, [⟨17, [], [], [], 0, 23, [], []⟩, ⟨5, wCap, [97], [], 0, 10, [0], []⟩], [1]) := of_isOk (by decide +kernel)
end Ps
end Go.Proofs.YthlbociimbpgkaaDoor

/- Rounds enough are rounds enough; what is told hangs on what is read alone (layer 15). (Laid in round 14, ahead of stage 15.) -/
namespace Go.Proofs.YthlbociimbpgkaaDoor
namespace Ps
open Lx (Tok)

/-- Not for want of rounds. -/
def Done {α : Type} (x : Res α) : Prop := x ≠ .error (0, 99)
theorem done_err {α β : Type} {e : Nat × Nat} (h : Done (.error e : Res α)) : Done (.error e : Res β) := fun h2 => h (by cases h2; rfl)
theorem done_no {α : Type} {p c : Nat} (h : c ≠ 99) : Done (.error (p, c) : Res α) := fun h2 => h (by cases h2; rfl)
theorem done_ok {α : Type} (y : α) : Done (.ok y : Res α) := fun h => by cases h

theorem more_all : ∀ f, (∀ d row ts, Done (one f d row ts) → one (f + 1) d row ts = one f d row ts) ∧ (∀ d row ts, Done (block f d row ts) → block (f + 1) d row ts = block f d row ts) ∧ (∀ d row ts, Done (many f d row ts) → many (f + 1) d row ts = many f d row ts)
  | 0 => ⟨fun d row ts h => absurd (by rw [one]) h, fun d row ts h => absurd (by rw [block]) h, fun d row ts h => absurd (by rw [many]) h⟩
  | f + 1 => by
    obtain ⟨i1, i2, i3⟩ := more_all f
    refine ⟨fun d row ts h => ?_, fun d row ts h => ?_, fun d row ts h => ?_⟩
    · cases ts with
      | nil => rw [one, one]
      | cons t ts =>
        rw [one] at h ⊢
        conv => rhs; rw [one]
        by_cases h1 : t.kind = 1 ∧ kindOf t.text ≠ 0
        · rw [if_pos h1] at h ⊢
          rw [if_pos h1]
          cases hw : words (shape (kindOf t.text)) ts with
          | error e => rfl
          | ok x =>
            obtain ⟨ws, n, q⟩ := x
            rw [hw] at h
            dsimp only at h ⊢
            by_cases h2 : kindOf t.text = 5 ∨ kindOf t.text = 6
            · rw [if_pos h2] at h ⊢
              rw [if_pos h2]
              have hb : Done (block f d row q) := fun e => by rw [e] at h; exact h rfl
              rw [i2 _ _ _ hb]
              cases hb1 : block f d row q with
              | error e => rfl
              | ok y =>
                obtain ⟨l, row1, r1⟩ := y
                rw [hb1] at h
                dsimp only at h ⊢
                by_cases h3 : kindOf t.text = 5 ∧ elseNext r1 = true
                · rw [if_pos h3] at h ⊢
                  rw [if_pos h3]
                  have hb2 : Done (block f d row1 r1.tail) := fun e => by rw [e] at h; exact h rfl
                  rw [i2 _ _ _ hb2]
                · rw [if_neg h3, if_neg h3]
            · rw [if_neg h2, if_neg h2]
        · rw [if_neg h1, if_neg h1]
    · cases ts with
      | nil => rw [block, block]
      | cons t ts =>
        rw [block] at h ⊢
        conv => rhs; rw [block]
        by_cases h1 : isSign 123 t = true
        · rw [if_pos h1] at h ⊢
          rw [if_pos h1]
          by_cases h2 : 8 ≤ d
          · rw [if_pos h2, if_pos h2]
          · rw [if_neg h2] at h ⊢
            rw [if_neg h2]
            exact i3 _ _ _ h
        · rw [if_neg h1, if_neg h1]
    · cases ts with
      | nil => rw [many, many]
      | cons t ts =>
        rw [many] at h ⊢
        conv => rhs; rw [many]
        by_cases h1 : isSign 125 t = true
        · rw [if_pos h1, if_pos h1]
        · rw [if_neg h1] at h ⊢
          rw [if_neg h1]
          have ho : Done (one f d row (t :: ts)) := fun e => by rw [e] at h; exact h rfl
          rw [i1 _ _ _ ho]
          cases ho1 : one f d row (t :: ts) with
          | error e => rfl
          | ok x =>
            obtain ⟨i, row1, r1⟩ := x
            rw [ho1] at h
            dsimp only at h ⊢
            have hm : Done (many f d row1 r1) := fun e => by rw [e] at h; exact h rfl
            rw [i3 _ _ _ hm]
theorem one_ge {f g d : Nat} {row : List St} {ts : List Tok} (h : Done (one f d row ts)) (hg : f ≤ g) : one g d row ts = one f d row ts := by
  induction g with
  | zero => rw [show f = 0 by omega]
  | succ g ih =>
    by_cases e : f = g + 1
    · rw [e]
    · have e2 := ih (by omega)
      rw [(more_all g).1 _ _ _ (by rw [e2]; exact h), e2]
theorem block_ge {f g d : Nat} {row : List St} {ts : List Tok} (h : Done (block f d row ts)) (hg : f ≤ g) : block g d row ts = block f d row ts := by
  induction g with
  | zero => rw [show f = 0 by omega]
  | succ g ih =>
    by_cases e : f = g + 1
    · rw [e]
    · have e2 := ih (by omega)
      rw [(more_all g).2.1 _ _ _ (by rw [e2]; exact h), e2]
theorem many_ge {f g d : Nat} {row : List St} {ts : List Tok} (h : Done (many f d row ts)) (hg : f ≤ g) : many g d row ts = many f d row ts := by
  induction g with
  | zero => rw [show f = 0 by omega]
  | succ g ih =>
    by_cases e : f = g + 1
    · rw [e]
    · have e2 := ih (by omega)
      rw [(more_all g).2.2 _ _ _ (by rw [e2]; exact h), e2]
theorem tops_more : ∀ f row ts, Done (tops f row ts) → tops (f + 1) row ts = tops f row ts
  | 0, row, ts, h => absurd (by rw [tops]) h
  | f + 1, row, [], h => by rw [tops, tops]
  | f + 1, row, t :: ts, h => by
    rw [tops] at h ⊢
    conv => rhs; rw [tops]
    by_cases h1 : t.kind = 0
    · rw [if_pos h1, if_pos h1]
    · rw [if_neg h1] at h ⊢
      rw [if_neg h1]
      have ho : Done (one f 0 row (t :: ts)) := fun e => by rw [e] at h; exact h rfl
      rw [(more_all f).1 _ _ _ ho]
      cases ho1 : one f 0 row (t :: ts) with
      | error e => rfl
      | ok x =>
        obtain ⟨i, row1, r1⟩ := x
        rw [ho1] at h
        dsimp only at h ⊢
        have hm : Done (tops f row1 r1) := fun e => by rw [e] at h; exact h rfl
        rw [tops_more f _ _ hm]
theorem tops_ge {f g : Nat} {row : List St} {ts : List Tok} (h : Done (tops f row ts)) (hg : f ≤ g) : tops g row ts = tops f row ts := by
  induction g with
  | zero => rw [show f = 0 by omega]
  | succ g ih =>
    by_cases e : f = g + 1
    · rw [e]
    · have e2 := ih (by omega)
      rw [tops_more g _ _ (by rw [e2]; exact h), e2]

/-! How much is left; rounds enough. -/
theorem words_len : ∀ (xs : List W) (ts : List Tok) {ws : List (List UInt8)} {n : Nat} {r : List Tok}, words xs ts = .ok (ws, n, r) → r.length + xs.length = ts.length
  | [], ts, _, _, _, h => by cases h; rfl
  | x :: xs, [], _, _, _, h => by cases h
  | x :: xs, t :: ts, _, _, _, h => by
    rw [words] at h
    split at h
    · cases hw : words xs ts with
      | error e => rw [hw] at h; cases h
      | ok y =>
        obtain ⟨ws, n, r⟩ := y
        rw [hw] at h
        cases h
        have := words_len xs ts hw
        simp only [List.length_cons]
        omega
    · cases h
theorem words_err : ∀ (xs : List W) (ts : List Tok) {x : Nat × Nat}, words xs ts = .error x → x.2 = 20
  | [], ts, _, h => by cases h
  | x :: xs, [], _, h => by cases h; rfl
  | x :: xs, t :: ts, _, h => by
    rw [words] at h
    split at h
    · cases hw : words xs ts with
      | error e => rw [hw] at h; cases h; exact words_err xs ts hw
      | ok y => obtain ⟨ws, n, r⟩ := y; rw [hw] at h; cases h
    · cases h; rfl
theorem left_all : ∀ f, (∀ d row ts i row' r, one f d row ts = .ok (i, row', r) → r.length + 1 ≤ ts.length) ∧ (∀ d row ts l row' r, block f d row ts = .ok (l, row', r) → r.length + 2 ≤ ts.length) ∧ (∀ d row ts l row' r, many f d row ts = .ok (l, row', r) → r.length + 1 ≤ ts.length)
  | 0 => ⟨fun d row ts i row' r h => (by rw [one] at h; cases h), fun d row ts l row' r h => (by rw [block] at h; cases h), fun d row ts l row' r h => (by rw [many] at h; cases h)⟩
  | f + 1 => by
    obtain ⟨i1, i2, i3⟩ := left_all f
    refine ⟨fun d row ts i row' r h => ?_, fun d row ts l row' r h => ?_, fun d row ts l row' r h => ?_⟩
    · cases ts with
      | nil => rw [one] at h; cases h
      | cons t ts =>
        rw [one] at h
        split at h
        · cases hw : words (shape (kindOf t.text)) ts with
          | error e => rw [hw] at h; cases h
          | ok x =>
            obtain ⟨ws, n, q⟩ := x
            have hq := words_len _ _ hw
            rw [hw] at h
            dsimp only at h
            split at h
            · cases hb : block f d row q with
              | error e => rw [hb] at h; cases h
              | ok y =>
                obtain ⟨l, row1, r1⟩ := y
                have hl := i2 _ _ _ _ _ _ hb
                rw [hb] at h
                dsimp only at h
                by_cases h3 : kindOf t.text = 5 ∧ elseNext r1 = true
                · rw [if_pos h3] at h
                  cases hb2 : block f d row1 r1.tail with
                  | error e => rw [hb2] at h; cases h
                  | ok z =>
                    obtain ⟨m, row2, r2⟩ := z
                    have hl2 := i2 _ _ _ _ _ _ hb2
                    rw [hb2] at h
                    cases h
                    rw [List.length_tail] at hl2
                    simp only [List.length_cons]; omega
                · rw [if_neg h3] at h
                  cases h
                  simp only [List.length_cons]; omega
            · cases h
              simp only [List.length_cons]; omega
        · cases h
    · cases ts with
      | nil => rw [block] at h; cases h
      | cons t ts =>
        rw [block] at h
        split at h
        · split at h
          · cases h
          · have := i3 _ _ _ _ _ _ h
            simp only [List.length_cons]; omega
        · cases h
    · cases ts with
      | nil => rw [many] at h; cases h
      | cons t ts =>
        rw [many] at h
        split at h
        · cases h; simp
        · cases ho : one f d row (t :: ts) with
          | error e => rw [ho] at h; cases h
          | ok x =>
            obtain ⟨i, row1, r1⟩ := x
            have h1 := i1 _ _ _ _ _ _ ho
            rw [ho] at h
            dsimp only at h
            cases hm : many f d row1 r1 with
            | error e => rw [hm] at h; cases h
            | ok y =>
              obtain ⟨l', row2, r2⟩ := y
              have h2 := i3 _ _ _ _ _ _ hm
              rw [hm] at h
              cases h
              simp only [List.length_cons] at *; omega
theorem enough_all : ∀ f, (∀ d row ts, 3 * ts.length + 1 ≤ f → Done (one f d row ts)) ∧ (∀ d row ts, 3 * ts.length + 1 ≤ f → Done (block f d row ts)) ∧ (∀ d row ts, 3 * ts.length + 2 ≤ f → Done (many f d row ts))
  | 0 => ⟨fun d row ts h => (by omega), fun d row ts h => (by omega), fun d row ts h => (by omega)⟩
  | f + 1 => by
    obtain ⟨i1, i2, i3⟩ := enough_all f
    refine ⟨fun d row ts h => ?_, fun d row ts h => ?_, fun d row ts h => ?_⟩
    · cases ts with
      | nil => rw [one]; exact done_no (by decide)
      | cons t ts =>
        simp only [List.length_cons] at h
        rw [one]
        split
        · cases hw : words (shape (kindOf t.text)) ts with
          | error e =>
            intro h9
            have := words_err _ _ hw
            cases h9
            cases this
          | ok x =>
            obtain ⟨ws, n, q⟩ := x
            have hq := words_len _ _ hw
            dsimp only
            split
            · have hd := i2 d row q (by omega)
              cases hb : block f d row q with
              | error e => rw [hb] at hd; exact done_err hd
              | ok y =>
                obtain ⟨l, row1, r1⟩ := y
                have hl := (left_all f).2.1 _ _ _ _ _ _ hb
                dsimp only
                by_cases h3 : kindOf t.text = 5 ∧ elseNext r1 = true
                · rw [if_pos h3]
                  have hd2 := i2 d row1 r1.tail (by rw [List.length_tail]; omega)
                  cases hb2 : block f d row1 r1.tail with
                  | error e => rw [hb2] at hd2; exact done_err hd2
                  | ok z => exact done_ok _
                · rw [if_neg h3]; exact done_ok _
            · exact done_ok _
        · exact done_no (by decide)
    · cases ts with
      | nil => rw [block]; exact done_no (by decide)
      | cons t ts =>
        simp only [List.length_cons] at h
        rw [block]
        split
        · split
          · exact done_no (by decide)
          · exact i3 _ _ _ (by omega)
        · exact done_no (by decide)
    · cases ts with
      | nil => rw [many]; exact done_no (by decide)
      | cons t ts =>
        simp only [List.length_cons] at h
        rw [many]
        split
        · exact done_ok _
        · have hd := i1 d row (t :: ts) (by simp only [List.length_cons]; omega)
          cases ho : one f d row (t :: ts) with
          | error e => rw [ho] at hd; exact done_err hd
          | ok x =>
            obtain ⟨i, row1, r1⟩ := x
            have h1 := (left_all f).1 _ _ _ _ _ _ ho
            simp only [List.length_cons] at h1
            dsimp only
            have hd2 := i3 d row1 r1 (by omega)
            cases hm : many f d row1 r1 with
            | error e => rw [hm] at hd2; exact done_err hd2
            | ok y => exact done_ok _
theorem enough_tops : ∀ f row ts, 3 * ts.length + 2 ≤ f → Done (tops f row ts)
  | 0, row, ts, h => (by omega)
  | f + 1, row, [], h => by rw [tops]; exact done_no (by decide)
  | f + 1, row, t :: ts, h => by
    simp only [List.length_cons] at h
    rw [tops]
    split
    · exact done_ok _
    · have hd := (enough_all f).1 0 row (t :: ts) (by simp only [List.length_cons]; omega)
      cases ho : one f 0 row (t :: ts) with
      | error e => rw [ho] at hd; exact done_err hd
      | ok x =>
        obtain ⟨i, row1, r1⟩ := x
        have h1 := (left_all f).1 _ _ _ _ _ _ ho
        simp only [List.length_cons] at h1
        dsimp only
        have hd2 := enough_tops f row1 r1 (by omega)
        cases hm : tops f row1 r1 with
        | error e => rw [hm] at hd2; exact done_err hd2
        | ok y => exact done_ok _
end Ps
end Go.Proofs.YthlbociimbpgkaaDoor

/- Each statement is within one other, or within none: in plain words (layer 15). (Laid in round 14, ahead of stage 15.) -/
namespace Go.Proofs.YthlbociimbpgkaaDoor
namespace Ps
open Lx (Tok)

def lm (s : St) : List Nat := s.l ++ s.m
/-- What holds of the statement at place k of the row. -/
structure SOk (k : Nat) (s : St) : Prop where
  kd : 1 ≤ s.kind ∧ s.kind ≤ 17
  l6 : s.kind ≠ 5 → s.kind ≠ 6 → s.l = []
  m5 : s.kind ≠ 5 → s.m = []
  lb : ∀ x ∈ s.l, x < k
  mb : ∀ x ∈ s.m, x < k
  ls : s.l.Pairwise (· < ·)
  ms : s.m.Pairwise (· < ·)
def InOne (row : List St) (i : Nat) (row' : List St) : Prop := ∃ new st, row' = row ++ (new ++ [st]) ∧ i = row.length + new.length ∧
  (∀ j s, (new ++ [st])[j]? = some s → SOk (row.length + j) s) ∧ ((new ++ [st]).flatMap lm).Perm (List.range' row.length new.length)
def InMany (row : List St) (l : List Nat) (row' : List St) : Prop := ∃ new, row' = row ++ new ∧
  (∀ j s, new[j]? = some s → SOk (row.length + j) s) ∧ l.Pairwise (· < ·) ∧ (∀ x ∈ l, row.length ≤ x ∧ x < row.length + new.length) ∧ (l ++ new.flatMap lm).Perm (List.range' row.length new.length)

theorem kindIn_le (x : List UInt8) : ∀ (l : List (List UInt8)) (k : Nat), kindIn x k l = 0 ∨ (k ≤ kindIn x k l ∧ kindIn x k l < k + l.length)
  | [], k => .inl rfl
  | y :: l, k => by
    rw [kindIn]
    by_cases h : x = y
    · rw [if_pos h]; exact .inr ⟨Nat.le_refl _, by simp⟩
    · rw [if_neg h]
      rcases kindIn_le x l (k + 1) with h2 | ⟨h2, h3⟩
      · exact .inl h2
      · exact .inr ⟨by omega, by simp; omega⟩
theorem kindOf_le {x : List UInt8} (h : kindOf x ≠ 0) : 1 ≤ kindOf x ∧ kindOf x ≤ 17 := by
  rcases kindIn_le x firsts 1 with h2 | ⟨h2, h3⟩
  · exact absurd h2 h
  · exact ⟨h2, by unfold kindOf; have : firsts.length = 17 := rfl; omega⟩
theorem mk_kind (k p : Nat) (ws : List (List UInt8)) (n : Nat) (l m : List Nat) : (mk k p ws n l m).kind = k ∧ (mk k p ws n l m).l = l ∧ (mk k p ws n l m).m = m := by
  unfold mk; split <;> exact ⟨rfl, rfl, rfl⟩
theorem mk_ok {k p : Nat} {ws : List (List UInt8)} {n : Nat} {l m : List Nat} {at' : Nat} (hk : 1 ≤ k ∧ k ≤ 17) (h6 : k ≠ 5 → k ≠ 6 → l = []) (h5 : k ≠ 5 → m = []) (lb : ∀ x ∈ l, x < at') (mb : ∀ x ∈ m, x < at') (ls : l.Pairwise (· < ·)) (ms : m.Pairwise (· < ·)) : SOk at' (mk k p ws n l m) := by
  obtain ⟨e1, e2, e3⟩ := mk_kind k p ws n l m
  exact ⟨by rw [e1]; exact hk, by rw [e1, e2]; exact h6, by rw [e1, e3]; exact h5, by rw [e2]; exact lb, by rw [e3]; exact mb, by rw [e2]; exact ls, by rw [e3]; exact ms⟩
theorem ok_app {N : Nat} {a b : List St} (h1 : ∀ j s, a[j]? = some s → SOk (N + j) s) (h2 : ∀ j s, b[j]? = some s → SOk (N + a.length + j) s) : ∀ j s, (a ++ b)[j]? = some s → SOk (N + j) s := by
  intro j s h
  by_cases hj : j < a.length
  · rw [List.getElem?_append_left hj] at h; exact h1 j s h
  · rw [List.getElem?_append_right (by omega)] at h
    have := h2 _ s h
    rwa [show N + a.length + (j - a.length) = N + j by omega] at this
theorem ok_one {N : Nat} {s : St} (h : SOk N s) : ∀ j u, [s][j]? = some u → SOk (N + j) u := by
  intro j u hu
  cases j with
  | zero => simp at hu; rw [← hu]; exact h
  | succ j => simp at hu
theorem range_app (a n m : Nat) : List.range' a n ++ List.range' (a + n) m = List.range' a (n + m) := by
  rw [List.range'_append_1]

theorem in_all : ∀ f, (∀ d row ts i row' r, one f d row ts = .ok (i, row', r) → InOne row i row') ∧ (∀ d row ts l row' r, block f d row ts = .ok (l, row', r) → InMany row l row') ∧ (∀ d row ts l row' r, many f d row ts = .ok (l, row', r) → InMany row l row')
  | 0 => ⟨fun d row ts i row' r h => (by rw [one] at h; cases h), fun d row ts l row' r h => (by rw [block] at h; cases h), fun d row ts l row' r h => (by rw [many] at h; cases h)⟩
  | f + 1 => by
    obtain ⟨i1, i2, i3⟩ := in_all f
    refine ⟨fun d row ts i row' r h => ?_, fun d row ts l row' r h => ?_, fun d row ts l row' r h => ?_⟩
    · cases ts with
      | nil => rw [one] at h; cases h
      | cons t ts =>
        rw [one] at h
        by_cases h1 : t.kind = 1 ∧ kindOf t.text ≠ 0
        · rw [if_pos h1] at h
          have hk := kindOf_le h1.2
          generalize kindOf t.text = k at h hk
          cases hw : words (shape k) ts with
          | error e => rw [hw] at h; cases h
          | ok x =>
            obtain ⟨ws, n, q⟩ := x
            rw [hw] at h
            dsimp only at h
            by_cases h2 : k = 5 ∨ k = 6
            · rw [if_pos h2] at h
              cases hb : block f d row q with
              | error e => rw [hb] at h; cases h
              | ok y =>
                obtain ⟨l, row1, r1⟩ := y
                rw [hb] at h
                dsimp only at h
                obtain ⟨n1, e1, o1, p1, b1, m1⟩ := i2 _ _ _ _ _ _ hb
                by_cases h3 : k = 5 ∧ elseNext r1 = true
                · rw [if_pos h3] at h
                  cases hb2 : block f d row1 r1.tail with
                  | error e => rw [hb2] at h; cases h
                  | ok z =>
                    obtain ⟨m, row2, r2⟩ := z
                    rw [hb2] at h
                    cases h
                    obtain ⟨n2, e2, o2, p2, b2, m2⟩ := i2 _ _ _ _ _ _ hb2
                    subst e1
                    rw [List.length_append] at o2 b2 m2
                    refine ⟨n1 ++ n2, mk k t.place ws n l m, by rw [e2]; simp, by rw [e2]; simp, ?_, ?_⟩
                    · refine ok_app (ok_app o1 o2) (ok_one (mk_ok hk (fun a b => absurd h2 (by omega)) (fun a => absurd h3.1 a) (fun x hx => ?_) (fun x hx => ?_) p1 p2))
                      · have := b1 x hx; simp; omega
                      · have := b2 x hx; simp; omega
                    · rw [List.flatMap_append, List.flatMap_append]
                      have e3 : [mk k t.place ws n l m].flatMap lm = l ++ m := by simp [lm, mk_kind]
                      rw [e3, List.length_append, ← range_app]
                      refine List.Perm.trans ?_ (m1.append m2)
                      have p : ((n1.flatMap lm ++ n2.flatMap lm) ++ (l ++ m)).Perm ((l ++ m) ++ (n1.flatMap lm ++ n2.flatMap lm)) := List.perm_append_comm
                      refine p.trans ?_
                      rw [List.append_assoc, List.append_assoc]
                      refine List.Perm.append_left l ?_
                      rw [← List.append_assoc, ← List.append_assoc]
                      exact List.Perm.append_right _ List.perm_append_comm
                · rw [if_neg h3] at h
                  cases h
                  subst e1
                  refine ⟨n1, mk k t.place ws n l [], by simp, by simp, ?_, ?_⟩
                  · exact ok_app o1 (ok_one (mk_ok hk (fun a b => absurd h2 (by omega)) (fun _ => rfl) (fun x hx => (b1 x hx).2) (by simp) p1 List.Pairwise.nil))
                  · rw [List.flatMap_append]
                    have e3 : [mk k t.place ws n l []].flatMap lm = l := by simp [lm, mk_kind]
                    rw [e3]
                    exact List.perm_append_comm.trans m1
            · rw [if_neg h2] at h
              cases h
              refine ⟨[], mk k t.place ws n [] [], by simp, by simp, ?_, ?_⟩
              · exact ok_one (mk_ok hk (fun _ _ => rfl) (fun _ => rfl) (by simp) (by simp) List.Pairwise.nil List.Pairwise.nil)
              · simp [lm, mk_kind]
        · rw [if_neg h1] at h; cases h
    · cases ts with
      | nil => rw [block] at h; cases h
      | cons t ts =>
        rw [block] at h
        split at h
        · split at h
          · cases h
          · exact i3 _ _ _ _ _ _ h
        · cases h
    · cases ts with
      | nil => rw [many] at h; cases h
      | cons t ts =>
        rw [many] at h
        split at h
        · cases h
          exact ⟨[], by simp, by simp, List.Pairwise.nil, by simp, by simp⟩
        · cases ho : one f d row (t :: ts) with
          | error e => rw [ho] at h; cases h
          | ok x =>
            obtain ⟨i, row1, r1⟩ := x
            rw [ho] at h
            dsimp only at h
            cases hm : many f d row1 r1 with
            | error e => rw [hm] at h; cases h
            | ok y =>
              obtain ⟨l', row2, r2⟩ := y
              rw [hm] at h
              cases h
              obtain ⟨n1, st, e1, rfl, o1, m1⟩ := i1 _ _ _ _ _ _ ho
              obtain ⟨n2, e2, o2, p2, b2, m2⟩ := i3 _ _ _ _ _ _ hm
              subst e1
              rw [List.length_append, List.length_append, List.length_singleton] at o2 b2 m2
              refine ⟨n1 ++ [st] ++ n2, by rw [e2]; simp, ?_, ?_, ?_, ?_⟩
              · refine ok_app o1 (fun j s hj => ?_)
                have := o2 j s hj
                rwa [show row.length + (n1 ++ [st]).length + j = row.length + (n1.length + 1) + j by simp] 
              · exact List.pairwise_cons.2 ⟨fun x hx => by have := b2 x hx; omega, p2⟩
              · intro x hx
                rcases List.mem_cons.1 hx with rfl | hx
                · simp
                · have := b2 x hx; simp; omega
              · rw [List.flatMap_append, List.cons_append]
                have e3 : (n1 ++ [st] ++ n2).length = n1.length + 1 + n2.length := by simp; omega
                rw [e3, ← range_app, ← range_app]
                have m3 := (m1.append_right [row.length + n1.length]).append m2
                refine List.Perm.trans ?_ m3
                have p : (l' ++ ((n1 ++ [st]).flatMap lm ++ n2.flatMap lm)).Perm ((n1 ++ [st]).flatMap lm ++ (l' ++ n2.flatMap lm)) := by
                  rw [← List.append_assoc, ← List.append_assoc]
                  exact List.Perm.append_right _ List.perm_append_comm
                refine (List.Perm.cons _ p).trans ?_
                rw [List.append_assoc]
                exact (List.perm_middle (l₁ := (n1 ++ [st]).flatMap lm) (l₂ := l' ++ n2.flatMap lm) (a := row.length + n1.length)).symm
theorem in_tops : ∀ f row ts l row', tops f row ts = .ok (l, row') → InMany row l row'
  | 0, row, ts, l, row', h => by rw [tops] at h; cases h
  | f + 1, row, [], l, row', h => by rw [tops] at h; cases h
  | f + 1, row, t :: ts, l, row', h => by
    rw [tops] at h
    split at h
    · cases h
      exact ⟨[], by simp, by simp, List.Pairwise.nil, by simp, by simp⟩
    · cases ho : one f 0 row (t :: ts) with
      | error e => rw [ho] at h; cases h
      | ok x =>
        obtain ⟨i, row1, r1⟩ := x
        rw [ho] at h
        dsimp only at h
        cases hm : tops f row1 r1 with
        | error e => rw [hm] at h; cases h
        | ok y =>
          obtain ⟨l', row2⟩ := y
          rw [hm] at h
          cases h
          obtain ⟨n1, st, e1, rfl, o1, m1⟩ := (in_all f).1 _ _ _ _ _ _ ho
          obtain ⟨n2, e2, o2, p2, b2, m2⟩ := in_tops f _ _ _ _ hm
          subst e1
          rw [List.length_append, List.length_append, List.length_singleton] at o2 b2 m2
          refine ⟨n1 ++ [st] ++ n2, by rw [e2]; simp, ?_, ?_, ?_, ?_⟩
          · refine ok_app o1 (fun j s hj => ?_)
            have := o2 j s hj
            rwa [show row.length + (n1 ++ [st]).length + j = row.length + (n1.length + 1) + j by simp]
          · exact List.pairwise_cons.2 ⟨fun x hx => by have := b2 x hx; omega, p2⟩
          · intro x hx
            rcases List.mem_cons.1 hx with rfl | hx
            · simp
            · have := b2 x hx; simp; omega
          · rw [List.flatMap_append, List.cons_append]
            have e3 : (n1 ++ [st] ++ n2).length = n1.length + 1 + n2.length := by simp; omega
            rw [e3, ← range_app, ← range_app]
            have m3 := (m1.append_right [row.length + n1.length]).append m2
            refine List.Perm.trans ?_ m3
            have p : (l' ++ ((n1 ++ [st]).flatMap lm ++ n2.flatMap lm)).Perm ((n1 ++ [st]).flatMap lm ++ (l' ++ n2.flatMap lm)) := by
              rw [← List.append_assoc, ← List.append_assoc]
              exact List.Perm.append_right _ List.perm_append_comm
            refine (List.Perm.cons _ p).trans ?_
            rw [List.append_assoc]
            exact (List.perm_middle (l₁ := (n1 ++ [st]).flatMap lm) (l₂ := l' ++ n2.flatMap lm) (a := row.length + n1.length)).symm
theorem mode_le (x : List UInt8) : mode x ≤ 3 := by
  unfold mode
  repeat (first | split | omega)
theorem head_ok {ts : List Tok} {md : Nat} {r : List Tok} (h : head ts = .ok (md, r)) : 1 ≤ md ∧ md ≤ 3 := by
  unfold head at h
  split at h
  · split at h
    · split at h
      · split at h
        · next h2 =>
          split at h
          · split at h
            · cases h
              exact ⟨Nat.one_le_iff_ne_zero.2 h2.2, mode_le _⟩
            · cases h
          · cases h
        · cases h
      · cases h
    · cases h
  · cases h
/-- P15.4, and what else ParseWithin asks. -/
theorem all_in {src : List UInt8} {md : Nat} {row : List St} {top : List Nat} (h : all src = .ok (md, row, top)) :
    (1 ≤ md ∧ md ≤ 3) ∧ row.length ≤ 100 ∧ (∀ j s, row[j]? = some s → SOk j s) ∧ top.Pairwise (· < ·) ∧ (∀ x ∈ top, x < row.length) ∧ (top ++ row.flatMap lm).Perm (List.range row.length) := by
  unfold all at h
  cases hl : Lx.all src with
  | error e => rw [hl] at h; cases h
  | ok ts =>
    rw [hl] at h
    dsimp only at h
    unfold prog at h
    cases hh : head ts with
    | error e => rw [hh] at h; cases h
    | ok x =>
      obtain ⟨md', r⟩ := x
      rw [hh] at h
      dsimp only at h
      cases ht : tops (fuel r.length) [] r with
      | error e => rw [ht] at h; cases h
      | ok y =>
        obtain ⟨l, row'⟩ := y
        rw [ht] at h
        dsimp only at h
        split at h
        · cases h
        · next hb =>
          cases h
          obtain ⟨new, e1, o1, p1, b1, m1⟩ := in_tops _ _ _ _ _ ht
          rw [List.nil_append] at e1
          subst e1
          refine ⟨head_ok hh, by omega, fun j s hj => by simpa using o1 j s hj, p1, fun x hx => by simpa using (b1 x hx).2, ?_⟩
          rw [List.range_eq_range']
          exact m1
/-- How often each place stands within. -/
theorem in_count {row : List St} {top : List Nat} (h : (top ++ row.flatMap lm).Perm (List.range row.length)) (j : Nat) : (top ++ row.flatMap lm).count j = if j < row.length then 1 else 0 := by
  rw [h.count_eq]
  by_cases hj : j < row.length
  · rw [if_pos hj]
    exact List.Nodup.count List.nodup_range |>.trans (if_pos (List.mem_range.2 hj))
  · rw [if_neg hj]
    exact List.count_eq_zero.2 (fun hm => hj (List.mem_range.1 hm))
end Ps
end Go.Proofs.YthlbociimbpgkaaDoor

/- A script, and another one behind it: in plain words (layer 15). (Laid in round 14, ahead of stage 15.) -/
namespace Go.Proofs.YthlbociimbpgkaaDoor
namespace Ps
open Lx (Tok)

/-! What is read of tokens ahead of an end is read of them ahead of others, too. -/
theorem fits_end {x : W} {z : Tok} (h : z.kind = 0) : fits x z = false := by
  cases x <;> simp [fits, isName, isSign, h]
theorem words_app : ∀ (xs : List W) (a : List Tok) {z : Tok} (_ : z.kind = 0) {ws : List (List UInt8)} {n : Nat} {r : List Tok}, words xs (a ++ [z]) = .ok (ws, n, r) → ∃ a', r = a' ++ [z] ∧ a' <:+ a ∧ ∀ b, words xs (a ++ b) = .ok (ws, n, a' ++ b)
  | [], a, z, _, _, _, _, h => by cases h; exact ⟨a, rfl, List.suffix_refl _, fun b => rfl⟩
  | x :: xs, [], z, hz, _, _, _, h => by
    rw [List.nil_append, words, if_neg (by rw [fits_end hz]; decide)] at h
    cases h
  | x :: xs, t :: a, z, hz, _, _, _, h => by
    rw [List.cons_append, words] at h
    by_cases hf : fits x t = true
    · rw [if_pos hf] at h
      cases hw : words xs (a ++ [z]) with
      | error e => rw [hw] at h; cases h
      | ok y =>
        obtain ⟨ws, n, r⟩ := y
        rw [hw] at h
        cases h
        obtain ⟨a', h1, hs, h2⟩ := words_app xs a hz hw
        exact ⟨a', h1, hs.trans (List.suffix_cons _ _), fun b => by rw [List.cons_append, words, if_pos hf, h2]⟩
    · rw [if_neg hf] at h; cases h
theorem else_app {a : List Tok} {z : Tok} {b : List Tok} (hz : z.kind = 0) (hb : elseNext b = false) : elseNext (a ++ b) = elseNext (a ++ [z]) := by
  cases a with
  | nil => rw [List.nil_append, hb]; simp [elseNext, isName, hz]
  | cons t a => rfl
theorem app_all {z : Tok} (hz : z.kind = 0) {b : List Tok} (hb : elseNext b = false) : ∀ f, (∀ d row a i row' r, one f d row (a ++ [z]) = .ok (i, row', r) → ∃ a', r = a' ++ [z] ∧ a' <:+ a ∧ one f d row (a ++ b) = .ok (i, row', a' ++ b)) ∧
    (∀ d row a l row' r, block f d row (a ++ [z]) = .ok (l, row', r) → ∃ a', r = a' ++ [z] ∧ a' <:+ a ∧ block f d row (a ++ b) = .ok (l, row', a' ++ b)) ∧ (∀ d row a l row' r, many f d row (a ++ [z]) = .ok (l, row', r) → ∃ a', r = a' ++ [z] ∧ a' <:+ a ∧ many f d row (a ++ b) = .ok (l, row', a' ++ b))
  | 0 => ⟨fun d row a i row' r h => (by rw [one] at h; cases h), fun d row a l row' r h => (by rw [block] at h; cases h), fun d row a l row' r h => (by rw [many] at h; cases h)⟩
  | f + 1 => by
    obtain ⟨i1, i2, i3⟩ := app_all hz hb f
    refine ⟨fun d row a i row' r h => ?_, fun d row a l row' r h => ?_, fun d row a l row' r h => ?_⟩
    · cases a with
      | nil =>
        rw [List.nil_append, one, if_neg (by rw [hz]; simp)] at h
        cases h
      | cons t a =>
        rw [List.cons_append, one] at h ⊢
        by_cases h1 : t.kind = 1 ∧ kindOf t.text ≠ 0
        · rw [if_pos h1] at h ⊢
          cases hw : words (shape (kindOf t.text)) (a ++ [z]) with
          | error e => rw [hw] at h; cases h
          | ok x =>
            obtain ⟨ws, n, q⟩ := x
            obtain ⟨a1, rfl, s1, hw2⟩ := words_app _ _ hz hw
            rw [hw] at h
            rw [hw2]
            dsimp only at h ⊢
            by_cases h2 : kindOf t.text = 5 ∨ kindOf t.text = 6
            · rw [if_pos h2] at h ⊢
              cases hb1 : block f d row (a1 ++ [z]) with
              | error e => rw [hb1] at h; cases h
              | ok y =>
                obtain ⟨l, row1, r1⟩ := y
                obtain ⟨a2, rfl, s2, hb2⟩ := i2 _ _ _ _ _ _ hb1
                rw [hb1] at h
                rw [hb2]
                dsimp only at h ⊢
                rw [else_app hz hb]
                by_cases h3 : kindOf t.text = 5 ∧ elseNext (a2 ++ [z]) = true
                · rw [if_pos h3] at h ⊢
                  cases a2 with
                  | nil => exact absurd h3.2 (by simp [elseNext, isName, hz])
                  | cons u a2 =>
                    simp only [List.cons_append, List.tail_cons] at h ⊢
                    cases hb3 : block f d row1 (a2 ++ [z]) with
                    | error e => rw [hb3] at h; cases h
                    | ok y =>
                      obtain ⟨m, row2, r2⟩ := y
                      obtain ⟨a3, rfl, s3, hb4⟩ := i2 _ _ _ _ _ _ hb3
                      rw [hb3] at h
                      rw [hb4]
                      cases h
                      exact ⟨a3, rfl, s3.trans ((List.suffix_cons _ _).trans (s2.trans (s1.trans (List.suffix_cons _ _)))), rfl⟩
                · rw [if_neg h3] at h ⊢
                  cases h
                  exact ⟨a2, rfl, s2.trans (s1.trans (List.suffix_cons _ _)), rfl⟩
            · rw [if_neg h2] at h ⊢
              cases h
              exact ⟨a1, rfl, s1.trans (List.suffix_cons _ _), rfl⟩
        · rw [if_neg h1] at h; cases h
    · cases a with
      | nil =>
        rw [List.nil_append, block, if_neg (by simp [isSign, hz])] at h
        cases h
      | cons t a =>
        rw [List.cons_append, block] at h ⊢
        by_cases h1 : isSign 123 t = true
        · rw [if_pos h1] at h ⊢
          by_cases h2 : 8 ≤ d
          · rw [if_pos h2] at h; cases h
          · rw [if_neg h2] at h ⊢
            obtain ⟨a1, h3, s1, h4⟩ := i3 _ _ _ _ _ _ h
            exact ⟨a1, h3, s1.trans (List.suffix_cons _ _), h4⟩
        · rw [if_neg h1] at h; cases h
    · cases a with
      | nil =>
        rw [List.nil_append, many, if_neg (by simp [isSign, hz])] at h
        cases ho : one f d row [z] with
        | error e => rw [ho] at h; cases h
        | ok x =>
          obtain ⟨i, row1, r1⟩ := x
          exfalso
          cases f with
          | zero => rw [one] at ho; cases ho
          | succ f => rw [one, if_neg (by rw [hz]; simp)] at ho; cases ho
      | cons t a =>
        rw [List.cons_append, many] at h ⊢
        by_cases h1 : isSign 125 t = true
        · rw [if_pos h1] at h ⊢
          cases h
          exact ⟨a, rfl, List.suffix_cons _ _, rfl⟩
        · rw [if_neg h1] at h ⊢
          cases ho : one f d row (t :: (a ++ [z])) with
          | error e => rw [ho] at h; cases h
          | ok x =>
            obtain ⟨i, row1, r1⟩ := x
            obtain ⟨a1, rfl, s1, ho2⟩ := i1 _ _ (t :: a) _ _ _ ho
            rw [ho] at h
            rw [← List.cons_append, ho2]
            dsimp only at h ⊢
            cases hm : many f d row1 (a1 ++ [z]) with
            | error e => rw [hm] at h; cases h
            | ok y =>
              obtain ⟨l', row2, r2⟩ := y
              obtain ⟨a2, rfl, s2, hm2⟩ := i3 _ _ _ _ _ _ hm
              rw [hm] at h
              rw [hm2]
              cases h
              exact ⟨a2, rfl, s2.trans s1, rfl⟩
/-- Statements up to the end, and others behind them. -/
theorem tops_app {z : Tok} (hz : z.kind = 0) {b : List Tok} (hb : elseNext b = false) : ∀ (f : Nat) (row : List St) (a : List Tok) {l : List Nat} {row1 : List St}, (∀ t ∈ a, t.kind ≠ 0) → tops f row (a ++ [z]) = .ok (l, row1) →
    ∀ (g : Nat) (l2 : List Nat) (row2 : List St), tops g row1 b = .ok (l2, row2) → ∃ g', tops g' row (a ++ b) = .ok (l ++ l2, row2)
  | 0, row, a, l, row1, _, h => by rw [tops] at h; cases h
  | f + 1, row, [], l, row1, _, h => fun g l2 row2 h2 => by
    rw [List.nil_append, tops, if_pos hz] at h
    cases h
    exact ⟨_, by rw [List.nil_append, List.nil_append]; exact h2⟩
  | f + 1, row, t :: a, l, row1, ha, h => fun g l2 row2 h2 => by
    rw [List.cons_append, tops, if_neg (ha t (by simp))] at h
    cases ho : one f 0 row (t :: (a ++ [z])) with
    | error e => rw [ho] at h; cases h
    | ok x =>
      obtain ⟨i, rowa, r1⟩ := x
      obtain ⟨a1, rfl, s1, ho2⟩ := (app_all hz hb f).1 _ _ (t :: a) _ _ _ ho
      rw [ho] at h
      dsimp only at h
      cases hm : tops f rowa (a1 ++ [z]) with
      | error e => rw [hm] at h; cases h
      | ok y =>
        obtain ⟨l', rowb⟩ := y
        rw [hm] at h
        cases h
        have hsuf : ∀ u ∈ a1, u ∈ t :: a := fun u hu => s1.subset hu
        obtain ⟨g', hg⟩ := tops_app hz hb f rowa a1 (fun u hu => ha u (hsuf u hu)) hm g l2 row2 h2
        refine ⟨max f g' + 1, ?_⟩
        rw [List.cons_append, tops, if_neg (ha t (by simp))]
        rw [one_ge (by rw [← List.cons_append, ho2]; exact done_ok _) (Nat.le_max_left f g'), ← List.cons_append, ho2]
        dsimp only
        rw [tops_ge (by rw [hg]; exact done_ok _) (Nat.le_max_right f g'), hg]
        rfl

/-! Tokens further behind, a row that has others ahead. -/
def mv (c D : Nat) (s : St) : St := { s with place := s.place + D, l := s.l.map (· + c), m := s.m.map (· + c) }
theorem mk_mv (k p : Nat) (ws : List (List UInt8)) (n : Nat) (l m : List Nat) (c D : Nat) : mv c D (mk k p ws n l m) = mk k (p + D) ws n (l.map (· + c)) (m.map (· + c)) := by
  unfold mk mv
  split <;> rfl
theorem fits_shift (x : W) (t : Tok) (D : Nat) : fits x (Lx.shift D t) = fits x t := by cases x <;> rfl
theorem words_shift (D : Nat) : ∀ (xs : List W) (ts : List Tok) {ws : List (List UInt8)} {n : Nat} {r : List Tok}, words xs ts = .ok (ws, n, r) → words xs (ts.map (Lx.shift D)) = .ok (ws, n, r.map (Lx.shift D))
  | [], ts, _, _, _, h => by cases h; rfl
  | x :: xs, [], _, _, _, h => by cases h
  | x :: xs, t :: ts, _, _, _, h => by
    rw [words] at h
    rw [List.map_cons, words, fits_shift]
    by_cases hf : fits x t = true
    · rw [if_pos hf] at h ⊢
      cases hw : words xs ts with
      | error e => rw [hw] at h; cases h
      | ok y =>
        obtain ⟨ws, n, r⟩ := y
        rw [hw] at h
        cases h
        rw [words_shift D xs ts hw]
        cases x <;> rfl
    · rw [if_neg hf] at h; cases h
theorem else_shift (r : List Tok) (D : Nat) : elseNext (r.map (Lx.shift D)) = elseNext r := by cases r <;> rfl
theorem shift_all (P : List St) (D : Nat) : ∀ f, (∀ d row ts i row' r, one f d row ts = .ok (i, row', r) → one f d (P ++ row.map (mv P.length D)) (ts.map (Lx.shift D)) = .ok (i + P.length, P ++ row'.map (mv P.length D), r.map (Lx.shift D))) ∧
    (∀ d row ts l row' r, block f d row ts = .ok (l, row', r) → block f d (P ++ row.map (mv P.length D)) (ts.map (Lx.shift D)) = .ok (l.map (· + P.length), P ++ row'.map (mv P.length D), r.map (Lx.shift D))) ∧
    (∀ d row ts l row' r, many f d row ts = .ok (l, row', r) → many f d (P ++ row.map (mv P.length D)) (ts.map (Lx.shift D)) = .ok (l.map (· + P.length), P ++ row'.map (mv P.length D), r.map (Lx.shift D)))
  | 0 => ⟨fun d row ts i row' r h => (by rw [one] at h; cases h), fun d row ts l row' r h => (by rw [block] at h; cases h), fun d row ts l row' r h => (by rw [many] at h; cases h)⟩
  | f + 1 => by
    obtain ⟨i1, i2, i3⟩ := shift_all P D f
    have len : ∀ row : List St, (P ++ row.map (mv P.length D)).length = row.length + P.length := fun row => by rw [List.length_append, List.length_map]; omega
    have app : ∀ (row : List St) s, P ++ (row ++ [s]).map (mv P.length D) = P ++ row.map (mv P.length D) ++ [mv P.length D s] := fun row s => by simp
    refine ⟨fun d row ts i row' r h => ?_, fun d row ts l row' r h => ?_, fun d row ts l row' r h => ?_⟩
    · cases ts with
      | nil => rw [one] at h; cases h
      | cons t ts =>
        rw [one] at h
        rw [List.map_cons, one]
        show (if t.kind = 1 ∧ kindOf t.text ≠ 0 then _ else _) = _
        by_cases h1 : t.kind = 1 ∧ kindOf t.text ≠ 0
        · rw [if_pos h1] at h; refine (if_pos h1).trans ?_
          show (match words (shape (kindOf t.text)) (ts.map (Lx.shift D)) with | .error e => _ | .ok (ws, n, r) => _) = _
          cases hw : words (shape (kindOf t.text)) ts with
          | error e => rw [hw] at h; cases h
          | ok x =>
            obtain ⟨ws, n, q⟩ := x
            rw [hw] at h
            rw [words_shift D _ _ hw]
            dsimp only [Lx.shift] at h ⊢
            by_cases h2 : kindOf t.text = 5 ∨ kindOf t.text = 6
            · rw [if_pos h2] at h; refine (if_pos h2).trans ?_
              cases hb : block f d row q with
              | error e => rw [hb] at h; cases h
              | ok y =>
                obtain ⟨l, row1, r1⟩ := y
                rw [hb] at h
                rw [i2 _ _ _ _ _ _ hb]
                dsimp only at h ⊢
                rw [else_shift]
                by_cases h3 : kindOf t.text = 5 ∧ elseNext r1 = true
                · rw [if_pos h3] at h; refine (if_pos h3).trans ?_
                  cases hb2 : block f d row1 r1.tail with
                  | error e => rw [hb2] at h; cases h
                  | ok z =>
                    obtain ⟨m, row2, r2⟩ := z
                    rw [hb2] at h
                    have := i2 _ _ _ _ _ _ hb2
                    rw [List.map_tail] at this
                    rw [this]
                    cases h
                    dsimp only
                    rw [len, app, mk_mv]
                · rw [if_neg h3] at h; refine (if_neg h3).trans ?_
                  cases h
                  rw [len, app, mk_mv]
                  rfl
            · rw [if_neg h2] at h; refine (if_neg h2).trans ?_
              cases h
              rw [len, app, mk_mv]
              rfl
        · rw [if_neg h1] at h; cases h
    · cases ts with
      | nil => rw [block] at h; cases h
      | cons t ts =>
        rw [block] at h
        rw [List.map_cons, block]
        show (if isSign 123 t = true then _ else _) = _
        by_cases h1 : isSign 123 t = true
        · rw [if_pos h1] at h; refine (if_pos h1).trans ?_
          by_cases h2 : 8 ≤ d
          · rw [if_pos h2] at h; cases h
          · rw [if_neg h2] at h; refine (if_neg h2).trans ?_
            exact i3 _ _ _ _ _ _ h
        · rw [if_neg h1] at h; cases h
    · cases ts with
      | nil => rw [many] at h; cases h
      | cons t ts =>
        rw [many] at h
        rw [List.map_cons, many]
        show (if isSign 125 t = true then _ else _) = _
        by_cases h1 : isSign 125 t = true
        · rw [if_pos h1] at h; refine (if_pos h1).trans ?_
          cases h
          rfl
        · rw [if_neg h1] at h; refine (if_neg h1).trans ?_
          cases ho : one f d row (t :: ts) with
          | error e => rw [ho] at h; cases h
          | ok x =>
            obtain ⟨i, row1, r1⟩ := x
            rw [ho] at h
            have := i1 _ _ _ _ _ _ ho
            rw [List.map_cons] at this
            rw [this]
            dsimp only at h ⊢
            cases hm : many f d row1 r1 with
            | error e => rw [hm] at h; cases h
            | ok y =>
              obtain ⟨l', row2, r2⟩ := y
              rw [hm] at h
              rw [i3 _ _ _ _ _ _ hm]
              cases h
              rfl
theorem tops_shift (P : List St) (D : Nat) : ∀ (f : Nat) (row : List St) (ts : List Tok) {l : List Nat} {row' : List St}, tops f row ts = .ok (l, row') → tops f (P ++ row.map (mv P.length D)) (ts.map (Lx.shift D)) = .ok (l.map (· + P.length), P ++ row'.map (mv P.length D))
  | 0, row, ts, _, _, h => by rw [tops] at h; cases h
  | f + 1, row, [], _, _, h => by rw [tops] at h; cases h
  | f + 1, row, t :: ts, _, _, h => by
    rw [tops] at h
    rw [List.map_cons, tops]
    show (if t.kind = 0 then _ else _) = _
    by_cases h1 : t.kind = 0
    · rw [if_pos h1] at h; refine (if_pos h1).trans ?_
      cases h
      rfl
    · rw [if_neg h1] at h; refine (if_neg h1).trans ?_
      cases ho : one f 0 row (t :: ts) with
      | error e => rw [ho] at h; cases h
      | ok x =>
        obtain ⟨i, row1, r1⟩ := x
        rw [ho] at h
        have := (shift_all P D f).1 _ _ _ _ _ _ ho
        rw [List.map_cons] at this
        rw [this]
        dsimp only at h ⊢
        cases hm : tops f row1 r1 with
        | error e => rw [hm] at h; cases h
        | ok y =>
          obtain ⟨l', row2⟩ := y
          rw [hm] at h
          rw [tops_shift P D f _ _ hm]
          cases h
          rfl
end Ps
end Go.Proofs.YthlbociimbpgkaaDoor

/- The statements read by a row of halves instead of by recursion: the same answer (layer 15, plain). -/
namespace Go.Proofs.YthlbociimbpgkaaDoor
namespace Ps
open Lx (Tok)

def oneR (d : Nat) (row : List St) (ts : List Tok) := one (3 * ts.length + 1) d row ts
def blockR (d : Nat) (row : List St) (ts : List Tok) := block (3 * ts.length + 1) d row ts
def manyR (d : Nat) (row : List St) (ts : List Tok) := many (3 * ts.length + 2) d row ts
def topsR (row : List St) (ts : List Tok) := tops (3 * ts.length + 2) row ts
theorem oneR_of {f d : Nat} {row : List St} {ts : List Tok} (h : 3 * ts.length + 1 ≤ f) : one f d row ts = oneR d row ts := one_ge ((enough_all _).1 d row ts (Nat.le_refl _)) h
theorem blockR_of {f d : Nat} {row : List St} {ts : List Tok} (h : 3 * ts.length + 1 ≤ f) : block f d row ts = blockR d row ts := block_ge ((enough_all _).2.1 d row ts (Nat.le_refl _)) h
theorem manyR_of {f d : Nat} {row : List St} {ts : List Tok} (h : 3 * ts.length + 2 ≤ f) : many f d row ts = manyR d row ts := many_ge ((enough_all _).2.2 d row ts (Nat.le_refl _)) h
theorem topsR_of {f : Nat} {row : List St} {ts : List Tok} (h : 3 * ts.length + 2 ≤ f) : tops f row ts = topsR row ts := tops_ge (enough_tops _ row ts (Nat.le_refl _)) h

/-- An opening bracket, d of them being open. -/
def brace (d : Nat) : List Tok → Res (List Tok)
  | [] => .error (0, 20)
  | t :: ts => if isSign 123 t = true then (if 8 ≤ d then .error (t.place, 21) else .ok ts) else .error (t.place, 20)
/-- A statement up to its end, or its bracket. -/
def headM (d : Nat) : List Tok → Res (St × List Tok)
  | [] => .error (0, 20)
  | t :: ts => if t.kind = 1 ∧ kindOf t.text ≠ 0 then (match words (shape (kindOf t.text)) ts with
      | .error e => .error e
      | .ok (ws, n, r) => if kindOf t.text = 5 ∨ kindOf t.text = 6 then (match brace d r with
          | .error e => .error e
          | .ok r' => .ok (mk (kindOf t.text) t.place ws n [] [], r'))
        else .ok (mk (kindOf t.text) t.place ws n [] [], r))
    else .error (t.place, 20)
/-- A statement whose bracket is open; behind its else or not. -/
structure Hf where
  st : St
  els : Bool
def addL (h : Hf) (l : List Nat) : Hf := if h.els = true then ⟨{ h.st with m := h.st.m ++ l }, h.els⟩ else ⟨{ h.st with l := h.st.l ++ l }, h.els⟩
abbrev Out := Res (List St × List Nat)
/-- Behind a closing bracket. -/
def fin (k : List Nat → List St → List Nat → List Tok → Out) (d : Nat) (h : Hf) (row : List St) (top : List Nat) (r : List Tok) : Out :=
  if h.st.kind = 5 ∧ h.els = false ∧ elseNext r = true then (match blockR d row r.tail with
    | .error e => .error e
    | .ok (m, row2, r2) => k [row2.length] (row2 ++ [{ h.st with m := h.st.m ++ m }]) top r2)
  else k [row.length] (row ++ [h.st]) top r
/-- What all comes to, from within open brackets (the innermost first) on. -/
def run : List Hf → List Nat → List St → List Nat → List Tok → Out
  | [], p, row, top, ts => (match topsR row ts with
    | .error e => .error e
    | .ok (l, row') => .ok (row', top ++ p ++ l))
  | h :: S, p, row, top, ts => (match manyR (S.length + 1) row ts with
    | .error e => .error e
    | .ok (l, row1, r1) => fin (run S) S.length (addL h (p ++ l)) row1 top r1)
/-- A place is put into what it stands within. -/
def bump (n : Nat) : List Hf → List Hf
  | [] => []
  | h :: S => addL h [n] :: S
def bumpT (n : Nat) (S : List Hf) (top : List Nat) : List Nat := if S = [] then top ++ [n] else top
theorem addL_nil (h : Hf) : addL h [] = h := by
  unfold addL
  split <;> simp
theorem addL_addL (h : Hf) (a b : List Nat) : addL (addL h a) b = addL h (a ++ b) := by
  unfold addL
  cases h.els <;> simp
theorem addL_els (h : Hf) (a : List Nat) : (addL h a).els = h.els := by unfold addL; split <;> rfl
theorem addL_kind (h : Hf) (a : List Nat) : (addL h a).st.kind = h.st.kind := by unfold addL; split <;> rfl
theorem run_put (S : List Hf) (n : Nat) (row : List St) (top : List Nat) (ts : List Tok) : run S [n] row top ts = run (bump n S) [] row (bumpT n S top) ts := by
  cases S with
  | nil => simp [run, bump, bumpT]
  | cons h S =>
    simp only [run, bump, bumpT]
    cases manyR (S.length + 1) row ts with
    | error e => rfl
    | ok x =>
      obtain ⟨l, row1, r1⟩ := x
      simp only [addL_addL, List.nil_append]
      rfl
theorem run_end {row : List St} {top : List Nat} {t : Tok} {ts : List Tok} (h : t.kind = 0) : run [] [] row top (t :: ts) = .ok (row, top) := by
  rw [run, topsR, List.length_cons, show 3 * (ts.length + 1) + 2 = (3 * ts.length + 4) + 1 by omega, tops, if_pos h]
  simp
theorem run_close {h : Hf} {S : List Hf} {row : List St} {top : List Nat} {t : Tok} {ts : List Tok} (hc : isSign 125 t = true) : run (h :: S) [] row top (t :: ts) = fin (run S) S.length h row top ts := by
  rw [run, manyR, List.length_cons, show 3 * (ts.length + 1) + 2 = (3 * ts.length + 4) + 1 by omega, many, if_pos hc]
  simp [addL_nil]
theorem many_step {d : Nat} {row : List St} {t : Tok} {ts : List Tok} (hc : isSign 125 t = false) : manyR d row (t :: ts) = (match oneR d row (t :: ts) with
    | .error e => .error e
    | .ok (i, row1, r1) => (match manyR d row1 r1 with
      | .error e => .error e
      | .ok (l, row2, r2) => .ok (i :: l, row2, r2))) := by
  rw [manyR, List.length_cons, show 3 * (ts.length + 1) + 2 = (3 * ts.length + 4) + 1 by omega, many, if_neg (by rw [hc]; decide), oneR_of (by rw [List.length_cons]; omega)]
  cases ho : oneR d row (t :: ts) with
  | error e => rfl
  | ok x =>
    obtain ⟨i, row1, r1⟩ := x
    have h1 := (left_all _).1 _ _ _ _ _ _ ho
    simp only [List.length_cons] at h1
    dsimp only
    rw [manyR_of (by omega)]
    all_goals (cases manyR d row1 r1 <;> rfl)
theorem tops_step {row : List St} {t : Tok} {ts : List Tok} (hc : t.kind ≠ 0) : topsR row (t :: ts) = (match oneR 0 row (t :: ts) with
    | .error e => .error e
    | .ok (i, row1, r1) => (match topsR row1 r1 with
      | .error e => .error e
      | .ok (l, row2) => .ok (i :: l, row2))) := by
  rw [topsR, List.length_cons, show 3 * (ts.length + 1) + 2 = (3 * ts.length + 4) + 1 by omega, tops, if_neg hc, oneR_of (by rw [List.length_cons]; omega)]
  cases ho : oneR 0 row (t :: ts) with
  | error e => rfl
  | ok x =>
    obtain ⟨i, row1, r1⟩ := x
    have h1 := (left_all _).1 _ _ _ _ _ _ ho
    simp only [List.length_cons] at h1
    dsimp only
    rw [topsR_of (by omega)]
    all_goals (cases topsR row1 r1 <;> rfl)
theorem block_step (d : Nat) (row : List St) (ts : List Tok) : blockR d row ts = (match brace d ts with
    | .error e => .error e
    | .ok r => manyR (d + 1) row r) := by
  cases ts with
  | nil => rw [blockR, List.length_nil, block]; rfl
  | cons t ts =>
    rw [blockR, List.length_cons, show 3 * (ts.length + 1) + 1 = (3 * ts.length + 3) + 1 by omega, block, brace, manyR_of (by omega)]
    split
    · split <;> rfl
    · rfl
theorem mk_kind3 (k p : Nat) (ws : List (List UInt8)) (n : Nat) (l m : List Nat) : (mk k p ws n l m).kind = k ∧ (mk k p ws n l m).l = l ∧ (mk k p ws n l m).m = m := by unfold mk; split <;> exact ⟨rfl, rfl, rfl⟩
theorem mk_lm (k p : Nat) (ws : List (List UInt8)) (n : Nat) (l m l' m' : List Nat) : mk k p ws n l m = { mk k p ws n l' m' with l := l, m := m } := by unfold mk; split <;> rfl
theorem mk_l (k p : Nat) (ws : List (List UInt8)) (n : Nat) (l m l' : List Nat) : mk k p ws n l m = { mk k p ws n l' m with l := l } := by unfold mk; split <;> rfl
theorem brace_len {d : Nat} {r r' : List Tok} (h : brace d r = .ok r') : r'.length + 1 = r.length := by
  cases r with
  | nil => cases h
  | cons t ts =>
    rw [brace] at h
    split at h
    · split at h
      · cases h
      · cases h; rfl
    · cases h
/-- What a statement is, once it is whole. -/
theorem one_step (d : Nat) (row : List St) (ts : List Tok) : oneR d row ts = (match headM d ts with
    | .error e => .error e
    | .ok (st, r) => if st.kind = 5 ∨ st.kind = 6 then (match manyR (d + 1) row r with
        | .error e => .error e
        | .ok (l, row1, r1) => if st.kind = 5 ∧ elseNext r1 = true then (match blockR d row1 r1.tail with
            | .error e => .error e
            | .ok (m, row2, r2) => .ok (row2.length, row2 ++ [{ st with l := l, m := m }], r2))
          else .ok (row1.length, row1 ++ [{ st with l := l }], r1))
      else .ok (row.length, row ++ [st], r)) := by
  cases ts with
  | nil => rw [oneR, List.length_nil, one]; rfl
  | cons t ts =>
    rw [oneR, List.length_cons, show 3 * (ts.length + 1) + 1 = (3 * ts.length + 3) + 1 by omega, one, headM]
    by_cases h1 : t.kind = 1 ∧ kindOf t.text ≠ 0
    · rw [if_pos h1, if_pos h1]
      cases hw : words (shape (kindOf t.text)) ts with
      | error e => rfl
      | ok x =>
        obtain ⟨ws, n, r⟩ := x
        have hlen := words_len _ _ hw
        have hk := fun l m => mk_kind3 (kindOf t.text) t.place ws n l m
        dsimp only
        by_cases h5 : kindOf t.text = 5 ∨ kindOf t.text = 6
        · rw [if_pos h5, if_pos h5, blockR_of (by omega), block_step]
          cases hb : brace d r with
          | error e => rfl
          | ok r' =>
            dsimp only
            rw [if_pos (by rw [(hk _ _).1]; exact h5)]
            cases hm : manyR (d + 1) row r' with
            | error e => rfl
            | ok y =>
              obtain ⟨l, row1, r1⟩ := y
              have hl1 := (left_all _).2.2 _ _ _ _ _ _ hm
              have hl2 := brace_len hb
              dsimp only
              rw [(hk [] []).1]
              by_cases h6 : kindOf t.text = 5 ∧ elseNext r1 = true
              · rw [if_pos h6, if_pos h6, blockR_of (by rw [List.length_tail]; omega)]
                cases blockR d row1 r1.tail with
                | error e => rfl
                | ok z =>
                  obtain ⟨m, row2, r2⟩ := z
                  simp only [mk_lm (kindOf t.text) t.place ws n l m [] [], (hk [] []).1]
              · rw [if_neg h6, if_neg h6]
                simp only [mk_l (kindOf t.text) t.place ws n l [] [], (hk [] []).1]
        · rw [if_neg h5, if_neg h5]
          dsimp only
          rw [if_neg (by rw [(hk _ _).1]; exact h5)]
    · rw [if_neg h1, if_neg h1]
theorem run_one {S : List Hf} {row : List St} {top : List Nat} {t : Tok} {ts : List Tok} (h0 : S = [] → t.kind ≠ 0) (h1 : S ≠ [] → isSign 125 t = false) : run S [] row top (t :: ts) = (match oneR S.length row (t :: ts) with
    | .error e => .error e
    | .ok (i, row1, r1) => run S [i] row1 top r1) := by
  cases S with
  | nil =>
    rw [run, tops_step (h0 rfl), List.length_nil]
    cases oneR 0 row (t :: ts) with
    | error e => rfl
    | ok x =>
      obtain ⟨i, row1, r1⟩ := x
      dsimp only
      rw [run]
      cases topsR row1 r1 with
      | error e => rfl
      | ok y => simp
  | cons h S =>
    rw [run, many_step (h1 (by simp)), List.length_cons]
    cases oneR (S.length + 1) row (t :: ts) with
    | error e => rfl
    | ok x =>
      obtain ⟨i, row1, r1⟩ := x
      dsimp only
      rw [run]
      cases manyR (S.length + 1) row1 r1 with
      | error e => rfl
      | ok y => simp
theorem headM_nil {d : Nat} {ts : List Tok} {st : St} {r : List Tok} (h : headM d ts = .ok (st, r)) : st.l = [] ∧ st.m = [] := by
  cases ts with
  | nil => cases h
  | cons t ts =>
    rw [headM] at h
    split at h
    · split at h
      · cases h
      · split at h
        · split at h
          · cases h
          · cases h; exact (mk_kind3 _ _ _ _ _ _).2
        · cases h; exact (mk_kind3 _ _ _ _ _ _).2
    · cases h
theorem run_head {S : List Hf} {row : List St} {top : List Nat} {t : Tok} {ts : List Tok} (h0 : S = [] → t.kind ≠ 0) (h1 : S ≠ [] → isSign 125 t = false) : run S [] row top (t :: ts) = (match headM S.length (t :: ts) with
    | .error e => .error e
    | .ok (st, r) => if st.kind = 5 ∨ st.kind = 6 then run (⟨st, false⟩ :: S) [] row top r else run S [row.length] (row ++ [st]) top r) := by
  rw [run_one h0 h1, one_step]
  cases hh : headM S.length (t :: ts) with
  | error e => rfl
  | ok x =>
    obtain ⟨st, r⟩ := x
    obtain ⟨hl, hm⟩ := headM_nil hh
    obtain ⟨k, s, u, v, n, p, l0, m0⟩ := st
    dsimp only at hl hm
    subst hl hm
    dsimp only
    by_cases h5 : k = 5 ∨ k = 6
    · rw [if_pos h5, if_pos h5, run]
      cases manyR (S.length + 1) row r with
      | error e => rfl
      | ok y =>
        obtain ⟨l, row1, r1⟩ := y
        simp only [fin, addL, List.nil_append, Bool.false_eq_true, if_false, true_and]
        by_cases h6 : k = 5 ∧ elseNext r1 = true
        · rw [if_pos h6, if_pos h6]
          cases blockR S.length row1 r1.tail with
          | error e => rfl
          | ok z => rfl
        · rw [if_neg h6, if_neg h6]
    · rw [if_neg h5, if_neg h5]
/-- An else. -/
theorem fin_else {h : Hf} {S : List Hf} {row : List St} {top : List Nat} {r : List Tok} (hk : h.st.kind = 5) (he : h.els = false) (hn : elseNext r = true) : fin (run S) S.length h row top r = (match brace S.length r.tail with
    | .error e => .error e
    | .ok r' => run (⟨h.st, true⟩ :: S) [] row top r') := by
  rw [fin, if_pos ⟨hk, he, hn⟩, block_step]
  cases hb : brace S.length r.tail with
  | error e => rfl
  | ok r' =>
    dsimp only
    rw [run]
    cases manyR (S.length + 1) row r' with
    | error e => rfl
    | ok x =>
      obtain ⟨m, row1, r1⟩ := x
      simp [fin, addL]
theorem fin_put {h : Hf} {S : List Hf} {row : List St} {top : List Nat} {r : List Tok} (hn : ¬ (h.st.kind = 5 ∧ h.els = false ∧ elseNext r = true)) : fin (run S) S.length h row top r = run S [row.length] (row ++ [h.st]) top r := by
  rw [fin, if_neg hn]
/-- A script's answer, out of it. -/
theorem prog_run (ts : List Tok) : prog ts = (match head ts with
    | .error e => .error e
    | .ok (md, r) => (match run [] [] [] [] r with
      | .error e => .error e
      | .ok (row, l) => if 100 < row.length then .error (0, 4) else .ok (md, row, l))) := by
  unfold prog
  cases head ts with
  | error e => rfl
  | ok x =>
    obtain ⟨md, r⟩ := x
    dsimp only
    rw [topsR_of (by unfold fuel; omega), run]
    cases topsR [] r with
    | error e => rfl
    | ok y => simp
end Ps
end Go.Proofs.YthlbociimbpgkaaDoor

/- Scripts, from their bytes on, in plain words (layer 15): a script, and another one of the same protocol behind it. (Laid in round 14, ahead of stage 15.) -/
namespace Go.Proofs.YthlbociimbpgkaaDoor
namespace Lx
theorem next_kind {c : UInt8} {l : List UInt8} {k : Nat} {t r : List UInt8} (h : next c l = .ok (k, t, r)) : k ≠ 0 := by
  unfold next at h
  by_cases c1 : c = 34
  · rw [if_pos c1] at h
    cases hx : txt l with
    | none => rw [hx] at h; cases h
    | some p =>
      rw [hx] at h
      dsimp only at h
      split at h
      · cases h
      · cases h; decide
  · rw [if_neg c1] at h
    by_cases c2 : small c = true
    · rw [if_pos c2] at h
      split at h
      · cases h
      · cases h; decide
    · rw [if_neg c2] at h
      by_cases c3 : digit c = true
      · rw [if_pos c3] at h
        split at h
        · cases h
        · cases h; decide
      · rw [if_neg c3] at h
        split at h
        · cases h; decide
        · cases h
theorem go_form (n : Nat) : ∀ (f k : Nat) (l : List UInt8) {ts : List Tok}, go n f k l = .ok ts → ∃ a, ts = a ++ [⟨0, [], n⟩] ∧ ∀ t ∈ a, t.kind ≠ 0
  | 0, k, l, ts, h => by cases h; exact ⟨[], rfl, by simp⟩
  | f + 1, k, [], ts, h => by cases h; exact ⟨[], rfl, by simp⟩
  | f + 1, k, c :: l, ts, h => by
    rw [go] at h
    cases hx : next c l with
    | error x => rw [hx] at h; cases h
    | ok x =>
      obtain ⟨kd, t, r⟩ := x
      rw [hx] at h
      dsimp only at h
      split at h
      · cases h
      · split at h
        · cases h
        · next hg =>
          cases h
          obtain ⟨a, e, ha⟩ := go_form n f (k + 1) _ hg
          exact ⟨⟨kd, t, n - (c :: l).length⟩ :: a, by rw [e]; rfl, fun u hu => by
            rcases List.mem_cons.1 hu with rfl | hu
            · exact next_kind hx
            · exact ha u hu⟩
theorem toks_form {L k : Nat} {l : List UInt8} {ts : List Tok} (h : toks L k l = .ok ts) : ∃ a, ts = a ++ [⟨0, [], L⟩] ∧ ∀ t ∈ a, t.kind ≠ 0 := go_form _ _ _ _ h
/-- The tokens of a text that stands further behind, some ahead of them. -/
theorem toks_rel {t : List UInt8} {d k : Nat} (ht : t.length ≤ 2000) {us : List Tok} (h : toks (t.length + d) k t = .ok us) : ∃ bt, all t = .ok bt ∧ us = bt.map (shift d) := by
  have hs := skip_len false t
  unfold toks at h
  rw [go_fuel _ _ t.length k _ (by omega) hs, go_shift t.length d t.length k _ hs] at h
  cases hg : go t.length t.length k (skip false t) with
  | error x => rw [hg] at h; cases h
  | ok ts =>
    rw [hg] at h
    cases h
    cases h0 : go t.length t.length 0 (skip false t) with
    | error x =>
      have := go_later t.length k t.length 0 _ h0
      rw [Nat.zero_add, hg] at this
      rcases this with e | e <;> cases e
    | ok t0 =>
      have hc := go_count t.length k t.length 0 _ h0
      rw [Nat.zero_add, hg] at hc
      split at hc
      · cases hc
        exact ⟨ts, by unfold all; rw [if_neg (by omega)]; exact h0, rfl⟩
      · cases hc
end Lx
namespace Ps
open Lx (Tok)

/-- What a script begins by. -/
def begins (x : List UInt8) : List UInt8 := wMode ++ 32 :: (x ++ [59])
def hdr (x : List UInt8) : List Tok := [⟨1, wMode, 0⟩, ⟨1, x, 5⟩, ⟨4, [59], 5 + x.length⟩]
theorem mode_name : Lx.Name wMode := ⟨⟨109, [111, 100, 101], rfl, by decide⟩, by decide, by decide⟩
theorem mode_known {x : List UInt8} (h : mode x ≠ 0) : x = [115, 109, 116, 112] ∨ x = [112, 111, 112, 51] ∨ x = [102, 116, 112] := by
  unfold mode at h
  by_cases h1 : x = [115, 109, 116, 112]
  · exact .inl h1
  · rw [if_neg h1] at h
    by_cases h2 : x = [112, 111, 112, 51]
    · exact .inr (.inl h2)
    · rw [if_neg h2] at h
      by_cases h3 : x = [102, 116, 112]
      · exact .inr (.inr h3)
      · rw [if_neg h3] at h; exact absurd rfl h
theorem known_name {x : List UInt8} (h : mode x ≠ 0) : Lx.Name x := by
  rcases mode_known h with rfl | rfl | rfl
  · exact ⟨⟨115, [109, 116, 112], rfl, by decide⟩, by decide, by decide⟩
  · exact ⟨⟨112, [111, 112, 51], rfl, by decide⟩, by decide, by decide⟩
  · exact ⟨⟨102, [116, 112], rfl, by decide⟩, by decide, by decide⟩
theorem begins_len (x : List UInt8) : (begins x).length = x.length + 6 := by simp [begins, wMode]
/-- The tokens of a script's head, and what stands behind. -/
theorem begins_toks {x : List UInt8} (hx : Lx.Name x) (t : List UInt8) (hl : (begins x ++ t).length ≤ 2000) : Lx.all (begins x ++ t) = Lx.mapE (hdr x) (Lx.toks ((begins x).length + t.length) 3 t) := by
  rw [Lx.all_toks hl, List.length_append, begins_len]
  have hx12 := hx.2.2
  have e : begins x ++ t = wMode ++ (32 :: (x ++ (59 :: t))) := by simp [begins]
  rw [e, Lx.toks_name mode_name (by rfl) (by decide) (by simp [wMode]; omega), Lx.toks_blank _ _ _ _ (by decide), Lx.toks_name hx (by rfl) (by decide) (by simp; omega), Lx.toks_sign (by decide) (by decide) (by omega), Lx.mapE_mapE, Lx.mapE_mapE]
  simp only [List.length_cons, List.length_append, List.cons_append, List.nil_append, hdr]
  rw [show wMode.length = 4 from rfl, show x.length + 6 + t.length - (4 + (x.length + (t.length + 1) + 1)) = 0 by omega, show x.length + 6 + t.length - (x.length + (t.length + 1)) = 5 by omega, show x.length + 6 + t.length - (t.length + 1) = 5 + x.length by omega]
theorem head_hdr {x : List UInt8} (h : mode x ≠ 0) (ts : List Tok) : head (hdr x ++ ts) = .ok (mode x, ts) := by
  rw [hdr]
  simp only [List.cons_append, List.nil_append, head]
  rw [if_pos (by decide), if_pos ⟨trivial, h⟩, if_pos (by rfl)]
/-- What a script says, by its tokens behind the head. -/
def rest (x : List UInt8) (us : List Tok) : Res (Nat × List St × List Nat) := match tops (fuel us.length) [] us with
  | .error e => .error e
  | .ok (l, row) => if 100 < row.length then .error (0, 4) else .ok (mode x, row, l)
theorem prog_hdr {x : List UInt8} (h : mode x ≠ 0) (us : List Tok) : prog (hdr x ++ us) = rest x us := by
  unfold prog
  rw [head_hdr h]
  rfl
theorem rest_ok {x : List UInt8} {us : List Tok} {md : Nat} {row : List St} {l : List Nat} (h : rest x us = .ok (md, row, l)) : md = mode x ∧ tops (fuel us.length) [] us = .ok (l, row) ∧ row.length ≤ 100 := by
  unfold rest at h
  cases ht : tops (fuel us.length) [] us with
  | error e => rw [ht] at h; cases h
  | ok y =>
    obtain ⟨l', row'⟩ := y
    rw [ht] at h
    dsimp only at h
    split at h
    · cases h
    · next hb => cases h; exact ⟨rfl, rfl, by omega⟩
theorem rest_of {x : List UInt8} {us : List Tok} {g : Nat} {row : List St} {l : List Nat} (h : tops g [] us = .ok (l, row)) : rest x us = if 100 < row.length then .error (0, 4) else .ok (mode x, row, l) := by
  have he := enough_tops (fuel us.length) [] us (by unfold fuel; omega)
  have e : tops (fuel us.length) [] us = .ok (l, row) := by
    by_cases hg : g ≤ fuel us.length
    · rw [tops_ge (by rw [h]; exact done_ok _) hg, h]
    · rw [← tops_ge he (show fuel us.length ≤ g by omega), h]
  unfold rest
  rw [e]
theorem tops_else {f : Nat} {row : List St} {us : List Tok} {l : List Nat} {row' : List St} (h : tops f row us = .ok (l, row')) : elseNext us = false := by
  cases us with
  | nil => rfl
  | cons u us =>
    rw [Bool.eq_false_iff]
    intro he
    have h2 : u.kind = 1 ∧ u.text = wElse := by simpa [elseNext, isName] using he
    cases f with
    | zero => rw [tops] at h; cases h
    | succ f =>
      rw [tops, if_neg (by rw [h2.1]; decide)] at h
      cases f with
      | zero => rw [one] at h; cases h
      | succ f =>
        rw [one, if_neg (by rw [h2.2]; exact fun e => e.2 (by decide))] at h
        cases h
/-- A script, from its bytes on. -/
theorem script {x s : List UInt8} (hm : mode x ≠ 0) (hl : (begins x ++ s).length ≤ 2000) {md : Nat} {row : List St} {l : List Nat} (h : all (begins x ++ s) = .ok (md, row, l)) :
    ∃ us, Lx.toks ((begins x).length + s.length) 3 s = .ok us ∧ Lx.all (begins x ++ s) = .ok (hdr x ++ us) ∧ md = mode x ∧ tops (fuel us.length) [] us = .ok (l, row) ∧ row.length ≤ 100 := by
  unfold all at h
  rw [begins_toks (known_name hm) s hl] at h ⊢
  cases ht : Lx.toks ((begins x).length + s.length) 3 s with
  | error e => rw [ht] at h; cases h
  | ok us =>
    rw [ht] at h
    replace h : prog (hdr x ++ us) = .ok (md, row, l) := h
    rw [prog_hdr hm] at h
    obtain ⟨h1, h2, h3⟩ := rest_ok h
    exact ⟨us, rfl, rfl, h1, h2, h3⟩
/-- What ParseJoins asks. -/
theorem join_law {x s t : List UInt8} (hm : mode x ≠ 0) (hl : (begins x ++ s ++ 10 :: t).length ≤ 2000) (hlt : (begins x ++ t).length ≤ 2000) {md md2 : Nat} {row1 row2 : List St} {l1 l2 : List Nat}
    (h1 : all (begins x ++ s) = .ok (md, row1, l1)) (h2 : all (begins x ++ t) = .ok (md2, row2, l2)) :
    Lx.all (begins x ++ s ++ 10 :: t) = .error (0, 4) ∨ ((∃ ts, Lx.all (begins x ++ s ++ 10 :: t) = .ok ts) ∧ 100 < row1.length + row2.length ∧ all (begins x ++ s ++ 10 :: t) = .error (0, 4)) ∨
    all (begins x ++ s ++ 10 :: t) = .ok (mode x, row1 ++ row2.map (mv row1.length (s.length + 1)), l1 ++ l2.map (· + row1.length)) := by
  have hl1 : (begins x ++ s).length ≤ 2000 := by rw [List.length_append] at hl; omega
  obtain ⟨us1, a1, a2, _, a4, a5⟩ := script hm hl1 h1
  obtain ⟨us2, b1, b2, _, b4, b5⟩ := script hm hlt h2
  obtain ⟨a, ea, hak⟩ := Lx.toks_form a1
  have htl : t.length ≤ 2000 := by rw [List.length_append] at hlt; omega
  obtain ⟨bt, hbt, hu2⟩ := Lx.toks_rel htl (by rw [Nat.add_comm]; exact b1)
  have hboth := Lx.all_both hl a2 hbt
  by_cases h4 : 400 < (hdr x ++ us1).length + bt.length - 2
  · rw [if_pos h4] at hboth
    exact .inl hboth
  · rw [if_neg h4] at hboth
    have hd : (hdr x ++ us1).dropLast = hdr x ++ a := by rw [ea, ← List.append_assoc, List.dropLast_concat]
    have hsh : bt.map (Lx.shift ((begins x ++ s).length + 1)) = us2.map (Lx.shift (s.length + 1)) := by
      rw [hu2, List.map_map]
      congr 1
      funext u
      simp only [Function.comp, Lx.shift, List.length_append]
      congr 1
      omega
    rw [hd, hsh, List.append_assoc (hdr x)] at hboth
    have hs2 := tops_shift row1 (s.length + 1) _ _ _ b4
    rw [List.map_nil, List.append_nil] at hs2
    have hel : elseNext (us2.map (Lx.shift (s.length + 1))) = false := by rw [else_shift]; exact tops_else b4
    rw [ea] at a4
    obtain ⟨g, hg⟩ := tops_app rfl hel _ _ _ hak a4 _ _ _ hs2
    have hall : all (begins x ++ s ++ 10 :: t) = rest x (a ++ us2.map (Lx.shift (s.length + 1))) := by
      unfold all
      rw [hboth]
      exact prog_hdr hm _
    rw [rest_of hg] at hall
    by_cases h100 : 100 < (row1 ++ row2.map (mv row1.length (s.length + 1))).length
    · rw [if_pos h100] at hall
      rw [List.length_append, List.length_map] at h100
      exact .inr (.inl ⟨⟨_, hboth⟩, h100, hall⟩)
    · rw [if_neg h100] at hall
      exact .inr (.inr hall)
end Ps
end Go.Proofs.YthlbociimbpgkaaDoor

/- How a script begins, and each statement as its shape says, in plain words (layer 15). (Laid in round 14, ahead of stage 15.) -/
namespace Go.Proofs.YthlbociimbpgkaaDoor
namespace Ps
open Lx (Tok)

/-! ParseModes. -/
theorem mode_nil : mode [] = 0 := rfl
theorem all_begins {x : List UInt8} (hx : x = [] ∨ Lx.Name x) : all (begins x) = if mode x ≠ 0 then .ok (mode x, [], []) else .error (5, 20) := by
  rcases hx with rfl | hx
  · rw [if_neg (by decide)]
    exact of_isErr (by decide +kernel)
  · have hl := begins_len x
    have h12 := hx.2.2
    have h := begins_toks hx [] (by rw [List.append_nil]; omega)
    rw [List.append_nil, Lx.toks_nil] at h
    unfold all
    rw [h]
    show prog (hdr x ++ [⟨0, [], (begins x).length + 0⟩]) = _
    by_cases hm : mode x ≠ 0
    · rw [if_pos hm, prog_hdr hm]
      rfl
    · rw [if_neg hm]
      unfold prog
      rw [hdr]
      simp only [List.cons_append, List.nil_append, head]
      rw [if_pos (by decide), if_neg (fun e => hm e.2)]
/-- A name, and a script behind it. -/
def behindS : List UInt8 := [32, 109, 111, 100, 101, 32, 115, 109, 116, 112, 59]
theorem all_behind {x : List UInt8} (hx : x = [] ∨ Lx.Name x) : (x = [] → all (x ++ behindS) = .ok (1, [], [])) ∧ (x ≠ [] → all (x ++ behindS) = .error (if x = wMode then 5 else 0, 20)) := by
  refine ⟨fun h => ?_, fun h => ?_⟩
  · subst h
    exact of_isOk (by decide +kernel)
  · rcases hx with rfl | hx
    · exact absurd rfl h
    have h12 := hx.2.2
    have hl : (x ++ behindS).length ≤ 2000 := by simp [behindS]; omega
    have e : Lx.all (x ++ behindS) = .ok [⟨1, x, 0⟩, ⟨1, wMode, x.length + 1⟩, ⟨1, [115, 109, 116, 112], x.length + 6⟩, ⟨4, [59], x.length + 10⟩, ⟨0, [], x.length + 11⟩] := by
      have hs : Lx.Name [115, 109, 116, 112] := known_name (x := [115, 109, 116, 112]) (by decide)
      rw [Lx.all_toks hl, Lx.toks_name hx (by rfl) (by decide) (by simp)]
      have e1 : behindS = 32 :: (wMode ++ 32 :: ([115, 109, 116, 112] ++ [59])) := rfl
      rw [e1, Lx.toks_blank _ _ _ _ (by decide), Lx.toks_name mode_name (by rfl) (by decide) (by simp [wMode]), Lx.toks_blank _ _ _ _ (by decide), Lx.toks_name hs (by rfl) (by decide) (by simp [wMode] <;> omega), Lx.toks_sign (by decide) (by decide) (by simp [wMode] <;> omega), Lx.toks_nil, Lx.mapE_mapE, Lx.mapE_mapE, Lx.mapE_mapE]
      simp only [Lx.mapE, List.length_append, List.length_cons, List.length_nil, List.cons_append, List.nil_append, wMode]
      congr 1
      simp only [List.cons.injEq, Lx.Tok.mk.injEq, true_and, and_true]
      omega
    unfold all
    rw [e]
    show prog _ = _
    unfold prog head
    by_cases hw : x = wMode
    · subst hw
      rw [if_pos rfl]
      rfl
    · rw [if_neg hw]
      have : isName wMode ⟨1, x, 0⟩ = false := by simp [isName, hw]
      simp only [this]
      rfl

/-! ParseShapes: a text written piece by piece, a blank ahead of each. -/
structure Pc where
  p : List UInt8
  kd : Nat
  t : List UInt8
def Pc.Ok (c : Pc) : Prop := ∀ L k r, (r = [] ∨ r.head? = some 32) → k < 400 → c.p.length + r.length ≤ L → Lx.toks L k (c.p ++ r) = Lx.mapE [⟨c.kd, c.t, L - (c.p.length + r.length)⟩] (Lx.toks L (k + 1) r)
def str : List Pc → List UInt8
  | [] => []
  | c :: cs => 32 :: (c.p ++ str cs)
def tk : Nat → List Pc → List Tok
  | _, [] => []
  | pos, c :: cs => ⟨c.kd, c.t, pos + 1⟩ :: tk (pos + 1 + c.p.length) cs
theorem str_head : ∀ (cs : List Pc) (r : List UInt8), (r = [] ∨ r.head? = some 32) → str cs ++ r = [] ∨ (str cs ++ r).head? = some 32
  | [], r, h => by simpa [str] using h
  | c :: cs, r, _ => .inr rfl
theorem toks_pieces : ∀ (cs : List Pc), (∀ c ∈ cs, c.Ok) → ∀ (L k pos : Nat) (r : List UInt8), (r = [] ∨ r.head? = some 32) → k + cs.length ≤ 400 → pos + (str cs).length + r.length = L → Lx.toks L k (str cs ++ r) = Lx.mapE (tk pos cs) (Lx.toks L (k + cs.length) r)
  | [], _, L, k, pos, r, _, _, _ => by rw [str, tk, List.nil_append, Lx.mapE_nil]; rfl
  | c :: cs, h, L, k, pos, r, hr, hk, hL => by
    have hc := h c (by simp)
    simp only [str, List.length_cons, List.length_append] at hL hk
    rw [str, List.cons_append, Lx.toks_blank _ _ _ _ (by decide), List.append_assoc, hc L k _ (str_head cs r hr) (by omega) (by rw [List.length_append]; omega),
      toks_pieces cs (fun x hx => h x (by simp [hx])) L (k + 1) (pos + 1 + c.p.length) r hr (by omega) (by omega), Lx.mapE_mapE, tk, List.length_append, List.length_cons]
    rw [show L - (c.p.length + ((str cs).length + r.length)) = pos + 1 by omega, show k + 1 + cs.length = k + (cs.length + 1) by omega]
    rfl
theorem edge {r : List UInt8} {p : UInt8 → Bool} (hp : p 32 = false) (h : r = [] ∨ r.head? = some 32) : (r.head?.map p).getD false = false := by
  rcases h with rfl | h
  · rfl
  · rw [h]; simpa using hp
def nameP (x : List UInt8) : Pc := ⟨x, 1, x⟩
def intP (x : List UInt8) : Pc := ⟨x, 2, x⟩
def textP (x : List UInt8) : Pc := ⟨34 :: (Lx.esc x ++ [34]), 3, x⟩
def signP (c : UInt8) : Pc := ⟨[c], 4, [c]⟩
theorem nameP_ok {x : List UInt8} (h : Lx.Name x) : (nameP x).Ok := fun L k r hr hk hL => Lx.toks_name h (edge (by decide) hr) hk hL
theorem intP_ok {x : List UInt8} (h0 : x ≠ []) (hall : ∀ c ∈ x, Lx.digit c = true) (h9 : x.length ≤ 9) : (intP x).Ok := fun L k r hr hk hL => Lx.toks_int h0 hall h9 (edge (by decide) hr) hk hL
theorem textP_ok {x : List UInt8} (ht : x.length ≤ 100) (hq : x.all Lx.mayQ = true) : (textP x).Ok := fun L k r hr hk hL => by
  have hlen : (textP x).p.length = (Lx.esc x).length + 2 := by simp [textP]
  rw [hlen] at hL ⊢
  exact Lx.toks_text ht hq hk hL
theorem signP_ok {c : UInt8} (h : Lx.sign c = true) : (signP c).Ok := fun L k r hr hk hL => by
  have := Lx.toks_sign (L := L) (k := k) (r := r) h hk (by simp [signP] at hL; omega)
  simp only [signP, List.singleton_append, List.length_singleton] at this ⊢
  rw [this, Nat.add_comm 1]
def wName : List UInt8 := [110, 97, 109, 101]
/-- A statement of each kind: its first word, what follows; the last sign. -/
def pieces (k : Nat) (a b d : List UInt8) : List Pc := match k with
  | 1 => [nameP wLet, nameP wName, signP 61, textP a]
  | 2 => [nameP [103, 114, 101, 101, 116], textP a]
  | 3 => [nameP [115, 101, 110, 100], textP a, textP b]
  | 4 => [nameP [99, 97, 112, 115], textP a, textP b]
  | 5 => [nameP wIf, nameP wCode, textP a, signP 123]
  | 6 => [nameP [112, 105, 112, 101], intP d, signP 123]
  | 7 => [nameP [97, 117, 116, 104], nameP wName, textP a, textP b]
  | 8 => [nameP [100, 97, 116, 97], textP a, textP b]
  | 9 => [nameP [98, 111, 100, 121], nameP wName, textP a, textP b]
  | 10 => [nameP [103, 101, 116], nameP wName, textP a]
  | 11 => [nameP [112, 117, 116], textP a, textP b]
  | 12 => [nameP [116, 105, 109, 101, 111, 117, 116], intP d]
  | 13 => [nameP [108, 97, 98, 101, 108], nameP wName]
  | 14 => [nameP [103, 111, 116, 111], nameP wName]
  | 15 => [nameP [111, 110], nameP wName]
  | 16 => [nameP [112, 114, 105, 110, 116], textP a]
  | _ => [nameP [115, 116, 111, 112]]
def lastC (k : Nat) : UInt8 := if k = 5 ∨ k = 6 then 125 else 59
/-- What it says. -/
def shaped (k : Nat) (a b d : List UInt8) : St := match k with
  | 1 => ⟨1, wName, a, [], 0, 10, [], []⟩
  | 2 => ⟨2, [], a, [], 0, 10, [], []⟩
  | 3 => ⟨3, a, b, [], 0, 10, [], []⟩
  | 4 => ⟨4, a, b, [], 0, 10, [], []⟩
  | 5 => ⟨5, wCode, a, [], 0, 10, [], []⟩
  | 6 => ⟨6, [], [], [], num d, 10, [], []⟩
  | 7 => ⟨7, wName, a, b, 0, 10, [], []⟩
  | 8 => ⟨8, a, b, [], 0, 10, [], []⟩
  | 9 => ⟨9, wName, a, b, 0, 10, [], []⟩
  | 10 => ⟨10, wName, a, [], 0, 10, [], []⟩
  | 11 => ⟨11, a, b, [], 0, 10, [], []⟩
  | 12 => ⟨12, [], [], [], num d, 10, [], []⟩
  | 13 => ⟨13, wName, [], [], 0, 10, [], []⟩
  | 14 => ⟨14, wName, [], [], 0, 10, [], []⟩
  | 15 => ⟨15, wName, [], [], 0, 10, [], []⟩
  | 16 => ⟨16, a, [], [], 0, 10, [], []⟩
  | _ => ⟨17, [], [], [], 0, 10, [], []⟩
theorem name_of {x : List UInt8} (h : (match x with | [] => false | c :: _ => Lx.small c) = true) (h2 : x.all Lx.inName = true) (h3 : x.length ≤ 12) : Lx.Name x := by
  cases x with
  | nil => cases h
  | cons c l => exact ⟨⟨c, l, rfl, h⟩, fun y hy => List.all_eq_true.1 h2 y hy, h3⟩
structure Fit (a b d : List UInt8) : Prop where
  al : a.length ≤ 100
  aq : a.all Lx.mayQ = true
  bl : b.length ≤ 100
  bq : b.all Lx.mayQ = true
  d0 : d ≠ []
  dd : ∀ c ∈ d, Lx.digit c = true
  d9 : d.length ≤ 9
theorem pieces_ok {a b d : List UInt8} (h : Fit a b d) (k : Nat) (hk : 1 ≤ k) (hk2 : k ≤ 17) : ∀ c ∈ pieces k a b d, c.Ok := by
  have hn : ∀ x, (match x with | [] => false | c :: _ => Lx.small c) = true → x.all Lx.inName = true → x.length ≤ 12 → (nameP x).Ok := fun x h1 h2 h3 => nameP_ok (name_of h1 h2 h3)
  have ha := textP_ok h.al h.aq
  have hb := textP_ok h.bl h.bq
  have hd := intP_ok h.d0 h.dd h.d9
  have hs := fun c (hc : Lx.sign c = true) => signP_ok hc
  have nn := hn wName rfl rfl (by decide)
  have hks : k = 1 ∨ k = 2 ∨ k = 3 ∨ k = 4 ∨ k = 5 ∨ k = 6 ∨ k = 7 ∨ k = 8 ∨ k = 9 ∨ k = 10 ∨ k = 11 ∨ k = 12 ∨ k = 13 ∨ k = 14 ∨ k = 15 ∨ k = 16 ∨ k = 17 := by omega
  intro c hc
  rcases hks with rfl | rfl | rfl | rfl | rfl | rfl | rfl | rfl | rfl | rfl | rfl | rfl | rfl | rfl | rfl | rfl | rfl <;> simp only [pieces, List.mem_cons, List.not_mem_nil, or_false] at hc
  all_goals (first | (rcases hc with rfl | rfl | rfl | rfl) | (rcases hc with rfl | rfl | rfl) | (rcases hc with rfl | rfl) | subst hc)
  all_goals (first | exact ha | exact hb | exact hd | exact nn | exact hs _ rfl | exact hn _ rfl rfl (by decide))
theorem signed_ok {a b d : List UInt8} (h : Fit a b d) (k : Nat) (hk : 1 ≤ k) (hk2 : k ≤ 17) : ∀ c ∈ pieces k a b d ++ [signP (lastC k)], c.Ok := fun c hc => by
  rcases List.mem_append.1 hc with hc | hc
  · exact pieces_ok h k hk hk2 c hc
  · rw [List.mem_singleton.1 hc]
    refine signP_ok ?_
    unfold lastC
    split <;> rfl
theorem pieces_few (k : Nat) (a b d : List UInt8) : (pieces k a b d).length ≤ 4 := by
  unfold pieces
  split <;> simp
/-- Read as its shape says. -/
theorem shaped_tops (k : Nat) (a b d : List UInt8) (hk : 1 ≤ k) (hk2 : k ≤ 17) (L : Nat) : tops (fuel (tk 9 (pieces k a b d ++ [signP (lastC k)]) ++ [(⟨0, [], L⟩ : Tok)]).length) [] (tk 9 (pieces k a b d ++ [signP (lastC k)]) ++ [⟨0, [], L⟩]) = .ok ([0], [shaped k a b d]) := by
  have hks : k = 1 ∨ k = 2 ∨ k = 3 ∨ k = 4 ∨ k = 5 ∨ k = 6 ∨ k = 7 ∨ k = 8 ∨ k = 9 ∨ k = 10 ∨ k = 11 ∨ k = 12 ∨ k = 13 ∨ k = 14 ∨ k = 15 ∨ k = 16 ∨ k = 17 := by omega
  rcases hks with rfl | rfl | rfl | rfl | rfl | rfl | rfl | rfl | rfl | rfl | rfl | rfl | rfl | rfl | rfl | rfl | rfl <;> rfl
/-- Without the last sign: nothing. -/
theorem cut_tops (k : Nat) (a b d : List UInt8) (hk : 1 ≤ k) (hk2 : k ≤ 17) (L : Nat) : tops (fuel (tk 9 (pieces k a b d) ++ [(⟨0, [], L⟩ : Tok)]).length) [] (tk 9 (pieces k a b d) ++ [⟨0, [], L⟩]) = .error (L, 20) := by
  have hks : k = 1 ∨ k = 2 ∨ k = 3 ∨ k = 4 ∨ k = 5 ∨ k = 6 ∨ k = 7 ∨ k = 8 ∨ k = 9 ∨ k = 10 ∨ k = 11 ∨ k = 12 ∨ k = 13 ∨ k = 14 ∨ k = 15 ∨ k = 16 ∨ k = 17 := by omega
  rcases hks with rfl | rfl | rfl | rfl | rfl | rfl | rfl | rfl | rfl | rfl | rfl | rfl | rfl | rfl | rfl | rfl | rfl <;> rfl
def ftpS : List UInt8 := [102, 116, 112]
theorem shape_ok {a b d : List UInt8} (h : Fit a b d) (k : Nat) (hk : 1 ≤ k) (hk2 : k ≤ 17) (hl : (begins ftpS ++ str (pieces k a b d ++ [signP (lastC k)])).length ≤ 2000) :
    all (begins ftpS ++ str (pieces k a b d ++ [signP (lastC k)])) = .ok (3, [shaped k a b d], [0]) := by
  have hm : mode ftpS ≠ 0 := by decide
  have h9 : (begins ftpS).length = 9 := rfl
  have ht := toks_pieces _ (signed_ok h k hk hk2) (9 + (str (pieces k a b d ++ [signP (lastC k)])).length) 3 9 [] (.inl rfl) (by have := pieces_few k a b d; rw [List.length_append, List.length_singleton]; omega) (by simp)
  rw [List.append_nil, Lx.toks_nil] at ht
  unfold all
  rw [begins_toks (known_name hm) _ hl, h9, ht]
  show prog (hdr ftpS ++ (tk 9 (pieces k a b d ++ [signP (lastC k)]) ++ [⟨0, [], 9 + (str (pieces k a b d ++ [signP (lastC k)])).length⟩])) = _
  rw [prog_hdr hm]
  unfold rest
  rw [shaped_tops k a b d hk hk2]
  rfl
theorem shape_cut {a b d : List UInt8} (h : Fit a b d) (k : Nat) (hk : 1 ≤ k) (hk2 : k ≤ 17) (hl : (begins ftpS ++ (str (pieces k a b d) ++ [32])).length ≤ 2000) :
    ∃ p, all (begins ftpS ++ (str (pieces k a b d) ++ [32])) = .error (p, 20) := by
  have hm : mode ftpS ≠ 0 := by decide
  have h9 : (begins ftpS).length = 9 := rfl
  have ht := toks_pieces _ (pieces_ok h k hk hk2) (9 + (str (pieces k a b d) ++ [32]).length) 3 9 [32] (.inr rfl) (by have := pieces_few k a b d; omega) (by simp; omega)
  rw [Lx.toks_blank _ _ _ _ (by decide), Lx.toks_nil] at ht
  unfold all
  rw [begins_toks (known_name hm) _ hl, h9, ht]
  show ∃ p, prog (hdr ftpS ++ (tk 9 (pieces k a b d) ++ [⟨0, [], 9 + (str (pieces k a b d) ++ [32]).length⟩])) = _
  rw [prog_hdr hm]
  unfold rest
  rw [cut_tops k a b d hk hk2]
  exact ⟨_, rfl⟩
/-- What is written, and without its last byte. -/
theorem str_snoc : ∀ (cs : List Pc) (c : UInt8), str (cs ++ [signP c]) = str cs ++ [32, c]
  | [], c => rfl
  | x :: cs, c => by
    show 32 :: (x.p ++ str (cs ++ [signP c])) = _
    rw [str_snoc cs c, str, List.cons_append, List.append_assoc]
theorem str_cut (cs : List Pc) (c : UInt8) : (str (cs ++ [signP c])).dropLast = str cs ++ [32] := by
  rw [str_snoc, show str cs ++ [32, c] = (str cs ++ [32]) ++ [c] by simp, List.dropLast_concat]
end Ps
end Go.Proofs.YthlbociimbpgkaaDoor
