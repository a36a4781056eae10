/- The texts LexP, ParseP, ParseFu, ParseJo, ParseMc, ParseIn, Pure, ParseSp, LexQ, ToksP, ParseLx, ParseTw, Rd, Ba, Tk3, RdB, RdCut, Queue, OwnSet, Apart, Foot, one behind the other. -/
import Init
import Derived.WalkKit
import Derived.Lib.Strings
import Derived.Lib.OthersKept
import Derived.Test.YtiikionoagmabaaDoorRows
import Derived.WalkSpells
import Derived.WalkSmall
import Derived.WalkLawsBesides
import Derived.Outline
import Derived.Lib.Hide
import Derived.Laws.CopyOwn
import Derived.Lib.Walk
import Derived.RangeFuncRecord
import Derived.Laws.AppendOwnNone
import Derived.Laws.IdiomStrings
import Derived.Deep.AppendLies
import Derived.ArgAppend
import Derived.Deep.RegionHeld3
/- A script as tokens, in plain words (layer 14). (Laid in round 13, ahead of stage 14.) -/
namespace Go.Proofs.YtiikionoagmabaaDoor
namespace Lx

/-- A token: its kind, its text, its first byte's place. -/
structure Tok where
  kind : Nat
  text : List UInt8
  place : Nat
deriving DecidableEq, Repr

def small (c : UInt8) : Bool := decide (97 ≤ c.toNat) && decide (c.toNat ≤ 122)
def digit (c : UInt8) : Bool := decide (48 ≤ c.toNat) && decide (c.toNat ≤ 57)
def inName (c : UInt8) : Bool := small c || digit c || c == 95
def blank (c : UInt8) : Bool := c == 32 || c == 9 || c == 10 || c == 13
def sign (c : UInt8) : Bool := c == 123 || c == 125 || c == 59 || c == 61
/-- Behind what is passed over; within a remark or not. -/
def skip : Bool → List UInt8 → List UInt8
  | _, [] => []
  | true, c :: l => if c = 10 then skip false l else skip true l
  | false, c :: l => if c = 35 then skip true l else if blank c = true then skip false l else c :: l
/-- What one behind a backslash stands for. -/
def turned (c : UInt8) : Option UInt8 := if c = 92 then some 92 else if c = 34 then some 34 else if c = 110 then some 10 else if c = 114 then some 13 else if c = 116 then some 9 else none
/-- A text's bytes, as they stand for others, and what is behind its end. -/
def txt : List UInt8 → Option (List UInt8 × List UInt8)
  | [] => none
  | c :: l => if c = 34 then some ([], l) else if c.toNat < 32 ∨ 126 < c.toNat then none else
    if c = 92 then (match l with
      | [] => none
      | e :: l => match turned e with
        | none => none
        | some t => (txt l).map fun p => (t :: p.1, p.2))
    else (txt l).map fun p => (c :: p.1, p.2)
/-- The token that begins here, and what is behind it; or how it is wrong. -/
def next (c : UInt8) (l : List UInt8) : Except Nat (Nat × List UInt8 × List UInt8) :=
    if c = 34 then (match txt l with
      | none => .error 11
      | some (t, r) => if 100 < t.length then .error 11 else .ok (3, t, r))
    else if small c = true then
      (if 12 < ((c :: l).takeWhile inName).length then .error 13 else .ok (1, (c :: l).takeWhile inName, (c :: l).dropWhile inName))
    else if digit c = true then
      (if 9 < ((c :: l).takeWhile digit).length then .error 12 else .ok (2, (c :: l).takeWhile digit, (c :: l).dropWhile digit))
    else if sign c = true then .ok (4, [c], l)
    else .error 10

theorem txt_len : ∀ (l : List UInt8) {t r : List UInt8}, txt l = some (t, r) → r.length < l.length ∧ t.length + r.length < l.length
  | [], _, _, h => by cases h
  | c :: l, t, r, h => by
    unfold txt at h
    split at h
    · cases h; simp
    · split at h
      · cases h
      · split at h
        · split at h
          · cases h
          · rename_i e l
            split at h
            · cases h
            · rename_i q hq
              cases hx : txt l with
              | none => rw [hx] at h; cases h
              | some p =>
                rw [hx] at h
                cases h
                have := txt_len l (t := p.1) (r := p.2) (by rw [hx])
                simp only [List.length_cons]
                omega
        · cases hx : txt l with
          | none => rw [hx] at h; cases h
          | some p =>
            rw [hx] at h
            cases h
            have := txt_len l (t := p.1) (r := p.2) (by rw [hx])
            simp only [List.length_cons]
            omega

theorem next_len {c : UInt8} {l : List UInt8} {k : Nat} {t r : List UInt8} (h : next c l = .ok (k, t, r)) : r.length ≤ l.length := by
  unfold next at h
  by_cases c1 : c = 34
  · rw [if_pos c1] at h
    cases hx : txt l with
    | none => rw [hx] at h; cases h
    | some p =>
      rw [hx] at h
      dsimp only at h
      by_cases hb : 100 < p.1.length
      · rw [if_pos hb] at h; cases h
      · rw [if_neg hb] at h
        cases h
        exact Nat.le_of_lt (txt_len l hx).1
  · rw [if_neg c1] at h
    by_cases c2 : small c = true
    · rw [if_pos c2] at h
      by_cases hb : 12 < ((c :: l).takeWhile inName).length
      · rw [if_pos hb] at h; cases h
      · rw [if_neg hb] at h
        cases h
        have : inName c = true := by simp [inName, c2]
        rw [List.dropWhile_cons, this, if_pos rfl]
        exact List.Sublist.length_le (List.dropWhile_sublist _)
    · rw [if_neg c2] at h
      by_cases c3 : digit c = true
      · rw [if_pos c3] at h
        by_cases hb : 9 < ((c :: l).takeWhile digit).length
        · rw [if_pos hb] at h; cases h
        · rw [if_neg hb] at h
          cases h
          rw [List.dropWhile_cons, c3, if_pos rfl]
          exact List.Sublist.length_le (List.dropWhile_sublist _)
      · rw [if_neg c3] at h
        by_cases c4 : sign c = true
        · rw [if_pos c4] at h; cases h; exact Nat.le_refl _
        · rw [if_neg c4] at h; cases h

/-- All tokens from here on: n is how many bytes the source has, k how many tokens were ahead, f bounds the rounds. -/
def go (n : Nat) : Nat → Nat → List UInt8 → Except (Nat × Nat) (List Tok)
  | 0, _, _ => .ok [⟨0, [], n⟩]
  | f + 1, k, l => match l with
    | [] => .ok [⟨0, [], n⟩]
    | c :: l' => match next c l' with
      | .error e => .error (n - (c :: l').length, e)
      | .ok (kd, t, r) => if 400 ≤ k then .error (0, 4) else
        (match go n f (k + 1) (skip false r) with
        | .error x => .error x
        | .ok ts => .ok (⟨kd, t, n - (c :: l').length⟩ :: ts))
def all (l : List UInt8) : Except (Nat × Nat) (List Tok) := if 2000 < l.length then .error (0, 4) else go l.length l.length 0 (skip false l)

theorem skip_len : ∀ (b : Bool) (l : List UInt8), (skip b l).length ≤ l.length
  | _, [] => by simp [skip]
  | true, c :: l => by
    unfold skip
    split
    · have := skip_len false l; simp only [List.length_cons]; omega
    · have := skip_len true l; simp only [List.length_cons]; omega
  | false, c :: l => by
    unfold skip
    split
    · have := skip_len true l; simp only [List.length_cons]; omega
    · split
      · have := skip_len false l; simp only [List.length_cons]; omega
      · exact Nat.le_refl _

/-- Rounds enough are rounds enough. -/
theorem go_fuel (n : Nat) : ∀ (f g k : Nat) (l : List UInt8), l.length ≤ f → l.length ≤ g → go n f k l = go n g k l
  | 0, g, k, l, hf, hg => by
    obtain rfl : l = [] := List.eq_nil_of_length_eq_zero (by omega)
    cases g <;> rfl
  | f + 1, 0, k, l, hf, hg => by
    obtain rfl : l = [] := List.eq_nil_of_length_eq_zero (by omega)
    rfl
  | f + 1, g + 1, k, l, hf, hg => by
    cases l with
    | nil => rfl
    | cons c l =>
      rw [go, go]
      cases hn : next c l with
      | error e => rfl
      | ok x =>
        obtain ⟨kd, t, r⟩ := x
        have h1 := next_len hn
        have h2 := skip_len false r
        dsimp only
        rw [go_fuel n f g (k + 1) (skip false r) (by simp only [List.length_cons] at hf; omega) (by simp only [List.length_cons] at hg; omega)]

/-! What is ahead of a text. -/
theorem skip_gap : ∀ (g : List UInt8), (∀ c ∈ g, blank c = true) → ∀ s, skip false (g ++ s) = skip false s
  | [], _, s => rfl
  | c :: g, h, s => by
    have hc := h c (by simp)
    have h35 : ¬ c = 35 := fun e => by rw [e] at hc; cases hc
    rw [List.cons_append, skip, if_neg h35, if_pos hc]
    exact skip_gap g (fun x hx => h x (by simp [hx])) s
theorem skip_remark : ∀ (g : List UInt8), (∀ c ∈ g, c ≠ 10) → ∀ s, skip true (g ++ 10 :: s) = skip false s
  | [], _, s => by rw [List.nil_append, skip, if_pos rfl]
  | c :: g, h, s => by
    rw [List.cons_append, skip, if_neg (h c (by simp))]
    exact skip_remark g (fun x hx => h x (by simp [hx])) s

/-- Tokens, further behind. -/
def shift (d : Nat) (t : Tok) : Tok := { t with place := t.place + d }
def shiftE (d : Nat) : Except (Nat × Nat) (List Tok) → Except (Nat × Nat) (List Tok)
  | .error (p, e) => .error (if e = 4 then p else p + d, e)
  | .ok ts => .ok (ts.map (shift d))
theorem next_err {c : UInt8} {l : List UInt8} {e : Nat} (h : next c l = .error e) : e ≠ 4 := by
  unfold next at h
  by_cases c1 : c = 34
  · rw [if_pos c1] at h
    cases hx : txt l with
    | none => rw [hx] at h; cases h; decide
    | some p =>
      rw [hx] at h
      dsimp only at h
      by_cases hb : 100 < p.1.length
      · rw [if_pos hb] at h; cases h; decide
      · rw [if_neg hb] at h; cases h
  · rw [if_neg c1] at h
    by_cases c2 : small c = true
    · rw [if_pos c2] at h
      by_cases hb : 12 < ((c :: l).takeWhile inName).length
      · rw [if_pos hb] at h; cases h; decide
      · rw [if_neg hb] at h; cases h
    · rw [if_neg c2] at h
      by_cases c3 : digit c = true
      · rw [if_pos c3] at h
        by_cases hb : 9 < ((c :: l).takeWhile digit).length
        · rw [if_pos hb] at h; cases h; decide
        · rw [if_neg hb] at h; cases h
      · rw [if_neg c3] at h
        by_cases c4 : sign c = true
        · rw [if_pos c4] at h; cases h
        · rw [if_neg c4] at h; cases h; decide
theorem go_shift (n d : Nat) : ∀ (f k : Nat) (l : List UInt8), l.length ≤ n → go (n + d) f k l = shiftE d (go n f k l)
  | 0, k, l, _ => rfl
  | f + 1, k, l, hl => by
    cases l with
    | nil => rfl
    | cons c l =>
      rw [go, go]
      cases hn : next c l with
      | error e =>
        dsimp only
        rw [shiftE, if_neg (next_err hn), show n + d - (c :: l).length = n - (c :: l).length + d by omega]
      | ok x =>
        obtain ⟨kd, t, r⟩ := x
        have h1 := next_len hn
        have h2 := skip_len false r
        simp only [List.length_cons] at hl
        dsimp only
        by_cases hk : 400 ≤ k
        · rw [if_pos hk, if_pos hk]; rfl
        · rw [if_neg hk, if_neg hk, go_shift n d f (k + 1) (skip false r) (by omega)]
          cases go n f (k + 1) (skip false r) with
          | error y => rfl
          | ok ts =>
            simp only [shiftE, List.map_cons, shift, List.length_cons]
            rw [show n + d - (l.length + 1) = n - (l.length + 1) + d by omega]
/-- What is passed over ahead of a text turns nothing but where its tokens are. -/
theorem all_gap (g s : List UInt8) (h : skip false (g ++ s) = skip false s) (hl : (g ++ s).length ≤ 2000) : all (g ++ s) = shiftE g.length (all s) := by
  unfold all
  rw [if_neg (by omega), if_neg (by rw [List.length_append] at hl; omega), h]
  have h2 := skip_len false s
  rw [List.length_append, go_fuel _ (g.length + s.length) s.length 0 _ (by omega) h2, Nat.add_comm g.length, go_shift _ _ _ _ _ h2]

/-! Two texts, an end of a line between. -/
theorem txt_app : ∀ (l : List UInt8) {t r : List UInt8} (u : List UInt8), txt l = some (t, r) → txt (l ++ u) = some (t, r ++ u)
  | [], _, _, _, h => by cases h
  | c :: l, t, r, u, h => by
    rw [List.cons_append]
    unfold txt at h ⊢
    by_cases c1 : c = 34
    · rw [if_pos c1] at h ⊢; cases h; rfl
    · rw [if_neg c1] at h ⊢
      by_cases c2 : c.toNat < 32 ∨ 126 < c.toNat
      · rw [if_pos c2] at h; cases h
      · rw [if_neg c2] at h ⊢
        by_cases c3 : c = 92
        · rw [if_pos c3] at h ⊢
          cases l with
          | nil => cases h
          | cons e l =>
            dsimp only [List.cons_append] at h ⊢
            cases hq : turned e with
            | none => rw [hq] at h; cases h
            | some q =>
              rw [hq] at h
              dsimp only at h ⊢
              cases hx : txt l with
              | none => rw [hx] at h; cases h
              | some p =>
                rw [hx] at h
                cases h
                rw [txt_app l (t := p.1) (r := p.2) u (by rw [hx])]
                rfl
        · rw [if_neg c3] at h ⊢
          cases hx : txt l with
          | none => rw [hx] at h; cases h
          | some p =>
            rw [hx] at h
            cases h
            rw [txt_app l (t := p.1) (r := p.2) u (by rw [hx])]
            rfl
theorem txt_none : ∀ (l : List UInt8) (u : List UInt8), txt l = none → txt (l ++ 10 :: u) = none
  | [], u, _ => by
    show txt (10 :: u) = none
    unfold txt
    rw [if_neg (by decide), if_pos (by decide)]
  | c :: l, u, h => by
    rw [List.cons_append]
    unfold txt at h ⊢
    by_cases c1 : c = 34
    · rw [if_pos c1] at h; cases h
    · rw [if_neg c1] at h ⊢
      by_cases c2 : c.toNat < 32 ∨ 126 < c.toNat
      · rw [if_pos c2]
      · rw [if_neg c2] at h ⊢
        by_cases c3 : c = 92
        · rw [if_pos c3] at h ⊢
          cases l with
          | nil => rfl
          | cons e l =>
            dsimp only [List.cons_append] at h ⊢
            cases hq : turned e with
            | none => rfl
            | some q =>
              rw [hq] at h
              dsimp only at h ⊢
              cases hx : txt l with
              | none => rw [txt_none l u hx]; rfl
              | some p => rw [hx] at h; cases h
        · rw [if_neg c3] at h ⊢
          cases hx : txt l with
          | none => rw [txt_none l u hx]; rfl
          | some p => rw [hx] at h; cases h
theorem skip_app : ∀ (b : Bool) (l : List UInt8) {c : UInt8} {r : List UInt8} (u : List UInt8), skip b l = c :: r → skip b (l ++ u) = c :: (r ++ u)
  | true, [], _, _, _, h => by cases h
  | false, [], _, _, _, h => by cases h
  | true, x :: l, c, r, u, h => by
    rw [skip] at h
    rw [List.cons_append, skip]
    by_cases hx : x = 10
    · rw [if_pos hx] at h ⊢; exact skip_app false l u h
    · rw [if_neg hx] at h ⊢; exact skip_app true l u h
  | false, x :: l, c, r, u, h => by
    rw [skip] at h
    rw [List.cons_append, skip]
    by_cases hx : x = 35
    · rw [if_pos hx] at h ⊢; exact skip_app true l u h
    · rw [if_neg hx] at h ⊢
      by_cases hb : blank x = true
      · rw [if_pos hb] at h ⊢; exact skip_app false l u h
      · rw [if_neg hb] at h ⊢; cases h; rfl
theorem skip_end : ∀ (b : Bool) (l : List UInt8) (u : List UInt8), skip b l = [] → skip b (l ++ 10 :: u) = skip false u
  | true, [], u, _ => by rw [List.nil_append, skip, if_pos rfl]
  | false, [], u, _ => by rw [List.nil_append, skip, if_neg (by decide), if_pos (by decide)]
  | true, x :: l, u, h => by
    rw [skip] at h
    rw [List.cons_append, skip]
    by_cases hx : x = 10
    · rw [if_pos hx] at h ⊢; exact skip_end false l u h
    · rw [if_neg hx] at h ⊢; exact skip_end true l u h
  | false, x :: l, u, h => by
    rw [skip] at h
    rw [List.cons_append, skip]
    by_cases hx : x = 35
    · rw [if_pos hx] at h ⊢; exact skip_end true l u h
    · rw [if_neg hx] at h ⊢
      by_cases hb : blank x = true
      · rw [if_pos hb] at h ⊢; exact skip_end false l u h
      · rw [if_neg hb] at h; cases h
theorem take_app {p : UInt8 → Bool} (hp : p 10 = false) (u : List UInt8) : ∀ l : List UInt8, (l ++ 10 :: u).takeWhile p = l.takeWhile p ∧ (l ++ 10 :: u).dropWhile p = l.dropWhile p ++ 10 :: u
  | [] => by simp [hp]
  | c :: l => by
    obtain ⟨h1, h2⟩ := take_app hp u l
    cases hc : p c
    · simp [hc]
    · simp [hc, h1, h2]
theorem next_app {c : UInt8} {l : List UInt8} {k : Nat} {t r : List UInt8} (u : List UInt8) (h : next c l = .ok (k, t, r)) : next c (l ++ 10 :: u) = .ok (k, t, r ++ 10 :: u) := by
  unfold next at h ⊢
  by_cases c1 : c = 34
  · rw [if_pos c1] at h ⊢
    cases hx : txt l with
    | none => rw [hx] at h; cases h
    | some p =>
      rw [hx] at h
      rw [txt_app l (t := p.1) (r := p.2) (10 :: u) (by rw [hx])]
      dsimp only at h ⊢
      by_cases hb : 100 < p.1.length
      · rw [if_pos hb] at h; cases h
      · rw [if_neg hb] at h ⊢; cases h; rfl
  · rw [if_neg c1] at h ⊢
    obtain ⟨a1, a2⟩ := take_app (p := inName) (by decide) u (c :: l)
    obtain ⟨b1, b2⟩ := take_app (p := digit) (by decide) u (c :: l)
    rw [List.cons_append] at a1 a2 b1 b2
    rw [a1, a2, b1, b2]
    by_cases c2 : small c = true
    · rw [if_pos c2] at h ⊢
      by_cases hb : 12 < ((c :: l).takeWhile inName).length
      · rw [if_pos hb] at h; cases h
      · rw [if_neg hb] at h ⊢; cases h; rfl
    · rw [if_neg c2] at h ⊢
      by_cases c3 : digit c = true
      · rw [if_pos c3] at h ⊢
        by_cases hb : 9 < ((c :: l).takeWhile digit).length
        · rw [if_pos hb] at h; cases h
        · rw [if_neg hb] at h ⊢; cases h; rfl
      · rw [if_neg c3] at h ⊢
        by_cases c4 : sign c = true
        · rw [if_pos c4] at h ⊢; cases h; rfl
        · rw [if_neg c4] at h; cases h
theorem next_bad {c : UInt8} {l : List UInt8} {e : Nat} (u : List UInt8) (h : next c l = .error e) : next c (l ++ 10 :: u) = .error e := by
  unfold next at h ⊢
  by_cases c1 : c = 34
  · rw [if_pos c1] at h ⊢
    cases hx : txt l with
    | none => rw [hx] at h; rw [txt_none l u hx]; exact h
    | some p =>
      rw [hx] at h
      rw [txt_app l (t := p.1) (r := p.2) (10 :: u) (by rw [hx])]
      dsimp only at h ⊢
      by_cases hb : 100 < p.1.length
      · rw [if_pos hb] at h ⊢; exact h
      · rw [if_neg hb] at h; cases h
  · rw [if_neg c1] at h ⊢
    obtain ⟨a1, a2⟩ := take_app (p := inName) (by decide) u (c :: l)
    obtain ⟨b1, b2⟩ := take_app (p := digit) (by decide) u (c :: l)
    rw [List.cons_append] at a1 a2 b1 b2
    rw [a1, a2, b1, b2]
    by_cases c2 : small c = true
    · rw [if_pos c2] at h ⊢
      by_cases hb : 12 < ((c :: l).takeWhile inName).length
      · rw [if_pos hb] at h ⊢; exact h
      · rw [if_neg hb] at h; cases h
    · rw [if_neg c2] at h ⊢
      by_cases c3 : digit c = true
      · rw [if_pos c3] at h ⊢
        by_cases hb : 9 < ((c :: l).takeWhile digit).length
        · rw [if_pos hb] at h ⊢; exact h
        · rw [if_neg hb] at h; cases h
      · rw [if_neg c3] at h ⊢
        by_cases c4 : sign c = true
        · rw [if_pos c4] at h; cases h
        · rw [if_neg c4] at h ⊢; exact h
/-- What is left of the first text, the second behind it. -/
def tailJ (t l : List UInt8) : List UInt8 := match l with
  | [] => skip false t
  | c :: r => c :: r ++ 10 :: t
theorem skip_tailJ (t r : List UInt8) : skip false (r ++ 10 :: t) = tailJ t (skip false r) := by
  cases h : skip false r with
  | nil => exact skip_end false r t h
  | cons c q => exact skip_app false r (10 :: t) h
theorem go_joins (t : List UInt8) (ns : Nat) : ∀ (f k : Nat) (l : List UInt8), l.length ≤ f → l.length ≤ ns → ∀ F, (tailJ t l).length ≤ F →
    go (ns + 1 + t.length) F k (tailJ t l) = match go ns f k l with
      | .error x => .error x
      | .ok ts => (match go (ns + 1 + t.length) t.length (k + (ts.length - 1)) (skip false t) with
        | .error x => .error x
        | .ok bs => .ok (ts.dropLast ++ bs))
  | f, k, [], hf, hn, F, hF => by
    have e : go ns f k [] = .ok [⟨0, [], ns⟩] := by cases f <;> rfl
    rw [e]
    dsimp only
    rw [show tailJ t [] = skip false t from rfl, go_fuel _ F t.length k (skip false t) hF (skip_len false t)]
    simp only [List.length_cons, List.length_nil, Nat.zero_add, Nat.sub_self, Nat.add_zero]
    cases go (ns + 1 + t.length) t.length k (skip false t) with
    | error x => rfl
    | ok bs => rfl
  | 0, k, c :: l, hf, hn, F, hF => by simp at hf
  | f + 1, k, c :: l, hf, hn, 0, hF => by simp [tailJ] at hF
  | f + 1, k, c :: l, hf, hn, F + 1, hF => by
    rw [show tailJ t (c :: l) = c :: (l ++ 10 :: t) from rfl] at hF ⊢
    simp only [List.length_cons, List.length_append] at hF hf hn
    rw [go, go]
    cases hx : next c l with
    | error e =>
      rw [next_bad t hx]
      dsimp only
      rw [show ns + 1 + t.length - (c :: (l ++ 10 :: t)).length = ns - (c :: l).length by simp only [List.length_cons, List.length_append]; omega]
    | ok x =>
      obtain ⟨kd, q, r⟩ := x
      have h1 := next_len hx
      have h2 := skip_len false r
      rw [next_app t hx]
      dsimp only
      by_cases hk : 400 ≤ k
      · rw [if_pos hk, if_pos hk]
      · rw [if_neg hk, if_neg hk, skip_tailJ]
        have h3 : (tailJ t (skip false r)).length ≤ F := by
          rw [← skip_tailJ]
          have := skip_len false (r ++ 10 :: t)
          simp only [List.length_append, List.length_cons] at this
          omega
        rw [go_joins t ns f (k + 1) (skip false r) (by omega) (by omega) F h3]
        cases hg : go ns f (k + 1) (skip false r) with
        | error y => rfl
        | ok ts =>
          dsimp only
          have hne : ts ≠ [] := by
            intro e
            subst e
            clear h3
            revert hg
            generalize skip false r = w
            intro hg
            cases f with
            | zero => cases hg
            | succ f =>
              cases w with
              | nil => cases hg
              | cons c w =>
                rw [go] at hg
                cases hy : next c w with
                | error e => rw [hy] at hg; cases hg
                | ok y =>
                  rw [hy] at hg
                  dsimp only at hg
                  split at hg
                  · cases hg
                  · split at hg <;> cases hg
          obtain ⟨t0, ts0, rfl⟩ := List.exists_cons_of_ne_nil hne
          simp only [List.length_cons, Nat.add_sub_cancel]
          rw [show k + 1 + ts0.length = k + (ts0.length + 1) by omega]
          cases go (ns + 1 + t.length) t.length (k + (ts0.length + 1)) (skip false t) with
          | error x => rfl
          | ok bs =>
            dsimp only
            rw [show ns + 1 + t.length - (l ++ 10 :: t).length.succ = ns - l.length.succ by simp only [List.length_cons, List.length_append]; omega]
            simp

theorem go_ne {n : Nat} : ∀ {f k : Nat} {l : List UInt8} {ts : List Tok}, go n f k l = .ok ts → ts ≠ []
  | 0, k, l, ts, h => by cases h; simp
  | f + 1, k, [], ts, h => by cases h; simp
  | f + 1, k, c :: l, ts, h => by
    rw [go] at h
    cases hy : next c l with
    | error e => rw [hy] at h; cases h
    | ok y =>
      rw [hy] at h
      dsimp only at h
      split at h
      · cases h
      · split at h
        · cases h
        · cases h; simp
/-- Tokens ahead: too many, or the same ones. -/
theorem go_count (n d : Nat) : ∀ (f j : Nat) (l : List UInt8) {ts : List Tok}, go n f j l = .ok ts → go n f (j + d) l = if ts.length = 1 ∨ j + d + (ts.length - 1) ≤ 400 then .ok ts else .error (0, 4)
  | 0, j, l, ts, h => by cases h; rfl
  | f + 1, j, [], ts, h => by cases h; rfl
  | f + 1, j, c :: l, ts, h => by
    rw [go] at h ⊢
    cases hx : next c l with
    | error e => rw [hx] at h; cases h
    | ok x =>
      obtain ⟨kd, q, r⟩ := x
      rw [hx] at h
      dsimp only at h ⊢
      by_cases hk : 400 ≤ j
      · rw [if_pos hk] at h; cases h
      · rw [if_neg hk] at h
        cases hg : go n f (j + 1) (skip false r) with
        | error x => rw [hg] at h; cases h
        | ok ts' =>
          rw [hg] at h
          cases h
          have hne := go_ne hg
          obtain ⟨a, ts'', rfl⟩ := List.exists_cons_of_ne_nil hne
          have ih := go_count n d f (j + 1) (skip false r) hg
          rw [show j + 1 + d = j + d + 1 by omega] at ih
          rw [ih]
          simp only [List.length_cons] at *
          by_cases hd : 400 ≤ j + d
          · rw [if_pos hd, if_neg (by omega)]
          · rw [if_neg hd]
            by_cases hc : ts''.length + 1 = 1 ∨ j + d + 1 + (ts''.length + 1 - 1) ≤ 400
            · rw [if_pos hc, if_pos (by omega)]
            · rw [if_neg hc, if_neg (by omega)]
theorem go_later (n d : Nat) : ∀ (f j : Nat) (l : List UInt8) {x : Nat × Nat}, go n f j l = .error x → go n f (j + d) l = .error x ∨ go n f (j + d) l = .error (0, 4)
  | 0, j, l, x, h => by cases h
  | f + 1, j, [], x, h => by cases h
  | f + 1, j, c :: l, x, h => by
    rw [go] at h ⊢
    cases hx : next c l with
    | error e => rw [hx] at h; exact .inl h
    | ok y =>
      obtain ⟨kd, q, r⟩ := y
      rw [hx] at h
      dsimp only at h ⊢
      by_cases hd : 400 ≤ j + d
      · rw [if_pos hd]; exact .inr rfl
      · rw [if_neg hd]
        rw [if_neg (by omega)] at h
        cases hg : go n f (j + 1) (skip false r) with
        | ok ts => rw [hg] at h; cases h
        | error y =>
          rw [hg] at h
          cases h
          have ih := go_later n d f (j + 1) (skip false r) hg
          rw [show j + 1 + d = j + d + 1 by omega] at ih
          rcases ih with ih | ih
          · rw [ih]; exact .inl rfl
          · rw [ih]; exact .inr rfl

/-- Two texts, an end of a line between: what is told. -/
theorem all_bad {s t : List UInt8} (hl : (s ++ 10 :: t).length ≤ 2000) {x : Nat × Nat} (h : all s = .error x) : all (s ++ 10 :: t) = .error x := by
  have hl2 : s.length + (t.length + 1) ≤ 2000 := by simpa using hl
  unfold all at h ⊢
  rw [if_neg (by omega)] at h
  rw [if_neg (by simp; omega), skip_tailJ, show (s ++ 10 :: t).length = s.length + 1 + t.length by simp; omega,
    go_joins t s.length s.length 0 (skip false s) (skip_len _ _) (skip_len _ _) _ (by rw [← skip_tailJ]; have := skip_len false (s ++ 10 :: t); simp at this; omega), h]
theorem all_join {s t : List UInt8} (hl : (s ++ 10 :: t).length ≤ 2000) {a : List Tok} (h : all s = .ok a) :
    all (s ++ 10 :: t) = match go (s.length + 1 + t.length) t.length (a.length - 1) (skip false t) with
      | .error x => .error x
      | .ok bs => .ok (a.dropLast ++ bs) := by
  have hl2 : s.length + (t.length + 1) ≤ 2000 := by simpa using hl
  unfold all at h ⊢
  rw [if_neg (by omega)] at h
  rw [if_neg (by simp; omega), skip_tailJ, show (s ++ 10 :: t).length = s.length + 1 + t.length by simp; omega,
    go_joins t s.length s.length 0 (skip false s) (skip_len _ _) (skip_len _ _) _ (by rw [← skip_tailJ]; have := skip_len false (s ++ 10 :: t); simp at this; omega), h]
  simp only [Nat.zero_add]
theorem all_go {t : List UInt8} (h : t.length ≤ 2000) (d : Nat) : go (d + t.length) t.length 0 (skip false t) = shiftE d (all t) := by
  unfold all
  rw [if_neg (by omega), Nat.add_comm d, go_shift _ _ _ _ _ (skip_len false t)]
theorem all_ne {s : List UInt8} {a : List Tok} (h : all s = .ok a) : 1 ≤ a.length := by
  unfold all at h
  split at h
  · cases h
  · have := go_ne h
    cases a with
    | nil => exact absurd rfl this
    | cons _ _ => simp
theorem all_both {s t : List UInt8} (hl : (s ++ 10 :: t).length ≤ 2000) {a b : List Tok} (h : all s = .ok a) (h2 : all t = .ok b) :
    all (s ++ 10 :: t) = if 400 < a.length + b.length - 2 then .error (0, 4) else .ok (a.dropLast ++ b.map (shift (s.length + 1))) := by
  have hl2 : s.length + (t.length + 1) ≤ 2000 := by simpa using hl
  have ha := all_ne h
  have hb := all_ne h2
  have hg := all_go (t := t) (by omega) (s.length + 1)
  rw [h2, shiftE] at hg
  have hc := go_count (s.length + 1 + t.length) (a.length - 1) t.length 0 (skip false t) hg
  rw [Nat.zero_add, List.length_map] at hc
  have hk : a.length - 1 ≤ 400 := by
    have h0 := h
    unfold all at h0
    rw [if_neg (by omega)] at h0
    have := go_count s.length 0 s.length 0 (skip false s) h0
    rw [Nat.add_zero, h0] at this
    by_cases hq : a.length = 1 ∨ 0 + (a.length - 1) ≤ 400
    · omega
    · rw [if_neg hq] at this; cases this
  rw [all_join hl h, hc]
  by_cases hx : 400 < a.length + b.length - 2
  · rw [if_pos hx, if_neg (by omega)]
  · rw [if_neg hx, if_pos (by omega)]
theorem all_second {s t : List UInt8} (hl : (s ++ 10 :: t).length ≤ 2000) {a : List Tok} {q f : Nat} (h : all s = .ok a) (h2 : all t = .error (q, f)) :
    all (s ++ 10 :: t) = .error (if f = 4 then q else q + (s.length + 1), f) ∨ (all (s ++ 10 :: t) = .error (0, 4) ∧ 1 < a.length) := by
  have hl2 : s.length + (t.length + 1) ≤ 2000 := by simpa using hl
  have ha := all_ne h
  have hg := all_go (t := t) (by omega) (s.length + 1)
  rw [h2, shiftE] at hg
  rw [all_join hl h]
  by_cases h1 : a.length = 1
  · rw [h1, show 1 - 1 = 0 from rfl, hg]
    exact .inl rfl
  · have := go_later (s.length + 1 + t.length) (a.length - 1) t.length 0 (skip false t) hg
    rw [Nat.zero_add] at this
    rcases this with e | e
    · rw [e]; exact .inl rfl
    · rw [e]; exact .inr ⟨rfl, by omega⟩

/-! Quoted texts. -/
def esc1 (c : UInt8) : List UInt8 := if c = 92 then [92, 92] else if c = 34 then [92, 34] else if c = 10 then [92, 110] else if c = 13 then [92, 114] else if c = 9 then [92, 116] else [c]
def esc (t : List UInt8) : List UInt8 := t.flatMap esc1
def mayQ (c : UInt8) : Bool := (decide (32 ≤ c.toNat) && decide (c.toNat ≤ 126)) || c == 9 || c == 10 || c == 13
/-- P14.3. -/
def quote (t : List UInt8) : Option (List UInt8) := if t.length ≤ 100 ∧ t.all mayQ = true then some (34 :: (esc t ++ [34])) else none
theorem txt_esc : ∀ (t r : List UInt8), t.all mayQ = true → txt (esc t ++ 34 :: r) = some (t, r)
  | [], r, _ => by
    show txt (34 :: r) = _
    unfold txt
    rw [if_pos rfl]
  | c :: t, r, h => by
    rw [List.all_cons, Bool.and_eq_true] at h
    have ih := txt_esc t r h.2
    rw [show esc (c :: t) = esc1 c ++ esc t from rfl, List.append_assoc]
    unfold esc1
    have sp : ∀ e q, turned e = some q → txt ([92, e] ++ (esc t ++ 34 :: r)) = some (q :: t, r) := by
      intro e q he
      show txt (92 :: e :: (esc t ++ 34 :: r)) = _
      unfold txt
      rw [if_neg (by decide), if_neg (by decide), if_pos rfl]
      dsimp only
      rw [he]
      dsimp only
      rw [ih]
      rfl
    by_cases c1 : c = 92
    · subst c1; exact sp 92 92 rfl
    · rw [if_neg c1]
      by_cases c2 : c = 34
      · subst c2; exact sp 34 34 rfl
      · rw [if_neg c2]
        by_cases c3 : c = 10
        · subst c3; exact sp 110 10 rfl
        · rw [if_neg c3]
          by_cases c4 : c = 13
          · subst c4; exact sp 114 13 rfl
          · rw [if_neg c4]
            by_cases c5 : c = 9
            · subst c5; exact sp 116 9 rfl
            · rw [if_neg c5]
              have hb : 32 ≤ c.toNat ∧ c.toNat ≤ 126 := by
                have := h.1
                simp [mayQ, c3, c4, c5] at this
                exact this
              show txt (c :: (esc t ++ 34 :: r)) = _
              unfold txt
              rw [if_neg c2, if_neg (by omega), if_neg c1, ih]
              rfl
theorem esc_len : ∀ t : List UInt8, (esc t).length ≤ 2 * t.length
  | [] => by simp [esc]
  | c :: t => by
    have ih := esc_len t
    rw [show esc (c :: t) = esc1 c ++ esc t from rfl, List.length_append, List.length_cons]
    have : (esc1 c).length ≤ 2 := by
      unfold esc1
      repeat' (first | split | simp)
    omega
/-- What was quoted is one token, of that text, wherever it stands. -/
theorem all_quoted {g t : List UInt8} (hg : ∀ c ∈ g, blank c = true) (hgl : g.length ≤ 1000) (ht : t.length ≤ 100) (hq : t.all mayQ = true) :
    all (g ++ (34 :: (esc t ++ [34]) ++ [59])) = .ok [⟨3, t, g.length⟩, ⟨4, [59], g.length + (esc t).length + 2⟩, ⟨0, [], g.length + (esc t).length + 3⟩] := by
  have he := esc_len t
  have h1 : all (34 :: (esc t ++ [34]) ++ [59]) = .ok [⟨3, t, 0⟩, ⟨4, [59], (esc t).length + 2⟩, ⟨0, [], (esc t).length + 3⟩] := by
    have hs : 34 :: (esc t ++ [34]) ++ [59] = 34 :: (esc t ++ 34 :: [59]) := by simp
    rw [hs]
    unfold all
    rw [if_neg (by simp; omega), show skip false (34 :: (esc t ++ 34 :: [59])) = 34 :: (esc t ++ 34 :: [59]) by rw [skip, if_neg (by decide), if_neg (by decide)]]
    rw [show (34 :: (esc t ++ 34 :: [59])).length = (esc t).length + 1 + 1 + 1 by simp, go]
    have hn : next 34 (esc t ++ 34 :: [59]) = .ok (3, t, [59]) := by
      unfold next
      rw [if_pos rfl, txt_esc t [59] hq]
      dsimp only
      rw [if_neg (by omega)]
    rw [hn]
    dsimp only
    rw [if_neg (by omega), show skip false [59] = [59] from rfl, go, show next 59 [] = .ok (4, [59], []) from rfl]
    dsimp only
    rw [if_neg (by omega), show skip false [] = [] from rfl, go]
    simp
  rw [all_gap g _ (skip_gap g hg _) (by simp; omega), h1, shiftE]
  simp [shift]
  omega

/-! Names and ints, the longest that can begin. -/
theorem rep_take {p : UInt8 → Bool} {c e : UInt8} (hc : p c = true) (he : p e = false) (u : List UInt8) : ∀ n, (List.replicate n c ++ e :: u).takeWhile p = List.replicate n c ∧ (List.replicate n c ++ e :: u).dropWhile p = e :: u
  | 0 => by simp [he]
  | n + 1 => by
    obtain ⟨h1, h2⟩ := rep_take hc he u n
    rw [List.replicate_succ, List.cons_append, List.takeWhile_cons, List.dropWhile_cons, hc, if_pos rfl, if_pos rfl, h1, h2]
    exact ⟨rfl, rfl⟩
theorem rep_all {p : UInt8 → Bool} {c : UInt8} (hc : p c = true) : ∀ n, (List.replicate n c).takeWhile p = List.replicate n c ∧ (List.replicate n c).dropWhile p = []
  | 0 => by simp
  | n + 1 => by
    obtain ⟨h1, h2⟩ := rep_all hc n
    rw [List.replicate_succ, List.takeWhile_cons, List.dropWhile_cons, hc, if_pos rfl, if_pos rfl, h1, h2]
    exact ⟨rfl, rfl⟩
def word (n m : Nat) : List UInt8 := List.replicate n 97 ++ 61 :: List.replicate m 55
theorem next_name (n : Nat) (u : List UInt8) : next 97 (List.replicate n 97 ++ 61 :: u) = if 12 < n + 1 then .error 13 else .ok (1, List.replicate (n + 1) 97, 61 :: u) := by
  unfold next
  obtain ⟨h1, h2⟩ := rep_take (p := inName) (c := 97) (e := 61) (by decide) (by decide) u (n + 1)
  rw [List.replicate_succ, List.cons_append] at h1 h2
  rw [if_neg (by decide), if_pos (by decide), h1, h2]
  simp only [List.length_cons, List.length_replicate]
  rfl
theorem next_int (m : Nat) : next 55 (List.replicate m 55) = if 9 < m + 1 then .error 12 else .ok (2, List.replicate (m + 1) 55, []) := by
  unfold next
  obtain ⟨h1, h2⟩ := rep_all (p := digit) (c := 55) (by decide) (m + 1)
  rw [List.replicate_succ] at h1 h2
  rw [if_neg (by decide), if_neg (by decide), if_pos (by decide), h1, h2]
  simp only [List.length_cons, List.length_replicate]
  rfl
theorem word_long {n m : Nat} (hn : 12 < n) (hl : n + m + 1 ≤ 2000) : all (word n m) = .error (0, 13) := by
  obtain ⟨k, rfl⟩ : ∃ k, n = k + 1 := ⟨n - 1, by omega⟩
  have hlen : (word (k + 1) m).length = k + 1 + (m + 1) := by simp [word]
  unfold all
  rw [hlen, if_neg (by omega)]
  have hs : skip false (word (k + 1) m) = word (k + 1) m := by
    rw [word, List.replicate_succ, List.cons_append, skip, if_neg (by decide), if_neg (by decide)]
  rw [hs, show k + 1 + (m + 1) = k + m + 1 + 1 by omega, word, List.replicate_succ, List.cons_append, go, next_name, if_pos hn]
  simp only [List.length_cons, List.length_append, List.length_replicate]
  rw [show k + m + 1 + 1 - (k + (m + 1) + 1) = 0 by omega]
theorem word_step {n m : Nat} (h1 : 1 ≤ n) (hn : n ≤ 12) (hl : n + m + 1 ≤ 2000) (hm : 1 ≤ m) :
    all (word n m) = if 9 < m then .error (n + 1, 12) else .ok [⟨1, List.replicate n 97, 0⟩, ⟨4, [61], n⟩, ⟨2, List.replicate m 55, n + 1⟩, ⟨0, [], n + m + 1⟩] := by
  obtain ⟨k, rfl⟩ : ∃ k, n = k + 1 := ⟨n - 1, by omega⟩
  obtain ⟨j, rfl⟩ : ∃ j, m = j + 1 := ⟨m - 1, by omega⟩
  have hlen : (word (k + 1) (j + 1)).length = k + 1 + (j + 1 + 1) := by simp [word]
  unfold all
  rw [hlen, if_neg (by omega)]
  have hs : skip false (word (k + 1) (j + 1)) = word (k + 1) (j + 1) := by
    rw [word, List.replicate_succ, List.cons_append, skip, if_neg (by decide), if_neg (by decide)]
  have hs2 : skip false (61 :: List.replicate (j + 1) 55) = 61 :: List.replicate (j + 1) 55 := by rw [skip, if_neg (by decide), if_neg (by decide)]
  have hs3 : skip false (List.replicate (j + 1) 55) = 55 :: List.replicate j 55 := by rw [List.replicate_succ, skip, if_neg (by decide), if_neg (by decide)]
  have hx : next 61 (List.replicate (j + 1) 55) = .ok (4, [61], List.replicate (j + 1) 55) := by
    unfold next
    rw [if_neg (by decide), if_neg (by decide), if_neg (by decide), if_pos (by decide)]
  rw [hs, show k + 1 + (j + 1 + 1) = k + j + 1 + 1 + 1 by omega, word]
  conv => lhs; rw [List.replicate_succ, List.cons_append]
  rw [go, next_name, if_neg (by omega)]
  dsimp only
  rw [if_neg (by omega), hs2, show k + j + 1 + 1 = k + j + 1 + 1 from rfl, go, hx]
  dsimp only
  rw [if_neg (by omega), hs3, go, next_int]
  by_cases h9 : 9 < j + 1
  · rw [if_pos h9, if_pos h9]
    simp only [List.length_cons, List.length_replicate]
    rw [show k + j + 1 + 1 + 1 - (j + 1) = k + 1 + 1 by omega]
  · rw [if_neg h9, if_neg h9]
    dsimp only
    rw [if_neg (by omega), show skip false [] = [] from rfl]
    have e : go (k + j + 1 + 1 + 1) (k + j) (0 + 1 + 1 + 1) [] = .ok [⟨0, [], k + j + 1 + 1 + 1⟩] := by
      cases k + j <;> rfl
    rw [e]
    simp only [List.length_cons, List.length_append, List.length_replicate]
    rw [show k + j + 1 + 1 + 1 - (k + (j + 1 + 1) + 1) = 0 by omega, show k + j + 1 + 1 + 1 - (j + 1 + 1) = k + 1 by omega, show k + j + 1 + 1 + 1 - (j + 1) = k + 1 + 1 by omega, show k + 1 + (j + 1) + 1 = k + j + 1 + 1 + 1 by omega]
theorem all_shown : all [108, 101, 116, 32, 97, 32, 61, 32, 34, 120, 34, 59] = .ok [⟨1, [108, 101, 116], 0⟩, ⟨1, [97], 4⟩, ⟨4, [61], 6⟩, ⟨3, [120], 8⟩, ⟨4, [59], 11⟩, ⟨0, [], 12⟩] := rfl
theorem quote_none {t : List UInt8} : quote t = none ↔ ¬ (t.length ≤ 100 ∧ t.all mayQ = true) := by
  unfold quote
  split <;> simp_all
end Lx
end Go.Proofs.YtiikionoagmabaaDoor

/- Tokens as statements, in plain words (layer 15). (Laid in round 14, ahead of stage 15.) -/
namespace Go.Proofs.YtiikionoagmabaaDoor
namespace Ps
open Lx (Tok)

/-- What follows a statement's first word: a name, a text, an int, one of three names, a sign. -/
inductive W where
  | n | t | i | w
  | s (c : UInt8)
deriving DecidableEq

/-- A statement. -/
structure St where
  kind : Nat
  s : List UInt8
  t : List UInt8
  u : List UInt8
  n : Nat
  place : Nat
  l : List Nat
  m : List Nat
deriving DecidableEq, Repr

def wLet : List UInt8 := [108, 101, 116]
def wIf : List UInt8 := [105, 102]
def wElse : List UInt8 := [101, 108, 115, 101]
def wMode : List UInt8 := [109, 111, 100, 101]
def wCap : List UInt8 := [99, 97, 112]
def wCode : List UInt8 := [99, 111, 100, 101]
def wText : List UInt8 := [116, 101, 120, 116]
/-- The first word of each statement. -/
def firsts : List (List UInt8) := [wLet, [103, 114, 101, 101, 116], [115, 101, 110, 100], [99, 97, 112, 115], wIf, [112, 105, 112, 101], [97, 117, 116, 104], [100, 97, 116, 97], [98, 111, 100, 121], [103, 101, 116], [112, 117, 116], [116, 105, 109, 101, 111, 117, 116], [108, 97, 98, 101, 108], [103, 111, 116, 111], [111, 110], [112, 114, 105, 110, 116], [115, 116, 111, 112]]
def kindIn (x : List UInt8) : Nat → List (List UInt8) → Nat
  | _, [] => 0
  | k, y :: l => if x = y then k else kindIn x (k + 1) l
/-- Of which kind a statement is that begins with this name; 0: none. -/
def kindOf (x : List UInt8) : Nat := kindIn x 1 firsts
def mode (x : List UInt8) : Nat := if x = [115, 109, 116, 112] then 1 else if x = [112, 111, 112, 51] then 2 else if x = [102, 116, 112] then 3 else 0
def shape : Nat → List W
  | 1 => [.n, .s 61, .t, .s 59]
  | 2 => [.t, .s 59]
  | 3 => [.t, .t, .s 59]
  | 4 => [.t, .t, .s 59]
  | 5 => [.w, .t]
  | 6 => [.i]
  | 7 => [.n, .t, .t, .s 59]
  | 8 => [.t, .t, .s 59]
  | 9 => [.n, .t, .t, .s 59]
  | 10 => [.n, .t, .s 59]
  | 11 => [.t, .t, .s 59]
  | 12 => [.i, .s 59]
  | 13 => [.n, .s 59]
  | 14 => [.n, .s 59]
  | 15 => [.n, .s 59]
  | 16 => [.t, .s 59]
  | 17 => [.s 59]
  | _ => []
def num (l : List UInt8) : Nat := l.foldl (fun a c => a * 10 + (c.toNat - 48)) 0
def isSign (c : UInt8) (t : Tok) : Bool := t.kind == 4 && t.text == [c]
def isName (x : List UInt8) (t : Tok) : Bool := t.kind == 1 && t.text == x
def fits (x : W) (t : Tok) : Bool := match x with
  | .n => t.kind == 1
  | .t => t.kind == 3
  | .i => t.kind == 2
  | .w => isName wCap t || isName wCode t || isName wText t
  | .s c => isSign c t
/-- What a token adds to the texts, and to the number. -/
def addW (x : W) (t : Tok) (ws : List (List UInt8)) : List (List UInt8) := match x with
  | .n => t.text :: ws
  | .t => t.text :: ws
  | .w => t.text :: ws
  | .i => ws
  | .s _ => ws
def addN (x : W) (t : Tok) (n : Nat) : Nat := match x with
  | .i => num t.text
  | _ => n
/-- The tokens behind a statement's first word. -/
def words : List W → List Tok → Except (Nat × Nat) (List (List UInt8) × Nat × List Tok)
  | [], ts => .ok ([], 0, ts)
  | _ :: _, [] => .error (0, 20)
  | x :: xs, t :: ts => if fits x t = true then (match words xs ts with
    | .error e => .error e
    | .ok (ws, n, r) => .ok (addW x t ws, addN x t n, r)) else .error (t.place, 20)
def mk (k p : Nat) (ws : List (List UInt8)) (n : Nat) (l m : List Nat) : St :=
  if k = 2 then ⟨k, [], ws.getD 0 [], ws.getD 2 [], n, p, l, m⟩ else ⟨k, ws.getD 0 [], ws.getD 1 [], ws.getD 2 [], n, p, l, m⟩

/-- Does an else come next? -/
def elseNext (r : List Tok) : Bool := match r with
  | [] => false
  | u :: _ => isName wElse u
abbrev Res (α : Type) := Except (Nat × Nat) α
mutual
/-- A statement, within d brackets: its place in the row, the row, what is left. -/
def one : Nat → Nat → List St → List Tok → Res (Nat × List St × List Tok)
  | 0, _, _, _ => .error (0, 99)
  | _ + 1, _, _, [] => .error (0, 20)
  | f + 1, d, row, t :: ts =>
    if t.kind = 1 ∧ kindOf t.text ≠ 0 then (match words (shape (kindOf t.text)) ts with
      | .error e => .error e
      | .ok (ws, n, r) =>
        if kindOf t.text = 5 ∨ kindOf t.text = 6 then (match block f d row r with
          | .error e => .error e
          | .ok (l, row1, r1) =>
            if kindOf t.text = 5 ∧ elseNext r1 = true then (match block f d row1 r1.tail with
              | .error e => .error e
              | .ok (m, row2, r2) => .ok (row2.length, row2 ++ [mk (kindOf t.text) t.place ws n l m], r2))
            else .ok (row1.length, row1 ++ [mk (kindOf t.text) t.place ws n l []], r1))
        else .ok (row.length, row ++ [mk (kindOf t.text) t.place ws n [] []], r))
    else .error (t.place, 20)
/-- Statements within a bracket. -/
def block : Nat → Nat → List St → List Tok → Res (List Nat × List St × List Tok)
  | 0, _, _, _ => .error (0, 99)
  | _ + 1, _, _, [] => .error (0, 20)
  | f + 1, d, row, t :: ts => if isSign 123 t = true then (if 8 ≤ d then .error (t.place, 21) else many f (d + 1) row ts) else .error (t.place, 20)
def many : Nat → Nat → List St → List Tok → Res (List Nat × List St × List Tok)
  | 0, _, _, _ => .error (0, 99)
  | _ + 1, _, _, [] => .error (0, 20)
  | f + 1, d, row, t :: ts => if isSign 125 t = true then .ok ([], row, ts) else (match one f d row (t :: ts) with
    | .error e => .error e
    | .ok (i, row1, r1) => (match many f d row1 r1 with
      | .error e => .error e
      | .ok (l, row2, r2) => .ok (i :: l, row2, r2)))
end
/-- Statements up to the end. -/
def tops : Nat → List St → List Tok → Res (List Nat × List St)
  | 0, _, _ => .error (0, 99)
  | _ + 1, _, [] => .error (0, 20)
  | f + 1, row, t :: ts => if t.kind = 0 then .ok ([], row) else (match one f 0 row (t :: ts) with
    | .error e => .error e
    | .ok (i, row1, r1) => (match tops f row1 r1 with
      | .error e => .error e
      | .ok (l, row2) => .ok (i :: l, row2)))
/-- Rounds enough for so many tokens. -/
def fuel (n : Nat) : Nat := 3 * n + 3
/-- The head of a script: its protocol, what is left. -/
def head : List Tok → Res (Nat × List Tok)
  | t0 :: ts => if isName wMode t0 = true then (match ts with
    | t1 :: ts => if t1.kind = 1 ∧ mode t1.text ≠ 0 then (match ts with
      | t2 :: ts => if isSign 59 t2 = true then .ok (mode t1.text, ts) else .error (t2.place, 20)
      | [] => .error (0, 20)) else .error (t1.place, 20)
    | [] => .error (0, 20)) else .error (t0.place, 20)
  | [] => .error (0, 20)
def prog (ts : List Tok) : Res (Nat × List St × List Nat) := match head ts with
  | .error e => .error e
  | .ok (md, r) => (match tops (fuel r.length) [] r with
    | .error e => .error e
    | .ok (l, row) => if 100 < row.length then .error (0, 4) else .ok (md, row, l))
/-- P15.2. -/
def all (src : List UInt8) : Res (Nat × List St × List Nat) := match Lx.all src with
  | .error e => .error e
  | .ok ts => prog ts

/-- Is it just this? (Reckoned by the kernel.) -/
def isOk {α : Type} [DecidableEq α] (r : Res α) (x : α) : Bool := match r with
  | .ok y => decide (y = x)
  | .error _ => false
def isErr {α : Type} (r : Res α) (x : Nat × Nat) : Bool := match r with
  | .ok _ => false
  | .error y => decide (y = x)
theorem of_isOk {α : Type} [DecidableEq α] {r : Res α} {x : α} (h : isOk r x = true) : r = .ok x := by
  cases r with
  | error e => cases h
  | ok y => simp [isOk] at h; rw [h]
theorem of_isErr {α : Type} {r : Res α} {x : Nat × Nat} (h : isErr r x = true) : r = .error x := by
  cases r with
  | ok y => cases h
  | error e => simp [isErr] at h; rw [h]
theorem all_shown : all [109, 111, 100, 101, 32, 102, 116, 112, 59, 32, 105, 102, 32, 99, 97, 112, 32, 34, 97, 34, 32, 123, 32, 115, 116, 111, 112, 59, 32, 125] = .ok (3, [⟨17, [], [], [], 0, 23, [], []⟩, ⟨5, wCap, [97], [], 0, 10, [0], []⟩], [1]) := of_isOk (by decide +kernel)
end Ps
end Go.Proofs.YtiikionoagmabaaDoor

/- Rounds enough are rounds enough; what is told hangs on what is read alone (layer 15). (Laid in round 14, ahead of stage 15.) -/
namespace Go.Proofs.YtiikionoagmabaaDoor
namespace Ps
open Lx (Tok)

/-- Not for want of rounds. -/
def Done {α : Type} (x : Res α) : Prop := x ≠ .error (0, 99)
theorem done_err {α β : Type} {e : Nat × Nat} (h : Done (.error e : Res α)) : Done (.error e : Res β) := fun h2 => h (by cases h2; rfl)
theorem done_no {α : Type} {p c : Nat} (h : c ≠ 99) : Done (.error (p, c) : Res α) := fun h2 => h (by cases h2; rfl)
theorem done_ok {α : Type} (y : α) : Done (.ok y : Res α) := fun h => by cases h

theorem more_all : ∀ f, (∀ d row ts, Done (one f d row ts) → one (f + 1) d row ts = one f d row ts) ∧ (∀ d row ts, Done (block f d row ts) → block (f + 1) d row ts = block f d row ts) ∧ (∀ d row ts, Done (many f d row ts) → many (f + 1) d row ts = many f d row ts)
  | 0 => ⟨fun d row ts h => absurd (by rw [one]) h, fun d row ts h => absurd (by rw [block]) h, fun d row ts h => absurd (by rw [many]) h⟩
  | f + 1 => by
    obtain ⟨i1, i2, i3⟩ := more_all f
    refine ⟨fun d row ts h => ?_, fun d row ts h => ?_, fun d row ts h => ?_⟩
    · cases ts with
      | nil => rw [one, one]
      | cons t ts =>
        rw [one] at h ⊢
        conv => rhs; rw [one]
        by_cases h1 : t.kind = 1 ∧ kindOf t.text ≠ 0
        · rw [if_pos h1] at h ⊢
          rw [if_pos h1]
          cases hw : words (shape (kindOf t.text)) ts with
          | error e => rfl
          | ok x =>
            obtain ⟨ws, n, q⟩ := x
            rw [hw] at h
            dsimp only at h ⊢
            by_cases h2 : kindOf t.text = 5 ∨ kindOf t.text = 6
            · rw [if_pos h2] at h ⊢
              rw [if_pos h2]
              have hb : Done (block f d row q) := fun e => by rw [e] at h; exact h rfl
              rw [i2 _ _ _ hb]
              cases hb1 : block f d row q with
              | error e => rfl
              | ok y =>
                obtain ⟨l, row1, r1⟩ := y
                rw [hb1] at h
                dsimp only at h ⊢
                by_cases h3 : kindOf t.text = 5 ∧ elseNext r1 = true
                · rw [if_pos h3] at h ⊢
                  rw [if_pos h3]
                  have hb2 : Done (block f d row1 r1.tail) := fun e => by rw [e] at h; exact h rfl
                  rw [i2 _ _ _ hb2]
                · rw [if_neg h3, if_neg h3]
            · rw [if_neg h2, if_neg h2]
        · rw [if_neg h1, if_neg h1]
    · cases ts with
      | nil => rw [block, block]
      | cons t ts =>
        rw [block] at h ⊢
        conv => rhs; rw [block]
        by_cases h1 : isSign 123 t = true
        · rw [if_pos h1] at h ⊢
          rw [if_pos h1]
          by_cases h2 : 8 ≤ d
          · rw [if_pos h2, if_pos h2]
          · rw [if_neg h2] at h ⊢
            rw [if_neg h2]
            exact i3 _ _ _ h
        · rw [if_neg h1, if_neg h1]
    · cases ts with
      | nil => rw [many, many]
      | cons t ts =>
        rw [many] at h ⊢
        conv => rhs; rw [many]
        by_cases h1 : isSign 125 t = true
        · rw [if_pos h1, if_pos h1]
        · rw [if_neg h1] at h ⊢
          rw [if_neg h1]
          have ho : Done (one f d row (t :: ts)) := fun e => by rw [e] at h; exact h rfl
          rw [i1 _ _ _ ho]
          cases ho1 : one f d row (t :: ts) with
          | error e => rfl
          | ok x =>
            obtain ⟨i, row1, r1⟩ := x
            rw [ho1] at h
            dsimp only at h ⊢
            have hm : Done (many f d row1 r1) := fun e => by rw [e] at h; exact h rfl
            rw [i3 _ _ _ hm]
theorem one_ge {f g d : Nat} {row : List St} {ts : List Tok} (h : Done (one f d row ts)) (hg : f ≤ g) : one g d row ts = one f d row ts := by
  induction g with
  | zero => rw [show f = 0 by omega]
  | succ g ih =>
    by_cases e : f = g + 1
    · rw [e]
    · have e2 := ih (by omega)
      rw [(more_all g).1 _ _ _ (by rw [e2]; exact h), e2]
theorem block_ge {f g d : Nat} {row : List St} {ts : List Tok} (h : Done (block f d row ts)) (hg : f ≤ g) : block g d row ts = block f d row ts := by
  induction g with
  | zero => rw [show f = 0 by omega]
  | succ g ih =>
    by_cases e : f = g + 1
    · rw [e]
    · have e2 := ih (by omega)
      rw [(more_all g).2.1 _ _ _ (by rw [e2]; exact h), e2]
theorem many_ge {f g d : Nat} {row : List St} {ts : List Tok} (h : Done (many f d row ts)) (hg : f ≤ g) : many g d row ts = many f d row ts := by
  induction g with
  | zero => rw [show f = 0 by omega]
  | succ g ih =>
    by_cases e : f = g + 1
    · rw [e]
    · have e2 := ih (by omega)
      rw [(more_all g).2.2 _ _ _ (by rw [e2]; exact h), e2]
theorem tops_more : ∀ f row ts, Done (tops f row ts) → tops (f + 1) row ts = tops f row ts
  | 0, row, ts, h => absurd (by rw [tops]) h
  | f + 1, row, [], h => by rw [tops, tops]
  | f + 1, row, t :: ts, h => by
    rw [tops] at h ⊢
    conv => rhs; rw [tops]
    by_cases h1 : t.kind = 0
    · rw [if_pos h1, if_pos h1]
    · rw [if_neg h1] at h ⊢
      rw [if_neg h1]
      have ho : Done (one f 0 row (t :: ts)) := fun e => by rw [e] at h; exact h rfl
      rw [(more_all f).1 _ _ _ ho]
      cases ho1 : one f 0 row (t :: ts) with
      | error e => rfl
      | ok x =>
        obtain ⟨i, row1, r1⟩ := x
        rw [ho1] at h
        dsimp only at h ⊢
        have hm : Done (tops f row1 r1) := fun e => by rw [e] at h; exact h rfl
        rw [tops_more f _ _ hm]
theorem tops_ge {f g : Nat} {row : List St} {ts : List Tok} (h : Done (tops f row ts)) (hg : f ≤ g) : tops g row ts = tops f row ts := by
  induction g with
  | zero => rw [show f = 0 by omega]
  | succ g ih =>
    by_cases e : f = g + 1
    · rw [e]
    · have e2 := ih (by omega)
      rw [tops_more g _ _ (by rw [e2]; exact h), e2]

/-! How much is left; rounds enough. -/
theorem words_len : ∀ (xs : List W) (ts : List Tok) {ws : List (List UInt8)} {n : Nat} {r : List Tok}, words xs ts = .ok (ws, n, r) → r.length + xs.length = ts.length
  | [], ts, _, _, _, h => by cases h; rfl
  | x :: xs, [], _, _, _, h => by cases h
  | x :: xs, t :: ts, _, _, _, h => by
    rw [words] at h
    split at h
    · cases hw : words xs ts with
      | error e => rw [hw] at h; cases h
      | ok y =>
        obtain ⟨ws, n, r⟩ := y
        rw [hw] at h
        cases h
        have := words_len xs ts hw
        simp only [List.length_cons]
        omega
    · cases h
theorem words_err : ∀ (xs : List W) (ts : List Tok) {x : Nat × Nat}, words xs ts = .error x → x.2 = 20
  | [], ts, _, h => by cases h
  | x :: xs, [], _, h => by cases h; rfl
  | x :: xs, t :: ts, _, h => by
    rw [words] at h
    split at h
    · cases hw : words xs ts with
      | error e => rw [hw] at h; cases h; exact words_err xs ts hw
      | ok y => obtain ⟨ws, n, r⟩ := y; rw [hw] at h; cases h
    · cases h; rfl
theorem left_all : ∀ f, (∀ d row ts i row' r, one f d row ts = .ok (i, row', r) → r.length + 1 ≤ ts.length) ∧ (∀ d row ts l row' r, block f d row ts = .ok (l, row', r) → r.length + 2 ≤ ts.length) ∧ (∀ d row ts l row' r, many f d row ts = .ok (l, row', r) → r.length + 1 ≤ ts.length)
  | 0 => ⟨fun d row ts i row' r h => (by rw [one] at h; cases h), fun d row ts l row' r h => (by rw [block] at h; cases h), fun d row ts l row' r h => (by rw [many] at h; cases h)⟩
  | f + 1 => by
    obtain ⟨i1, i2, i3⟩ := left_all f
    refine ⟨fun d row ts i row' r h => ?_, fun d row ts l row' r h => ?_, fun d row ts l row' r h => ?_⟩
    · cases ts with
      | nil => rw [one] at h; cases h
      | cons t ts =>
        rw [one] at h
        split at h
        · cases hw : words (shape (kindOf t.text)) ts with
          | error e => rw [hw] at h; cases h
          | ok x =>
            obtain ⟨ws, n, q⟩ := x
            have hq := words_len _ _ hw
            rw [hw] at h
            dsimp only at h
            split at h
            · cases hb : block f d row q with
              | error e => rw [hb] at h; cases h
              | ok y =>
                obtain ⟨l, row1, r1⟩ := y
                have hl := i2 _ _ _ _ _ _ hb
                rw [hb] at h
                dsimp only at h
                by_cases h3 : kindOf t.text = 5 ∧ elseNext r1 = true
                · rw [if_pos h3] at h
                  cases hb2 : block f d row1 r1.tail with
                  | error e => rw [hb2] at h; cases h
                  | ok z =>
                    obtain ⟨m, row2, r2⟩ := z
                    have hl2 := i2 _ _ _ _ _ _ hb2
                    rw [hb2] at h
                    cases h
                    rw [List.length_tail] at hl2
                    simp only [List.length_cons]; omega
                · rw [if_neg h3] at h
                  cases h
                  simp only [List.length_cons]; omega
            · cases h
              simp only [List.length_cons]; omega
        · cases h
    · cases ts with
      | nil => rw [block] at h; cases h
      | cons t ts =>
        rw [block] at h
        split at h
        · split at h
          · cases h
          · have := i3 _ _ _ _ _ _ h
            simp only [List.length_cons]; omega
        · cases h
    · cases ts with
      | nil => rw [many] at h; cases h
      | cons t ts =>
        rw [many] at h
        split at h
        · cases h; simp
        · cases ho : one f d row (t :: ts) with
          | error e => rw [ho] at h; cases h
          | ok x =>
            obtain ⟨i, row1, r1⟩ := x
            have h1 := i1 _ _ _ _ _ _ ho
            rw [ho] at h
            dsimp only at h
            cases hm : many f d row1 r1 with
            | error e => rw [hm] at h; cases h
            | ok y =>
              obtain ⟨l', row2, r2⟩ := y
              have h2 := i3 _ _ _ _ _ _ hm
              rw [hm] at h
              cases h
              simp only [List.length_cons] at *; omega
theorem enough_all : ∀ f, (∀ d row ts, 3 * ts.length + 1 ≤ f → Done (one f d row ts)) ∧ (∀ d row ts, 3 * ts.length + 1 ≤ f → Done (block f d row ts)) ∧ (∀ d row ts, 3 * ts.length + 2 ≤ f → Done (many f d row ts))
  | 0 => ⟨fun d row ts h => (by omega), fun d row ts h => (by omega), fun d row ts h => (by omega)⟩
  | f + 1 => by
    obtain ⟨i1, i2, i3⟩ := enough_all f
    refine ⟨fun d row ts h => ?_, fun d row ts h => ?_, fun d row ts h => ?_⟩
    · cases ts with
      | nil => rw [one]; exact done_no (by decide)
      | cons t ts =>
        simp only [List.length_cons] at h
        rw [one]
        split
        · cases hw : words (shape (kindOf t.text)) ts with
          | error e =>
            intro h9
            have := words_err _ _ hw
            cases h9
            cases this
          | ok x =>
            obtain ⟨ws, n, q⟩ := x
            have hq := words_len _ _ hw
            dsimp only
            split
            · have hd := i2 d row q (by omega)
              cases hb : block f d row q with
              | error e => rw [hb] at hd; exact done_err hd
              | ok y =>
                obtain ⟨l, row1, r1⟩ := y
                have hl := (left_all f).2.1 _ _ _ _ _ _ hb
                dsimp only
                by_cases h3 : kindOf t.text = 5 ∧ elseNext r1 = true
                · rw [if_pos h3]
                  have hd2 := i2 d row1 r1.tail (by rw [List.length_tail]; omega)
                  cases hb2 : block f d row1 r1.tail with
                  | error e => rw [hb2] at hd2; exact done_err hd2
                  | ok z => exact done_ok _
                · rw [if_neg h3]; exact done_ok _
            · exact done_ok _
        · exact done_no (by decide)
    · cases ts with
      | nil => rw [block]; exact done_no (by decide)
      | cons t ts =>
        simp only [List.length_cons] at h
        rw [block]
        split
        · split
          · exact done_no (by decide)
          · exact i3 _ _ _ (by omega)
        · exact done_no (by decide)
    · cases ts with
      | nil => rw [many]; exact done_no (by decide)
      | cons t ts =>
        simp only [List.length_cons] at h
        rw [many]
        split
        · exact done_ok _
        · have hd := i1 d row (t :: ts) (by simp only [List.length_cons]; omega)
          cases ho : one f d row (t :: ts) with
          | error e => rw [ho] at hd; exact done_err hd
          | ok x =>
            obtain ⟨i, row1, r1⟩ := x
            have h1 := (left_all f).1 _ _ _ _ _ _ ho
            simp only [List.length_cons] at h1
            dsimp only
            have hd2 := i3 d row1 r1 (by omega)
            cases hm : many f d row1 r1 with
            | error e => rw [hm] at hd2; exact done_err hd2
            | ok y => exact done_ok _
theorem enough_tops : ∀ f row ts, 3 * ts.length + 2 ≤ f → Done (tops f row ts)
  | 0, row, ts, h => (by omega)
  | f + 1, row, [], h => by rw [tops]; exact done_no (by decide)
  | f + 1, row, t :: ts, h => by
    simp only [List.length_cons] at h
    rw [tops]
    split
    · exact done_ok _
    · have hd := (enough_all f).1 0 row (t :: ts) (by simp only [List.length_cons]; omega)
      cases ho : one f 0 row (t :: ts) with
      | error e => rw [ho] at hd; exact done_err hd
      | ok x =>
        obtain ⟨i, row1, r1⟩ := x
        have h1 := (left_all f).1 _ _ _ _ _ _ ho
        simp only [List.length_cons] at h1
        dsimp only
        have hd2 := enough_tops f row1 r1 (by omega)
        cases hm : tops f row1 r1 with
        | error e => rw [hm] at hd2; exact done_err hd2
        | ok y => exact done_ok _
end Ps
end Go.Proofs.YtiikionoagmabaaDoor

/- A script, and another one behind it: in plain words (layer 15). (Laid in round 14, ahead of stage 15.) -/
namespace Go.Proofs.YtiikionoagmabaaDoor
namespace Ps
open Lx (Tok)

/-! What is read of tokens ahead of an end is read of them ahead of others, too. -/
theorem fits_end {x : W} {z : Tok} (h : z.kind = 0) : fits x z = false := by
  cases x <;> simp [fits, isName, isSign, h]
theorem words_app : ∀ (xs : List W) (a : List Tok) {z : Tok} (_ : z.kind = 0) {ws : List (List UInt8)} {n : Nat} {r : List Tok}, words xs (a ++ [z]) = .ok (ws, n, r) → ∃ a', r = a' ++ [z] ∧ a' <:+ a ∧ ∀ b, words xs (a ++ b) = .ok (ws, n, a' ++ b)
  | [], a, z, _, _, _, _, h => by cases h; exact ⟨a, rfl, List.suffix_refl _, fun b => rfl⟩
  | x :: xs, [], z, hz, _, _, _, h => by
    rw [List.nil_append, words, if_neg (by rw [fits_end hz]; decide)] at h
    cases h
  | x :: xs, t :: a, z, hz, _, _, _, h => by
    rw [List.cons_append, words] at h
    by_cases hf : fits x t = true
    · rw [if_pos hf] at h
      cases hw : words xs (a ++ [z]) with
      | error e => rw [hw] at h; cases h
      | ok y =>
        obtain ⟨ws, n, r⟩ := y
        rw [hw] at h
        cases h
        obtain ⟨a', h1, hs, h2⟩ := words_app xs a hz hw
        exact ⟨a', h1, hs.trans (List.suffix_cons _ _), fun b => by rw [List.cons_append, words, if_pos hf, h2]⟩
    · rw [if_neg hf] at h; cases h
theorem else_app {a : List Tok} {z : Tok} {b : List Tok} (hz : z.kind = 0) (hb : elseNext b = false) : elseNext (a ++ b) = elseNext (a ++ [z]) := by
  cases a with
  | nil => rw [List.nil_append, hb]; simp [elseNext, isName, hz]
  | cons t a => rfl
theorem app_all {z : Tok} (hz : z.kind = 0) {b : List Tok} (hb : elseNext b = false) : ∀ f, (∀ d row a i row' r, one f d row (a ++ [z]) = .ok (i, row', r) → ∃ a', r = a' ++ [z] ∧ a' <:+ a ∧ one f d row (a ++ b) = .ok (i, row', a' ++ b)) ∧
    (∀ d row a l row' r, block f d row (a ++ [z]) = .ok (l, row', r) → ∃ a', r = a' ++ [z] ∧ a' <:+ a ∧ block f d row (a ++ b) = .ok (l, row', a' ++ b)) ∧ (∀ d row a l row' r, many f d row (a ++ [z]) = .ok (l, row', r) → ∃ a', r = a' ++ [z] ∧ a' <:+ a ∧ many f d row (a ++ b) = .ok (l, row', a' ++ b))
  | 0 => ⟨fun d row a i row' r h => (by rw [one] at h; cases h), fun d row a l row' r h => (by rw [block] at h; cases h), fun d row a l row' r h => (by rw [many] at h; cases h)⟩
  | f + 1 => by
    obtain ⟨i1, i2, i3⟩ := app_all hz hb f
    refine ⟨fun d row a i row' r h => ?_, fun d row a l row' r h => ?_, fun d row a l row' r h => ?_⟩
    · cases a with
      | nil =>
        rw [List.nil_append, one, if_neg (by rw [hz]; simp)] at h
        cases h
      | cons t a =>
        rw [List.cons_append, one] at h ⊢
        by_cases h1 : t.kind = 1 ∧ kindOf t.text ≠ 0
        · rw [if_pos h1] at h ⊢
          cases hw : words (shape (kindOf t.text)) (a ++ [z]) with
          | error e => rw [hw] at h; cases h
          | ok x =>
            obtain ⟨ws, n, q⟩ := x
            obtain ⟨a1, rfl, s1, hw2⟩ := words_app _ _ hz hw
            rw [hw] at h
            rw [hw2]
            dsimp only at h ⊢
            by_cases h2 : kindOf t.text = 5 ∨ kindOf t.text = 6
            · rw [if_pos h2] at h ⊢
              cases hb1 : block f d row (a1 ++ [z]) with
              | error e => rw [hb1] at h; cases h
              | ok y =>
                obtain ⟨l, row1, r1⟩ := y
                obtain ⟨a2, rfl, s2, hb2⟩ := i2 _ _ _ _ _ _ hb1
                rw [hb1] at h
                rw [hb2]
                dsimp only at h ⊢
                rw [else_app hz hb]
                by_cases h3 : kindOf t.text = 5 ∧ elseNext (a2 ++ [z]) = true
                · rw [if_pos h3] at h ⊢
                  cases a2 with
                  | nil => exact absurd h3.2 (by simp [elseNext, isName, hz])
                  | cons u a2 =>
                    simp only [List.cons_append, List.tail_cons] at h ⊢
                    cases hb3 : block f d row1 (a2 ++ [z]) with
                    | error e => rw [hb3] at h; cases h
                    | ok y =>
                      obtain ⟨m, row2, r2⟩ := y
                      obtain ⟨a3, rfl, s3, hb4⟩ := i2 _ _ _ _ _ _ hb3
                      rw [hb3] at h
                      rw [hb4]
                      cases h
                      exact ⟨a3, rfl, s3.trans ((List.suffix_cons _ _).trans (s2.trans (s1.trans (List.suffix_cons _ _)))), rfl⟩
                · rw [if_neg h3] at h ⊢
                  cases h
                  exact ⟨a2, rfl, s2.trans (s1.trans (List.suffix_cons _ _)), rfl⟩
            · rw [if_neg h2] at h ⊢
              cases h
              exact ⟨a1, rfl, s1.trans (List.suffix_cons _ _), rfl⟩
        · rw [if_neg h1] at h; cases h
    · cases a with
      | nil =>
        rw [List.nil_append, block, if_neg (by simp [isSign, hz])] at h
        cases h
      | cons t a =>
        rw [List.cons_append, block] at h ⊢
        by_cases h1 : isSign 123 t = true
        · rw [if_pos h1] at h ⊢
          by_cases h2 : 8 ≤ d
          · rw [if_pos h2] at h; cases h
          · rw [if_neg h2] at h ⊢
            obtain ⟨a1, h3, s1, h4⟩ := i3 _ _ _ _ _ _ h
            exact ⟨a1, h3, s1.trans (List.suffix_cons _ _), h4⟩
        · rw [if_neg h1] at h; cases h
    · cases a with
      | nil =>
        rw [List.nil_append, many, if_neg (by simp [isSign, hz])] at h
        cases ho : one f d row [z] with
        | error e => rw [ho] at h; cases h
        | ok x =>
          obtain ⟨i, row1, r1⟩ := x
          exfalso
          cases f with
          | zero => rw [one] at ho; cases ho
          | succ f => rw [one, if_neg (by rw [hz]; simp)] at ho; cases ho
      | cons t a =>
        rw [List.cons_append, many] at h ⊢
        by_cases h1 : isSign 125 t = true
        · rw [if_pos h1] at h ⊢
          cases h
          exact ⟨a, rfl, List.suffix_cons _ _, rfl⟩
        · rw [if_neg h1] at h ⊢
          cases ho : one f d row (t :: (a ++ [z])) with
          | error e => rw [ho] at h; cases h
          | ok x =>
            obtain ⟨i, row1, r1⟩ := x
            obtain ⟨a1, rfl, s1, ho2⟩ := i1 _ _ (t :: a) _ _ _ ho
            rw [ho] at h
            rw [← List.cons_append, ho2]
            dsimp only at h ⊢
            cases hm : many f d row1 (a1 ++ [z]) with
            | error e => rw [hm] at h; cases h
            | ok y =>
              obtain ⟨l', row2, r2⟩ := y
              obtain ⟨a2, rfl, s2, hm2⟩ := i3 _ _ _ _ _ _ hm
              rw [hm] at h
              rw [hm2]
              cases h
              exact ⟨a2, rfl, s2.trans s1, rfl⟩
/-- Statements up to the end, and others behind them. -/
theorem tops_app {z : Tok} (hz : z.kind = 0) {b : List Tok} (hb : elseNext b = false) : ∀ (f : Nat) (row : List St) (a : List Tok) {l : List Nat} {row1 : List St}, (∀ t ∈ a, t.kind ≠ 0) → tops f row (a ++ [z]) = .ok (l, row1) →
    ∀ (g : Nat) (l2 : List Nat) (row2 : List St), tops g row1 b = .ok (l2, row2) → ∃ g', tops g' row (a ++ b) = .ok (l ++ l2, row2)
  | 0, row, a, l, row1, _, h => by rw [tops] at h; cases h
  | f + 1, row, [], l, row1, _, h => fun g l2 row2 h2 => by
    rw [List.nil_append, tops, if_pos hz] at h
    cases h
    exact ⟨_, by rw [List.nil_append, List.nil_append]; exact h2⟩
  | f + 1, row, t :: a, l, row1, ha, h => fun g l2 row2 h2 => by
    rw [List.cons_append, tops, if_neg (ha t (by simp))] at h
    cases ho : one f 0 row (t :: (a ++ [z])) with
    | error e => rw [ho] at h; cases h
    | ok x =>
      obtain ⟨i, rowa, r1⟩ := x
      obtain ⟨a1, rfl, s1, ho2⟩ := (app_all hz hb f).1 _ _ (t :: a) _ _ _ ho
      rw [ho] at h
      dsimp only at h
      cases hm : tops f rowa (a1 ++ [z]) with
      | error e => rw [hm] at h; cases h
      | ok y =>
        obtain ⟨l', rowb⟩ := y
        rw [hm] at h
        cases h
        have hsuf : ∀ u ∈ a1, u ∈ t :: a := fun u hu => s1.subset hu
        obtain ⟨g', hg⟩ := tops_app hz hb f rowa a1 (fun u hu => ha u (hsuf u hu)) hm g l2 row2 h2
        refine ⟨max f g' + 1, ?_⟩
        rw [List.cons_append, tops, if_neg (ha t (by simp))]
        rw [one_ge (by rw [← List.cons_append, ho2]; exact done_ok _) (Nat.le_max_left f g'), ← List.cons_append, ho2]
        dsimp only
        rw [tops_ge (by rw [hg]; exact done_ok _) (Nat.le_max_right f g'), hg]
        rfl

/-! Tokens further behind, a row that has others ahead. -/
def mv (c D : Nat) (s : St) : St := { s with place := s.place + D, l := s.l.map (· + c), m := s.m.map (· + c) }
theorem mk_mv (k p : Nat) (ws : List (List UInt8)) (n : Nat) (l m : List Nat) (c D : Nat) : mv c D (mk k p ws n l m) = mk k (p + D) ws n (l.map (· + c)) (m.map (· + c)) := by
  unfold mk mv
  split <;> rfl
theorem fits_shift (x : W) (t : Tok) (D : Nat) : fits x (Lx.shift D t) = fits x t := by cases x <;> rfl
theorem words_shift (D : Nat) : ∀ (xs : List W) (ts : List Tok) {ws : List (List UInt8)} {n : Nat} {r : List Tok}, words xs ts = .ok (ws, n, r) → words xs (ts.map (Lx.shift D)) = .ok (ws, n, r.map (Lx.shift D))
  | [], ts, _, _, _, h => by cases h; rfl
  | x :: xs, [], _, _, _, h => by cases h
  | x :: xs, t :: ts, _, _, _, h => by
    rw [words] at h
    rw [List.map_cons, words, fits_shift]
    by_cases hf : fits x t = true
    · rw [if_pos hf] at h ⊢
      cases hw : words xs ts with
      | error e => rw [hw] at h; cases h
      | ok y =>
        obtain ⟨ws, n, r⟩ := y
        rw [hw] at h
        cases h
        rw [words_shift D xs ts hw]
        cases x <;> rfl
    · rw [if_neg hf] at h; cases h
theorem else_shift (r : List Tok) (D : Nat) : elseNext (r.map (Lx.shift D)) = elseNext r := by cases r <;> rfl
theorem shift_all (P : List St) (D : Nat) : ∀ f, (∀ d row ts i row' r, one f d row ts = .ok (i, row', r) → one f d (P ++ row.map (mv P.length D)) (ts.map (Lx.shift D)) = .ok (i + P.length, P ++ row'.map (mv P.length D), r.map (Lx.shift D))) ∧
    (∀ d row ts l row' r, block f d row ts = .ok (l, row', r) → block f d (P ++ row.map (mv P.length D)) (ts.map (Lx.shift D)) = .ok (l.map (· + P.length), P ++ row'.map (mv P.length D), r.map (Lx.shift D))) ∧
    (∀ d row ts l row' r, many f d row ts = .ok (l, row', r) → many f d (P ++ row.map (mv P.length D)) (ts.map (Lx.shift D)) = .ok (l.map (· + P.length), P ++ row'.map (mv P.length D), r.map (Lx.shift D)))
  | 0 => ⟨fun d row ts i row' r h => (by rw [one] at h; cases h), fun d row ts l row' r h => (by rw [block] at h; cases h), fun d row ts l row' r h => (by rw [many] at h; cases h)⟩
  | f + 1 => by
    obtain ⟨i1, i2, i3⟩ := shift_all P D f
    have len : ∀ row : List St, (P ++ row.map (mv P.length D)).length = row.length + P.length := fun row => by rw [List.length_append, List.length_map]; omega
    have app : ∀ (row : List St) s, P ++ (row ++ [s]).map (mv P.length D) = P ++ row.map (mv P.length D) ++ [mv P.length D s] := fun row s => by simp
    refine ⟨fun d row ts i row' r h => ?_, fun d row ts l row' r h => ?_, fun d row ts l row' r h => ?_⟩
    · cases ts with
      | nil => rw [one] at h; cases h
      | cons t ts =>
        rw [one] at h
        rw [List.map_cons, one]
        show (if t.kind = 1 ∧ kindOf t.text ≠ 0 then _ else _) = _
        by_cases h1 : t.kind = 1 ∧ kindOf t.text ≠ 0
        · rw [if_pos h1] at h; refine (if_pos h1).trans ?_
          show (match words (shape (kindOf t.text)) (ts.map (Lx.shift D)) with | .error e => _ | .ok (ws, n, r) => _) = _
          cases hw : words (shape (kindOf t.text)) ts with
          | error e => rw [hw] at h; cases h
          | ok x =>
            obtain ⟨ws, n, q⟩ := x
            rw [hw] at h
            rw [words_shift D _ _ hw]
            dsimp only [Lx.shift] at h ⊢
            by_cases h2 : kindOf t.text = 5 ∨ kindOf t.text = 6
            · rw [if_pos h2] at h; refine (if_pos h2).trans ?_
              cases hb : block f d row q with
              | error e => rw [hb] at h; cases h
              | ok y =>
                obtain ⟨l, row1, r1⟩ := y
                rw [hb] at h
                rw [i2 _ _ _ _ _ _ hb]
                dsimp only at h ⊢
                rw [else_shift]
                by_cases h3 : kindOf t.text = 5 ∧ elseNext r1 = true
                · rw [if_pos h3] at h; refine (if_pos h3).trans ?_
                  cases hb2 : block f d row1 r1.tail with
                  | error e => rw [hb2] at h; cases h
                  | ok z =>
                    obtain ⟨m, row2, r2⟩ := z
                    rw [hb2] at h
                    have := i2 _ _ _ _ _ _ hb2
                    rw [List.map_tail] at this
                    rw [this]
                    cases h
                    dsimp only
                    rw [len, app, mk_mv]
                · rw [if_neg h3] at h; refine (if_neg h3).trans ?_
                  cases h
                  rw [len, app, mk_mv]
                  rfl
            · rw [if_neg h2] at h; refine (if_neg h2).trans ?_
              cases h
              rw [len, app, mk_mv]
              rfl
        · rw [if_neg h1] at h; cases h
    · cases ts with
      | nil => rw [block] at h; cases h
      | cons t ts =>
        rw [block] at h
        rw [List.map_cons, block]
        show (if isSign 123 t = true then _ else _) = _
        by_cases h1 : isSign 123 t = true
        · rw [if_pos h1] at h; refine (if_pos h1).trans ?_
          by_cases h2 : 8 ≤ d
          · rw [if_pos h2] at h; cases h
          · rw [if_neg h2] at h; refine (if_neg h2).trans ?_
            exact i3 _ _ _ _ _ _ h
        · rw [if_neg h1] at h; cases h
    · cases ts with
      | nil => rw [many] at h; cases h
      | cons t ts =>
        rw [many] at h
        rw [List.map_cons, many]
        show (if isSign 125 t = true then _ else _) = _
        by_cases h1 : isSign 125 t = true
        · rw [if_pos h1] at h; refine (if_pos h1).trans ?_
          cases h
          rfl
        · rw [if_neg h1] at h; refine (if_neg h1).trans ?_
          cases ho : one f d row (t :: ts) with
          | error e => rw [ho] at h; cases h
          | ok x =>
            obtain ⟨i, row1, r1⟩ := x
            rw [ho] at h
            have := i1 _ _ _ _ _ _ ho
            rw [List.map_cons] at this
            rw [this]
            dsimp only at h ⊢
            cases hm : many f d row1 r1 with
            | error e => rw [hm] at h; cases h
            | ok y =>
              obtain ⟨l', row2, r2⟩ := y
              rw [hm] at h
              rw [i3 _ _ _ _ _ _ hm]
              cases h
              rfl
theorem tops_shift (P : List St) (D : Nat) : ∀ (f : Nat) (row : List St) (ts : List Tok) {l : List Nat} {row' : List St}, tops f row ts = .ok (l, row') → tops f (P ++ row.map (mv P.length D)) (ts.map (Lx.shift D)) = .ok (l.map (· + P.length), P ++ row'.map (mv P.length D))
  | 0, row, ts, _, _, h => by rw [tops] at h; cases h
  | f + 1, row, [], _, _, h => by rw [tops] at h; cases h
  | f + 1, row, t :: ts, _, _, h => by
    rw [tops] at h
    rw [List.map_cons, tops]
    show (if t.kind = 0 then _ else _) = _
    by_cases h1 : t.kind = 0
    · rw [if_pos h1] at h; refine (if_pos h1).trans ?_
      cases h
      rfl
    · rw [if_neg h1] at h; refine (if_neg h1).trans ?_
      cases ho : one f 0 row (t :: ts) with
      | error e => rw [ho] at h; cases h
      | ok x =>
        obtain ⟨i, row1, r1⟩ := x
        rw [ho] at h
        have := (shift_all P D f).1 _ _ _ _ _ _ ho
        rw [List.map_cons] at this
        rw [this]
        dsimp only at h ⊢
        cases hm : tops f row1 r1 with
        | error e => rw [hm] at h; cases h
        | ok y =>
          obtain ⟨l', row2⟩ := y
          rw [hm] at h
          rw [tops_shift P D f _ _ hm]
          cases h
          rfl
end Ps
end Go.Proofs.YtiikionoagmabaaDoor

/- The statements read by a row of halves instead of by recursion: the same answer (layer 15, plain). -/
namespace Go.Proofs.YtiikionoagmabaaDoor
namespace Ps
open Lx (Tok)

def oneR (d : Nat) (row : List St) (ts : List Tok) := one (3 * ts.length + 1) d row ts
def blockR (d : Nat) (row : List St) (ts : List Tok) := block (3 * ts.length + 1) d row ts
def manyR (d : Nat) (row : List St) (ts : List Tok) := many (3 * ts.length + 2) d row ts
def topsR (row : List St) (ts : List Tok) := tops (3 * ts.length + 2) row ts
theorem oneR_of {f d : Nat} {row : List St} {ts : List Tok} (h : 3 * ts.length + 1 ≤ f) : one f d row ts = oneR d row ts := one_ge ((enough_all _).1 d row ts (Nat.le_refl _)) h
theorem blockR_of {f d : Nat} {row : List St} {ts : List Tok} (h : 3 * ts.length + 1 ≤ f) : block f d row ts = blockR d row ts := block_ge ((enough_all _).2.1 d row ts (Nat.le_refl _)) h
theorem manyR_of {f d : Nat} {row : List St} {ts : List Tok} (h : 3 * ts.length + 2 ≤ f) : many f d row ts = manyR d row ts := many_ge ((enough_all _).2.2 d row ts (Nat.le_refl _)) h
theorem topsR_of {f : Nat} {row : List St} {ts : List Tok} (h : 3 * ts.length + 2 ≤ f) : tops f row ts = topsR row ts := tops_ge (enough_tops _ row ts (Nat.le_refl _)) h

/-- An opening bracket, d of them being open. -/
def brace (d : Nat) : List Tok → Res (List Tok)
  | [] => .error (0, 20)
  | t :: ts => if isSign 123 t = true then (if 8 ≤ d then .error (t.place, 21) else .ok ts) else .error (t.place, 20)
/-- A statement up to its end, or its bracket. -/
def headM (d : Nat) : List Tok → Res (St × List Tok)
  | [] => .error (0, 20)
  | t :: ts => if t.kind = 1 ∧ kindOf t.text ≠ 0 then (match words (shape (kindOf t.text)) ts with
      | .error e => .error e
      | .ok (ws, n, r) => if kindOf t.text = 5 ∨ kindOf t.text = 6 then (match brace d r with
          | .error e => .error e
          | .ok r' => .ok (mk (kindOf t.text) t.place ws n [] [], r'))
        else .ok (mk (kindOf t.text) t.place ws n [] [], r))
    else .error (t.place, 20)
/-- A statement whose bracket is open; behind its else or not. -/
structure Hf where
  st : St
  els : Bool
def addL (h : Hf) (l : List Nat) : Hf := if h.els = true then ⟨{ h.st with m := h.st.m ++ l }, h.els⟩ else ⟨{ h.st with l := h.st.l ++ l }, h.els⟩
abbrev Out := Res (List St × List Nat)
/-- Behind a closing bracket. -/
def fin (k : List Nat → List St → List Nat → List Tok → Out) (d : Nat) (h : Hf) (row : List St) (top : List Nat) (r : List Tok) : Out :=
  if h.st.kind = 5 ∧ h.els = false ∧ elseNext r = true then (match blockR d row r.tail with
    | .error e => .error e
    | .ok (m, row2, r2) => k [row2.length] (row2 ++ [{ h.st with m := h.st.m ++ m }]) top r2)
  else k [row.length] (row ++ [h.st]) top r
/-- What all comes to, from within open brackets (the innermost first) on. -/
def run : List Hf → List Nat → List St → List Nat → List Tok → Out
  | [], p, row, top, ts => (match topsR row ts with
    | .error e => .error e
    | .ok (l, row') => .ok (row', top ++ p ++ l))
  | h :: S, p, row, top, ts => (match manyR (S.length + 1) row ts with
    | .error e => .error e
    | .ok (l, row1, r1) => fin (run S) S.length (addL h (p ++ l)) row1 top r1)
/-- A place is put into what it stands within. -/
def bump (n : Nat) : List Hf → List Hf
  | [] => []
  | h :: S => addL h [n] :: S
def bumpT (n : Nat) (S : List Hf) (top : List Nat) : List Nat := if S = [] then top ++ [n] else top
theorem addL_nil (h : Hf) : addL h [] = h := by
  unfold addL
  split <;> simp
theorem addL_addL (h : Hf) (a b : List Nat) : addL (addL h a) b = addL h (a ++ b) := by
  unfold addL
  cases h.els <;> simp
theorem addL_els (h : Hf) (a : List Nat) : (addL h a).els = h.els := by unfold addL; split <;> rfl
theorem addL_kind (h : Hf) (a : List Nat) : (addL h a).st.kind = h.st.kind := by unfold addL; split <;> rfl
theorem run_put (S : List Hf) (n : Nat) (row : List St) (top : List Nat) (ts : List Tok) : run S [n] row top ts = run (bump n S) [] row (bumpT n S top) ts := by
  cases S with
  | nil => simp [run, bump, bumpT]
  | cons h S =>
    simp only [run, bump, bumpT]
    cases manyR (S.length + 1) row ts with
    | error e => rfl
    | ok x =>
      obtain ⟨l, row1, r1⟩ := x
      simp only [addL_addL, List.nil_append]
      rfl
theorem run_end {row : List St} {top : List Nat} {t : Tok} {ts : List Tok} (h : t.kind = 0) : run [] [] row top (t :: ts) = .ok (row, top) := by
  rw [run, topsR, List.length_cons, show 3 * (ts.length + 1) + 2 = (3 * ts.length + 4) + 1 by omega, tops, if_pos h]
  simp
theorem run_close {h : Hf} {S : List Hf} {row : List St} {top : List Nat} {t : Tok} {ts : List Tok} (hc : isSign 125 t = true) : run (h :: S) [] row top (t :: ts) = fin (run S) S.length h row top ts := by
  rw [run, manyR, List.length_cons, show 3 * (ts.length + 1) + 2 = (3 * ts.length + 4) + 1 by omega, many, if_pos hc]
  simp [addL_nil]
theorem many_step {d : Nat} {row : List St} {t : Tok} {ts : List Tok} (hc : isSign 125 t = false) : manyR d row (t :: ts) = (match oneR d row (t :: ts) with
    | .error e => .error e
    | .ok (i, row1, r1) => (match manyR d row1 r1 with
      | .error e => .error e
      | .ok (l, row2, r2) => .ok (i :: l, row2, r2))) := by
  rw [manyR, List.length_cons, show 3 * (ts.length + 1) + 2 = (3 * ts.length + 4) + 1 by omega, many, if_neg (by rw [hc]; decide), oneR_of (by rw [List.length_cons]; omega)]
  cases ho : oneR d row (t :: ts) with
  | error e => rfl
  | ok x =>
    obtain ⟨i, row1, r1⟩ := x
    have h1 := (left_all _).1 _ _ _ _ _ _ ho
    simp only [List.length_cons] at h1
    dsimp only
    rw [manyR_of (by omega)]
    cases manyR d row1 r1 <;> rfl
theorem tops_step {row : List St} {t : Tok} {ts : List Tok} (hc : t.kind ≠ 0) : topsR row (t :: ts) = (match oneR 0 row (t :: ts) with
    | .error e => .error e
    | .ok (i, row1, r1) => (match topsR row1 r1 with
      | .error e => .error e
      | .ok (l, row2) => .ok (i :: l, row2))) := by
  rw [topsR, List.length_cons, show 3 * (ts.length + 1) + 2 = (3 * ts.length + 4) + 1 by omega, tops, if_neg hc, oneR_of (by rw [List.length_cons]; omega)]
  cases ho : oneR 0 row (t :: ts) with
  | error e => rfl
  | ok x =>
    obtain ⟨i, row1, r1⟩ := x
    have h1 := (left_all _).1 _ _ _ _ _ _ ho
    simp only [List.length_cons] at h1
    dsimp only
    rw [topsR_of (by omega)]
    cases topsR row1 r1 <;> rfl
theorem block_step (d : Nat) (row : List St) (ts : List Tok) : blockR d row ts = (match brace d ts with
    | .error e => .error e
    | .ok r => manyR (d + 1) row r) := by
  cases ts with
  | nil => rw [blockR, List.length_nil, block]; rfl
  | cons t ts =>
    rw [blockR, List.length_cons, show 3 * (ts.length + 1) + 1 = (3 * ts.length + 3) + 1 by omega, block, brace, manyR_of (by omega)]
    split
    · split <;> rfl
    · rfl
theorem mk_kind3 (k p : Nat) (ws : List (List UInt8)) (n : Nat) (l m : List Nat) : (mk k p ws n l m).kind = k ∧ (mk k p ws n l m).l = l ∧ (mk k p ws n l m).m = m := by unfold mk; split <;> exact ⟨rfl, rfl, rfl⟩
theorem mk_lm (k p : Nat) (ws : List (List UInt8)) (n : Nat) (l m l' m' : List Nat) : mk k p ws n l m = { mk k p ws n l' m' with l := l, m := m } := by unfold mk; split <;> rfl
theorem mk_l (k p : Nat) (ws : List (List UInt8)) (n : Nat) (l m l' : List Nat) : mk k p ws n l m = { mk k p ws n l' m with l := l } := by unfold mk; split <;> rfl
theorem brace_len {d : Nat} {r r' : List Tok} (h : brace d r = .ok r') : r'.length + 1 = r.length := by
  cases r with
  | nil => cases h
  | cons t ts =>
    rw [brace] at h
    split at h
    · split at h
      · cases h
      · cases h; rfl
    · cases h
/-- What a statement is, once it is whole. -/
theorem one_step (d : Nat) (row : List St) (ts : List Tok) : oneR d row ts = (match headM d ts with
    | .error e => .error e
    | .ok (st, r) => if st.kind = 5 ∨ st.kind = 6 then (match manyR (d + 1) row r with
        | .error e => .error e
        | .ok (l, row1, r1) => if st.kind = 5 ∧ elseNext r1 = true then (match blockR d row1 r1.tail with
            | .error e => .error e
            | .ok (m, row2, r2) => .ok (row2.length, row2 ++ [{ st with l := l, m := m }], r2))
          else .ok (row1.length, row1 ++ [{ st with l := l }], r1))
      else .ok (row.length, row ++ [st], r)) := by
  cases ts with
  | nil => rw [oneR, List.length_nil, one]; rfl
  | cons t ts =>
    rw [oneR, List.length_cons, show 3 * (ts.length + 1) + 1 = (3 * ts.length + 3) + 1 by omega, one, headM]
    by_cases h1 : t.kind = 1 ∧ kindOf t.text ≠ 0
    · rw [if_pos h1, if_pos h1]
      cases hw : words (shape (kindOf t.text)) ts with
      | error e => rfl
      | ok x =>
        obtain ⟨ws, n, r⟩ := x
        have hlen := words_len _ _ hw
        have hk := fun l m => mk_kind3 (kindOf t.text) t.place ws n l m
        dsimp only
        by_cases h5 : kindOf t.text = 5 ∨ kindOf t.text = 6
        · rw [if_pos h5, if_pos h5, blockR_of (by omega), block_step]
          cases hb : brace d r with
          | error e => rfl
          | ok r' =>
            dsimp only
            rw [if_pos (by rw [(hk _ _).1]; exact h5)]
            cases hm : manyR (d + 1) row r' with
            | error e => rfl
            | ok y =>
              obtain ⟨l, row1, r1⟩ := y
              have hl1 := (left_all _).2.2 _ _ _ _ _ _ hm
              have hl2 := brace_len hb
              dsimp only
              rw [(hk [] []).1]
              by_cases h6 : kindOf t.text = 5 ∧ elseNext r1 = true
              · rw [if_pos h6, if_pos h6, blockR_of (by rw [List.length_tail]; omega)]
                cases blockR d row1 r1.tail with
                | error e => rfl
                | ok z =>
                  obtain ⟨m, row2, r2⟩ := z
                  simp only [mk_lm (kindOf t.text) t.place ws n l m [] [], (hk [] []).1]
              · rw [if_neg h6, if_neg h6]
                simp only [mk_l (kindOf t.text) t.place ws n l [] [], (hk [] []).1]
        · rw [if_neg h5, if_neg h5]
          dsimp only
          rw [if_neg (by rw [(hk _ _).1]; exact h5)]
    · rw [if_neg h1, if_neg h1]
theorem run_one {S : List Hf} {row : List St} {top : List Nat} {t : Tok} {ts : List Tok} (h0 : S = [] → t.kind ≠ 0) (h1 : S ≠ [] → isSign 125 t = false) : run S [] row top (t :: ts) = (match oneR S.length row (t :: ts) with
    | .error e => .error e
    | .ok (i, row1, r1) => run S [i] row1 top r1) := by
  cases S with
  | nil =>
    rw [run, tops_step (h0 rfl), List.length_nil]
    cases oneR 0 row (t :: ts) with
    | error e => rfl
    | ok x =>
      obtain ⟨i, row1, r1⟩ := x
      dsimp only
      rw [run]
      cases topsR row1 r1 with
      | error e => rfl
      | ok y => simp
  | cons h S =>
    rw [run, many_step (h1 (by simp)), List.length_cons]
    cases oneR (S.length + 1) row (t :: ts) with
    | error e => rfl
    | ok x =>
      obtain ⟨i, row1, r1⟩ := x
      dsimp only
      rw [run]
      cases manyR (S.length + 1) row1 r1 with
      | error e => rfl
      | ok y => simp
theorem headM_nil {d : Nat} {ts : List Tok} {st : St} {r : List Tok} (h : headM d ts = .ok (st, r)) : st.l = [] ∧ st.m = [] := by
  cases ts with
  | nil => cases h
  | cons t ts =>
    rw [headM] at h
    split at h
    · split at h
      · cases h
      · split at h
        · split at h
          · cases h
          · cases h; exact (mk_kind3 _ _ _ _ _ _).2
        · cases h; exact (mk_kind3 _ _ _ _ _ _).2
    · cases h
theorem run_head {S : List Hf} {row : List St} {top : List Nat} {t : Tok} {ts : List Tok} (h0 : S = [] → t.kind ≠ 0) (h1 : S ≠ [] → isSign 125 t = false) : run S [] row top (t :: ts) = (match headM S.length (t :: ts) with
    | .error e => .error e
    | .ok (st, r) => if st.kind = 5 ∨ st.kind = 6 then run (⟨st, false⟩ :: S) [] row top r else run S [row.length] (row ++ [st]) top r) := by
  rw [run_one h0 h1, one_step]
  cases hh : headM S.length (t :: ts) with
  | error e => rfl
  | ok x =>
    obtain ⟨st, r⟩ := x
    obtain ⟨hl, hm⟩ := headM_nil hh
    obtain ⟨k, s, u, v, n, p, l0, m0⟩ := st
    dsimp only at hl hm
    subst hl hm
    dsimp only
    by_cases h5 : k = 5 ∨ k = 6
    · rw [if_pos h5, if_pos h5, run]
      cases manyR (S.length + 1) row r with
      | error e => rfl
      | ok y =>
        obtain ⟨l, row1, r1⟩ := y
        simp only [fin, addL, List.nil_append, Bool.false_eq_true, if_false, true_and]
        by_cases h6 : k = 5 ∧ elseNext r1 = true
        · rw [if_pos h6, if_pos h6]
          cases blockR S.length row1 r1.tail with
          | error e => rfl
          | ok z => rfl
        · rw [if_neg h6, if_neg h6]
    · rw [if_neg h5, if_neg h5]
/-- An else. -/
theorem fin_else {h : Hf} {S : List Hf} {row : List St} {top : List Nat} {r : List Tok} (hk : h.st.kind = 5) (he : h.els = false) (hn : elseNext r = true) : fin (run S) S.length h row top r = (match brace S.length r.tail with
    | .error e => .error e
    | .ok r' => run (⟨h.st, true⟩ :: S) [] row top r') := by
  rw [fin, if_pos ⟨hk, he, hn⟩, block_step]
  cases hb : brace S.length r.tail with
  | error e => rfl
  | ok r' =>
    dsimp only
    rw [run]
    cases manyR (S.length + 1) row r' with
    | error e => rfl
    | ok x =>
      obtain ⟨m, row1, r1⟩ := x
      simp [fin, addL]
theorem fin_put {h : Hf} {S : List Hf} {row : List St} {top : List Nat} {r : List Tok} (hn : ¬ (h.st.kind = 5 ∧ h.els = false ∧ elseNext r = true)) : fin (run S) S.length h row top r = run S [row.length] (row ++ [h.st]) top r := by
  rw [fin, if_neg hn]
/-- A script's answer, out of it. -/
theorem prog_run (ts : List Tok) : prog ts = (match head ts with
    | .error e => .error e
    | .ok (md, r) => (match run [] [] [] [] r with
      | .error e => .error e
      | .ok (row, l) => if 100 < row.length then .error (0, 4) else .ok (md, row, l))) := by
  unfold prog
  cases head ts with
  | error e => rfl
  | ok x =>
    obtain ⟨md, r⟩ := x
    dsimp only
    rw [topsR_of (by unfold fuel; omega), run]
    cases topsR [] r with
    | error e => rfl
    | ok y => simp
end Ps
end Go.Proofs.YtiikionoagmabaaDoor

/- Each statement is within one other, or within none: in plain words (layer 15). (Laid in round 14, ahead of stage 15.) -/
namespace Go.Proofs.YtiikionoagmabaaDoor
namespace Ps
open Lx (Tok)

def lm (s : St) : List Nat := s.l ++ s.m
/-- What holds of the statement at place k of the row. -/
structure SOk (k : Nat) (s : St) : Prop where
  kd : 1 ≤ s.kind ∧ s.kind ≤ 17
  l6 : s.kind ≠ 5 → s.kind ≠ 6 → s.l = []
  m5 : s.kind ≠ 5 → s.m = []
  lb : ∀ x ∈ s.l, x < k
  mb : ∀ x ∈ s.m, x < k
  ls : s.l.Pairwise (· < ·)
  ms : s.m.Pairwise (· < ·)
def InOne (row : List St) (i : Nat) (row' : List St) : Prop := ∃ new st, row' = row ++ (new ++ [st]) ∧ i = row.length + new.length ∧
  (∀ j s, (new ++ [st])[j]? = some s → SOk (row.length + j) s) ∧ ((new ++ [st]).flatMap lm).Perm (List.range' row.length new.length)
def InMany (row : List St) (l : List Nat) (row' : List St) : Prop := ∃ new, row' = row ++ new ∧
  (∀ j s, new[j]? = some s → SOk (row.length + j) s) ∧ l.Pairwise (· < ·) ∧ (∀ x ∈ l, row.length ≤ x ∧ x < row.length + new.length) ∧ (l ++ new.flatMap lm).Perm (List.range' row.length new.length)

theorem kindIn_le (x : List UInt8) : ∀ (l : List (List UInt8)) (k : Nat), kindIn x k l = 0 ∨ (k ≤ kindIn x k l ∧ kindIn x k l < k + l.length)
  | [], k => .inl rfl
  | y :: l, k => by
    rw [kindIn]
    by_cases h : x = y
    · rw [if_pos h]; exact .inr ⟨Nat.le_refl _, by simp⟩
    · rw [if_neg h]
      rcases kindIn_le x l (k + 1) with h2 | ⟨h2, h3⟩
      · exact .inl h2
      · exact .inr ⟨by omega, by simp; omega⟩
theorem kindOf_le {x : List UInt8} (h : kindOf x ≠ 0) : 1 ≤ kindOf x ∧ kindOf x ≤ 17 := by
  rcases kindIn_le x firsts 1 with h2 | ⟨h2, h3⟩
  · exact absurd h2 h
  · exact ⟨h2, by unfold kindOf; have : firsts.length = 17 := rfl; omega⟩
theorem mk_kind (k p : Nat) (ws : List (List UInt8)) (n : Nat) (l m : List Nat) : (mk k p ws n l m).kind = k ∧ (mk k p ws n l m).l = l ∧ (mk k p ws n l m).m = m := by
  unfold mk; split <;> exact ⟨rfl, rfl, rfl⟩
theorem mk_ok {k p : Nat} {ws : List (List UInt8)} {n : Nat} {l m : List Nat} {at' : Nat} (hk : 1 ≤ k ∧ k ≤ 17) (h6 : k ≠ 5 → k ≠ 6 → l = []) (h5 : k ≠ 5 → m = []) (lb : ∀ x ∈ l, x < at') (mb : ∀ x ∈ m, x < at') (ls : l.Pairwise (· < ·)) (ms : m.Pairwise (· < ·)) : SOk at' (mk k p ws n l m) := by
  obtain ⟨e1, e2, e3⟩ := mk_kind k p ws n l m
  exact ⟨by rw [e1]; exact hk, by rw [e1, e2]; exact h6, by rw [e1, e3]; exact h5, by rw [e2]; exact lb, by rw [e3]; exact mb, by rw [e2]; exact ls, by rw [e3]; exact ms⟩
theorem ok_app {N : Nat} {a b : List St} (h1 : ∀ j s, a[j]? = some s → SOk (N + j) s) (h2 : ∀ j s, b[j]? = some s → SOk (N + a.length + j) s) : ∀ j s, (a ++ b)[j]? = some s → SOk (N + j) s := by
  intro j s h
  by_cases hj : j < a.length
  · rw [List.getElem?_append_left hj] at h; exact h1 j s h
  · rw [List.getElem?_append_right (by omega)] at h
    have := h2 _ s h
    rwa [show N + a.length + (j - a.length) = N + j by omega] at this
theorem ok_one {N : Nat} {s : St} (h : SOk N s) : ∀ j u, [s][j]? = some u → SOk (N + j) u := by
  intro j u hu
  cases j with
  | zero => simp at hu; rw [← hu]; exact h
  | succ j => simp at hu
theorem range_app (a n m : Nat) : List.range' a n ++ List.range' (a + n) m = List.range' a (n + m) := by
  rw [List.range'_append_1]

theorem in_all : ∀ f, (∀ d row ts i row' r, one f d row ts = .ok (i, row', r) → InOne row i row') ∧ (∀ d row ts l row' r, block f d row ts = .ok (l, row', r) → InMany row l row') ∧ (∀ d row ts l row' r, many f d row ts = .ok (l, row', r) → InMany row l row')
  | 0 => ⟨fun d row ts i row' r h => (by rw [one] at h; cases h), fun d row ts l row' r h => (by rw [block] at h; cases h), fun d row ts l row' r h => (by rw [many] at h; cases h)⟩
  | f + 1 => by
    obtain ⟨i1, i2, i3⟩ := in_all f
    refine ⟨fun d row ts i row' r h => ?_, fun d row ts l row' r h => ?_, fun d row ts l row' r h => ?_⟩
    · cases ts with
      | nil => rw [one] at h; cases h
      | cons t ts =>
        rw [one] at h
        by_cases h1 : t.kind = 1 ∧ kindOf t.text ≠ 0
        · rw [if_pos h1] at h
          have hk := kindOf_le h1.2
          generalize kindOf t.text = k at h hk
          cases hw : words (shape k) ts with
          | error e => rw [hw] at h; cases h
          | ok x =>
            obtain ⟨ws, n, q⟩ := x
            rw [hw] at h
            dsimp only at h
            by_cases h2 : k = 5 ∨ k = 6
            · rw [if_pos h2] at h
              cases hb : block f d row q with
              | error e => rw [hb] at h; cases h
              | ok y =>
                obtain ⟨l, row1, r1⟩ := y
                rw [hb] at h
                dsimp only at h
                obtain ⟨n1, e1, o1, p1, b1, m1⟩ := i2 _ _ _ _ _ _ hb
                by_cases h3 : k = 5 ∧ elseNext r1 = true
                · rw [if_pos h3] at h
                  cases hb2 : block f d row1 r1.tail with
                  | error e => rw [hb2] at h; cases h
                  | ok z =>
                    obtain ⟨m, row2, r2⟩ := z
                    rw [hb2] at h
                    cases h
                    obtain ⟨n2, e2, o2, p2, b2, m2⟩ := i2 _ _ _ _ _ _ hb2
                    subst e1
                    rw [List.length_append] at o2 b2 m2
                    refine ⟨n1 ++ n2, mk k t.place ws n l m, by rw [e2]; simp, by rw [e2]; simp, ?_, ?_⟩
                    · refine ok_app (ok_app o1 o2) (ok_one (mk_ok hk (fun a b => absurd h2 (by omega)) (fun a => absurd h3.1 a) (fun x hx => ?_) (fun x hx => ?_) p1 p2))
                      · have := b1 x hx; simp; omega
                      · have := b2 x hx; simp; omega
                    · rw [List.flatMap_append, List.flatMap_append]
                      have e3 : [mk k t.place ws n l m].flatMap lm = l ++ m := by simp [lm, mk_kind]
                      rw [e3, List.length_append, ← range_app]
                      refine List.Perm.trans ?_ (m1.append m2)
                      have p : ((n1.flatMap lm ++ n2.flatMap lm) ++ (l ++ m)).Perm ((l ++ m) ++ (n1.flatMap lm ++ n2.flatMap lm)) := List.perm_append_comm
                      refine p.trans ?_
                      rw [List.append_assoc, List.append_assoc]
                      refine List.Perm.append_left l ?_
                      rw [← List.append_assoc, ← List.append_assoc]
                      exact List.Perm.append_right _ List.perm_append_comm
                · rw [if_neg h3] at h
                  cases h
                  subst e1
                  refine ⟨n1, mk k t.place ws n l [], by simp, by simp, ?_, ?_⟩
                  · exact ok_app o1 (ok_one (mk_ok hk (fun a b => absurd h2 (by omega)) (fun _ => rfl) (fun x hx => (b1 x hx).2) (by simp) p1 List.Pairwise.nil))
                  · rw [List.flatMap_append]
                    have e3 : [mk k t.place ws n l []].flatMap lm = l := by simp [lm, mk_kind]
                    rw [e3]
                    exact List.perm_append_comm.trans m1
            · rw [if_neg h2] at h
              cases h
              refine ⟨[], mk k t.place ws n [] [], by simp, by simp, ?_, ?_⟩
              · exact ok_one (mk_ok hk (fun _ _ => rfl) (fun _ => rfl) (by simp) (by simp) List.Pairwise.nil List.Pairwise.nil)
              · simp [lm, mk_kind]
        · rw [if_neg h1] at h; cases h
    · cases ts with
      | nil => rw [block] at h; cases h
      | cons t ts =>
        rw [block] at h
        split at h
        · split at h
          · cases h
          · exact i3 _ _ _ _ _ _ h
        · cases h
    · cases ts with
      | nil => rw [many] at h; cases h
      | cons t ts =>
        rw [many] at h
        split at h
        · cases h
          exact ⟨[], by simp, by simp, List.Pairwise.nil, by simp, by simp⟩
        · cases ho : one f d row (t :: ts) with
          | error e => rw [ho] at h; cases h
          | ok x =>
            obtain ⟨i, row1, r1⟩ := x
            rw [ho] at h
            dsimp only at h
            cases hm : many f d row1 r1 with
            | error e => rw [hm] at h; cases h
            | ok y =>
              obtain ⟨l', row2, r2⟩ := y
              rw [hm] at h
              cases h
              obtain ⟨n1, st, e1, rfl, o1, m1⟩ := i1 _ _ _ _ _ _ ho
              obtain ⟨n2, e2, o2, p2, b2, m2⟩ := i3 _ _ _ _ _ _ hm
              subst e1
              rw [List.length_append, List.length_append, List.length_singleton] at o2 b2 m2
              refine ⟨n1 ++ [st] ++ n2, by rw [e2]; simp, ?_, ?_, ?_, ?_⟩
              · refine ok_app o1 (fun j s hj => ?_)
                have := o2 j s hj
                rwa [show row.length + (n1 ++ [st]).length + j = row.length + (n1.length + 1) + j by simp] 
              · exact List.pairwise_cons.2 ⟨fun x hx => by have := b2 x hx; omega, p2⟩
              · intro x hx
                rcases List.mem_cons.1 hx with rfl | hx
                · simp
                · have := b2 x hx; simp; omega
              · rw [List.flatMap_append, List.cons_append]
                have e3 : (n1 ++ [st] ++ n2).length = n1.length + 1 + n2.length := by simp; omega
                rw [e3, ← range_app, ← range_app]
                have m3 := (m1.append_right [row.length + n1.length]).append m2
                refine List.Perm.trans ?_ m3
                have p : (l' ++ ((n1 ++ [st]).flatMap lm ++ n2.flatMap lm)).Perm ((n1 ++ [st]).flatMap lm ++ (l' ++ n2.flatMap lm)) := by
                  rw [← List.append_assoc, ← List.append_assoc]
                  exact List.Perm.append_right _ List.perm_append_comm
                refine (List.Perm.cons _ p).trans ?_
                rw [List.append_assoc]
                exact (List.perm_middle (l₁ := (n1 ++ [st]).flatMap lm) (l₂ := l' ++ n2.flatMap lm) (a := row.length + n1.length)).symm
theorem in_tops : ∀ f row ts l row', tops f row ts = .ok (l, row') → InMany row l row'
  | 0, row, ts, l, row', h => by rw [tops] at h; cases h
  | f + 1, row, [], l, row', h => by rw [tops] at h; cases h
  | f + 1, row, t :: ts, l, row', h => by
    rw [tops] at h
    split at h
    · cases h
      exact ⟨[], by simp, by simp, List.Pairwise.nil, by simp, by simp⟩
    · cases ho : one f 0 row (t :: ts) with
      | error e => rw [ho] at h; cases h
      | ok x =>
        obtain ⟨i, row1, r1⟩ := x
        rw [ho] at h
        dsimp only at h
        cases hm : tops f row1 r1 with
        | error e => rw [hm] at h; cases h
        | ok y =>
          obtain ⟨l', row2⟩ := y
          rw [hm] at h
          cases h
          obtain ⟨n1, st, e1, rfl, o1, m1⟩ := (in_all f).1 _ _ _ _ _ _ ho
          obtain ⟨n2, e2, o2, p2, b2, m2⟩ := in_tops f _ _ _ _ hm
          subst e1
          rw [List.length_append, List.length_append, List.length_singleton] at o2 b2 m2
          refine ⟨n1 ++ [st] ++ n2, by rw [e2]; simp, ?_, ?_, ?_, ?_⟩
          · refine ok_app o1 (fun j s hj => ?_)
            have := o2 j s hj
            rwa [show row.length + (n1 ++ [st]).length + j = row.length + (n1.length + 1) + j by simp]
          · exact List.pairwise_cons.2 ⟨fun x hx => by have := b2 x hx; omega, p2⟩
          · intro x hx
            rcases List.mem_cons.1 hx with rfl | hx
            · simp
            · have := b2 x hx; simp; omega
          · rw [List.flatMap_append, List.cons_append]
            have e3 : (n1 ++ [st] ++ n2).length = n1.length + 1 + n2.length := by simp; omega
            rw [e3, ← range_app, ← range_app]
            have m3 := (m1.append_right [row.length + n1.length]).append m2
            refine List.Perm.trans ?_ m3
            have p : (l' ++ ((n1 ++ [st]).flatMap lm ++ n2.flatMap lm)).Perm ((n1 ++ [st]).flatMap lm ++ (l' ++ n2.flatMap lm)) := by
              rw [← List.append_assoc, ← List.append_assoc]
              exact List.Perm.append_right _ List.perm_append_comm
            refine (List.Perm.cons _ p).trans ?_
            rw [List.append_assoc]
            exact (List.perm_middle (l₁ := (n1 ++ [st]).flatMap lm) (l₂ := l' ++ n2.flatMap lm) (a := row.length + n1.length)).symm
theorem mode_le (x : List UInt8) : mode x ≤ 3 := by
  unfold mode
  repeat (first | split | omega)
theorem head_ok {ts : List Tok} {md : Nat} {r : List Tok} (h : head ts = .ok (md, r)) : 1 ≤ md ∧ md ≤ 3 := by
  unfold head at h
  split at h
  · split at h
    · split at h
      · split at h
        · next h2 =>
          split at h
          · split at h
            · cases h
              exact ⟨Nat.one_le_iff_ne_zero.2 h2.2, mode_le _⟩
            · cases h
          · cases h
        · cases h
      · cases h
    · cases h
  · cases h
/-- P15.4, and what else ParseWithin asks. -/
theorem all_in {src : List UInt8} {md : Nat} {row : List St} {top : List Nat} (h : all src = .ok (md, row, top)) :
    (1 ≤ md ∧ md ≤ 3) ∧ row.length ≤ 100 ∧ (∀ j s, row[j]? = some s → SOk j s) ∧ top.Pairwise (· < ·) ∧ (∀ x ∈ top, x < row.length) ∧ (top ++ row.flatMap lm).Perm (List.range row.length) := by
  unfold all at h
  cases hl : Lx.all src with
  | error e => rw [hl] at h; cases h
  | ok ts =>
    rw [hl] at h
    dsimp only at h
    unfold prog at h
    cases hh : head ts with
    | error e => rw [hh] at h; cases h
    | ok x =>
      obtain ⟨md', r⟩ := x
      rw [hh] at h
      dsimp only at h
      cases ht : tops (fuel r.length) [] r with
      | error e => rw [ht] at h; cases h
      | ok y =>
        obtain ⟨l, row'⟩ := y
        rw [ht] at h
        dsimp only at h
        split at h
        · cases h
        · next hb =>
          cases h
          obtain ⟨new, e1, o1, p1, b1, m1⟩ := in_tops _ _ _ _ _ ht
          rw [List.nil_append] at e1
          subst e1
          refine ⟨head_ok hh, by omega, fun j s hj => by simpa using o1 j s hj, p1, fun x hx => by simpa using (b1 x hx).2, ?_⟩
          rw [List.range_eq_range']
          exact m1
/-- How often each place stands within. -/
theorem in_count {row : List St} {top : List Nat} (h : (top ++ row.flatMap lm).Perm (List.range row.length)) (j : Nat) : (top ++ row.flatMap lm).count j = if j < row.length then 1 else 0 := by
  rw [h.count_eq]
  by_cases hj : j < row.length
  · rw [if_pos hj]
    exact List.Nodup.count List.nodup_range |>.trans (if_pos (List.mem_range.2 hj))
  · rw [if_neg hj]
    exact List.count_eq_zero.2 (fun hm => hj (List.mem_range.1 hm))
end Ps
end Go.Proofs.YtiikionoagmabaaDoor

/- Plain facts about bytes and texts, of no program. -/
namespace Go.Proofs.YtiikionoagmabaaDoor
namespace Tx

theorem get_bang (s : ByteArray) (k : Nat) : s.get! k = s.data.toList.getD k 0 := by
  show s.data[k]! = _
  by_cases h : k < s.data.size
  · rw [getElem!_pos s.data k h, List.getD_eq_getElem?_getD, List.getElem?_eq_getElem (by simpa using h)]
    simp
  · rw [getElem!_neg s.data k h, List.getD_eq_getElem?_getD, List.getElem?_eq_none (by simpa using h)]
    rfl

theorem cont_high {n : Nat} (h : n < 256) (e : n / 64 = 2) : 128 ≤ n := by omega

/-- A rune of several bytes: each of them is 128 or more, and within the text. -/
theorem decode_span (s : ByteArray) (p : Nat) (h : p < s.size) (hb : 128 ≤ (s.data.toList.getD p 0).toNat) :
    p + (Utf8.decode s p).2 ≤ s.size ∧ ∀ j, p ≤ j → j < p + (Utf8.decode s p).2 → 128 ≤ (s.data.toList.getD j 0).toNat := by
  have hlt : ∀ k, (s.data.toList.getD k 0).toNat < 256 := fun k => (s.data.toList.getD k 0).toNat_lt
  simp only [Utf8.decode, get_bang, Nat.add_zero]
  have hn : ¬ (s.data.toList.getD p 0).toNat < 128 := by omega
  rw [if_neg hn]
  have one : ∀ j, p ≤ j → j < p + 1 → 128 ≤ (s.data.toList.getD j 0).toNat := fun j h1 h2 => by
    obtain rfl : j = p := by omega
    exact hb
  have c1 := hlt (p + 1)
  have c2 := hlt (p + 2)
  have c3 := hlt (p + 3)
  split
  · rename_i h1
    simp at h1
    split
    · refine ⟨by show p + 2 ≤ _; omega, fun j g1 g2 => ?_⟩
      have g2 : j < p + 2 := g2
      rcases (show j = p ∨ j = p + 1 from by omega) with rfl | rfl
      · exact hb
      · simp at *; omega
    · exact ⟨by show p + 1 ≤ _; omega, one⟩
  · split
    · rename_i h1
      simp at h1
      split
      · refine ⟨by show p + 3 ≤ _; omega, fun j g1 g2 => ?_⟩
        have g2 : j < p + 3 := g2
        rcases (show j = p ∨ j = p + 1 ∨ j = p + 2 from by omega) with rfl | rfl | rfl
        · exact hb
        · simp at *; omega
        · simp at *; omega
      · exact ⟨by show p + 1 ≤ _; omega, one⟩
    · split
      · rename_i h1
        simp at h1
        split
        · refine ⟨by show p + 4 ≤ _; omega, fun j g1 g2 => ?_⟩
          have g2 : j < p + 4 := g2
          rcases (show j = p ∨ j = p + 1 ∨ j = p + 2 ∨ j = p + 3 from by omega) with rfl | rfl | rfl | rfl
          · exact hb
          · simp at *; omega
          · simp at *; omega
          · simp at *; omega
        · exact ⟨by show p + 1 ≤ _; omega, one⟩
      · exact ⟨by show p + 1 ≤ _; omega, one⟩

/-- The byte at a place; 0 behind the end. -/
abbrev at' (s : ByteArray) (p : Nat) : UInt8 := s.data.toList.getD p 0

theorem get_eq (s : ByteArray) (p : Nat) (h : p < s.size) : s[p]'h = s.data.toList.getD p 0 := by
  rw [List.getD_eq_getElem?_getD, List.getElem?_eq_getElem (by simpa using h)]
  rfl

/-- One step of a range over a text: the rune r, of n bytes, which are 'seg'. -/
structure Rune (s : ByteArray) (pos r n : Nat) (seg : List UInt8) : Prop where
  one : 1 ≤ n
  fits : pos + n ≤ s.size
  len : seg.length = n
  rest : s.data.toList.drop pos = seg ++ s.data.toList.drop (pos + n)
  low : r < 128 → ∃ b : UInt8, seg = [b] ∧ b.toNat = r
  high : 128 ≤ r → ∀ b ∈ seg, 128 ≤ b.toNat

theorem rune_of (s : ByteArray) (pos : Nat) (h : pos < s.size) : ∃ seg, Rune s pos (Utf8.decode s pos).1 (Utf8.decode s pos).2 seg := by
  have hl : s.data.toList.length = s.size := (Lib.size_eq s).symm
  by_cases hb : (s[pos]'h).toNat < 128
  · rw [decode_ascii s pos h hb]
    refine ⟨[s[pos]'h], by show 1 ≤ 1; omega, by show pos + 1 ≤ _; omega, rfl, ?_, fun _ => ⟨_, rfl, rfl⟩, fun h2 => absurd h2 (by show ¬ 128 ≤ (s[pos]'h).toNat; omega)⟩
    rw [List.drop_eq_getElem_cons (by omega)]
    rfl
  · have hb1 : 128 ≤ (s.data.toList.getD pos 0).toNat := by rw [← get_eq s pos h]; omega
    obtain ⟨h1, h2⟩ := decode_span s pos h hb1
    obtain ⟨h3, h4⟩ := decode_high s pos h (by omega)
    generalize (Utf8.decode s pos).1 = r at *
    generalize (Utf8.decode s pos).2 = n at *
    refine ⟨(s.data.toList.drop pos).take n, h4, h1, ?_, ?_, fun h5 => absurd h5 (by omega), fun _ b hb2 => ?_⟩
    · rw [List.length_take, List.length_drop, hl]; omega
    · rw [← List.drop_drop, List.take_append_drop]
    · obtain ⟨j, hj, rfl⟩ := List.getElem_of_mem hb2
      have hj2 : j < n := by rw [List.length_take] at hj; omega
      have h6 := h2 (pos + j) (by omega) (by omega)
      rw [List.getElem_take, List.getElem_drop]
      rw [List.getD_eq_getElem?_getD, List.getElem?_eq_getElem (by rw [hl]; omega)] at h6
      exact h6

theorem next_rune {P : Program} (w : World) (k : Nat) (s : ByteArray) (pos : Nat) (hk : w.heap[k]? = some (.stringIter s pos)) (h : pos < s.size) :
    ∃ (r n : Nat) (seg : List UInt8), Rune s pos r n seg ∧ ∀ ty, (Instr.next (.pointer (some ⟨k, 0, none⟩)) true ty).run P w =
      .ok (.tuple #[.bool true, .int .i64 pos, .int .i32 (r : Int)]) (w.iterAt k s (pos + n)) := by
  obtain ⟨seg, hr⟩ := rune_of s pos h
  exact ⟨_, _, seg, hr, fun ty => Lib.run_next_any_at w k s pos ty hk h⟩

theorem Rune.take {s : ByteArray} {pos r n : Nat} {seg : List UInt8} (h : Rune s pos r n seg) : s.data.toList.take (pos + n) = s.data.toList.take pos ++ seg := by
  have hl : s.data.toList.length = s.size := (Lib.size_eq s).symm
  rw [List.take_add, h.rest, List.take_left' h.len]

theorem Rune.cut {s : ByteArray} {pos r n : Nat} {seg : List UInt8} (h : Rune s pos r n seg) (a : Nat) (ha : a ≤ pos) : (s.data.toList.drop a).take (pos + n - a) = (s.data.toList.drop a).take (pos - a) ++ seg := by
  have e : pos + n - a = (pos - a) + n := by omega
  rw [e, List.take_add, List.drop_drop, show a + (pos - a) = pos from by omega, h.rest, List.take_left' h.len]

def plainB (b : UInt8) : Bool := decide (32 ≤ b.toNat) && decide (b.toNat ≤ 126)
def plain (l : List UInt8) : Bool := l.all plainB

theorem plain_app (a b : List UInt8) : plain (a ++ b) = (plain a && plain b) := by simp [plain]

def blk (b : UInt8) : Bool := b.toNat == 32 || b.toNat == 9

/-- The words of a text: 'cur' is what has come of the one that stands open. -/
def wordsGo : List UInt8 → List UInt8 → List (List UInt8)
  | cur, [] => if cur = [] then [] else [cur]
  | cur, c :: r => if blk c then (if cur = [] then wordsGo [] r else cur :: wordsGo [] r) else wordsGo (cur ++ [c]) r
def words (l : List UInt8) : List (List UInt8) := wordsGo [] l

theorem wordsGo_run : ∀ (xs cur rest : List UInt8), (∀ b ∈ xs, blk b = false) → wordsGo cur (xs ++ rest) = wordsGo (cur ++ xs) rest
  | [], cur, rest, _ => by simp
  | x :: xs, cur, rest, h => by
    have hx : blk x = false := h x (by simp)
    show wordsGo cur (x :: (xs ++ rest)) = _
    rw [wordsGo, hx]
    simp only [Bool.false_eq_true, if_false]
    rw [wordsGo_run xs (cur ++ [x]) rest (fun b hb => h b (by simp [hb]))]
    simp

theorem wordsGo_blank (c : UInt8) (cur rest : List UInt8) (h : blk c = true) : wordsGo cur (c :: rest) = (if cur = [] then [] else [cur]) ++ wordsGo [] rest := by
  rw [wordsGo, h]
  by_cases hc : cur = [] <;> simp [hc]

end Tx
end Go.Proofs.YtiikionoagmabaaDoor

/- What each statement looks like, as a text and as words, in plain words (layer 15). (Laid in round 14, ahead of stage 15.) -/
namespace Go.Proofs.YtiikionoagmabaaDoor
namespace Ps
/-- P15.1: Shape. -/
def shapeS : Nat → List UInt8
  | 1 => [108, 101, 116, 32, 110, 32, 61, 32, 116, 32, 59]
  | 2 => [103, 114, 101, 101, 116, 32, 116, 32, 59]
  | 3 => [115, 101, 110, 100, 32, 116, 32, 116, 32, 59]
  | 4 => [99, 97, 112, 115, 32, 116, 32, 116, 32, 59]
  | 5 => [105, 102, 32, 119, 32, 116, 32, 123]
  | 6 => [112, 105, 112, 101, 32, 105, 32, 123]
  | 7 => [97, 117, 116, 104, 32, 110, 32, 116, 32, 116, 32, 59]
  | 8 => [100, 97, 116, 97, 32, 116, 32, 116, 32, 59]
  | 9 => [98, 111, 100, 121, 32, 110, 32, 116, 32, 116, 32, 59]
  | 10 => [103, 101, 116, 32, 110, 32, 116, 32, 59]
  | 11 => [112, 117, 116, 32, 116, 32, 116, 32, 59]
  | 12 => [116, 105, 109, 101, 111, 117, 116, 32, 105, 32, 59]
  | 13 => [108, 97, 98, 101, 108, 32, 110, 32, 59]
  | 14 => [103, 111, 116, 111, 32, 110, 32, 59]
  | 15 => [111, 110, 32, 110, 32, 59]
  | 16 => [112, 114, 105, 110, 116, 32, 116, 32, 59]
  | 17 => [115, 116, 111, 112, 32, 59]
  | _ => []
/-- Its words, but the first. -/
def tailW : Nat → List (List UInt8)
  | 1 => [[110], [61], [116], [59]]
  | 2 => [[116], [59]]
  | 3 => [[116], [116], [59]]
  | 4 => [[116], [116], [59]]
  | 5 => [[119], [116], [123]]
  | 6 => [[105], [123]]
  | 7 => [[110], [116], [116], [59]]
  | 8 => [[116], [116], [59]]
  | 9 => [[110], [116], [116], [59]]
  | 10 => [[110], [116], [59]]
  | 11 => [[116], [116], [59]]
  | 12 => [[105], [59]]
  | 13 => [[110], [59]]
  | 14 => [[110], [59]]
  | 15 => [[110], [59]]
  | 16 => [[116], [59]]
  | 17 => [[59]]
  | _ => []
def fw (k : Nat) : List UInt8 := firsts.getD (k - 1) []
/-- What a word of a shape asks for. -/
def wordW (x : List UInt8) : Option W := if x = [110] then some .n else if x = [116] then some .t else if x = [105] then some .i else if x = [119] then some .w else if x = [123] then none else (x.head?).map .s
/-- The words up to the bracket, and what they ask for. -/
def untilB : List (List UInt8) → List W
  | [] => []
  | x :: l => match wordW x with
    | none => []
    | some y => y :: untilB l
theorem shape_words : ∀ k : Fin 18, 1 ≤ k.val → Tx.words (shapeS k.val) = fw k.val :: tailW k.val := by decide +kernel
theorem shape_until : ∀ k : Fin 18, untilB (tailW k.val) = shape k.val := by decide +kernel
theorem words_of {k : Nat} (h : 1 ≤ k) (h2 : k ≤ 17) : Tx.words (shapeS k) = fw k :: tailW k := shape_words ⟨k, by omega⟩ h
theorem until_of {k : Nat} (h2 : k ≤ 17) : untilB (tailW k) = shape k := shape_until ⟨k, by omega⟩
theorem shapeS_len : ∀ k : Fin 18, (shapeS k.val).length ≤ 12 := by decide +kernel
theorem shapeS_out {k : Nat} (h : k = 0 ∨ 17 < k) : shapeS k = [] := by
  rcases h with rfl | h
  · rfl
  · obtain ⟨j, rfl⟩ : ∃ j, k = j + 18 := ⟨k - 18, by omega⟩
    rfl
/-- Kind by kind. -/
theorem kind_from (x : List UInt8) (k : Nat) (h1 : 1 ≤ k) (h2 : k ≤ 17) : kindIn x k (firsts.drop (k - 1)) = if x = fw k then k else kindIn x (k + 1) (firsts.drop k) := by
  have hl : firsts.length = 17 := rfl
  have e : firsts.drop (k - 1) = fw k :: firsts.drop k := by
    have := List.drop_eq_getElem_cons (l := firsts) (i := k - 1) (by omega)
    rw [this, show k - 1 + 1 = k by omega]
    congr 1
    rw [fw, List.getD_eq_getElem?_getD, List.getElem?_eq_getElem (by omega)]
    rfl
  rw [e, kindIn]
theorem kind_end (x : List UInt8) : kindIn x 18 (firsts.drop 17) = 0 := rfl
end Ps
end Go.Proofs.YtiikionoagmabaaDoor

/- More of a script as tokens, in plain words (layer 14): step by step; what is left; where tokens, and what is wrong, are. -/
namespace Go.Proofs.YtiikionoagmabaaDoor
namespace Lx
def pl (c : UInt8) : Bool := decide (32 ≤ c.toNat) && decide (c.toNat ≤ 126)
/-- The byte for which the beginning stands, and how many bytes that takes. -/
def stand (c : UInt8) (r : List UInt8) : UInt8 × Nat :=
  if c = 92 then (match r with
    | [] => (0, 0)
    | e :: _ => match turned e with
      | some t => (t, 2)
      | none => (0, 0))
  else if pl c = true then (c, 1) else (0, 0)
theorem txt_step (c : UInt8) (r : List UInt8) (h34 : ¬ c = 34) : txt (c :: r) = if (stand c r).2 = 0 then none else (txt ((c :: r).drop (stand c r).2)).map fun p => ((stand c r).1 :: p.1, p.2) := by
  conv => lhs; unfold txt
  rw [if_neg h34]
  unfold stand
  by_cases h92 : c = 92
  · subst h92
    rw [if_neg (by decide), if_pos rfl, if_pos rfl]
    cases r with
    | nil => rfl
    | cons e l =>
      cases ht : turned e with
      | none => simp [ht]
      | some t => simp [ht]
  · rw [if_neg h92, if_neg h92]
    by_cases hp : c.toNat < 32 ∨ 126 < c.toNat
    · have hpl : pl c = false := by rw [Bool.eq_false_iff]; intro e; simp [pl] at e; omega
      simp [hp, hpl]
    · have hpl : pl c = true := by simp [pl]; omega
      simp [hp, hpl]
theorem stand_len (c : UInt8) (r : List UInt8) : (stand c r).2 ≤ (c :: r).length := by
  unfold stand
  by_cases h92 : c = 92
  · rw [if_pos h92]
    cases r with
    | nil => simp
    | cons e l =>
      dsimp only
      cases turned e <;> simp
  · rw [if_neg h92]
    split <;> simp
def mapE (ts : List Tok) : Except (Nat × Nat) (List Tok) → Except (Nat × Nat) (List Tok)
  | .error x => .error x
  | .ok us => .ok (ts ++ us)
theorem mapE_nil (r : Except (Nat × Nat) (List Tok)) : mapE [] r = r := by cases r <;> rfl
theorem mapE_mapE (ts us : List Tok) (r : Except (Nat × Nat) (List Tok)) : mapE ts (mapE us r) = mapE (ts ++ us) r := by cases r <;> simp [mapE]
theorem go_step (L j : Nat) (c : UInt8) (r : List UInt8) (h : r.length + 1 ≤ L) : go L L j (c :: r) = match next c r with
    | .error e => .error (L - (r.length + 1), e)
    | .ok (kd, t, rest) => if 400 ≤ j then .error (0, 4) else mapE [⟨kd, t, L - (r.length + 1)⟩] (go L L (j + 1) (skip false rest)) := by
  rw [go_fuel L L (L + 1) j (c :: r) (by simpa using h) (by simp; omega)]
  rw [go]
  cases hn : next c r with
  | error e => simp only [List.length_cons]
  | ok x =>
    obtain ⟨kd, t, rest⟩ := x
    dsimp only
    by_cases h4 : 400 ≤ j
    · rw [if_pos h4, if_pos h4]
    · rw [if_neg h4, if_neg h4]
      cases go L L (j + 1) (skip false rest) with
      | error x => rfl
      | ok ts => simp only [mapE, List.length_cons, List.singleton_append]
theorem txt_suf : ∀ (l : List UInt8) {t r : List UInt8}, txt l = some (t, r) → r <:+ l
  | [], _, _, h => by cases h
  | c :: l, t, r, h => by
    by_cases h34 : c = 34
    · subst h34
      unfold txt at h
      rw [if_pos rfl] at h
      cases h
      exact List.suffix_cons _ _
    · rw [txt_step c l h34] at h
      split at h
      · cases h
      · next hn =>
        cases hx : txt ((c :: l).drop (stand c l).2) with
        | none => rw [hx] at h; cases h
        | some p =>
          rw [hx] at h
          cases h
          have hlt : ((c :: l).drop (stand c l).2).length < (c :: l).length := by rw [List.length_drop, List.length_cons]; omega
          have := txt_suf ((c :: l).drop (stand c l).2) (t := p.1) (r := p.2) (by rw [hx])
          exact this.trans (List.drop_suffix _ _)
termination_by l => l.length
theorem next_suf {c : UInt8} {l : List UInt8} {k : Nat} {t r : List UInt8} (h : next c l = .ok (k, t, r)) : r <:+ c :: l := by
  unfold next at h
  by_cases c1 : c = 34
  · rw [if_pos c1] at h
    cases hx : txt l with
    | none => rw [hx] at h; cases h
    | some p =>
      rw [hx] at h
      dsimp only at h
      split at h
      · cases h
      · cases h; exact (txt_suf l (t := p.1) (r := p.2) (by rw [hx])).trans (List.suffix_cons _ _)
  · rw [if_neg c1] at h
    by_cases c2 : small c = true
    · rw [if_pos c2] at h
      split at h
      · cases h
      · cases h; exact List.dropWhile_suffix _
    · rw [if_neg c2] at h
      by_cases c3 : digit c = true
      · rw [if_pos c3] at h
        split at h
        · cases h
        · cases h; exact List.dropWhile_suffix _
      · rw [if_neg c3] at h
        split at h
        · cases h; exact List.suffix_cons _ _
        · cases h
theorem next_small {c : UInt8} {l : List UInt8} {k : Nat} {t r : List UInt8} (h : next c l = .ok (k, t, r)) : r.length < (c :: l).length := by
  have := next_len h
  simp only [List.length_cons]; omega
theorem next_err0 {c : UInt8} {l : List UInt8} {e : Nat} (h : next c l = .error e) : e ≠ 0 := by
  unfold next at h
  by_cases c1 : c = 34
  · rw [if_pos c1] at h
    cases hx : txt l with
    | none => rw [hx] at h; cases h; decide
    | some p =>
      rw [hx] at h
      dsimp only at h
      split at h
      · cases h; decide
      · cases h
  · rw [if_neg c1] at h
    by_cases c2 : small c = true
    · rw [if_pos c2] at h
      split at h
      · cases h; decide
      · cases h
    · rw [if_neg c2] at h
      by_cases c3 : digit c = true
      · rw [if_pos c3] at h
        split at h
        · cases h; decide
        · cases h
      · rw [if_neg c3] at h
        split at h
        · cases h
        · cases h; decide
theorem skip_suf : ∀ (b : Bool) (l : List UInt8), skip b l <:+ l
  | _, [] => by simp [skip]
  | true, c :: l => by
    unfold skip
    split
    · exact (skip_suf false l).trans (List.suffix_cons _ _)
    · exact (skip_suf true l).trans (List.suffix_cons _ _)
  | false, c :: l => by
    unfold skip
    split
    · exact (skip_suf true l).trans (List.suffix_cons _ _)
    · split
      · exact (skip_suf false l).trans (List.suffix_cons _ _)
      · exact List.suffix_refl _
theorem suf_drop {s l : List UInt8} (h : s <:+ l) : l.drop (l.length - s.length) = s := (List.suffix_iff_eq_drop.1 h).symm
/-- What is passed over is passed over. -/
theorem skip_skip : ∀ (b : Bool) (l : List UInt8), skip false (skip b l) = skip b l
  | _, [] => by simp [skip]
  | true, c :: l => by
    rw [skip]
    split
    · exact skip_skip false l
    · exact skip_skip true l
  | false, c :: l => by
    by_cases h1 : c = 35
    · rw [show skip false (c :: l) = skip true l by rw [skip, if_pos h1]]; exact skip_skip true l
    · by_cases h2 : blank c = true
      · rw [show skip false (c :: l) = skip false l by rw [skip, if_neg h1, if_pos h2]]; exact skip_skip false l
      · rw [show skip false (c :: l) = c :: l by rw [skip, if_neg h1, if_neg h2]]
        rw [skip, if_neg h1, if_neg h2]
theorem go_err (n : Nat) : ∀ (f k : Nat) (l : List UInt8) {p e : Nat}, go n f k l = .error (p, e) → e ≠ 0 ∧ p ≤ n
  | 0, k, l, p, e, h => by cases h
  | f + 1, k, [], p, e, h => by cases h
  | f + 1, k, c :: l, p, e, h => by
    rw [go] at h
    cases hx : next c l with
    | error x => rw [hx] at h; cases h; exact ⟨next_err0 hx, Nat.sub_le _ _⟩
    | ok x =>
      obtain ⟨kd, t, r⟩ := x
      rw [hx] at h
      dsimp only at h
      split at h
      · cases h; exact ⟨by decide, Nat.zero_le _⟩
      · split at h
        · next hg => cases h; exact go_err n f (k + 1) _ hg
        · cases h
theorem all_err {l : List UInt8} {p e : Nat} (h : all l = .error (p, e)) : e ≠ 0 ∧ p ≤ l.length := by
  unfold all at h
  split at h
  · cases h; exact ⟨by decide, Nat.zero_le _⟩
  · exact go_err _ _ _ _ h
theorem go_place (n : Nat) : ∀ (f k : Nat) (l : List UInt8) {ts : List Tok}, go n f k l = .ok ts → ∀ t ∈ ts, t.place ≤ n
  | 0, k, l, ts, h => by cases h; simp
  | f + 1, k, [], ts, h => by cases h; simp
  | f + 1, k, c :: l, ts, h => by
    rw [go] at h
    cases hx : next c l with
    | error x => rw [hx] at h; cases h
    | ok x =>
      obtain ⟨kd, t, r⟩ := x
      rw [hx] at h
      dsimp only at h
      split at h
      · cases h
      · split at h
        · cases h
        · next hg =>
          cases h
          intro u hu
          rcases List.mem_cons.1 hu with rfl | hu
          · exact Nat.sub_le _ _
          · exact go_place n f (k + 1) _ hg u hu
theorem all_place {l : List UInt8} {ts : List Tok} (h : all l = .ok ts) : ∀ t ∈ ts, t.place ≤ l.length := by
  unfold all at h
  split at h
  · cases h
  · exact go_place _ _ _ _ h
/-- As many tokens as may be. -/
theorem all_few {l : List UInt8} {ts : List Tok} (h : all l = .ok ts) : ts.length ≤ 401 := by
  unfold all at h
  split at h
  · cases h
  · have h2 := go_count l.length 0 _ _ _ h
    rw [Nat.add_zero, h] at h2
    split at h2
    · omega
    · cases h2
theorem go_big0 (n : Nat) : ∀ (f k : Nat) (l : List UInt8) {p : Nat}, go n f k l = .error (p, 4) → p = 0
  | 0, k, l, p, h => by cases h
  | f + 1, k, [], p, h => by cases h
  | f + 1, k, c :: l, p, h => by
    rw [go] at h
    cases hx : next c l with
    | error x => rw [hx] at h; cases h; exact absurd rfl (next_err hx)
    | ok x =>
      obtain ⟨kd, t, r⟩ := x
      rw [hx] at h
      dsimp only at h
      split at h
      · cases h; rfl
      · split at h
        · next hg => cases h; exact go_big0 n f (k + 1) _ hg
        · cases h
theorem all_big0 {l : List UInt8} {p : Nat} (h : all l = .error (p, 4)) : p = 0 := by
  unfold all at h
  split at h
  · cases h; rfl
  · exact go_big0 _ _ _ _ h
end Lx
end Go.Proofs.YtiikionoagmabaaDoor

/- The tokens of a text that is written piece by piece, in plain words (layers 14, 15). (Laid in round 14.) -/
namespace Go.Proofs.YtiikionoagmabaaDoor
namespace Lx

/-- The tokens from here on: L bytes has the source, k tokens were ahead. -/
def toks (L k : Nat) (l : List UInt8) : Except (Nat × Nat) (List Tok) := go L L k (skip false l)
theorem all_toks {l : List UInt8} (h : l.length ≤ 2000) : all l = toks l.length 0 l := by unfold all toks; rw [if_neg (by omega)]
theorem toks_nil (L k : Nat) : toks L k [] = .ok [⟨0, [], L⟩] := by
  unfold toks
  rw [show skip false [] = [] from rfl]
  cases L <;> rfl
theorem toks_blank (L k : Nat) (c : UInt8) (l : List UInt8) (h : blank c = true) : toks L k (c :: l) = toks L k l := by
  unfold toks
  have h35 : ¬ c = 35 := fun e => by rw [e] at h; cases h
  rw [skip, if_neg h35, if_pos h]
/-- A token that begins here. -/
theorem toks_step {L k : Nat} {c : UInt8} {l : List UInt8} {kd : Nat} {t r : List UInt8} (hc : c ≠ 35) (hb : blank c = false) (hn : next c l = .ok (kd, t, r)) (hk : k < 400) (hL : l.length + 1 ≤ L) :
    toks L k (c :: l) = mapE [⟨kd, t, L - (l.length + 1)⟩] (toks L (k + 1) r) := by
  unfold toks
  rw [skip, if_neg hc, if_neg (by rw [hb]; decide), go_step L k c l hL, hn]
  dsimp only
  rw [if_neg (by omega)]
theorem toks_wrong {L k : Nat} {c : UInt8} {l : List UInt8} {e : Nat} (hc : c ≠ 35) (hb : blank c = false) (hn : next c l = .error e) (hL : l.length + 1 ≤ L) :
    toks L k (c :: l) = .error (L - (l.length + 1), e) := by
  unfold toks
  rw [skip, if_neg hc, if_neg (by rw [hb]; decide), go_step L k c l hL, hn]
theorem small_begins {c : UInt8} (h : small c = true) : c ≠ 35 ∧ blank c = false ∧ c ≠ 34 := by
  simp [small] at h
  refine ⟨fun e => ?_, ?_, fun e => ?_⟩
  · subst e; exact absurd h.1 (by decide)
  · rw [Bool.eq_false_iff]
    intro e
    simp [blank] at e
    rcases e with ((e | e) | e) | e <;> (subst e; exact absurd h.1 (by decide))
  · subst e; exact absurd h.1 (by decide)
theorem digit_begins {c : UInt8} (h : digit c = true) : c ≠ 35 ∧ blank c = false ∧ c ≠ 34 ∧ small c = false := by
  simp [digit] at h
  refine ⟨fun e => ?_, ?_, fun e => ?_, ?_⟩
  · subst e; exact absurd h.1 (by decide)
  · rw [Bool.eq_false_iff]
    intro e
    simp [blank] at e
    rcases e with ((e | e) | e) | e <;> (subst e; exact absurd h.1 (by decide))
  · subst e; exact absurd h.1 (by decide)
  · rw [Bool.eq_false_iff]
    intro e
    simp [small] at e
    omega
/-- All of a kind, and what stands behind. -/
theorem while_app {p : UInt8 → Bool} : ∀ (a b : List UInt8), (∀ c ∈ a, p c = true) → (b.head?.map p).getD false = false → (a ++ b).takeWhile p = a ∧ (a ++ b).dropWhile p = b
  | [], b, _, hb => by
    cases b with
    | nil => exact ⟨rfl, rfl⟩
    | cons c b =>
      have hc : p c = false := by simpa using hb
      simp [hc]
  | c :: a, b, h, hb => by
    obtain ⟨h1, h2⟩ := while_app a b (fun x hx => h x (by simp [hx])) hb
    have hc := h c (by simp)
    rw [List.cons_append, List.takeWhile_cons, List.dropWhile_cons, hc, if_pos rfl, if_pos rfl, h1, h2]
    exact ⟨rfl, rfl⟩
/-- A name, and what stands behind. -/
def Name (x : List UInt8) : Prop := (∃ c l, x = c :: l ∧ small c = true) ∧ (∀ c ∈ x, inName c = true) ∧ x.length ≤ 12
theorem toks_name {L k : Nat} {x r : List UInt8} (hx : Name x) (hr : (r.head?.map inName).getD false = false) (hk : k < 400) (hL : x.length + r.length ≤ L) : toks L k (x ++ r) = mapE [⟨1, x, L - (x.length + r.length)⟩] (toks L (k + 1) r) := by
  obtain ⟨⟨c, l, rfl, hc⟩, hall, h12⟩ := hx
  obtain ⟨b1, b2, b3⟩ := small_begins hc
  obtain ⟨w1, w2⟩ := while_app (p := inName) (c :: l) r hall hr
  rw [List.cons_append] at w1 w2 ⊢
  have hn : next c (l ++ r) = .ok (1, c :: l, r) := by
    unfold next
    rw [if_neg b3, if_pos hc, w1, w2, if_neg (by omega)]
  simp only [List.length_cons] at hL
  rw [toks_step b1 b2 hn hk (by rw [List.length_append]; omega), List.length_append, List.length_cons, show l.length + r.length + 1 = l.length + 1 + r.length by omega]
theorem toks_int {L k : Nat} {x r : List UInt8} (h0 : x ≠ []) (hall : ∀ c ∈ x, digit c = true) (h9 : x.length ≤ 9) (hr : (r.head?.map digit).getD false = false) (hk : k < 400) (hL : x.length + r.length ≤ L) : toks L k (x ++ r) = mapE [⟨2, x, L - (x.length + r.length)⟩] (toks L (k + 1) r) := by
  cases x with
  | nil => exact absurd rfl h0
  | cons c l =>
    have hc := hall c (by simp)
    obtain ⟨b1, b2, b3, b4⟩ := digit_begins hc
    obtain ⟨w1, w2⟩ := while_app (p := digit) (c :: l) r hall hr
    rw [List.cons_append] at w1 w2 ⊢
    have hn : next c (l ++ r) = .ok (2, c :: l, r) := by
      unfold next
      rw [if_neg b3, if_neg (by rw [b4]; decide), if_pos hc, w1, w2, if_neg (by omega)]
    simp only [List.length_cons] at hL
    rw [toks_step b1 b2 hn hk (by rw [List.length_append]; omega), List.length_append, List.length_cons, show l.length + r.length + 1 = l.length + 1 + r.length by omega]
theorem toks_sign {L k : Nat} {c : UInt8} {r : List UInt8} (hc : sign c = true) (hk : k < 400) (hL : r.length + 1 ≤ L) : toks L k (c :: r) = mapE [⟨4, [c], L - (r.length + 1)⟩] (toks L (k + 1) r) := by
  have c4 : c = 123 ∨ c = 125 ∨ c = 59 ∨ c = 61 := by simpa [sign, or_assoc] using hc
  refine toks_step (kd := 4) ?_ ?_ ?_ hk hL
  · rcases c4 with rfl | rfl | rfl | rfl <;> decide
  · rcases c4 with rfl | rfl | rfl | rfl <;> decide
  · rcases c4 with rfl | rfl | rfl | rfl <;> rfl
/-- A quoted text. -/
theorem toks_text {L k : Nat} {t r : List UInt8} (ht : t.length ≤ 100) (hq : t.all mayQ = true) (hk : k < 400) (hL : (esc t).length + 2 + r.length ≤ L) : toks L k (34 :: (esc t ++ [34]) ++ r) = mapE [⟨3, t, L - ((esc t).length + 2 + r.length)⟩] (toks L (k + 1) r) := by
  have hs : 34 :: (esc t ++ [34]) ++ r = 34 :: (esc t ++ 34 :: r) := by simp
  have hn : next 34 (esc t ++ 34 :: r) = .ok (3, t, r) := by
    unfold next
    rw [if_pos rfl, txt_esc t r hq]
    dsimp only
    rw [if_neg (by omega)]
  rw [hs, toks_step (by decide) (by decide) hn hk (by simp; omega)]
  simp only [List.length_append, List.length_cons]
  rw [show (esc t).length + (r.length + 1) + 1 = (esc t).length + 2 + r.length by omega]
end Lx
end Go.Proofs.YtiikionoagmabaaDoor

/- Scripts, from their bytes on, in plain words (layer 15): a script, and another one of the same protocol behind it. (Laid in round 14, ahead of stage 15.) -/
namespace Go.Proofs.YtiikionoagmabaaDoor
namespace Lx
theorem next_kind {c : UInt8} {l : List UInt8} {k : Nat} {t r : List UInt8} (h : next c l = .ok (k, t, r)) : k ≠ 0 := by
  unfold next at h
  by_cases c1 : c = 34
  · rw [if_pos c1] at h
    cases hx : txt l with
    | none => rw [hx] at h; cases h
    | some p =>
      rw [hx] at h
      dsimp only at h
      split at h
      · cases h
      · cases h; decide
  · rw [if_neg c1] at h
    by_cases c2 : small c = true
    · rw [if_pos c2] at h
      split at h
      · cases h
      · cases h; decide
    · rw [if_neg c2] at h
      by_cases c3 : digit c = true
      · rw [if_pos c3] at h
        split at h
        · cases h
        · cases h; decide
      · rw [if_neg c3] at h
        split at h
        · cases h; decide
        · cases h
theorem go_form (n : Nat) : ∀ (f k : Nat) (l : List UInt8) {ts : List Tok}, go n f k l = .ok ts → ∃ a, ts = a ++ [⟨0, [], n⟩] ∧ ∀ t ∈ a, t.kind ≠ 0
  | 0, k, l, ts, h => by cases h; exact ⟨[], rfl, by simp⟩
  | f + 1, k, [], ts, h => by cases h; exact ⟨[], rfl, by simp⟩
  | f + 1, k, c :: l, ts, h => by
    rw [go] at h
    cases hx : next c l with
    | error x => rw [hx] at h; cases h
    | ok x =>
      obtain ⟨kd, t, r⟩ := x
      rw [hx] at h
      dsimp only at h
      split at h
      · cases h
      · split at h
        · cases h
        · next hg =>
          cases h
          obtain ⟨a, e, ha⟩ := go_form n f (k + 1) _ hg
          exact ⟨⟨kd, t, n - (c :: l).length⟩ :: a, by rw [e]; rfl, fun u hu => by
            rcases List.mem_cons.1 hu with rfl | hu
            · exact next_kind hx
            · exact ha u hu⟩
theorem toks_form {L k : Nat} {l : List UInt8} {ts : List Tok} (h : toks L k l = .ok ts) : ∃ a, ts = a ++ [⟨0, [], L⟩] ∧ ∀ t ∈ a, t.kind ≠ 0 := go_form _ _ _ _ h
/-- The tokens of a text that stands further behind, some ahead of them. -/
theorem toks_rel {t : List UInt8} {d k : Nat} (ht : t.length ≤ 2000) {us : List Tok} (h : toks (t.length + d) k t = .ok us) : ∃ bt, all t = .ok bt ∧ us = bt.map (shift d) := by
  have hs := skip_len false t
  unfold toks at h
  rw [go_fuel _ _ t.length k _ (by omega) hs, go_shift t.length d t.length k _ hs] at h
  cases hg : go t.length t.length k (skip false t) with
  | error x => rw [hg] at h; cases h
  | ok ts =>
    rw [hg] at h
    cases h
    cases h0 : go t.length t.length 0 (skip false t) with
    | error x =>
      have := go_later t.length k t.length 0 _ h0
      rw [Nat.zero_add, hg] at this
      rcases this with e | e <;> cases e
    | ok t0 =>
      have hc := go_count t.length k t.length 0 _ h0
      rw [Nat.zero_add, hg] at hc
      split at hc
      · cases hc
        exact ⟨ts, by unfold all; rw [if_neg (by omega)]; exact h0, rfl⟩
      · cases hc
end Lx
namespace Ps
open Lx (Tok)

/-- What a script begins by. -/
def begins (x : List UInt8) : List UInt8 := wMode ++ 32 :: (x ++ [59])
def hdr (x : List UInt8) : List Tok := [⟨1, wMode, 0⟩, ⟨1, x, 5⟩, ⟨4, [59], 5 + x.length⟩]
theorem mode_name : Lx.Name wMode := ⟨⟨109, [111, 100, 101], rfl, by decide⟩, by decide, by decide⟩
theorem mode_known {x : List UInt8} (h : mode x ≠ 0) : x = [115, 109, 116, 112] ∨ x = [112, 111, 112, 51] ∨ x = [102, 116, 112] := by
  unfold mode at h
  by_cases h1 : x = [115, 109, 116, 112]
  · exact .inl h1
  · rw [if_neg h1] at h
    by_cases h2 : x = [112, 111, 112, 51]
    · exact .inr (.inl h2)
    · rw [if_neg h2] at h
      by_cases h3 : x = [102, 116, 112]
      · exact .inr (.inr h3)
      · rw [if_neg h3] at h; exact absurd rfl h
theorem known_name {x : List UInt8} (h : mode x ≠ 0) : Lx.Name x := by
  rcases mode_known h with rfl | rfl | rfl
  · exact ⟨⟨115, [109, 116, 112], rfl, by decide⟩, by decide, by decide⟩
  · exact ⟨⟨112, [111, 112, 51], rfl, by decide⟩, by decide, by decide⟩
  · exact ⟨⟨102, [116, 112], rfl, by decide⟩, by decide, by decide⟩
theorem begins_len (x : List UInt8) : (begins x).length = x.length + 6 := by simp [begins, wMode]
/-- The tokens of a script's head, and what stands behind. -/
theorem begins_toks {x : List UInt8} (hx : Lx.Name x) (t : List UInt8) (hl : (begins x ++ t).length ≤ 2000) : Lx.all (begins x ++ t) = Lx.mapE (hdr x) (Lx.toks ((begins x).length + t.length) 3 t) := by
  rw [Lx.all_toks hl, List.length_append, begins_len]
  have hx12 := hx.2.2
  have e : begins x ++ t = wMode ++ (32 :: (x ++ (59 :: t))) := by simp [begins]
  rw [e, Lx.toks_name mode_name (by rfl) (by decide) (by simp [wMode]; omega), Lx.toks_blank _ _ _ _ (by decide), Lx.toks_name hx (by rfl) (by decide) (by simp; omega), Lx.toks_sign (by decide) (by decide) (by omega), Lx.mapE_mapE, Lx.mapE_mapE]
  simp only [List.length_cons, List.length_append, List.cons_append, List.nil_append, hdr]
  rw [show wMode.length = 4 from rfl, show x.length + 6 + t.length - (4 + (x.length + (t.length + 1) + 1)) = 0 by omega, show x.length + 6 + t.length - (x.length + (t.length + 1)) = 5 by omega, show x.length + 6 + t.length - (t.length + 1) = 5 + x.length by omega]
theorem head_hdr {x : List UInt8} (h : mode x ≠ 0) (ts : List Tok) : head (hdr x ++ ts) = .ok (mode x, ts) := by
  rw [hdr]
  simp only [List.cons_append, List.nil_append, head]
  rw [if_pos (by decide), if_pos ⟨trivial, h⟩, if_pos (by rfl)]
/-- What a script says, by its tokens behind the head. -/
def rest (x : List UInt8) (us : List Tok) : Res (Nat × List St × List Nat) := match tops (fuel us.length) [] us with
  | .error e => .error e
  | .ok (l, row) => if 100 < row.length then .error (0, 4) else .ok (mode x, row, l)
theorem prog_hdr {x : List UInt8} (h : mode x ≠ 0) (us : List Tok) : prog (hdr x ++ us) = rest x us := by
  unfold prog
  rw [head_hdr h]
  rfl
theorem rest_ok {x : List UInt8} {us : List Tok} {md : Nat} {row : List St} {l : List Nat} (h : rest x us = .ok (md, row, l)) : md = mode x ∧ tops (fuel us.length) [] us = .ok (l, row) ∧ row.length ≤ 100 := by
  unfold rest at h
  cases ht : tops (fuel us.length) [] us with
  | error e => rw [ht] at h; cases h
  | ok y =>
    obtain ⟨l', row'⟩ := y
    rw [ht] at h
    dsimp only at h
    split at h
    · cases h
    · next hb => cases h; exact ⟨rfl, rfl, by omega⟩
theorem rest_of {x : List UInt8} {us : List Tok} {g : Nat} {row : List St} {l : List Nat} (h : tops g [] us = .ok (l, row)) : rest x us = if 100 < row.length then .error (0, 4) else .ok (mode x, row, l) := by
  have he := enough_tops (fuel us.length) [] us (by unfold fuel; omega)
  have e : tops (fuel us.length) [] us = .ok (l, row) := by
    by_cases hg : g ≤ fuel us.length
    · rw [tops_ge (by rw [h]; exact done_ok _) hg, h]
    · rw [← tops_ge he (show fuel us.length ≤ g by omega), h]
  unfold rest
  rw [e]
theorem tops_else {f : Nat} {row : List St} {us : List Tok} {l : List Nat} {row' : List St} (h : tops f row us = .ok (l, row')) : elseNext us = false := by
  cases us with
  | nil => rfl
  | cons u us =>
    rw [Bool.eq_false_iff]
    intro he
    have h2 : u.kind = 1 ∧ u.text = wElse := by simpa [elseNext, isName] using he
    cases f with
    | zero => rw [tops] at h; cases h
    | succ f =>
      rw [tops, if_neg (by rw [h2.1]; decide)] at h
      cases f with
      | zero => rw [one] at h; cases h
      | succ f =>
        rw [one, if_neg (by rw [h2.2]; exact fun e => e.2 (by decide))] at h
        cases h
/-- A script, from its bytes on. -/
theorem script {x s : List UInt8} (hm : mode x ≠ 0) (hl : (begins x ++ s).length ≤ 2000) {md : Nat} {row : List St} {l : List Nat} (h : all (begins x ++ s) = .ok (md, row, l)) :
    ∃ us, Lx.toks ((begins x).length + s.length) 3 s = .ok us ∧ Lx.all (begins x ++ s) = .ok (hdr x ++ us) ∧ md = mode x ∧ tops (fuel us.length) [] us = .ok (l, row) ∧ row.length ≤ 100 := by
  unfold all at h
  rw [begins_toks (known_name hm) s hl] at h ⊢
  cases ht : Lx.toks ((begins x).length + s.length) 3 s with
  | error e => rw [ht] at h; cases h
  | ok us =>
    rw [ht] at h
    replace h : prog (hdr x ++ us) = .ok (md, row, l) := h
    rw [prog_hdr hm] at h
    obtain ⟨h1, h2, h3⟩ := rest_ok h
    exact ⟨us, rfl, rfl, h1, h2, h3⟩
/-- What ParseJoins asks. -/
theorem join_law {x s t : List UInt8} (hm : mode x ≠ 0) (hl : (begins x ++ s ++ 10 :: t).length ≤ 2000) (hlt : (begins x ++ t).length ≤ 2000) {md md2 : Nat} {row1 row2 : List St} {l1 l2 : List Nat}
    (h1 : all (begins x ++ s) = .ok (md, row1, l1)) (h2 : all (begins x ++ t) = .ok (md2, row2, l2)) :
    Lx.all (begins x ++ s ++ 10 :: t) = .error (0, 4) ∨ ((∃ ts, Lx.all (begins x ++ s ++ 10 :: t) = .ok ts) ∧ 100 < row1.length + row2.length ∧ all (begins x ++ s ++ 10 :: t) = .error (0, 4)) ∨
    all (begins x ++ s ++ 10 :: t) = .ok (mode x, row1 ++ row2.map (mv row1.length (s.length + 1)), l1 ++ l2.map (· + row1.length)) := by
  have hl1 : (begins x ++ s).length ≤ 2000 := by rw [List.length_append] at hl; omega
  obtain ⟨us1, a1, a2, _, a4, a5⟩ := script hm hl1 h1
  obtain ⟨us2, b1, b2, _, b4, b5⟩ := script hm hlt h2
  obtain ⟨a, ea, hak⟩ := Lx.toks_form a1
  have htl : t.length ≤ 2000 := by rw [List.length_append] at hlt; omega
  obtain ⟨bt, hbt, hu2⟩ := Lx.toks_rel htl (by rw [Nat.add_comm]; exact b1)
  have hboth := Lx.all_both hl a2 hbt
  by_cases h4 : 400 < (hdr x ++ us1).length + bt.length - 2
  · rw [if_pos h4] at hboth
    exact .inl hboth
  · rw [if_neg h4] at hboth
    have hd : (hdr x ++ us1).dropLast = hdr x ++ a := by rw [ea, ← List.append_assoc, List.dropLast_concat]
    have hsh : bt.map (Lx.shift ((begins x ++ s).length + 1)) = us2.map (Lx.shift (s.length + 1)) := by
      rw [hu2, List.map_map]
      congr 1
      funext u
      simp only [Function.comp, Lx.shift, List.length_append]
      congr 1
      omega
    rw [hd, hsh, List.append_assoc (hdr x)] at hboth
    have hs2 := tops_shift row1 (s.length + 1) _ _ _ b4
    rw [List.map_nil, List.append_nil] at hs2
    have hel : elseNext (us2.map (Lx.shift (s.length + 1))) = false := by rw [else_shift]; exact tops_else b4
    rw [ea] at a4
    obtain ⟨g, hg⟩ := tops_app rfl hel _ _ _ hak a4 _ _ _ hs2
    have hall : all (begins x ++ s ++ 10 :: t) = rest x (a ++ us2.map (Lx.shift (s.length + 1))) := by
      unfold all
      rw [hboth]
      exact prog_hdr hm _
    rw [rest_of hg] at hall
    by_cases h100 : 100 < (row1 ++ row2.map (mv row1.length (s.length + 1))).length
    · rw [if_pos h100] at hall
      rw [List.length_append, List.length_map] at h100
      exact .inr (.inl ⟨⟨_, hboth⟩, h100, hall⟩)
    · rw [if_neg h100] at hall
      exact .inr (.inr hall)
end Ps
end Go.Proofs.YtiikionoagmabaaDoor

/- What the tokens are like; a row of words taken one by one (layer 15, plain). -/
namespace Go.Proofs.YtiikionoagmabaaDoor
namespace Ps
open Lx (Tok)

/-- As a token may be. -/
def Fine (t : Tok) : Prop := (t.kind = 0 ∧ t.text = []) ∨ (t.kind = 1 ∧ ∃ c r, t.text = c :: r ∧ Lx.small c = true) ∨ (t.kind = 2 ∧ (∃ c r, t.text = c :: r ∧ Lx.digit c = true) ∧ (∀ c ∈ t.text, Lx.digit c = true) ∧ t.text.length ≤ 9) ∨ t.kind = 3 ∨ (t.kind = 4 ∧ ∃ c, t.text = [c] ∧ Lx.sign c = true)
theorem all_while (p : UInt8 → Bool) : ∀ l : List UInt8, ∀ c ∈ l.takeWhile p, p c = true
  | [], c, h => by simp at h
  | x :: l, c, h => by
    by_cases hx : p x = true
    · rw [List.takeWhile_cons_of_pos hx] at h
      rcases List.mem_cons.1 h with rfl | h
      · exact hx
      · exact all_while p l c h
    · rw [List.takeWhile_cons_of_neg hx] at h
      simp at h
theorem next_fine {c : UInt8} {l : List UInt8} {k : Nat} {t r : List UInt8} (h : Lx.next c l = .ok (k, t, r)) (p : Nat) : Fine ⟨k, t, p⟩ := by
  unfold Lx.next at h
  by_cases c1 : c = 34
  · rw [if_pos c1] at h
    cases hx : Lx.txt l with
    | none => rw [hx] at h; cases h
    | some p =>
      rw [hx] at h
      dsimp only at h
      split at h
      · cases h
      · cases h; exact .inr (.inr (.inr (.inl rfl)))
  · rw [if_neg c1] at h
    by_cases c2 : Lx.small c = true
    · rw [if_pos c2] at h
      have hi : Lx.inName c = true := by unfold Lx.inName; rw [c2]; rfl
      split at h
      · cases h
      · cases h; exact .inr (.inl ⟨rfl, c, _, List.takeWhile_cons_of_pos hi, c2⟩)
    · rw [if_neg c2] at h
      by_cases c3 : Lx.digit c = true
      · rw [if_pos c3] at h
        split at h
        · cases h
        · next h9 => cases h; exact .inr (.inr (.inl ⟨rfl, ⟨c, _, List.takeWhile_cons_of_pos c3, c3⟩, all_while _ _, Nat.le_of_not_lt h9⟩))
      · rw [if_neg c3] at h
        split at h
        · next h4 => cases h; exact .inr (.inr (.inr (.inr ⟨rfl, c, rfl, h4⟩)))
        · cases h
theorem go_fine (n : Nat) : ∀ (f k : Nat) (l : List UInt8) {ts : List Tok}, Lx.go n f k l = .ok ts → ∀ t ∈ ts, Fine t
  | 0, k, l, ts, h => by cases h; intro t ht; rw [List.mem_singleton.1 ht]; exact .inl ⟨rfl, rfl⟩
  | f + 1, k, [], ts, h => by cases h; intro t ht; rw [List.mem_singleton.1 ht]; exact .inl ⟨rfl, rfl⟩
  | f + 1, k, c :: l, ts, h => by
    rw [Lx.go] at h
    cases hx : Lx.next c l with
    | error x => rw [hx] at h; cases h
    | ok x =>
      obtain ⟨kd, t, r⟩ := x
      rw [hx] at h
      dsimp only at h
      split at h
      · cases h
      · split at h
        · cases h
        · next hg =>
          cases h
          intro u hu
          rcases List.mem_cons.1 hu with rfl | hu
          · exact next_fine hx _
          · exact go_fine n f (k + 1) _ hg u hu
/-- A row of tokens up to the end. -/
def Ends (ts : List Tok) : Prop := (∀ t ∈ ts, Fine t) ∧ ∃ a z, ts = a ++ [z] ∧ z.kind = 0 ∧ z.text = [] ∧ ∀ t ∈ a, t.kind ≠ 0
theorem all_ends {l : List UInt8} {ts : List Tok} (h : Lx.all l = .ok ts) : Ends ts := by
  unfold Lx.all at h
  split at h
  · cases h
  · obtain ⟨a, e, ha⟩ := Lx.go_form _ _ _ _ h
    exact ⟨go_fine _ _ _ _ h, a, _, e, rfl, rfl, ha⟩
theorem Ends.ne {ts : List Tok} (h : Ends ts) : ∃ t r, ts = t :: r ∧ Fine t := by
  obtain ⟨hf, a, z, rfl, _⟩ := h
  cases a with
  | nil => exact ⟨z, [], rfl, hf z (by simp)⟩
  | cons t a => exact ⟨t, a ++ [z], rfl, hf t (by simp)⟩
theorem Ends.tail {t : Tok} {r : List Tok} (h : Ends (t :: r)) (hk : t.kind ≠ 0) : Ends r := by
  obtain ⟨hf, a, z, e, hz, hz2, ha⟩ := h
  cases a with
  | nil =>
    have : t = z := by simpa using congrArg (·.head?) e
    exact absurd (this ▸ hz) hk
  | cons u a =>
    simp only [List.cons_append, List.cons.injEq] at e
    obtain ⟨rfl, rfl⟩ := e
    exact ⟨fun t ht => hf t (by simp [ht]), a, z, rfl, hz, hz2, fun t ht => ha t (by simp [ht])⟩

/-- Is it one for which the word stands? -/
def fitsT (w : List UInt8) (t : Tok) : Bool :=
  if w = [116] then t.kind == 3 else if w = [105] then t.kind == 2 else if w = [110] then t.kind == 1
  else if w = [119] then t.kind == 1 && (t.text == wCap || t.text == wCode || t.text == wText)
  else if w = [109] then t.kind == 1 && mode t.text != 0 else t.kind != 3 && t.text == w
theorem fitsT_end {w : List UInt8} {t : Tok} (hw : w ≠ []) (h : fitsT w t = true) (hf : Fine t) : t.kind ≠ 0 := by
  intro hk
  have ht : t.text = [] := by
    rcases hf with h | h | h | h | h
    · exact h.2
    · omega
    · omega
    · omega
    · omega
  unfold fitsT at h
  rw [hk, ht] at h
  repeat' split at h
  all_goals first | exact absurd h (by decide) | skip
  simp at h
  exact hw h
/-- The tokens for which the words stand, one by one; at a bracket's word d may be open. -/
def takeW (d : Nat) : List (List UInt8) → List Tok → Res (List Tok)
  | [], ts => .ok ts
  | _ :: _, [] => .error (0, 20)
  | w :: ws, t :: ts => if fitsT w t = true then (if w = [123] ∧ d = 8 then .error (t.place, 21) else takeW d ws ts) else .error (t.place, 20)
theorem takeW_end {d : Nat} : ∀ {ws : List (List UInt8)} {ts r : List Tok}, (∀ w ∈ ws, w ≠ []) → Ends ts → takeW d ws ts = .ok r → Ends r ∧ r = ts.drop ws.length ∧ ws.length + r.length = ts.length
  | [], ts, r, _, he, h => by cases h; exact ⟨he, rfl, by simp⟩
  | w :: ws, [], r, _, _, h => by cases h
  | w :: ws, t :: ts, r, hw, he, h => by
    rw [takeW] at h
    split at h
    · next hfit =>
      split at h
      · cases h
      · have he' := he.tail (fitsT_end (hw w (by simp)) hfit (he.1 t (by simp)))
        obtain ⟨h1, h2, h3⟩ := takeW_end (fun w hm => hw w (by simp [hm])) he' h
        exact ⟨h1, by rw [h2]; rfl, by simp only [List.length_cons]; omega⟩
    · cases h
theorem fitsT_sign {c : UInt8} {t : Tok} (hc : Lx.sign c = true) (hf : Fine t) : fitsT [c] t = isSign c t := by
  have hns : Lx.small c = false ∧ Lx.digit c = false := by
    unfold Lx.sign at hc
    simp at hc
    rcases hc with (((rfl | rfl) | rfl) | rfl) <;> decide
  have h1 : ∀ n : UInt8, Lx.small n = true → ([c] : List UInt8) ≠ [n] := by
    intro n hn e
    rw [List.cons.inj e |>.1, hn] at hns
    cases hns.1
  unfold fitsT isSign
  rw [if_neg (h1 116 (by decide)), if_neg (h1 105 (by decide)), if_neg (h1 110 (by decide)), if_neg (h1 119 (by decide)), if_neg (h1 109 (by decide))]
  obtain ⟨k, x, p⟩ := t
  rcases hf with h | h | h | h | h
  · obtain ⟨rfl, rfl⟩ := h; rfl
  · obtain ⟨rfl, d, r, rfl, hd⟩ := h
    have : ((d :: r : List UInt8) == [c]) = false := by
      rw [beq_eq_false_iff_ne]
      intro e
      rw [(List.cons.inj e).1, hns.1] at hd
      cases hd
    simp [this]
  · obtain ⟨rfl, ⟨d, r, rfl, hd⟩, _⟩ := h
    have : ((d :: r : List UInt8) == [c]) = false := by
      rw [beq_eq_false_iff_ne]
      intro e
      rw [(List.cons.inj e).1, hns.2] at hd
      cases hd
    simp [this]
  · obtain rfl := h; simp
  · obtain ⟨rfl, _⟩ := h; simp
/-- A word of two letters or more. -/
theorem fitsT_word {a b : UInt8} {w : List UInt8} {t : Tok} (ha : Lx.small a = true) (hf : Fine t) : fitsT (a :: b :: w) t = isName (a :: b :: w) t := by
  have h1 : ∀ n : UInt8, (a :: b :: w : List UInt8) ≠ [n] := by intro n e; cases e
  unfold fitsT isName
  rw [if_neg (h1 _), if_neg (h1 _), if_neg (h1 _), if_neg (h1 _), if_neg (h1 _)]
  obtain ⟨k, x, p⟩ := t
  rcases hf with h | h | h | h | h
  · obtain ⟨rfl, rfl⟩ := h; rfl
  · obtain ⟨rfl, _⟩ := h; rfl
  · obtain ⟨rfl, ⟨d, r, rfl, hd⟩, _⟩ := h
    have : ((d :: r : List UInt8) == a :: b :: w) = false := by
      rw [beq_eq_false_iff_ne]
      intro e
      rw [(List.cons.inj e).1] at hd
      unfold Lx.small at ha
      unfold Lx.digit at hd
      simp at ha hd
      omega
    simp [this]
  · obtain rfl := h; simp
  · obtain ⟨rfl, c, rfl, _⟩ := h
    have : (([c] : List UInt8) == a :: b :: w) = false := by simp
    simp [this]
theorem fits_fw : ∀ k : Fin 18, 1 ≤ k.val → ∃ a b w, fw k.val = a :: b :: w ∧ Lx.small a = true := by
  intro k h
  have : ∀ k : Fin 18, 1 ≤ k.val → (match fw k.val with | a :: _ :: _ => Lx.small a | _ => false) = true := by decide +kernel
  have := this k h
  split at this
  · next a b w e => exact ⟨a, b, w, e, this⟩
  · cases this
theorem fitsT_fw {k : Nat} (h : 1 ≤ k) (h2 : k ≤ 17) {t : Tok} (hf : Fine t) : fitsT (fw k) t = isName (fw k) t := by
  obtain ⟨a, b, w, e, ha⟩ := fits_fw ⟨k, by omega⟩ h
  rw [show fw k = a :: b :: w from e]
  exact fitsT_word ha hf
/-- The words of which a shape is made. -/
def good (w : List UInt8) : Prop := w = [110] ∨ w = [116] ∨ w = [105] ∨ w = [119] ∨ w = [61] ∨ w = [59]
def asks (w : List UInt8) : W := (wordW w).getD .n
theorem fits_good {w : List UInt8} {t : Tok} (hw : good w) (hf : Fine t) : fitsT w t = fits (asks w) t := by
  rcases hw with rfl | rfl | rfl | rfl | rfl | rfl
  · rfl
  · rfl
  · rfl
  · show (t.kind == 1 && (t.text == wCap || t.text == wCode || t.text == wText)) = (isName wCap t || isName wCode t || isName wText t)
    unfold isName
    cases (t.kind == 1) <;> simp
  · exact fitsT_sign rfl hf
  · exact fitsT_sign rfl hf
theorem good_bracket {w : List UInt8} (hw : good w) : w ≠ [123] := by
  rintro rfl
  unfold good at hw
  revert hw
  decide
def texts (c : List Tok) : List (List UInt8) := (c.filter fun t => t.kind == 1 || t.kind == 3).map (·.text)
def lastN (c : List Tok) (n : Nat) : Nat := c.foldl (fun n t => if t.kind = 2 then num t.text else n) n
theorem fits_kind {x : W} {t : Tok} (h : fits x t = true) : t.kind = (match x with | .n => 1 | .w => 1 | .t => 3 | .i => 2 | .s _ => 4) := by
  cases x <;> simp [fits, isName, isSign] at h ⊢ <;> omega
theorem words_took : ∀ (xs : List W) (ts : List Tok) {ws : List (List UInt8)} {n : Nat} {r : List Tok}, words xs ts = .ok (ws, n, r) →
    ∃ c, ts = c ++ r ∧ c.length = xs.length ∧ ws = texts c ∧ (xs.count .i = 0 → ∀ m, lastN c m = m) ∧ (xs.count .i = 0 → n = 0) ∧ (xs.count .i ≤ 1 → ∀ m, xs.count .i = 1 → lastN c m = n)
  | [], ts, ws, n, r, h => by cases h; exact ⟨[], rfl, rfl, rfl, fun _ _ => rfl, fun _ => rfl, fun _ _ h => by simp at h⟩
  | x :: xs, [], _, _, _, h => by cases h
  | x :: xs, t :: ts, ws, n, r, h => by
    rw [words] at h
    split at h
    · next hfit =>
      cases hw : words xs ts with
      | error e => rw [hw] at h; cases h
      | ok y =>
        obtain ⟨ws', n', r'⟩ := y
        rw [hw] at h
        cases h
        obtain ⟨c, rfl, hl, rfl, h1, h2, h3⟩ := words_took xs ts hw
        have hk := fits_kind hfit
        refine ⟨t :: c, rfl, by simp [hl], ?_, ?_, ?_, ?_⟩
        · cases x <;> simp [texts, addW, hk]
        · intro h0 m
          have hx : x ≠ .i := by rintro rfl; simp at h0
          have h0' : xs.count .i = 0 := by rw [List.count_cons] at h0; omega
          have hk2 : t.kind ≠ 2 := by rw [hk]; cases x <;> first | exact absurd rfl hx | simp
          show lastN c (if t.kind = 2 then num t.text else m) = m
          rw [if_neg hk2, h1 h0']
        · intro h0
          have hx : x ≠ .i := by rintro rfl; simp at h0
          have h0' : xs.count .i = 0 := by rw [List.count_cons] at h0; omega
          rw [h2 h0']
          cases x <;> first | rfl | exact absurd rfl hx
        · intro hle m h1'
          show lastN c (if t.kind = 2 then num t.text else m) = _
          by_cases hx : x = .i
          · subst hx
            have h0' : xs.count .i = 0 := by simp at h1'; omega
            rw [if_pos hk, h1 h0']
            rfl
          · have h0' : xs.count .i = 1 := by rw [List.count_cons, if_neg (by simpa using hx)] at h1'; omega
            have hk2 : t.kind ≠ 2 := by rw [hk]; cases x <;> first | exact absurd rfl hx | simp
            rw [if_neg hk2, h3 (by omega) m h0']
            cases x <;> first | rfl | exact absurd rfl hx
    · cases h
theorem words_last {xs : List W} (hx : xs.count .i ≤ 1) {ts : List Tok} {ws : List (List UInt8)} {n : Nat} {r : List Tok} (h : words xs ts = .ok (ws, n, r)) : ∃ c, ts = c ++ r ∧ c.length = xs.length ∧ ws = texts c ∧ n = lastN c 0 := by
  obtain ⟨c, h1, h2, h3, h4, h5, h6⟩ := words_took xs ts h
  refine ⟨c, h1, h2, h3, ?_⟩
  by_cases h0 : xs.count .i = 0
  · rw [h5 h0, h4 h0]
  · exact (h6 hx 0 (by omega)).symm
theorem takeW_app (d : Nat) (b : List (List UInt8)) : ∀ (l : List (List UInt8)) (ts : List Tok), (∀ w ∈ l, good w) → (∀ t ∈ ts, Fine t) → takeW d (l ++ b) ts = (match words (l.map asks) ts with
    | .error e => .error e
    | .ok (_, _, r) => takeW d b r)
  | [], ts, _, _ => rfl
  | w :: l, [], _, _ => rfl
  | w :: l, t :: ts, hl, hf => by
    have ih := takeW_app d b l ts (fun w hm => hl w (by simp [hm])) (fun t hm => hf t (by simp [hm]))
    have hg := hl w (by simp)
    rw [List.cons_append, takeW, List.map_cons, words, fits_good hg (hf t (by simp)), if_neg (c := w = [123] ∧ d = 8) (fun h => good_bracket hg h.1), ih]
    by_cases h : fits (asks w) t = true
    · rw [if_pos h, if_pos h]
      cases words (l.map asks) ts <;> rfl
    · rw [if_neg h, if_neg h]
theorem takeW_brace {d : Nat} (hd : d ≤ 8) {r : List Tok} (hf : ∀ t ∈ r, Fine t) : takeW d [[123]] r = brace d r := by
  cases r with
  | nil => rfl
  | cons t r =>
    rw [takeW, brace, fitsT_sign rfl (hf t (by simp))]
    split
    · by_cases h : d = 8
      · rw [if_pos ⟨rfl, h⟩, if_pos (by omega)]
      · rw [if_neg (fun e => h e.2), if_neg (by omega)]
        rfl
    · rfl
/-- The words of a shape: up to its bracket, and that. -/
def front (k : Nat) : List (List UInt8) := (tailW k).filter (· != [123])
theorem tail_parts : ∀ k : Fin 18, tailW k.val = front k.val ++ (if k.val = 5 ∨ k.val = 6 then [[123]] else []) ∧ (front k.val).map asks = shape k.val ∧ (shape k.val).count .i ≤ 1 ∧ (∀ w ∈ front k.val, w = [110] ∨ w = [116] ∨ w = [105] ∨ w = [119] ∨ w = [61] ∨ w = [59]) := by decide +kernel
theorem head_take {d k : Nat} {t : Tok} {ts : List Tok} (hd : d ≤ 8) (hf : ∀ u ∈ t :: ts, Fine u) (h1 : t.kind = 1) (hk : kindOf t.text = k) (hk0 : k ≠ 0) :
    (∀ x, takeW d (tailW k) ts = .error x → headM d (t :: ts) = .error x) ∧
    (∀ r, takeW d (tailW k) ts = .ok r → ∃ c, ts = c ++ r ∧ c.length = (tailW k).length ∧ headM d (t :: ts) = .ok (mk k t.place (texts c) (lastN c 0) [] [], r)) := by
  have hle := kindOf_le (x := t.text) (by rw [hk]; exact hk0)
  rw [hk] at hle
  obtain ⟨p1, p2, p3, p4⟩ := tail_parts ⟨k, by omega⟩
  simp only at p1 p2 p3 p4
  have hf' : ∀ u ∈ ts, Fine u := fun u hu => hf u (by simp [hu])
  rw [p1, takeW_app d _ _ ts p4 hf', p2, headM, hk, if_pos (c := t.kind = 1 ∧ k ≠ 0) ⟨h1, hk0⟩]
  cases hw : words (shape k) ts with
  | error e => exact ⟨fun x h => (by cases h; rfl), fun r h => (by cases h)⟩
  | ok y =>
    obtain ⟨ws, n, r⟩ := y
    obtain ⟨c, rfl, hc, rfl, rfl⟩ := words_last p3 hw
    have hlen : c.length = (front k).length := by rw [hc, ← p2, List.length_map]
    dsimp only
    by_cases h5 : k = 5 ∨ k = 6
    · rw [if_pos h5, if_pos h5, takeW_brace hd (fun u hu => hf' u (by simp [hu]))]
      cases hb : brace d r with
      | error e => exact ⟨fun x h => (by cases h; rfl), fun r h => (by cases h)⟩
      | ok r' =>
        refine ⟨fun x h => (by cases h), fun r2 h => ?_⟩
        cases h
        cases r with
        | nil => cases hb
        | cons u r =>
          rw [brace] at hb
          split at hb
          · next hs =>
            split at hb
            · cases hb
            · cases hb
              have hu : u.kind = 4 := by unfold isSign at hs; simp at hs; exact hs.1
              refine ⟨c ++ [u], by simp, by simp [hlen], ?_⟩
              rw [show texts (c ++ [u]) = texts c by simp [texts, hu], show lastN (c ++ [u]) 0 = lastN c 0 by simp [lastN, hu]]
          · cases hb
    · rw [if_neg h5, if_neg h5]
      refine ⟨fun x h => (by cases h), fun r2 h => ?_⟩
      cases h
      exact ⟨c, rfl, by simp [hlen], rfl⟩
end Ps
end Go.Proofs.YtiikionoagmabaaDoor

/- Slices that are only read; texts and bytes as values: of no type of the program. -/
namespace Go.Proofs.YtiikionoagmabaaDoor
open Go.RowKit

/-- What a text's bytes are as a value. -/
def sv (l : List UInt8) : Value := .string ⟨l.toArray⟩
/-- A byte as a value. -/
def bv (c : UInt8) : Value := .int .u8 (c.toNat : Int)

/-- A slice, of cells of one value each, that reads as 'vs'. -/
def Rd (w : World) (v : Value) (vs : List Value) : Prop :=
  (vs = [] ∧ ∃ ao cap, (ao = none → cap = 0) ∧ v = .slice ao 0 cap) ∨ ∃ b o cap, v = .slice (some ⟨b, o, none⟩) vs.length cap ∧ vs.length ≤ cap ∧ cap ≤ maxLen ∧ ∀ j u, vs[j]? = some u → w.cell? ⟨b, o + j, none⟩ = some u

theorem Rd.of_own {w : World} {B n : Nat} {e : TypeId} {v : Value} {vs : List Value} (h : w.ownsRow B e 1 v n vs) : Rd w v vs := by
  have h1 := h.1
  rw [Nat.mul_one] at h1
  rcases h.2 with ⟨rfl, rfl⟩ | ⟨g, cap, cur, rfl, _, _, h2, h3, _⟩
  · exact .inl ⟨List.length_eq_zero_iff.1 h1, _, _, fun _ => rfl, rfl⟩
  · refine .inr ⟨g, 0, cap, by rw [h1], by omega, h3, fun j u hj => ?_⟩
    have := h.cells (g := g) rfl j u hj
    rwa [Addr.add_lit] at this

theorem Rd.below {w w' : World} {v : Value} {vs : List Value} (h : Rd w v vs) (hb : Below w.heap.size w w') : Rd w' v vs := by
  rcases h with h | ⟨b, o, cap, h1, h2, h3, h4⟩
  · exact .inl h
  · refine .inr ⟨b, o, cap, h1, h2, h3, fun j u hj => ?_⟩
    have hc := h4 j u hj
    exact (hb.cell (World.block_lt_of_cell? w _ hc)).trans hc

theorem ret_i {a b : Int} (h : a = b) : Ending.returned (.int .i64 a) = .returned (.int .i64 b) := by rw [h]
theorem ret_b {a b : Bool} (h : a = b) : Ending.returned (.bool a) = .returned (.bool b) := by rw [h]

theorem byte_at (s : ByteArray) (p : Nat) (h : p < s.size) : s[p]'h = s.data.toList.getD p 0 := by
  rw [List.getD_eq_getElem?_getD, List.getElem?_eq_getElem (by simpa using h)]
  rfl

theorem setCell_row {w : World} {b i : Nat} {C : Array Value} {t : TypeId} {fr : Nat × Nat} {u : Value} (h : w.heap[b]? = some (.cells C t fr)) : (w.setCell ⟨b, i, none⟩ u).heap[b]? = some (.cells (C.setIfInBounds i u) t fr) := by
  simp [World.setCell, Array.getElem?_modify, h]

/-- A row that the call owns and that is not empty. -/
theorem own_pos {w : World} {B n : Nat} {e : TypeId} {v : Value} {vs : List Value} (h : w.ownsRow B e 1 v n vs) (hn : 0 < n) :
    ∃ g cap, v = .slice (some ⟨g, 0, none⟩) n cap ∧ B ≤ g ∧ n ≤ cap ∧ cap ≤ maxLen ∧ ∀ j u, vs[j]? = some u → w.cell? ⟨g, j, none⟩ = some u := by
  have hc := fun g hg => h.cells (g := g) hg
  rcases h.2 with ⟨rfl, rfl⟩ | ⟨g, cap, cur, rfl, h1, _, h2, h3, _⟩
  · cases hn
  · refine ⟨g, cap, rfl, h1, h2, h3, fun j u hj => ?_⟩
    have := hc g rfl j u hj
    rwa [Addr.add_lit, Nat.zero_add] at this

theorem ownsRow_lower {w : World} {B B' : Nat} {e : TypeId} {size : Nat} {v : Value} {n : Nat} {xs : List Value} (h : w.ownsRow B e size v n xs) (hB : B' ≤ B) : w.ownsRow B' e size v n xs := by
  obtain ⟨h1, h2⟩ := h
  rcases h2 with h2 | ⟨g, cap, cur, hv, hg, r⟩
  · exact ⟨h1, .inl h2⟩
  · exact ⟨h1, .inr ⟨g, cap, cur, hv, Nat.le_trans hB hg, r⟩⟩

theorem bv_cell (xs : List UInt8) : ∀ u ∈ xs.map bv, u.oneCell' = true := by
  intro u hu
  obtain ⟨x, _, rfl⟩ := List.mem_map.1 hu
  rfl

/-- What the call owns stays, where only new memory was made. -/
theorem own_below {w w' : World} {B n : Nat} {e : TypeId} {v : Value} {vs : List Value} (h : w.ownsRow B e 1 v n vs) (hb : Below w.heap.size w w') : w'.ownsRow B e 1 v n vs := by
  refine h.kept (row := Option.none) ⟨hb.os, hb.tape, hb.output, hb.size, fun k hk _ => hb.block k hk⟩ ?_
  cases hv : v.ownBlock
  · exact .inl rfl
  · exact .inr (by simp)

/-- The form of a slice of bytes that is read. -/
theorem Rd.form {w : World} {v : Value} {xs : List UInt8} (h : Rd w v (xs.map bv)) : ∃ ao cap, v = .slice ao xs.length cap ∧ xs.length ≤ cap ∧ (0 < xs.length → ∃ b o, ao = some ⟨b, o, none⟩ ∧ cap ≤ maxLen ∧ ∀ j, j < xs.length → w.cell? ⟨b, o + j, none⟩ = some (bv (xs.getD j 0))) := by
  rcases h with ⟨e, ao, cap, _, h⟩ | ⟨b, o, cap, h, h1, h2, h3⟩
  · have : xs = [] := by simpa using e
    subst this
    exact ⟨ao, cap, h, Nat.zero_le _, fun h => by cases h⟩
  · rw [List.length_map] at h h1
    refine ⟨some ⟨b, o, none⟩, cap, h, h1, fun _ => ⟨b, o, rfl, h2, fun j hj => h3 j _ ?_⟩⟩
    simp [hj, List.getD_eq_getElem?_getD]

end Go.Proofs.YtiikionoagmabaaDoor

/- Bytes as a text: cut, joined. Of no layer. -/
namespace Go.Proofs.YtiikionoagmabaaDoor
open Go.RowKit

/-- Bytes as a text. -/
def ba (l : List UInt8) : ByteArray := ⟨l.toArray⟩
theorem ba_list (l : List UInt8) : (ba l).data.toList = l := rfl
theorem ba_self (s : ByteArray) : ba s.data.toList = s := rfl
theorem ba_size (l : List UInt8) : (ba l).size = l.length := rfl

theorem ba_extract (l : List UInt8) (a b : Nat) : (⟨l.toArray⟩ : ByteArray).extract a b = ⟨((l.take b).drop a).toArray⟩ := by
  apply ByteArray.ext
  rw [ByteArray.data_extract]
  simp [List.drop_take]

theorem one_append (a b : Array UInt8) : (⟨a⟩ : ByteArray) ++ ⟨b⟩ = ⟨a ++ b⟩ := by
  apply ByteArray.ext
  simp

theorem ba_append (a b : List UInt8) : ba a ++ ba b = ba (a ++ b) := by
  rw [ba, ba, one_append]
  simp [ba]
end Go.Proofs.YtiikionoagmabaaDoor

/- A token as a value; one in a block of its own (layer 14). -/
namespace Go.Proofs.YtiikionoagmabaaDoor
open Go.RowKit

/-- A token, as a value: its kind, its text, its place. -/
def tkv (k : Nat) (t : List UInt8) (p : Nat) : Value := .agg #[.int .i64 (k : Int), .string ⟨t.toArray⟩, .int .i64 (p : Int)]

/-- A token in a block of its own. -/
def Tk3 (w : World) (b : Nat) (k : Nat) (t : List UInt8) (p : Nat) : Prop := w.heap[b]? = some (.cells #[.int .i64 (k : Int), .string ⟨t.toArray⟩, .int .i64 (p : Int)] 53 (0, 0))
section
variable {w w' : World} {b k p : Nat} {t : List UInt8}
theorem Tk3.c0 (h : Tk3 w b k t p) : w.cell? ⟨b, 0, none⟩ = some (.int .i64 (k : Int)) := by unfold Tk3 at h; simp [World.cell?, h]
theorem Tk3.c1 (h : Tk3 w b k t p) : w.cell? ⟨b, 1, none⟩ = some (.string ⟨t.toArray⟩) := by unfold Tk3 at h; simp [World.cell?, h]
theorem Tk3.c2 (h : Tk3 w b k t p) : w.cell? ⟨b, 2, none⟩ = some (.int .i64 (p : Int)) := by unfold Tk3 at h; simp [World.cell?, h]
theorem Tk3.fr (h : Tk3 w b k t p) (i : Nat) : w.frozen? ⟨b, i, none⟩ = false := by unfold Tk3 at h; simp [World.frozen?, h]
theorem Tk3.new (w : World) (k : Nat) (t : List UInt8) (p : Nat) : Tk3 (w.alloc (.cells #[.int .i64 (k : Int), .string ⟨t.toArray⟩, .int .i64 (p : Int)] 53)) w.heap.size k t p := World.alloc_heap_new w _
theorem Tk3.same (h : Tk3 w b k t p) (e : w'.heap[b]? = w.heap[b]?) : Tk3 w' b k t p := e.trans h
theorem Tk3.lt (h : Tk3 w b k t p) : b < w.heap.size := (Array.getElem?_eq_some_iff.1 h).1
theorem Tk3.below (h : Tk3 w b k t p) (hb : Below w.heap.size w w') : Tk3 w' b k t p := h.same (hb.block _ h.lt)
theorem Tk3.alloc (h : Tk3 w b k t p) (o : Obj) : Tk3 (w.alloc o) b k t p := (Below.heap_alloc _ _ _ h.lt).trans h
/-- All three cells stored. -/
theorem Tk3.set (h : Tk3 w b k t p) (k' : Nat) (t' : List UInt8) (p' : Nat) :
    Tk3 (((w.setCell ⟨b, 0, none⟩ (.int .i64 (k' : Int))).setCell ⟨b, 1, none⟩ (.string ⟨t'.toArray⟩)).setCell ⟨b, 2, none⟩ (.int .i64 (p' : Int))) b k' t' p' := by
  unfold Tk3 at *
  simp [World.setCell, Array.getElem?_modify, h]
theorem Tk3.setP (h : Tk3 w b k t p) (p' : Nat) : Tk3 (w.setCell ⟨b, 2, none⟩ (.int .i64 (p' : Int))) b k t p' := by
  unfold Tk3 at *
  simp [World.setCell, Array.getElem?_modify, h]
end
theorem below_set3t {n : Nat} {w w' : World} {b : Nat} (h : Below n w w') (hb : n ≤ b) (u0 u1 u2 : Value) : Below n w (((w'.setCell ⟨b, 0, none⟩ u0).setCell ⟨b, 1, none⟩ u1).setCell ⟨b, 2, none⟩ u2) :=
  ((h.setCell (p := ⟨b, 0, none⟩) hb u0).setCell (p := ⟨b, 1, none⟩) hb u1).setCell (p := ⟨b, 2, none⟩) hb u2
end Go.Proofs.YtiikionoagmabaaDoor

/- Bytes: made, appended, turned into texts (the program must have []uint8). -/
namespace Go.Proofs.YtiikionoagmabaaDoor
open Go.RowKit

theorem info_u8 : (Tryd.prog.info? 5).map (fun i => (i.zero, i.size, i.bytes)) = some (some (.int .u8 0), 1, 1) := by kernel_rfl

/-- 'make([]byte, 0, c)'. -/
theorem make_u8s (w : World) (c : Nat) (hc : c ≤ 16777216) : ∃ w', (Instr.makeSlice 98 (.int .i64 0) (.int .i64 (c : Int))).run Tryd.prog w = .ok (.slice (some ⟨w.heap.size, 0, Option.none⟩) 0 c) w' ∧
    w'.ownsRow w.heap.size 5 1 (.slice (some ⟨w.heap.size, 0, Option.none⟩) 0 c) 0 [] ∧ Below w.heap.size w w' := by
  obtain ⟨i0, hi, hz0, hz1, hz2⟩ := info_parts info_u8
  obtain ⟨w', h1, h2, h3⟩ := run_make_own (P := Tryd.prog) w w.heap.size 98 5 i0 (.int .u8 0) 1 Tryd.underlying98 hi hz0 hz1 .i64 .i64 c (by rw [hz2]; omega) (by unfold maxLen; omega) (Nat.le_refl _)
  exact ⟨w', h1, h2, (Below.refl _ _).grown h3 (Nat.le_refl _) (fun k hk => by cases hk)⟩

/-- 'append(xs, ys...)' on a row of bytes that the call owns, ys whatever slice. -/
theorem append_u8s {ops : Array Oper} {rest : List Oper} {o : Oper} {a : Act} {Q : Exit → Act → World → Prop} {w : World} {B n : Nat} {v : Value} {xs : List Value}
    (hgd : o.guard = none) (s x : Operand) (ho : o.op = .call { callee := .builtin .append, args := #[s, x], argTypes := #[98, 98] })
    (hs : a.eval s = v) (hown : w.ownsRow B 5 1 v n xs) (ys : List Value) (hx : Rd w (a.eval x) ys)
    (h1 : ∀ u ∈ ys, u.oneCell' = true) (hn : n + ys.length ≤ 16777216) (hB : B ≤ w.heap.size)
    (h : ∀ v' w', w'.ownsRow B 5 1 v' (n + ys.length) (xs ++ ys) → w.grownBy w' v.ownBlock → wpList Tryd.prog ops Q rest (a.put o.dst v') w') : wpList Tryd.prog ops Q (o :: rest) a w := by
  obtain ⟨i0, hi, hz0, hz1, hz2⟩ := info_parts info_u8
  rcases hx with ⟨rfl, ao, cap, ha, hx⟩ | ⟨b, off, cap, hx, g1, g2, g3⟩
  · cases ao with
    | none =>
      obtain rfl := ha rfl
      have h2 := h v w (by simpa using hown) ⟨rfl, rfl, rfl, Nat.le_refl _, fun _ _ _ => rfl⟩
      exact wpList_append_own_none hgd s x 98 ho B 5 i0 1 Tryd.underlying98 hi v n xs hs hown hx h2
    | some ad =>
      refine wpList_append_own _ hgd s x 98 ho B 5 i0 (.int .u8 0) 1 1 Tryd.underlying98 hi hz0 hz1 hz2 rfl (by decide) v n xs hs hown ad 0 cap [] hx rfl (fun j u hj => by simp at hj) (fun u hu => by simp at hu) ?_ ?_ hB (fun v' w' h2 h3 _ => h v' w' h2 h3)
      · simp at hn; unfold maxLen; omega
      · simp at hn; omega
  · refine wpList_append_own _ hgd s x 98 ho B 5 i0 (.int .u8 0) 1 1 Tryd.underlying98 hi hz0 hz1 hz2 rfl (by decide) v n xs hs hown ⟨b, off, none⟩ ys.length cap ys hx (by simp) (fun j u hj => by rw [Addr.add_lit]; exact g3 j u hj) h1 ?_ ?_ hB (fun v' w' h2 h3 _ => h v' w' h2 h3)
    · unfold maxLen; omega
    · omega

/-- 'string(b)' of bytes that are read. -/
theorem bytes_string {w : World} {v : Value} {l : List UInt8} (h : Rd w v (l.map bv)) : (convert 98 9 v).run Tryd.prog w = .ok (sv l) w := by
  rcases h with ⟨e, ao, cap, ha, rfl⟩ | ⟨b, o, cap, rfl, g1, g2, g3⟩
  · have : l = [] := by simpa using e
    subst this
    cases ao with
    | none =>
      obtain rfl := ha rfl
      rw [run_convert_bytes_string w 98 9 5 none 0 0 Tryd.underlying98 Tryd.underlying5 Tryd.underlying9]
      rfl
    | some a => exact run_convert_bytes_back (P := Tryd.prog) w 98 9 5 a cap [] Tryd.underlying98 Tryd.underlying5 Tryd.underlying9 (fun j hj => by cases hj)
  · have := run_convert_bytes_back (P := Tryd.prog) w 98 9 5 ⟨b, o, none⟩ cap l Tryd.underlying98 Tryd.underlying5 Tryd.underlying9 (fun j hj => by
      rw [Addr.add_lit]
      exact g3 j _ (by rw [List.getElem?_map, List.getElem?_eq_getElem hj]; rfl))
    rw [List.length_map]
    exact this

end Go.Proofs.YtiikionoagmabaaDoor

/- Slices of bytes, cut: of no type of the program. -/
namespace Go.Proofs.YtiikionoagmabaaDoor
open Go.RowKit

/-- A slice cut to its first m. -/
theorem Rd.head {w : World} {b o L cap m : Nat} {xs : List UInt8} (h : Rd w (.slice (some ⟨b, o, none⟩) L cap) (xs.map bv)) (hL : L = xs.length) (hm : m ≤ L) (hp : 0 < L) : Rd w (.slice (some ⟨b, o, none⟩) m cap) ((xs.take m).map bv) := by
  rcases h with ⟨e, _⟩ | ⟨b', o', cap', e, h1, h2, h3⟩
  · have : xs = [] := by simpa using e
    subst this
    subst hL
    cases hp
  · simp only [Value.slice.injEq, Option.some.injEq, Addr.mk.injEq, and_true] at e
    obtain ⟨⟨rfl, rfl⟩, _, rfl⟩ := e
    rw [List.length_map] at h1
    refine .inr ⟨b, o, cap, by rw [List.length_map, List.length_take, Nat.min_eq_left (by omega)], by rw [List.length_map, List.length_take]; omega, h2, fun j u hj => h3 j u ?_⟩
    rw [List.map_take, List.getElem?_take] at hj
    split at hj
    · exact hj
    · cases hj

/-- A slice without its first m. -/
theorem Rd.rest {w : World} {b o L cap m : Nat} {xs : List UInt8} (h : Rd w (.slice (some ⟨b, o, none⟩) L cap) (xs.map bv)) (hL : L = xs.length) (hm : m < L) : Rd w (.slice (some ⟨b, o + m, none⟩) (L - m) (cap - m)) ((xs.drop m).map bv) := by
  rcases h with ⟨e, _⟩ | ⟨b', o', cap', e, h1, h2, h3⟩
  · have : xs = [] := by simpa using e
    subst this
    subst hL
    cases hm
  · simp only [Value.slice.injEq, Option.some.injEq, Addr.mk.injEq, and_true] at e
    obtain ⟨⟨rfl, rfl⟩, _, rfl⟩ := e
    rw [List.length_map] at h1
    refine .inr ⟨b, o + m, cap - m, by rw [List.length_map, List.length_drop, hL], by rw [List.length_map, List.length_drop]; omega, by omega, fun j u hj => ?_⟩
    rw [Nat.add_assoc]
    refine h3 (m + j) u ?_
    rw [List.map_drop, List.getElem?_drop] at hj
    exact hj

/-- A slice without its first m, as the model writes it. -/
theorem Rd.tail {w : World} {b o L cap m : Nat} {xs : List UInt8} (h : Rd w (.slice (some ⟨b, o, none⟩) L cap) (xs.map bv)) (hL : L = xs.length) (hm : m ≤ L) (hc : L ≤ cap) :
    Rd w (.slice (if cap = m then some ⟨b, o, none⟩ else some ⟨b, o + m, none⟩) (L - m) (cap - m)) ((xs.drop m).map bv) := by
  by_cases hlt : m < L
  · rw [if_neg (by omega)]
    exact h.rest hL hlt
  · have e : xs.drop m = [] := List.drop_of_length_le (by omega)
    rw [e, show L - m = 0 by omega]
    refine .inl ⟨rfl, _, _, fun h => ?_, rfl⟩
    split at h <;> cases h

/-- A slice cut to its first m, whatever its address. -/
theorem Rd.cut {w : World} {ao : Option Addr} {L cap m : Nat} {xs : List UInt8} (h : Rd w (.slice ao L cap) (xs.map bv)) (hL : L = xs.length) (hm : m ≤ L) : Rd w (.slice ao m cap) ((xs.take m).map bv) := by
  rcases Nat.eq_zero_or_pos L with h0 | hp
  · obtain rfl : m = 0 := by omega
    rw [List.take_zero]
    rcases h with ⟨_, ao', cap', h1, e⟩ | ⟨b, o, cap', e, _⟩
    · simp only [Value.slice.injEq] at e
      obtain ⟨rfl, _, rfl⟩ := e
      exact .inl ⟨rfl, _, _, h1, rfl⟩
    · simp only [Value.slice.injEq] at e
      obtain ⟨rfl, _, rfl⟩ := e
      exact .inl ⟨rfl, _, _, (fun h => by cases h), rfl⟩
  · obtain ⟨ao', cap', e, _, hc⟩ := h.form
    simp only [Value.slice.injEq] at e
    obtain ⟨rfl, _, rfl⟩ := e
    obtain ⟨b, o, rfl, _⟩ := hc (by omega)
    exact h.head hL hm hp

/-- A slice without its first m, whatever its address, as the model writes it. -/
theorem Rd.tailAny {w : World} {ao : Option Addr} {L cap m : Nat} {xs : List UInt8} (h : Rd w (.slice ao L cap) (xs.map bv)) (hL : L = xs.length) (hm : m ≤ L) :
    Rd w (.slice (if cap = m then ao else Option.map (fun x => x.add m) ao) (L - m) (cap - m)) ((xs.drop m).map bv) := by
  rcases Nat.eq_zero_or_pos L with h0 | hp
  · obtain rfl : m = 0 := by omega
    have hx : xs = [] := List.eq_nil_of_length_eq_zero (by omega)
    subst hx
    rw [show L - 0 = 0 by omega]
    refine .inl ⟨rfl, _, _, fun he => ?_, rfl⟩
    by_cases hc : cap = 0
    · omega
    · rw [if_neg hc] at he
      have hao : ao = none := by cases ao with | none => rfl | some a => cases he
      subst hao
      rcases h with ⟨_, ao', cap', h1, e⟩ | ⟨b, o, cap', e, _⟩
      · simp only [Value.slice.injEq] at e
        obtain ⟨rfl, _, rfl⟩ := e
        exact absurd (h1 rfl) hc
      · simp at e
  · obtain ⟨ao', cap', e, hcap, hc⟩ := h.form
    simp only [Value.slice.injEq] at e
    obtain ⟨rfl, _, rfl⟩ := e
    obtain ⟨b, o, rfl, _⟩ := hc (by omega)
    have := h.tail hL hm (by omega)
    simpa only [Option.map_some, Addr.add_lit] using this

/-- Bytes in a new block. -/
theorem Rd.made (w : World) (l : List UInt8) (t : TypeId) (fr : Nat × Nat) (n : Nat) (hn : n = l.length) (hl : n ≤ 1000) : Rd (w.alloc (.cells (l.map bv).toArray t fr)) (.slice (some ⟨w.heap.size, 0, none⟩) n n) (l.map bv) := by
  refine .inr ⟨_, 0, n, by rw [List.length_map, hn], by rw [List.length_map]; omega, by unfold maxLen; omega, fun j u hj => ?_⟩
  rw [cell_of_row _ _ _ _ _ _ (heap_alloc_new w _), Nat.zero_add]
  simpa using hj

end Go.Proofs.YtiikionoagmabaaDoor

/- Queues in memory: what the call owns, and what stays; append where it is told where the new slice lies. -/
namespace Go.Proofs.YtiikionoagmabaaDoor
open Go.RowKit

/-- Of what was there, block g and the row of s alone may have turned. -/
structure Turn (g : Nat) (s : Value) (w w' : World) : Prop where
  os : w'.os = w.os
  tape : w'.tape = w.tape
  output : w'.output = w.output
  size : w.heap.size ≤ w'.heap.size
  block : ∀ k, k < w.heap.size → k ≠ g → s.ownBlock ≠ some k → w'.heap[k]? = w.heap[k]?

theorem Turn.of_below {g : Nat} {s : Value} {w w' : World} (h : Below w.heap.size w w') : Turn g s w w' := ⟨h.os, h.tape, h.output, h.size, fun k hk _ _ => h.block k hk⟩
theorem Turn.refl (g : Nat) (s : Value) (w : World) : Turn g s w w := .of_below (Below.refl _ _)
theorem Turn.before {g : Nat} {s : Value} {a b c : World} (h : Below a.heap.size a b) (k : Turn g s b c) : Turn g s a c :=
  ⟨k.os.trans h.os, k.tape.trans h.tape, k.output.trans h.output, Nat.le_trans h.size k.size, fun i hi h1 h2 => (k.block i (Nat.lt_of_lt_of_le hi h.size) h1 h2).trans (h.block i hi)⟩
theorem Turn.trans {g : Nat} {s s' : Value} {a b c : World} (h : Turn g s a b) (hs : s'.ownBlock = s.ownBlock ∨ ∃ k, s'.ownBlock = some k ∧ a.heap.size ≤ k) (k : Turn g s' b c) : Turn g s a c := by
  refine ⟨k.os.trans h.os, k.tape.trans h.tape, k.output.trans h.output, Nat.le_trans h.size k.size, fun i hi h1 h2 => (k.block i (Nat.lt_of_lt_of_le hi h.size) h1 ?_).trans (h.block i hi h1 h2)⟩
  rcases hs with hs | ⟨k, hs, hk⟩
  · rw [hs]; exact h2
  · rw [hs]
    intro e
    cases e
    omega
theorem Turn.below {g B : Nat} {s : Value} {w w' : World} (h : Turn g s w w') (hg : B ≤ g) (hs : ∀ k, s.ownBlock = some k → B ≤ k) (hB : B ≤ w.heap.size) : Below B w w' :=
  ⟨h.os, h.tape, h.output, h.size, fun k hk => h.block k (by omega) (by omega) (fun e => by have := hs k e; omega)⟩
theorem Turn.cell {g : Nat} {s : Value} {w w' : World} (h : Turn g s w w') {p : Addr} {v : Value} (hc : w.cell? p = some v) (h1 : p.block ≠ g) (h2 : s.ownBlock ≠ some p.block) : w'.cell? p = some v :=
  (World.cell?_of_block (h.block p.block (World.block_lt_of_cell? w p hc) h1 h2)).trans hc
theorem Turn.own {g B n : Nat} {s : Value} {w w' : World} (h : Turn g s w w') {v : Value} {e : TypeId} {vs : List Value} (ho : w.ownsRow B e 1 v n vs) (h1 : v.ownBlock ≠ some g) (h2 : v.ownBlock = none ∨ v.ownBlock ≠ s.ownBlock) : w'.ownsRow B e 1 v n vs := by
  refine ⟨ho.1, ?_⟩
  rcases ho.2 with hn | ⟨b, cap, cur, rfl, hb, hh, r⟩
  · exact .inl hn
  · refine .inr ⟨b, cap, cur, rfl, hb, ?_, r⟩
    rw [h.block b (Array.getElem?_eq_some_iff.1 hh).1 (by simpa [Value.ownBlock] using h1) (by rcases h2 with h2 | h2 <;> simp [Value.ownBlock] at h2 ⊢; exact fun e => h2 e.symm)]
    exact hh

/-- A slice of bytes that the call was handed: empty, or a row of its own. -/
def Fr (w : World) (B : Nat) (v : Value) (ys : List UInt8) : Prop :=
  (ys = [] ∧ ∃ ao, v = .slice ao 0 0) ∨ (0 < ys.length ∧ w.ownsRow B 5 1 v ys.length (ys.map bv))
theorem Fr.rd {w : World} {B : Nat} {v : Value} {ys : List UInt8} (h : Fr w B v ys) : Rd w v (ys.map bv) := by
  rcases h with ⟨rfl, ao, rfl⟩ | ⟨_, h⟩
  · exact .inl ⟨rfl, ao, 0, fun _ => rfl, rfl⟩
  · exact .of_own h

theorem Fr.form {w : World} {B : Nat} {v : Value} {ys : List UInt8} (h : Fr w B v ys) : ∃ ao cap, v = .slice ao ys.length cap := by
  rcases h with ⟨rfl, ao, rfl⟩ | ⟨_, ho⟩
  · exact ⟨_, _, rfl⟩
  · rcases ho.2 with ⟨rfl, e⟩ | ⟨_, _, _, rfl, _⟩
    · rw [e]; exact ⟨_, _, rfl⟩
    · exact ⟨_, _, rfl⟩
theorem Fr.lower {w : World} {B B' : Nat} {v : Value} {ys : List UInt8} (h : Fr w B v ys) (hB : B' ≤ B) : Fr w B' v ys := h.imp id fun h => ⟨h.1, ownsRow_lower h.2 hB⟩
theorem Fr.below {w w' : World} {B : Nat} {v : Value} {ys : List UInt8} (h : Fr w B v ys) (hb : Below w.heap.size w w') : Fr w' B v ys := h.imp id fun h => ⟨h.1, own_below h.2 hb⟩

/-- Nothing is appended. -/
theorem run_append_none {P : Program} (w : World) (t ty e : TypeId) (i : TypeInfo) (ht : P.underlying t = some (.slice e)) (hi : P.info? e = some i) (base : Option Addr) (n cap : Nat) (hle : n ≤ cap) (ao : Option Addr) (c : Nat) (hc : ao = none → c = 0) :
    (Builtin.append_ #[t, t] ty #[.slice base n cap, .slice ao 0 c]).run P w = .ok (.slice base n cap) w := by
  cases ao with
  | none =>
    obtain rfl := hc rfl
    cases base <;> simp [Builtin.append_, run_underlying ht, sizeOf, typeInfo, hi, Builtin.lenOf, hle, Builtin.firstCells, storeCells]
  | some a =>
    have hfc := run_firstCells_some (P := P) w i.size 0 a 0 c [] (by simp) (fun j u h => by simp at h)
    cases base <;> simp [Builtin.append_, run_underlying ht, sizeOf, typeInfo, hi, Builtin.lenOf, hle, hfc, storeCells]

/-- 'append(xs, ys...)' on a row of bytes that the call owns, ys whatever slice: where the new one lies. -/
theorem append_where {ops : Array Oper} {rest : List Oper} {o : Oper} {a : Act} {Q : Exit → Act → World → Prop} {w : World} {B n : Nat} {v : Value} {xs : List Value}
    (hgd : o.guard = none) (s x : Operand) (ho : o.op = .call { callee := .builtin .append, args := #[s, x], argTypes := #[98, 98] })
    (hs : a.eval s = v) (hown : w.ownsRow B 5 1 v n xs) (ys : List UInt8) (hx : Rd w (a.eval x) (ys.map bv)) (hn : n + ys.length ≤ 16777216) (hB : B ≤ w.heap.size)
    (h : ∀ v' w', w'.ownsRow B 5 1 v' (n + ys.length) (xs ++ ys.map bv) → w.grownBy w' v.ownBlock → (ys = [] → v' = v) → (v' = v ∨ ∃ g cap, v' = .slice (some ⟨g, 0, none⟩) (n + ys.length) cap ∧ (v.ownBlock = some g ∨ g = w.heap.size)) → wpList Tryd.prog ops Q rest (a.put o.dst v') w') :
    wpList Tryd.prog ops Q (o :: rest) a w := by
  obtain ⟨i0, hi, hz0, hz1, hz2⟩ := info_parts info_u8
  rcases hx with ⟨e, ao, cap, ha, hx⟩ | ⟨b, off, cap, hx, g1, g2, g3⟩
  · obtain rfl : ys = [] := by simpa using e
    obtain ⟨bo, cp, rfl, hle⟩ : ∃ bo cp, v = .slice bo n cp ∧ n ≤ cp := by
      rcases hown.2 with ⟨rfl, rfl⟩ | ⟨g, cp, cur, rfl, _, _, h2, _⟩
      · exact ⟨_, _, rfl, Nat.le_refl _⟩
      · exact ⟨_, _, rfl, h2⟩
    have hr := run_append_none (P := Tryd.prog) w 98 o.type 5 i0 Tryd.underlying98 hi bo n cp hle ao cap ha
    refine wpList_plain hgd fun K hK => ?_
    unfold Oper.wp
    simp [execOp, ho, resolve, invoke, builtin, hs, hx, hr, Result.andThen]
    exact hK _ _ (h _ w (by simpa using hown) ⟨rfl, rfl, rfl, Nat.le_refl _, fun _ _ _ => rfl⟩ (fun _ => rfl) (.inl rfl))
  · rw [List.length_map] at hx g1
    rcases Nat.eq_zero_or_pos ys.length with h0 | h0
    · obtain rfl : ys = [] := List.eq_nil_of_length_eq_zero h0
      obtain ⟨bo, cp, rfl, hle⟩ : ∃ bo cp, v = .slice bo n cp ∧ n ≤ cp := by
        rcases hown.2 with ⟨rfl, rfl⟩ | ⟨g, cp, cur, rfl, _, _, h2, _⟩
        · exact ⟨_, _, rfl, Nat.le_refl _⟩
        · exact ⟨_, _, rfl, h2⟩
      have hr := run_append_none (P := Tryd.prog) w 98 o.type 5 i0 Tryd.underlying98 hi bo n cp hle (some ⟨b, off, none⟩) cap (fun h => by cases h)
      refine wpList_plain hgd fun K hK => ?_
      unfold Oper.wp
      simp only [List.length_nil] at hx
      simp [execOp, ho, resolve, invoke, builtin, hs, hx, hr, Result.andThen]
      exact hK _ _ (h _ w (by simpa using hown) ⟨rfl, rfl, rfl, Nat.le_refl _, fun _ _ _ => rfl⟩ (fun _ => rfl) (.inl rfl))
    · refine wpList_append_lies w hgd s x 98 ho B 5 i0 (.int .u8 0) 1 1 Tryd.underlying98 hi hz0 hz1 hz2 rfl (by decide) v n xs hs hown ⟨b, off, none⟩ ys.length cap (ys.map bv) hx (by simp) (fun j u hj => by rw [Addr.add_lit]; exact g3 j u hj) (bv_cell _) h0 (by unfold maxLen; omega) (by omega) hB _ rfl (fun g cap w' h2 h3 h4 _ => ?_)
      exact h _ w' h2 h3 (fun e => by subst e; cases h0) (.inr ⟨g, cap, rfl, h4⟩)

/-- 'append(xs[:0:0], xs...)'. -/
theorem append_own {ops : Array Oper} {rest : List Oper} {o : Oper} {a : Act} {Q : Exit → Act → World → Prop} {w : World}
    (hgd : o.guard = none) (s x : Operand) (ho : o.op = .call { callee := .builtin .append, args := #[s, x], argTypes := #[98, 98] })
    (ao : Option Addr) (hs : a.eval s = .slice ao 0 0) (ys : List UInt8) (hx : Rd w (a.eval x) (ys.map bv)) (hn : ys.length ≤ 16777216)
    (h : ∀ v' w', Below w.heap.size w w' → (ys = [] → v' = .slice ao 0 0) → Fr w' w.heap.size v' ys → wpList Tryd.prog ops Q rest (a.put o.dst v') w') :
    wpList Tryd.prog ops Q (o :: rest) a w := by
  obtain ⟨i0, hi, hz0, hz1, hz2⟩ := info_parts info_u8
  have nothing : ∀ bo cap, ys = [] → (bo = none → cap = 0) → a.eval x = .slice bo 0 cap → wpList Tryd.prog ops Q (o :: rest) a w := by
    rintro bo cap rfl hb hx
    have hr := run_append_none (P := Tryd.prog) w 98 o.type 5 i0 Tryd.underlying98 hi ao 0 0 (Nat.le_refl _) bo cap hb
    refine wpList_plain hgd fun K hK => ?_
    unfold Oper.wp
    simp [execOp, ho, resolve, invoke, builtin, hs, hx, hr, Result.andThen]
    exact hK _ _ (h _ w (Below.refl _ _) (fun _ => rfl) (.inl ⟨rfl, _, rfl⟩))
  rcases hx with ⟨e, bo, cap, ha, hx⟩ | ⟨b, off, cap, hx, g1, g2, g3⟩
  · exact nothing bo cap (by simpa using e) ha hx
  · rw [List.length_map] at hx g1
    rcases Nat.eq_zero_or_pos ys.length with h0 | h0
    · exact nothing (some ⟨b, off, none⟩) cap (List.eq_nil_of_length_eq_zero h0) (fun h => by cases h) (by rw [hx, h0])
    · refine wpList_append_grows w hgd s x 98 ho 5 i0 (.int .u8 0) 1 1 Tryd.underlying98 hi hz0 hz1 hz2 rfl (by decide) ao 0 0 [] hs (fun _ => ⟨rfl, rfl⟩) rfl (fun b _ j u h => by simp at h) ⟨b, off, none⟩ ys.length cap (ys.map bv) hx (by simp) (fun j u hj => by rw [Addr.add_lit]; exact g3 j u hj) (bv_cell _) (by omega) (by unfold maxLen; omega) (by omega) (fun v' w' h2 h3 => ?_)
      rw [Nat.zero_add, List.nil_append] at h2
      exact h v' w' ((Below.refl _ _).grown h3 (Nat.le_refl _) (fun k hk => by cases hk)) (fun e => by subst e; cases h0) (.inr ⟨h0, h2⟩)
end Go.Proofs.YtiikionoagmabaaDoor

/- A row of the call's own, and a block of other cells: apart; a store beside it. -/
namespace Go.Proofs.YtiikionoagmabaaDoor
open Go.RowKit

theorem own_not {w : World} {B n g : Nat} {e t : TypeId} {v : Value} {xs : List Value} {C : Array Value} {fr : Nat × Nat} (h : w.ownsRow B e 1 v n xs) (hg : w.heap[g]? = some (.cells C t fr)) (ht : e ≠ t) : v.ownBlock ≠ some g := by
  rcases h.2 with ⟨rfl, _⟩ | ⟨b, cap, cur, rfl, _, hh, _⟩
  · intro h; cases h
  · intro e2
    have e3 : b = g := by simpa [Value.ownBlock] using e2
    subst e3
    rw [hh] at hg
    simp only [Option.some.injEq, Obj.cells.injEq] at hg
    exact ht hg.2.1
theorem own_setCell {w : World} {B n g i : Nat} {e : TypeId} {v u : Value} {xs : List Value} (h : w.ownsRow B e 1 v n xs) (hg : v.ownBlock ≠ some g) : (w.setCell ⟨g, i, none⟩ u).ownsRow B e 1 v n xs := by
  refine ⟨h.1, ?_⟩
  rcases h.2 with hn | ⟨b, cap, cur, rfl, hb, hh, r⟩
  · exact .inl hn
  · refine .inr ⟨b, cap, cur, rfl, hb, ?_, r⟩
    rw [Below.heap_setCell _ _ _ _ (fun e => hg (by show some b = _; rw [e]))]
    exact hh
theorem own_form {w : World} {B n : Nat} {v : Value} {vs : List Value} {e : TypeId} (h : w.ownsRow B e 1 v n vs) : ∃ ao cap, v = .slice ao n cap := by
  rcases h.2 with ⟨e, hn⟩ | ⟨b, cap, cur, e, _, _, h1, h2, _⟩
  · exact ⟨none, 0, by rw [e, hn]⟩
  · exact ⟨_, cap, e⟩
end Go.Proofs.YtiikionoagmabaaDoor

/- Rows of the call's own apart: what they may become, past what turned. -/
namespace Go.Proofs.YtiikionoagmabaaDoor
open Go.RowKit

/-- What a row may have become: none, itself, or a new one. -/
def Nx (s s' : Value) (n : Nat) : Prop := s'.ownBlock = none ∨ s'.ownBlock = s.ownBlock ∨ ∃ k, s'.ownBlock = some k ∧ n ≤ k
theorem Nx.refl (s : Value) (n : Nat) : Nx s s n := .inr (.inl rfl)
theorem Nx.trans {s s' s'' : Value} {n m : Nat} (h : Nx s s' n) (h' : Nx s' s'' m) (hn : n ≤ m) : Nx s s'' n := by
  rcases h' with h' | h' | ⟨k, h', hk⟩
  · exact .inl h'
  · rcases h with h | h | ⟨k, h, hk⟩
    · exact .inl (h'.trans h)
    · exact .inr (.inl (h'.trans h))
    · exact .inr (.inr ⟨k, h'.trans h, hk⟩)
  · exact .inr (.inr ⟨k, h', Nat.le_trans hn hk⟩)
theorem Nx.lower {s s' : Value} {n m : Nat} (h : Nx s s' n) (hn : m ≤ n) : Nx s s' m := by
  rcases h with h | h | ⟨k, h, hk⟩
  · exact .inl h
  · exact .inr (.inl h)
  · exact .inr (.inr ⟨k, h, Nat.le_trans hn hk⟩)
theorem Turn.trans3 {g : Nat} {s s' : Value} {a b c : World} (h : Turn g s a b) (hs : Nx s s' a.heap.size) (k : Turn g s' b c) : Turn g s a c := by
  refine ⟨k.os.trans h.os, k.tape.trans h.tape, k.output.trans h.output, Nat.le_trans h.size k.size, fun i hi h1 h2 => (k.block i (Nat.lt_of_lt_of_le hi h.size) h1 ?_).trans (h.block i hi h1 h2)⟩
  rcases hs with hs | hs | ⟨k, hs, hk⟩
  · rw [hs]; intro e; cases e
  · rw [hs]; exact h2
  · rw [hs]
    intro e
    cases e
    omega
/-- Two rows apart. -/
def Ap (s s' : Value) : Prop := ∀ k, s.ownBlock = some k → s'.ownBlock ≠ some k
theorem Ap.symm {s s' : Value} (h : Ap s s') : Ap s' s := fun k h1 h2 => h k h2 h1
theorem Ap.next {s s' t : Value} {n : Nat} (h : Ap s t) (hn : Nx s s' n) (ht : ∀ k, t.ownBlock = some k → k < n) : Ap s' t := by
  rcases hn with hn | hn | ⟨k, hn, hk⟩
  · intro k hk; rw [hn] at hk; cases hk
  · intro k hk; rw [hn] at hk; exact h k hk
  · intro j hj e
    rw [hn] at hj
    cases hj
    have := ht _ e
    omega
theorem Ap.none {s t : Value} (h : s.ownBlock = none) : Ap s t := fun k hk => by rw [h] at hk; cases hk
theorem Ap.fresh {s t : Value} {n : Nat} (hs : ∀ k, s.ownBlock = some k → n ≤ k) (ht : ∀ k, t.ownBlock = some k → k < n) : Ap s t := fun k hk e => by
  have := hs k hk
  have := ht k e
  omega

/-- Rows of cells of unlike types are apart. -/
theorem own_apart {w : World} {B B' n n' : Nat} {e e' : TypeId} {v v' : Value} {xs xs' : List Value} (h : w.ownsRow B e 1 v n xs) (h' : w.ownsRow B' e' 1 v' n' xs') (he : e ≠ e') : Ap v v' := by
  rcases h.2 with ⟨rfl, _⟩ | ⟨b, cap, cur, rfl, _, hh, _⟩
  · exact Ap.none rfl
  · rcases h'.2 with ⟨rfl, _⟩ | ⟨b', cap', cur', rfl, _, hh', _⟩
    · exact (Ap.none rfl).symm
    · intro k hk e2
      have e1 : b = k := by simpa [Value.ownBlock] using hk
      have e3 : b' = k := by simpa [Value.ownBlock] using e2
      subst e1
      subst e3
      rw [hh] at hh'
      simp only [Option.some.injEq, Obj.cells.injEq] at hh'
      exact he hh'.2.1
/-- A row past what turned. -/
theorem Turn.past {g B n : Nat} {s : Value} {w w' : World} (h : Turn g s w w') {v : Value} {e : TypeId} {vs : List Value} (ho : w.ownsRow B e 1 v n vs) (h1 : v.ownBlock ≠ some g) (h2 : Ap v s) : w'.ownsRow B e 1 v n vs :=
  h.own ho h1 (by
    cases hv : v.ownBlock with
    | none => exact .inl rfl
    | some k => exact .inr (fun e => h2 k hv e.symm))

theorem fturn_setCell (w : World) (g i : Nat) (s u : Value) : Turn g s w (w.setCell ⟨g, i, none⟩ u) :=
  ⟨rfl, rfl, rfl, by simp [World.setCell], fun k _ h1 _ => Below.heap_setCell _ _ _ _ h1⟩
end Go.Proofs.YtiikionoagmabaaDoor

/- What an object that lies in several blocks may turn: a footprint. Of no layer. -/
namespace Go.Proofs.YtiikionoagmabaaDoor
open Go.RowKit

/-- Of what was there, the blocks of F alone may have turned. -/
structure Trn (F : Nat → Prop) (w w' : World) : Prop where
  os : w'.os = w.os
  tape : w'.tape = w.tape
  output : w'.output = w.output
  size : w.heap.size ≤ w'.heap.size
  block : ∀ k, k < w.heap.size → ¬ F k → w'.heap[k]? = w.heap[k]?
/-- A footprint later: of the elder one's blocks, and new ones. -/
def Fx (F F' : Nat → Prop) (n : Nat) : Prop := ∀ k, F' k → F k ∨ n ≤ k
section
variable {F F' F'' G : Nat → Prop} {w w' w'' : World} {n m : Nat}
theorem Fx.refl (F : Nat → Prop) (n : Nat) : Fx F F n := fun _ h => .inl h
theorem Fx.trans (h : Fx F F' n) (h' : Fx F' F'' m) (hn : n ≤ m) : Fx F F'' n := fun k hk => by
  rcases h' k hk with h' | h'
  · exact h k h'
  · exact .inr (Nat.le_trans hn h')
theorem Fx.lower (h : Fx F F' n) (hn : m ≤ n) : Fx F F' m := fun k hk => (h k hk).imp id (Nat.le_trans hn)
theorem Trn.refl (F : Nat → Prop) (w : World) : Trn F w w := ⟨rfl, rfl, rfl, Nat.le_refl _, fun _ _ _ => rfl⟩
theorem Trn.of_below (h : Below w.heap.size w w') : Trn F w w' := ⟨h.os, h.tape, h.output, h.size, fun k hk _ => h.block k hk⟩
theorem Trn.trans (h : Trn F w w') (hf : Fx F F' w.heap.size) (k : Trn F' w' w'') : Trn F w w'' :=
  ⟨k.os.trans h.os, k.tape.trans h.tape, k.output.trans h.output, Nat.le_trans h.size k.size, fun i hi h1 => (k.block i (Nat.lt_of_lt_of_le hi h.size) (fun e => by
    rcases hf i e with hf | hf
    · exact h1 hf
    · omega)).trans (h.block i hi h1)⟩
theorem Trn.then (h : Trn F w w') (k : Trn F w' w'') : Trn F w w'' := h.trans (Fx.refl _ _) k
theorem Trn.of_turn {g : Nat} {s : Value} (h : Turn g s w w') (hg : F g) (hs : ∀ k, s.ownBlock = some k → F k) : Trn F w w' :=
  ⟨h.os, h.tape, h.output, h.size, fun k hk h1 => h.block k hk (fun e => h1 (e ▸ hg)) (fun e => h1 (hs k e))⟩
theorem Trn.setCell (h : Trn F w w') {g i : Nat} (hg : F g) (u : Value) : Trn F w (w'.setCell ⟨g, i, none⟩ u) :=
  ⟨h.os, h.tape, h.output, by simpa [World.setCell] using h.size, fun k hk h1 => (Below.heap_setCell _ _ _ _ (fun e => h1 (by rw [show k = g from e]; exact hg))).trans (h.block k hk h1)⟩
theorem Trn.alloc (h : Trn F w w') (o : Obj) : Trn F w (w'.alloc o) :=
  ⟨h.os, h.tape, h.output, Nat.le_trans h.size (by simp), fun k hk h1 => (Below.heap_alloc _ _ _ (Nat.lt_of_lt_of_le hk h.size)).trans (h.block k hk h1)⟩
theorem Trn.more (h : Trn F w w') (hf : ∀ k, F k → F' k) : Trn F' w w' := ⟨h.os, h.tape, h.output, h.size, fun k hk h1 => h.block k hk (fun e => h1 (hf k e))⟩
theorem Trn.below {B : Nat} (h : Trn F w w') (hF : ∀ k, F k → B ≤ k) (hB : B ≤ w.heap.size) : Below B w w' :=
  ⟨h.os, h.tape, h.output, h.size, fun k hk => h.block k (by omega) (fun e => by have := hF k e; omega)⟩
/-- What is read past a footprint. -/
theorem Trn.rd (h : Trn F w w') {v : Value} {vs : List Value} (hr : Rd w v vs) (hv : ∀ k, v.ownBlock = some k → ¬ F k) : Rd w' v vs := by
  rcases hr with hr | ⟨b, o, cap, e, g1, g2, g3⟩
  · exact .inl hr
  · refine .inr ⟨b, o, cap, e, g1, g2, fun j u hj => ?_⟩
    have hc := g3 j u hj
    exact (World.cell?_of_block (h.block b (World.block_lt_of_cell? w _ hc) (hv b (by rw [e]; rfl)))).trans hc
theorem Trn.own (h : Trn F w w') {B n : Nat} {v : Value} {e : TypeId} {vs : List Value} (ho : w.ownsRow B e 1 v n vs) (hv : ∀ k, v.ownBlock = some k → ¬ F k) : w'.ownsRow B e 1 v n vs := by
  refine ⟨ho.1, ?_⟩
  rcases ho.2 with hn | ⟨b, cap, cur, rfl, hb, hh, r⟩
  · exact .inl hn
  · refine .inr ⟨b, cap, cur, rfl, hb, ?_, r⟩
    rw [h.block b (Array.getElem?_eq_some_iff.1 hh).1 (hv b rfl)]
    exact hh
/-- Two footprints apart. -/
def Ft (F G : Nat → Prop) : Prop := ∀ k, F k → ¬ G k
theorem Ft.symm (h : Ft F G) : Ft G F := fun k h1 h2 => h k h2 h1
theorem Ft.next (h : Ft F G) (hf : Fx F F' n) (hg : ∀ k, G k → k < n) : Ft F' G := fun k hk e => by
  rcases hf k hk with hf | hf
  · exact h k hf e
  · have := hg k e; omega
end
end Go.Proofs.YtiikionoagmabaaDoor
