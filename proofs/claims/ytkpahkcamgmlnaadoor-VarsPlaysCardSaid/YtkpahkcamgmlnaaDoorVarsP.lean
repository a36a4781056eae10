/- Names that stand for texts, in plain words (layer 16). (Laid in round 14, ahead of stage 16.) -/
import Init
namespace Go.Proofs.YtkpahkcamgmlnaaDoor
namespace Va

def small (c : UInt8) : Bool := decide (97 ≤ c.toNat) && decide (c.toNat ≤ 122)
def digit (c : UInt8) : Bool := decide (48 ≤ c.toNat) && decide (c.toNat ≤ 57)
def inName (c : UInt8) : Bool := small c || digit c || c == 95
/-- A piece of a text: a byte, or a name. -/
inductive Pt where
  | b (c : UInt8)
  | n (x : List UInt8)
deriving DecidableEq
/-- The pieces of a text; none: a sign is wrong. -/
def go : Nat → List UInt8 → Option (List Pt)
  | 0, _ => some []
  | _ + 1, [] => some []
  | f + 1, c :: l => if c = 36 then (if l = [] then none
      else if small (l.headD 0) = true then (go f (l.dropWhile inName)).map (Pt.n (l.takeWhile inName) :: ·)
      else if l.headD 0 = 36 then (go f l.tail).map (Pt.b 36 :: ·) else none)
    else (go f l).map (Pt.b c :: ·)
def parts (l : List UInt8) : Option (List Pt) := go l.length l
def names (ps : List Pt) : List (List UInt8) := ps.filterMap fun p => match p with
  | .b _ => none
  | .n x => some x

theorem drop_len (p : UInt8 → Bool) (l : List UInt8) : (l.dropWhile p).length ≤ l.length := (List.dropWhile_sublist _).length_le
theorem go_fuel : ∀ (f g : Nat) (l : List UInt8), l.length ≤ f → l.length ≤ g → go f l = go g l
  | 0, g, l, hf, _ => by
    obtain rfl : l = [] := List.eq_nil_of_length_eq_zero (by omega)
    cases g <;> rfl
  | f + 1, 0, l, _, hg => by
    obtain rfl : l = [] := List.eq_nil_of_length_eq_zero (by omega)
    rfl
  | f + 1, g + 1, l, hf, hg => by
    cases l with
    | nil => rfl
    | cons c l =>
      simp only [List.length_cons] at hf hg
      rw [go, go]
      by_cases h1 : c = 36
      · rw [if_pos h1, if_pos h1]
        by_cases h0 : l = []
        · rw [if_pos h0, if_pos h0]
        · rw [if_neg h0, if_neg h0]
          have h1l : l.tail.length + 1 = l.length := by cases l with
            | nil => exact absurd rfl h0
            | cons d r => simp
          by_cases h2 : small (l.headD 0) = true
          · rw [if_pos h2, if_pos h2]
            have hd : (l.dropWhile inName).length + 1 ≤ l.length := by
              cases l with
              | nil => exact absurd rfl h0
              | cons d r =>
                have hn : inName d = true := by simp [inName, show small d = true from h2]
                have := drop_len inName r
                rw [List.dropWhile_cons, hn, if_pos rfl, List.length_cons]; omega
            rw [go_fuel f g _ (by omega) (by omega)]
          · rw [if_neg h2, if_neg h2]
            by_cases h3 : l.headD 0 = 36
            · rw [if_pos h3, if_pos h3, go_fuel f g l.tail (by omega) (by omega)]
            · rw [if_neg h3, if_neg h3]
      · rw [if_neg h1, if_neg h1, go_fuel f g l (by omega) (by omega)]
theorem parts_of {f : Nat} {l : List UInt8} (h : l.length ≤ f) : go f l = parts l := go_fuel f l.length l h (Nat.le_refl _)
theorem parts_nil : parts [] = some [] := rfl
theorem parts_byte {c : UInt8} (h : c ≠ 36) (l : List UInt8) : parts (c :: l) = (parts l).map (Pt.b c :: ·) := by
  unfold parts
  rw [List.length_cons, go, if_neg h]
theorem parts_end : parts [36] = none := rfl
theorem parts_two (l : List UInt8) : parts (36 :: 36 :: l) = (parts l).map (Pt.b 36 :: ·) := by
  conv => lhs; unfold parts
  rw [List.length_cons, go, if_pos rfl, if_neg (by simp)]
  show (if small 36 = true then _ else if (36 : UInt8) = 36 then (go _ l).map _ else none) = _
  rw [if_neg (by decide), if_pos rfl, parts_of (by simp)]
theorem parts_wrong {d : UInt8} (h1 : small d = false) (h2 : d ≠ 36) (l : List UInt8) : parts (36 :: d :: l) = none := by
  unfold parts
  rw [List.length_cons, go, if_pos rfl, if_neg (by simp)]
  show (if small d = true then _ else if d = 36 then (go _ l).map _ else none) = _
  rw [if_neg (by rw [h1]; decide), if_neg h2]
theorem parts_take {d : UInt8} (h : small d = true) (r : List UInt8) : parts (36 :: d :: r) = (parts ((d :: r).dropWhile inName)).map (Pt.n ((d :: r).takeWhile inName) :: ·) := by
  have hn : inName d = true := by simp [inName, h]
  have hd := drop_len inName (d :: r)
  conv => lhs; unfold parts
  rw [List.length_cons, go, if_pos rfl, if_neg (by simp)]
  show (if small d = true then _ else _) = _
  rw [if_pos h, parts_of hd]
/-- All of a kind, and what stands behind. -/
theorem while_app {p : UInt8 → Bool} : ∀ (a b : List UInt8), (∀ c ∈ a, p c = true) → (b.head?.map p).getD false = false → (a ++ b).takeWhile p = a ∧ (a ++ b).dropWhile p = b
  | [], b, _, hb => by
    cases b with
    | nil => exact ⟨rfl, rfl⟩
    | cons c b =>
      have hc : p c = false := by simpa using hb
      simp [hc]
  | c :: a, b, h, hb => by
    obtain ⟨h1, h2⟩ := while_app a b (fun x hx => h x (by simp [hx])) hb
    have hc := h c (by simp)
    rw [List.cons_append, List.takeWhile_cons, List.dropWhile_cons, hc, if_pos rfl, if_pos rfl, h1, h2]
    exact ⟨rfl, rfl⟩
theorem parts_name {d : UInt8} {x r : List UInt8} (h : small d = true) (hx : ∀ c ∈ d :: x, inName c = true) (hr : (r.head?.map inName).getD false = false) : parts (36 :: (d :: x ++ r)) = (parts r).map (Pt.n (d :: x) :: ·) := by
  obtain ⟨w1, w2⟩ := while_app (p := inName) (d :: x) r hx hr
  rw [List.cons_append, parts_take h, ← List.cons_append, w1, w2]
theorem parts_bare : ∀ (a r : List UInt8), (∀ c ∈ a, c ≠ 36) → parts (a ++ r) = (parts r).map (a.map Pt.b ++ ·)
  | [], r, _ => by cases h : parts r <;> simp [h]
  | c :: a, r, h => by
    rw [List.cons_append, parts_byte (h c (by simp)), parts_bare a r (fun x hx => h x (by simp [hx])), Option.map_map]
    rfl
/-- Each sign doubled. -/
def dbl (c : UInt8) : List UInt8 := if c = 36 then [36, 36] else [c]
theorem parts_dbl : ∀ t : List UInt8, parts (t.flatMap dbl) = some (t.map Pt.b)
  | [] => rfl
  | c :: t => by
    rw [List.flatMap_cons]
    unfold dbl
    by_cases h : c = 36
    · subst h
      rw [if_pos rfl]
      show parts (36 :: 36 :: t.flatMap dbl) = _
      rw [parts_two, parts_dbl t]
      rfl
    · rw [if_neg h]
      show parts (c :: t.flatMap dbl) = _
      rw [parts_byte h, parts_dbl t]
      rfl
/-- Two texts, a blank between. -/
theorem parts_blank (t : List UInt8) : ∀ (n : Nat) (s : List UInt8), s.length ≤ n → parts (s ++ 32 :: t) = (parts s).bind fun a => (parts t).map fun b => a ++ Pt.b 32 :: b
  | _, [], _ => by
    rw [List.nil_append, parts_byte (by decide), parts_nil]
    rfl
  | 0, c :: s, h => absurd h (by simp)
  | n + 1, c :: s, h => by
    simp only [List.length_cons] at h
    by_cases h1 : c = 36
    · subst h1
      cases s with
      | nil => rw [List.cons_append, List.nil_append, parts_wrong (by decide) (by decide), parts_end]; rfl
      | cons d r =>
        simp only [List.length_cons] at h
        by_cases h2 : small d = true
        · have hn : inName d = true := by simp [inName, h2]
          rw [parts_take h2, List.cons_append, List.cons_append, parts_take h2]
          have key : ∀ l : List UInt8, (l ++ 32 :: t).takeWhile inName = l.takeWhile inName ∧ (l ++ 32 :: t).dropWhile inName = l.dropWhile inName ++ 32 :: t := fun l => by
            induction l with
            | nil => exact ⟨by simp [inName, small, digit], by simp [inName, small, digit]⟩
            | cons x l ih =>
              rw [List.cons_append, List.takeWhile_cons, List.takeWhile_cons, List.dropWhile_cons, List.dropWhile_cons]
              cases inName x
              · exact ⟨rfl, rfl⟩
              · simp only [if_true]
                exact ⟨by rw [ih.1], ih.2⟩
          rw [← List.cons_append, (key (d :: r)).1, (key (d :: r)).2, parts_blank t n _ (by rw [List.dropWhile_cons, hn, if_pos rfl]; have := drop_len inName r; omega)]
          cases parts ((d :: r).dropWhile inName) with
          | none => rfl
          | some a => cases parts t <;> rfl
        · have h2' : small d = false := by simpa using h2
          by_cases h3 : d = 36
          · subst h3
            rw [List.cons_append, List.cons_append, parts_two, parts_two, parts_blank t n r (by omega)]
            cases parts r with
            | none => rfl
            | some a => cases parts t <;> rfl
          · rw [List.cons_append, List.cons_append, parts_wrong h2' h3, parts_wrong h2' h3]
            rfl
    · rw [List.cons_append, parts_byte h1, parts_byte h1, parts_blank t n s (by omega)]
      cases parts s with
      | none => rfl
      | some a => cases parts t <;> rfl

/-! Names and values, in the order in which they were set first. -/
abbrev Env := List (List UInt8 × List UInt8)
def look (σ : Env) (x : List UInt8) : Option (List UInt8) := match σ with
  | [] => none
  | (y, v) :: σ => if y = x then some v else look σ x
def put (σ : Env) (x v : List UInt8) : Env := match σ with
  | [] => [(x, v)]
  | (y, u) :: σ => if y = x then (y, v) :: σ else (y, u) :: put σ x v
/-- P16.2: what is set, and the error. -/
def set (σ : Env) (x v : List UInt8) : Env × Nat := if 1000 < v.length then (σ, 71) else if look σ x = none ∧ 16 ≤ σ.length then (σ, 72) else (put σ x v, 0)
theorem look_put (σ : Env) (x v y : List UInt8) : look (put σ x v) y = if x = y then some v else look σ y := by
  induction σ with
  | nil => rfl
  | cons p σ ih =>
    obtain ⟨z, u⟩ := p
    rw [put]
    by_cases h : z = x
    · subst h
      rw [if_pos rfl, look, look]
      by_cases h2 : z = y
      · rw [if_pos h2, if_pos h2]
      · rw [if_neg h2, if_neg h2, if_neg h2]
    · rw [if_neg h, look, ih, look]
      by_cases h2 : z = y
      · rw [if_pos h2, if_pos h2, if_neg (fun e => h (h2.trans e.symm))]
      · rw [if_neg h2, if_neg h2]
theorem put_length (σ : Env) (x v : List UInt8) : (put σ x v).length = if look σ x = none then σ.length + 1 else σ.length := by
  induction σ with
  | nil => rfl
  | cons p σ ih =>
    obtain ⟨z, u⟩ := p
    rw [put, look]
    by_cases h : z = x
    · rw [if_pos h, if_pos h, if_neg (by simp)]; rfl
    · rw [if_neg h, if_neg h, List.length_cons, ih]
      split <;> rfl
/-- P16.3. -/
def fill (σ : Env) : List Pt → Option (List UInt8)
  | [] => some []
  | .b c :: ps => (fill σ ps).map (c :: ·)
  | .n x :: ps => (look σ x).bind fun v => (fill σ ps).map (v ++ ·)
def expand (σ : Env) (t : List UInt8) : Option (List UInt8) := (parts t).bind (fill σ)
theorem fill_bytes (σ : Env) : ∀ (a : List UInt8) (ps : List Pt), fill σ (a.map Pt.b ++ ps) = (fill σ ps).map (a ++ ·)
  | [], ps => by cases h : fill σ ps <;> simp [h]
  | c :: a, ps => by
    rw [List.map_cons, List.cons_append, fill, fill_bytes σ a ps, Option.map_map]
    rfl
theorem fill_app (σ : Env) : ∀ (p q : List Pt), fill σ (p ++ q) = (fill σ p).bind fun a => (fill σ q).map (a ++ ·)
  | [], q => by cases h : fill σ q <;> simp [fill, h]
  | .b c :: p, q => by
    rw [List.cons_append, fill, fill_app σ p q, fill]
    cases fill σ p with
    | none => rfl
    | some a => cases fill σ q <;> rfl
  | .n x :: p, q => by
    rw [List.cons_append, fill, fill_app σ p q, fill]
    cases look σ x with
    | none => rfl
    | some v =>
      cases fill σ p with
      | none => rfl
      | some a =>
        cases fill σ q with
        | none => rfl
        | some b => simp
/-- P16.4. -/
theorem expand_bare (σ : Env) {t : List UInt8} (h : ∀ c ∈ t, c ≠ 36) : expand σ t = some t := by
  unfold expand
  have e := parts_bare t [] h
  rw [List.append_nil, parts_nil] at e
  rw [e]
  have f := fill_bytes σ t []
  simpa [fill] using f
theorem expand_blank (σ : Env) (s t : List UInt8) : expand σ (s ++ 32 :: t) = (expand σ s).bind fun a => (expand σ t).map fun b => a ++ 32 :: b := by
  unfold expand
  rw [parts_blank t s.length s (Nat.le_refl _)]
  cases parts s with
  | none => rfl
  | some p =>
    cases parts t with
    | none =>
      show none = (fill σ p).bind _
      cases fill σ p <;> rfl
    | some q =>
      show fill σ (p ++ Pt.b 32 :: q) = (fill σ p).bind fun a => (fill σ q).map fun b => a ++ 32 :: b
      rw [fill_app, fill]
      cases fill σ p with
      | none => rfl
      | some a =>
        simp only [Option.bind_some]
        cases fill σ q <;> rfl
theorem names_blank (s t : List UInt8) : (parts (s ++ 32 :: t)).map names = ((parts s).map names).bind fun a => ((parts t).map names).map fun b => a ++ b := by
  rw [parts_blank t s.length s (Nat.le_refl _)]
  cases parts s with
  | none => rfl
  | some p =>
    cases parts t with
    | none => rfl
    | some q => simp [names, List.filterMap_append]
theorem shown : expand [([97], [120])] [36, 97, 46, 36, 36] = some [120, 46, 36] := by decide +kernel
end Va
end Go.Proofs.YtkpahkcamgmlnaaDoor
