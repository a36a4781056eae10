/- What a line of a reply says, patterns and codes, in plain words (layer 10). (Laid in round 9, ahead of stage 10.) -/
import Derived.Test.YthlbociimbpgkaaDoorRd
namespace Go.Proofs.YthlbociimbpgkaaDoor
namespace Ln

/-- A digit; one from 1 to 5. -/
def digit (c : UInt8) : Bool := decide (48 ≤ c.toNat) && decide (c.toNat ≤ 57)
def first (c : UInt8) : Bool := decide (49 ≤ c.toNat) && decide (c.toNat ≤ 53)
theorem digit_iff {c : UInt8} : digit c = true ↔ 48 ≤ c.toNat ∧ c.toNat ≤ 57 := by simp [digit]
theorem first_iff {c : UInt8} : first c = true ↔ 49 ≤ c.toNat ∧ c.toNat ≤ 53 := by simp [first]
theorem first_digit {c : UInt8} (h : first c = true) : digit c = true := by rw [first_iff] at h; rw [digit_iff]; omega

/-- What a line says: a code, whether more follow, a text. -/
structure Sa where
  code : List UInt8
  more : Bool
  text : List UInt8
/-- Behind three digits. -/
def tail3 (code : List UInt8) : List UInt8 → Option Sa
  | [] => some ⟨code, false, []⟩
  | x :: t => if x = 32 then some ⟨code, false, t⟩ else if x = 45 then some ⟨code, true, t⟩ else none
def num : List UInt8 → Option Sa
  | a :: b :: c :: r => if (first a && digit b && digit c) = true then tail3 [a, b, c] r else none
  | _ => none
/-- Behind a beginning: nothing, or a blank and a text. -/
def rest (b s : List UInt8) : Option (List UInt8) :=
  if b.isPrefixOf s then (match s.drop b.length with | [] => some [] | x :: t => if x = 32 then some t else none) else none
def pop (s : List UInt8) : Option Sa :=
  match rest [43, 79, 75] s with
  | some t => some ⟨[43], false, t⟩
  | none => match rest [45, 69, 82, 82] s with
    | some t => some ⟨[45], false, t⟩
    | none => match rest [43] s with
      | some t => some ⟨[62], false, t⟩
      | none => none
/-- 'Status'. -/
def status (proto : Int) (s : List UInt8) : Option Sa := if proto = 2 then pop s else if proto = 1 ∨ proto = 3 then num s else none

/-- The parts between commas. -/
def split : List UInt8 → List (List UInt8)
  | [] => [[]]
  | c :: r => if c = 44 then [] :: split r else match split r with | p :: ps => (c :: p) :: ps | [] => [[c]]
/-- Whether a part is a pattern. -/
def pattern (proto : Int) (p : List UInt8) : Bool :=
  if proto = 2 then p == [43] || p == [45] || p == [62]
  else if proto = 1 ∨ proto = 3 then (match p with | a :: r => first a && r.all digit && decide (r.length ≤ 2) | [] => false)
  else false
/-- 'Codes', 'Match'. -/
def codes (proto : Int) (s : List UInt8) : Bool := (split s).all (pattern proto)
def hit (code p : List UInt8) : Bool := !p.isEmpty && p.isPrefixOf code
def mat (s code : List UInt8) : Bool := (split s).any (hit code)

/-! Parts. -/
theorem split_ne : ∀ s : List UInt8, split s ≠ []
  | [] => by simp [split]
  | c :: r => by
    unfold split
    split
    · simp
    · split <;> simp
theorem split_comma (r : List UInt8) : split (44 :: r) = [] :: split r := by rw [split, if_pos rfl]
theorem split_other {c : UInt8} (hc : c ≠ 44) (r : List UInt8) : ∃ p ps, split r = p :: ps ∧ split (c :: r) = (c :: p) :: ps := by
  obtain ⟨p, ps, h⟩ : ∃ p ps, split r = p :: ps := by
    cases h : split r with
    | nil => exact absurd h (split_ne r)
    | cons p ps => exact ⟨p, ps, rfl⟩
  refine ⟨p, ps, h, ?_⟩
  rw [split, if_neg hc, h]
theorem split_append : ∀ (a b : List UInt8), split (a ++ 44 :: b) = split a ++ split b
  | [], b => by rw [List.nil_append, split_comma]; rfl
  | c :: a, b => by
    rw [List.cons_append]
    by_cases hc : c = 44
    · subst hc
      rw [split_comma, split_comma, split_append a b]
      rfl
    · obtain ⟨p, ps, h1, h2⟩ := split_other hc (a ++ 44 :: b)
      obtain ⟨q, qs, h3, h4⟩ := split_other hc a
      rw [split_append a b, h3] at h1
      rw [h2, h4]
      simp only [List.cons_append, List.cons.injEq] at h1
      obtain ⟨rfl, rfl⟩ := h1
      rfl
/-- None: one part. -/
theorem split_none : ∀ {s : List UInt8}, (∀ c ∈ s, c ≠ 44) → split s = [s]
  | [], _ => rfl
  | c :: r, h => by
    rw [split, if_neg (h c (List.mem_cons_self ..)), split_none (fun x hx => h x (List.mem_cons_of_mem _ hx))]
theorem split_snoc_comma (s : List UInt8) : split (s ++ [44]) = split s ++ [[]] := split_append s []
/-- A byte more, that is none: the last part has it. -/
theorem split_snoc : ∀ (s : List UInt8) {c : UInt8}, c ≠ 44 → ∃ ps p, split s = ps ++ [p] ∧ split (s ++ [c]) = ps ++ [p ++ [c]]
  | [], c, hc => ⟨[], [], rfl, by rw [List.nil_append, split_none (by simpa using hc)]; rfl⟩
  | x :: s, c, hc => by
    obtain ⟨ps, p, h1, h2⟩ := split_snoc s hc
    rw [List.cons_append]
    by_cases hx : x = 44
    · subst hx
      exact ⟨[] :: ps, p, by rw [split_comma, h1]; rfl, by rw [split_comma, h2]; rfl⟩
    · rw [split, if_neg hx, split, if_neg hx, h1, h2]
      cases ps with
      | nil => exact ⟨[], x :: p, rfl, rfl⟩
      | cons q qs => exact ⟨(x :: q) :: qs, p, rfl, rfl⟩
/-- A loop from left to right: the parts that are whole, and the one under way, from 'from' on. -/
structure At (s : List UInt8) (i from_ : Nat) (done : List (List UInt8)) : Prop where
  le : from_ ≤ i
  e : split (s.take i) = done ++ [(s.take i).drop from_]
theorem at_start (s : List UInt8) : At s 0 0 [] := ⟨Nat.le_refl _, rfl⟩
theorem at_comma {s : List UInt8} {i f : Nat} {done : List (List UInt8)} (h : At s i f done) (hc : s[i]? = some 44) : At s (i + 1) (i + 1) (done ++ [(s.take i).drop f]) := by
  obtain ⟨hi, he⟩ := List.getElem?_eq_some_iff.1 hc
  refine ⟨Nat.le_refl _, ?_⟩
  have e : (s.take i ++ [44]).drop (i + 1) = [] := List.drop_of_length_le (by rw [List.length_append, List.length_take]; simp; omega)
  rw [List.take_succ_eq_append_getElem hi, he, e, split_snoc_comma, h.e]
theorem at_other {s : List UInt8} {i f : Nat} {done : List (List UInt8)} {c : UInt8} (h : At s i f done) (hc : s[i]? = some c) (hn : c ≠ 44) : At s (i + 1) f done := by
  obtain ⟨hi, he⟩ := List.getElem?_eq_some_iff.1 hc
  refine ⟨Nat.le_succ_of_le h.le, ?_⟩
  obtain ⟨ps, p, h1, h2⟩ := split_snoc (s.take i) hn
  rw [h.e] at h1
  obtain ⟨rfl, h3⟩ := List.append_inj' h1 rfl
  rw [List.take_succ_eq_append_getElem hi, he, h2, ← List.singleton_inj.1 h3, List.drop_append_of_le_length (by rw [List.length_take]; have := h.le; omega)]
theorem at_end {s : List UInt8} {i f : Nat} {done : List (List UInt8)} (h : At s i f done) (hi : s.length ≤ i) : split s = done ++ [s.drop f] := by
  have := h.e
  rwa [List.take_of_length_le hi] at this

/-! LineMatches. -/
theorem codes_append (proto : Int) (a b : List UInt8) : codes proto (a ++ 44 :: b) = (codes proto a && codes proto b) := by
  unfold codes; rw [split_append, List.all_append]
theorem mat_append (a b code : List UInt8) : mat (a ++ 44 :: b) code = (mat a code || mat b code) := by
  unfold mat; rw [split_append, List.any_append]
theorem mat_nil (code : List UInt8) : mat [] code = false := rfl
theorem mat_comma (code : List UInt8) : mat [44] code = false := rfl
theorem pattern_nil (proto : Int) : pattern proto [] = false := by
  unfold pattern
  split
  · rfl
  · split <;> rfl
theorem codes_nil (proto : Int) : codes proto [] = false := by
  show (pattern proto [] && true) = false
  rw [pattern_nil]; rfl

/-! Codes of three digits. -/
theorem no_comma {c : UInt8} (h : digit c = true) : c ≠ 44 := by
  rintro rfl
  revert h
  decide
theorem mat_own {a b c : UInt8} (ha : first a = true) (hb : digit b = true) (hc : digit c = true) : mat [a, b, c] [a, b, c] = true := by
  unfold mat
  rw [split_none (by
    intro x hx
    simp at hx
    rcases hx with rfl | rfl | rfl
    · exact no_comma (first_digit ha)
    · exact no_comma hb
    · exact no_comma hc)]
  simp [hit]
theorem mat_first {a b c : UInt8} (ha : first a = true) : mat [a] [a, b, c] = true := by
  unfold mat
  rw [split_none (by
    intro x hx
    simp at hx
    rw [hx]; exact no_comma (first_digit ha))]
  simp [hit]
theorem mat_two {a b c : UInt8} (ha : first a = true) (hb : digit b = true) : mat [57, 44, a, b] [a, b, c] = true := by
  show mat ([57] ++ 44 :: [a, b]) [a, b, c] = true
  rw [mat_append]
  have : mat [a, b] [a, b, c] = true := by
    unfold mat
    rw [split_none (by
      intro x hx
      simp at hx
      rcases hx with rfl | rfl
      · exact no_comma (first_digit ha)
      · exact no_comma hb)]
    simp [hit]
  rw [this, Bool.or_true]
theorem codes_own {proto : Int} (hp : proto = 1 ∨ proto = 3) {a b c : UInt8} (ha : first a = true) (hb : digit b = true) (hc : digit c = true) : codes proto [a, b, c] = true := by
  unfold codes
  rw [split_none (by
    intro x hx
    simp at hx
    rcases hx with rfl | rfl | rfl
    · exact no_comma (first_digit ha)
    · exact no_comma hb
    · exact no_comma hc)]
  show (pattern proto [a, b, c] && true) = true
  have hp2 : ¬ proto = 2 := by omega
  unfold pattern
  rw [if_neg hp2, if_pos hp]
  simp [ha, hb, hc]
theorem codes_not_pop {a b c : UInt8} (ha : first a = true) (hb : digit b = true) (hc : digit c = true) : codes 2 [a, b, c] = false := by
  unfold codes
  rw [split_none (by
    intro x hx
    simp at hx
    rcases hx with rfl | rfl | rfl
    · exact no_comma (first_digit ha)
    · exact no_comma hb
    · exact no_comma hc)]
  simp [pattern]
theorem codes_pop : codes 2 [43] = true ∧ codes 2 [45] = true ∧ codes 2 [62] = true := ⟨rfl, rfl, rfl⟩

/-! Lines. -/
theorem tail3_some {code t : List UInt8} {r : Sa} (h : tail3 code t = some r) : r.code = code ∧ r.text.length ≤ t.length ∧ (t = [] ∧ r.more = false ∧ r.text = [] ∨ t = 32 :: r.text ∧ r.more = false ∨ t = 45 :: r.text ∧ r.more = true) := by
  cases t with
  | nil =>
    obtain rfl := Option.some.inj h
    exact ⟨rfl, Nat.le_refl _, .inl ⟨rfl, rfl, rfl⟩⟩
  | cons x t =>
    have h : (if x = 32 then some (⟨code, false, t⟩ : Sa) else if x = 45 then some ⟨code, true, t⟩ else none) = some r := h
    by_cases h1 : x = 32
    · rw [if_pos h1] at h
      obtain rfl := Option.some.inj h
      subst h1
      exact ⟨rfl, Nat.le_succ _, .inr (.inl ⟨rfl, rfl⟩)⟩
    · rw [if_neg h1] at h
      by_cases h2 : x = 45
      · rw [if_pos h2] at h
        obtain rfl := Option.some.inj h
        subst h2
        exact ⟨rfl, Nat.le_succ _, .inr (.inr ⟨rfl, rfl⟩)⟩
      · rw [if_neg h2] at h; cases h
theorem num_some {s : List UInt8} {r : Sa} (h : num s = some r) : ∃ a b c t, s = a :: b :: c :: t ∧ first a = true ∧ digit b = true ∧ digit c = true ∧ r.code = [a, b, c] ∧ tail3 [a, b, c] t = some r := by
  match s, h with
  | a :: b :: c :: t, h =>
    have h : (if (first a && digit b && digit c) = true then tail3 [a, b, c] t else none) = some r := h
    by_cases hd : (first a && digit b && digit c) = true
    · rw [if_pos hd] at h
      simp only [Bool.and_eq_true] at hd
      exact ⟨a, b, c, t, rfl, hd.1.1, hd.1.2, hd.2, (tail3_some h).1, h⟩
    · rw [if_neg hd] at h; cases h
theorem num_pop {s : List UInt8} {r : Sa} (h : num s = some r) : pop s = none := by
  obtain ⟨a, b, c, t, rfl, ha, _⟩ := num_some h
  have h43 : (43 == a) = false := beq_eq_false_iff_ne.2 (by rintro rfl; revert ha; decide)
  have h45 : (45 == a) = false := beq_eq_false_iff_ne.2 (by rintro rfl; revert ha; decide)
  have e1 : rest [43, 79, 75] (a :: b :: c :: t) = none := by unfold rest; rw [if_neg]; simp [List.isPrefixOf, h43]
  have e2 : rest [45, 69, 82, 82] (a :: b :: c :: t) = none := by unfold rest; rw [if_neg]; simp [List.isPrefixOf, h45]
  have e3 : rest [43] (a :: b :: c :: t) = none := by unfold rest; rw [if_neg]; simp [List.isPrefixOf, h43]
  unfold pop
  rw [e1, e2, e3]
theorem pop_some {s : List UInt8} {r : Sa} (h : pop s = some r) : r.more = false ∧ (r.code = [43] ∨ r.code = [45] ∨ r.code = [62]) := by
  unfold pop at h
  split at h
  · cases h; exact ⟨rfl, .inl rfl⟩
  · split at h
    · cases h; exact ⟨rfl, .inr (.inl rfl)⟩
    · split at h
      · cases h; exact ⟨rfl, .inr (.inr rfl)⟩
      · cases h
/-- What is written is read. -/
theorem num_tail {a b c : UInt8} (ha : first a = true) (hb : digit b = true) (hc : digit c = true) (r : List UInt8) : num (a :: b :: c :: r) = tail3 [a, b, c] r := by
  show (if (first a && digit b && digit c) = true then tail3 [a, b, c] r else none) = _
  rw [if_pos (by rw [ha, hb, hc]; rfl)]
theorem num_blank {a b c : UInt8} (ha : first a = true) (hb : digit b = true) (hc : digit c = true) (t : List UInt8) : num (a :: b :: c :: 32 :: t) = some ⟨[a, b, c], false, t⟩ := by
  rw [num_tail ha hb hc]; rfl
theorem num_sign {a b c : UInt8} (ha : first a = true) (hb : digit b = true) (hc : digit c = true) (t : List UInt8) : num (a :: b :: c :: 45 :: t) = some ⟨[a, b, c], true, t⟩ := by
  rw [num_tail ha hb hc]; rfl
theorem num_bare {a b c : UInt8} (ha : first a = true) (hb : digit b = true) (hc : digit c = true) : num [a, b, c] = some ⟨[a, b, c], false, []⟩ := by
  rw [num_tail ha hb hc]; rfl
theorem num_else {a b c x : UInt8} (h1 : x ≠ 32) (h2 : x ≠ 45) (t : List UInt8) : num (a :: b :: c :: x :: t) = none := by
  show (if (first a && digit b && digit c) = true then (if x = 32 then some _ else if x = 45 then some _ else none) else none) = none
  rw [if_neg h1, if_neg h2, ite_self]
theorem pop_ok (t : List UInt8) : pop ([43, 79, 75, 32] ++ t) = some ⟨[43], false, t⟩ := rfl
theorem pop_ask (t : List UInt8) : pop ([43, 32] ++ t) = some ⟨[62], false, t⟩ := rfl
theorem num_ok (t : List UInt8) : num ([43, 79, 75, 32] ++ t) = none := rfl
theorem pop_err (x : UInt8) (t : List UInt8) : pop ([45, 69, 82, 82] ++ x :: t) = if x = 32 then some ⟨[45], false, t⟩ else none := by
  have e1 : rest [43, 79, 75] ([45, 69, 82, 82] ++ x :: t) = none := rfl
  have e2 : rest [45, 69, 82, 82] ([45, 69, 82, 82] ++ x :: t) = if x = 32 then some t else none := rfl
  have e3 : rest [43] ([45, 69, 82, 82] ++ x :: t) = none := rfl
  unfold pop
  rw [e1, e2, e3]
  by_cases hx : x = 32
  · rw [if_pos hx, if_pos hx]
  · rw [if_neg hx, if_neg hx]
theorem pop_num {a b c : UInt8} (ha : first a = true) (t : List UInt8) : pop (a :: b :: c :: t) = none := by
  have h43 : (43 == a) = false := beq_eq_false_iff_ne.2 (by rintro rfl; revert ha; decide)
  have h45 : (45 == a) = false := beq_eq_false_iff_ne.2 (by rintro rfl; revert ha; decide)
  have e1 : rest [43, 79, 75] (a :: b :: c :: t) = none := by unfold rest; rw [if_neg]; simp [List.isPrefixOf, h43]
  have e2 : rest [45, 69, 82, 82] (a :: b :: c :: t) = none := by unfold rest; rw [if_neg]; simp [List.isPrefixOf, h45]
  have e3 : rest [43] (a :: b :: c :: t) = none := by unfold rest; rw [if_neg]; simp [List.isPrefixOf, h43]
  unfold pop
  rw [e1, e2, e3]
/-- The code of a number from 100 to 599. -/
def codeOf (n : Nat) : List UInt8 := [UInt8.ofNat (48 + n / 100), UInt8.ofNat (48 + n / 10 % 10), UInt8.ofNat (48 + n % 10)]
theorem code_digits : ∀ n : Fin 500, first (UInt8.ofNat (48 + (100 + n.val) / 100)) = true ∧ digit (UInt8.ofNat (48 + (100 + n.val) / 10 % 10)) = true ∧ digit (UInt8.ofNat (48 + (100 + n.val) % 10)) = true := by decide +kernel
end Ln
end Go.Proofs.YthlbociimbpgkaaDoor
