/- What a line of a reply says, patterns and codes, in plain words (layer 10). (Laid in round 9, ahead of stage 10.) -/
import Derived.Test.YtodlhhfcjkjapaaGreatDoorRd
namespace Go.Proofs.YtodlhhfcjkjapaaGreatDoor
namespace Ln
def digit (c : UInt8) : Bool := decide (48 ≤ c.toNat) && decide (c.toNat ≤ 57)
def first (c : UInt8) : Bool := decide (49 ≤ c.toNat) && decide (c.toNat ≤ 53)
theorem digit_iff {c : UInt8} : digit c = true ↔ 48 ≤ c.toNat ∧ c.toNat ≤ 57 := by simp [digit]
theorem first_iff {c : UInt8} : first c = true ↔ 49 ≤ c.toNat ∧ c.toNat ≤ 53 := by simp [first]
theorem first_digit {c : UInt8} (h : first c = true) : digit c = true := by rw [first_iff] at h; rw [digit_iff]; omega
structure Sa where
 code : List UInt8
 more : Bool
 text : List UInt8
def tail3 (code : List UInt8) : List UInt8 → Option Sa
 | [] => some ⟨code, false, []⟩
 | x :: t => if x = 32 then some ⟨code, false, t⟩ else if x = 45 then some ⟨code, true, t⟩ else none
def num : List UInt8 → Option Sa
 | a :: b :: c :: r => if (first a && digit b && digit c) = true then tail3 [a, b, c] r else none
 | _ => none
def rest (b s : List UInt8) : Option (List UInt8) :=
 if b.isPrefixOf s then (match s.drop b.length with | [] => some [] | x :: t => if x = 32 then some t else none) else none
def pop (s : List UInt8) : Option Sa :=
 match rest [43, 79, 75] s with
 | some t => some ⟨[43], false, t⟩
 | none => match rest [45, 69, 82, 82] s with
  | some t => some ⟨[45], false, t⟩
  | none => match rest [43] s with
   | some t => some ⟨[62], false, t⟩
   | none => none
def split : List UInt8 → List (List UInt8)
 | [] => [[]]
 | c :: r => if c = 44 then [] :: split r else match split r with | p :: ps => (c :: p) :: ps | [] => [[c]]
def pattern (proto : Int) (p : List UInt8) : Bool :=
 if proto = 2 then p == [43] || p == [45] || p == [62]
 else if proto = 1 ∨ proto = 3 then (match p with | a :: r => first a && r.all digit && decide (r.length ≤ 2) | [] => false)
 else false
def codes (proto : Int) (s : List UInt8) : Bool := (split s).all (pattern proto)
def hit (code p : List UInt8) : Bool := !p.isEmpty && p.isPrefixOf code
theorem split_ne : ∀ s : List UInt8, split s ≠ []
 | [] => by simp [split]
 | c :: r => by
  unfold split
  split
  ·simp
  ·split <;> simp
theorem split_comma (r : List UInt8) : split (44 :: r) = [] :: split r := by rw [split, if_pos rfl]
theorem split_other {c : UInt8} (hc : c ≠ 44) (r : List UInt8) : ∃ p ps, split r = p :: ps ∧ split (c :: r) = (c :: p) :: ps := by
 obtain ⟨p, ps, h⟩ : ∃ p ps, split r = p :: ps := by
  cases h : split r with
  | nil => exact absurd h (split_ne r)
  | cons p ps => exact ⟨p, ps, rfl⟩
 refine ⟨p, ps, h, ?_⟩
 rw [split, if_neg hc, h]
theorem split_append : ∀ (a b : List UInt8), split (a ++ 44 :: b) = split a ++ split b
 | [], b => by rw [List.nil_append, split_comma]; rfl
 | c :: a, b => by
  rw [List.cons_append]
  by_cases hc : c = 44
  ·subst hc
   rw [split_comma, split_comma, split_append a b]
   rfl
  ·obtain ⟨p, ps, h1, h2⟩ := split_other hc (a ++ 44 :: b)
   obtain ⟨q, qs, h3, h4⟩ := split_other hc a
   rw [split_append a b, h3] at h1
   rw [h2, h4]
   simp only [List.cons_append, List.cons.injEq] at h1
   obtain ⟨rfl, rfl⟩ := h1
   rfl
theorem split_none : ∀ {s : List UInt8}, (∀ c ∈ s, c ≠ 44) → split s = [s]
 | [], _ => rfl
 | c :: r, h => by
  rw [split, if_neg (h c (List.mem_cons_self ..)), split_none (fun x hx => h x (List.mem_cons_of_mem _ hx))]
end Ln
end Go.Proofs.YtodlhhfcjkjapaaGreatDoor
