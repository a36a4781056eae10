/- The answers of P5.1 and P5.2, over lists of bytes: plain facts, of no program. -/
import Derived.Test.YtjogdflhpciciaaDoorMd5
namespace Go.Proofs.YtjogdflhpciciaaDoor
namespace Au

/-- What stands ahead of the first c, or all. -/
def upTo (c : UInt8) : List UInt8 → List UInt8
  | [] => []
  | x :: r => if x = c then [] else x :: upTo c r
/-- What stands behind the first c, if there is one. -/
def behind (c : UInt8) : List UInt8 → Option (List UInt8)
  | [] => none
  | x :: r => if x = c then some r else behind c r
/-- A greeting's stamp. -/
def stamp (l : List UInt8) : Option (List UInt8) :=
  match behind 60 l with
  | none => none
  | some r => match behind 62 r with
    | none => none
    | some _ => if upTo 62 r = [] then none else some (60 :: upTo 62 r ++ [62])

theorem behind_none {c : UInt8} : ∀ {l : List UInt8}, behind c l = none ↔ c ∉ l
  | [] => by simp [behind]
  | x :: r => by
    rw [behind]
    by_cases h : x = c
    · simp [h]
    · rw [if_neg h, behind_none]
      simp [Ne.symm h]
theorem behind_app {c : UInt8} : ∀ {l r : List UInt8} (t : List UInt8), behind c l = some r → behind c (l ++ t) = some (r ++ t)
  | [], r, t, h => by cases h
  | x :: l, r, t, h => by
    rw [behind] at h
    rw [List.cons_append, behind]
    by_cases hx : x = c
    · rw [if_pos hx] at h ⊢
      rw [Option.some.inj h]
    · rw [if_neg hx] at h ⊢
      exact behind_app t h
theorem behind_skip {c : UInt8} : ∀ {a : List UInt8} (b : List UInt8), c ∉ a → behind c (a ++ b) = behind c b
  | [], _, _ => rfl
  | x :: a, b, h => by
    rw [List.mem_cons, not_or] at h
    rw [List.cons_append, behind, if_neg (Ne.symm h.1), behind_skip b h.2]
theorem upTo_app {c : UInt8} : ∀ {l r : List UInt8} (t : List UInt8), behind c l = some r → upTo c (l ++ t) = upTo c l
  | [], r, t, h => by cases h
  | x :: l, r, t, h => by
    rw [behind] at h
    rw [List.cons_append, upTo, upTo]
    by_cases hx : x = c
    · rw [if_pos hx, if_pos hx]
    · rw [if_neg hx] at h
      rw [if_neg hx, if_neg hx, upTo_app t h]
theorem upTo_skip {c : UInt8} : ∀ {a : List UInt8} (b : List UInt8), c ∉ a → upTo c (a ++ b) = a ++ upTo c b
  | [], _, _ => rfl
  | x :: a, b, h => by
    rw [List.mem_cons, not_or] at h
    rw [List.cons_append, upTo, if_neg (Ne.symm h.1), upTo_skip b h.2, List.cons_append]
theorem behind_at (c : UInt8) (r : List UInt8) : behind c (c :: r) = some r := by rw [behind, if_pos rfl]
theorem upTo_at (c : UInt8) (r : List UInt8) : upTo c (c :: r) = [] := by rw [upTo, if_pos rfl]
theorem split {c : UInt8} : ∀ {l r : List UInt8}, behind c l = some r → l = upTo c l ++ c :: r
  | [], _, h => by cases h
  | x :: l, r, h => by
    rw [behind] at h
    rw [upTo]
    by_cases hx : x = c
    · rw [if_pos hx] at h
      rw [if_pos hx, ← Option.some.inj h, hx]
      rfl
    · rw [if_neg hx] at h
      rw [if_neg hx, List.cons_append, ← split h]
theorem upTo_free {c : UInt8} : ∀ (l : List UInt8), c ∉ upTo c l
  | [] => by simp [upTo]
  | x :: l => by
    rw [upTo]
    by_cases hx : x = c
    · simp [hx]
    · rw [if_neg hx, List.mem_cons, not_or]
      exact ⟨Ne.symm hx, upTo_free l⟩

/-- A stamp is at least three bytes, begins and ends as it must. -/
theorem stamp_some {l x : List UInt8} (h : stamp l = some x) : ∃ i, i ≠ [] ∧ 62 ∉ i ∧ x = 60 :: i ++ [62] := by
  unfold stamp at h
  cases h1 : behind 60 l with
  | none => rw [h1] at h; cases h
  | some r =>
    rw [h1] at h
    simp only at h
    cases h2 : behind 62 r with
    | none => rw [h2] at h; cases h
    | some s =>
      rw [h2] at h
      simp only at h
      split at h
      · cases h
      · next hne => exact ⟨upTo 62 r, hne, upTo_free r, (Option.some.inj h).symm⟩
/-- The first stamp is it, whatever is behind. -/
theorem stamp_app {l x : List UInt8} (t : List UInt8) (h : stamp l = some x) : stamp (l ++ t) = some x := by
  unfold stamp at h ⊢
  cases h1 : behind 60 l with
  | none => rw [h1] at h; cases h
  | some r =>
    rw [h1] at h
    simp only at h
    cases h2 : behind 62 r with
    | none => rw [h2] at h; cases h
    | some s =>
      rw [h2] at h
      rw [behind_app t h1]
      simp only
      rw [behind_app t h2, upTo_app t h2]
      exact h
theorem stamp_made {bare inside s : List UInt8} (h1 : 60 ∉ bare) (h2 : 62 ∉ inside) : stamp (bare ++ 60 :: (inside ++ 62 :: s)) = if inside = [] then none else some (60 :: inside ++ [62]) := by
  unfold stamp
  rw [behind_skip _ h1, behind_at]
  simp only
  rw [behind_skip _ h2, behind_at, upTo_skip _ h2, upTo_at, List.append_nil]
theorem stamp_bare {a : List UInt8} (h : 60 ∉ a) : stamp a = none := by
  unfold stamp
  rw [behind_none.2 h]
theorem stamp_open {bare inside : List UInt8} (h1 : 60 ∉ bare) (h2 : 62 ∉ inside) : stamp (bare ++ 60 :: inside) = none := by
  unfold stamp
  rw [behind_skip _ h1, behind_at]
  simp only
  rw [behind_none.2 h2]

/-- The bytes of which Plain tells. -/
def plain (user pass : List UInt8) : List UInt8 := 0 :: user ++ 0 :: pass
theorem apop_shown : Md5.hex (Md5.sum [60, 49, 56, 57, 54, 46, 54, 57, 55, 49, 55, 48, 57, 53, 50, 64, 100, 98, 99, 46, 109, 116, 118, 105, 101, 119, 46, 99, 97, 46, 117, 115, 62, 116, 97, 110, 115, 116, 97, 97, 102]) =
    [99, 52, 99, 57, 51, 51, 52, 98, 97, 99, 53, 54, 48, 101, 99, 99, 57, 55, 57, 101, 53, 56, 48, 48, 49, 98, 51, 101, 50, 50, 102, 98] := by decide +kernel
end Au
end Go.Proofs.YtjogdflhpciciaaDoor
