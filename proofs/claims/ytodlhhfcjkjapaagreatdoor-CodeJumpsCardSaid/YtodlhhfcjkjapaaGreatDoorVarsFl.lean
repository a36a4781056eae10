/- What a text stands for, step by step, as the program finds it (layer 16). -/
import Derived.Test.YtodlhhfcjkjapaaGreatDoorVarsName
namespace Go.Proofs.YtodlhhfcjkjapaaGreatDoor
open Go.RowKit
namespace Va
def fillV (val : List UInt8 → Option (List UInt8)) : List Pt → Option (List UInt8)
 | [] => some []
 | .b c :: ps => (fillV val ps).map (c :: ·)
 | .n x :: ps => (val x).bind fun v => (fillV val ps).map (v ++ ·)
def both (val : List UInt8 → Option (List UInt8)) (t : List UInt8) : Option (List UInt8 × List (List UInt8)) := (parts t).bind fun ps => (fillV val ps).map fun s => (s, names ps)
theorem fillV_any : ∀ ps, (fillV (fun _ => some []) ps).isSome = true
 | [] => rfl
 | .b c :: ps => by rw [fillV, Option.isSome_map]; exact fillV_any ps
 | .n x :: ps => by
  rw [fillV]
  show ((fillV _ ps).map _).isSome = true
  rw [Option.isSome_map]; exact fillV_any ps
theorem both_names (t : List UInt8) : (both (fun _ => some []) t).map (·.2) = (parts t).map names := by
 unfold both
 cases parts t with
 | none => rfl
 | some ps =>
  show ((fillV _ ps).map _).map _ = some (names ps)
  have := fillV_any ps
  cases h : fillV (fun _ => some []) ps with
  | none => rw [h] at this; cases this
  | some s => rfl
section
variable (val : List UInt8 → Option (List UInt8))
theorem fillV_bytes : ∀ (a : List UInt8) (ps : List Pt), fillV val (a.map Pt.b ++ ps) = (fillV val ps).map (a ++ ·)
 | [], ps => by cases h : fillV val ps <;> simp [h]
 | c :: a, ps => by
  rw [List.map_cons, List.cons_append, fillV, fillV_bytes a ps, Option.map_map]
  rfl
theorem names_bytes (a : List UInt8) (ps : List Pt) : names (a.map Pt.b ++ ps) = names ps := by
 induction a with
 | nil => rfl
 | cons c a ih => exact ih
theorem both_bare (a : List UInt8) (r : List UInt8) (h : ∀ c ∈ a, c ≠ 36) : both val (a ++ r) = (both val r).map fun p => (a ++ p.1, p.2) := by
 unfold both
 rw [parts_bare a r h]
 cases parts r with
 | none => rfl
 | some ps =>
  show (fillV val (a.map Pt.b ++ ps)).map _ = ((fillV val ps).map _).map _
  rw [fillV_bytes, names_bytes]
  cases fillV val ps <;> rfl
theorem both_all (a : List UInt8) (h : ∀ c ∈ a, c ≠ 36) : both val a = some (a, []) := by
 have := both_bare val a [] h
 rw [List.append_nil] at this
 rw [this]
 show some (a ++ [], []) = _
 rw [List.append_nil]
theorem both_two (r : List UInt8) : both val (36 :: 36 :: r) = (both val r).map fun p => (36 :: p.1, p.2) := by
 unfold both
 rw [parts_two]
 cases parts r with
 | none => rfl
 | some ps =>
  show ((fillV val ps).map _).map _ = ((fillV val ps).map _).map _
  cases fillV val ps <;> rfl
theorem both_wrong (b : List UInt8) (h1 : name b = []) (h2 : b.head? ≠ some 36) : both val (36 :: b) = none := by
 unfold both
 cases b with
 | nil => rw [parts_end]; rfl
 | cons d r =>
  have hs : small d = false := by
   cases hh : small d with
   | false => rfl
   | true =>
    have hn : inName d = true := by simp [inName, hh]
    unfold name at h1
    rw [show (d :: r).headD 0 = d from rfl, hh, if_pos rfl, List.takeWhile_cons, hn, if_pos rfl] at h1
    cases h1
  rw [parts_wrong hs (fun e => h2 (by rw [e]; rfl))]
  rfl
theorem name_some {b : List UInt8} (h : name b ≠ []) : ∃ d r, b = d :: r ∧ small d = true ∧ name b = b.takeWhile inName := by
 cases b with
 | nil => exact absurd rfl h
 | cons d r =>
  cases hh : small d with
  | false => exact absurd (by unfold name; rw [show (d :: r).headD 0 = d from rfl, hh]; rfl) h
  | true => exact ⟨d, r, rfl, hh, by unfold name; rw [show (d :: r).headD 0 = d from rfl, hh]; rfl⟩
theorem drop_len2 (p : UInt8 → Bool) : ∀ l : List UInt8, l.drop (l.takeWhile p).length = l.dropWhile p
 | [] => rfl
 | c :: l => by
  rw [List.takeWhile_cons, List.dropWhile_cons]
  split
  ·rw [List.length_cons, List.drop_succ_cons, drop_len2 p l]
  ·rfl
theorem both_name (b : List UInt8) (h : name b ≠ []) : both val (36 :: b) = (val (name b)).bind fun v => (both val (b.drop (name b).length)).map fun p => (v ++ p.1, name b :: p.2) := by
 obtain ⟨d, r, rfl, hs, he⟩ := name_some h
 rw [he, drop_len2]
 unfold both
 rw [parts_take hs]
 generalize (d :: r).takeWhile inName = n
 generalize (d :: r).dropWhile inName = m
 cases parts m with
 | none => cases val n <;> rfl
 | some ps =>
  show (fillV val (Pt.n n :: ps)).map _ = _
  rw [fillV]
  cases val n with
  | none => rfl
  | some v =>
   show ((fillV val ps).map _).map _ = ((fillV val ps).map _).map _
   cases fillV val ps <;> rfl
theorem name_len (b : List UInt8) : (name b).length ≤ b.length := by
 unfold name
 split
 ·have := len_parts inName b; omega
 ·exact Nat.zero_le _
end
def St (val : List UInt8 → Option (List UInt8)) (t0 t xs : List UInt8) (a : List (List UInt8)) : Prop := both val t0 = (both val t).map fun p => (xs ++ p.1, a ++ p.2)
section
variable {val : List UInt8 → Option (List UInt8)} {t0 t xs p b : List UInt8} {a : List (List UInt8)}
theorem St.start (val : List UInt8 → Option (List UInt8)) (t : List UInt8) : St val t t [] [] := by
 unfold St
 cases both val t <;> rfl
theorem St.all (h : St val t0 t xs a) (hb : ∀ c ∈ t, c ≠ 36) : both val t0 = some (xs ++ t, a) := by
 rw [h, both_all val t hb]
 show some (_, a ++ []) = _
 rw [List.append_nil]
theorem St.plain (h : St val t0 (p ++ 36 :: b) xs a) (hb : ∀ c ∈ p, c ≠ 36) : St val t0 (36 :: b) (xs ++ p) a := by
 unfold St at *
 rw [h, both_bare val p _ hb]
 cases both val (36 :: b) with
 | none => rfl
 | some q => show some (xs ++ (p ++ q.1), _) = some ((xs ++ p) ++ q.1, _); rw [List.append_assoc]
theorem St.two (h : St val t0 (36 :: 36 :: b) xs a) : St val t0 b (xs ++ [36]) a := by
 unfold St at *
 rw [h, both_two]
 cases both val b with
 | none => rfl
 | some q => show some (xs ++ (36 :: q.1), _) = some ((xs ++ [36]) ++ q.1, _); rw [List.append_assoc]; rfl
theorem St.wrong (h : St val t0 (36 :: b) xs a) (h1 : name b = []) (h2 : b.head? ≠ some 36) : both val t0 = none := by
 rw [h, both_wrong val b h1 h2]; rfl
theorem St.unset (h : St val t0 (36 :: b) xs a) (h1 : name b ≠ []) (hv : val (name b) = none) : both val t0 = none := by
 rw [h, both_name val b h1, hv]; rfl
theorem St.name {v : List UInt8} (h : St val t0 (36 :: b) xs a) (h1 : Va.name b ≠ []) (hv : val (Va.name b) = some v) : St val t0 (b.drop (Va.name b).length) (xs ++ v) (a ++ [Va.name b]) := by
 unfold St at *
 rw [h, both_name val b h1, hv]
 show ((both val _).map _).map _ = _
 cases both val (b.drop (Va.name b).length) with
 | none => rfl
 | some q =>
  show some (xs ++ (v ++ q.1), a ++ (Va.name b :: q.2)) = some ((xs ++ v) ++ q.1, (a ++ [Va.name b]) ++ q.2)
  rw [List.append_assoc, List.append_assoc]; rfl
end
end Va
end Go.Proofs.YtodlhhfcjkjapaaGreatDoor
