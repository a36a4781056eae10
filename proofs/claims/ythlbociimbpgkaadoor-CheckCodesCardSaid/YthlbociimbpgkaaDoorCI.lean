/- The texts CapsP, CapsIdx, one behind the other. -/
import Derived.Test.YthlbociimbpgkaaDoorPN
import Derived.Test.YthlbociimbpgkaaDoorPJ
import Derived.Test.YthlbociimbpgkaaDoorStrs
/- What a server can, in plain words (layer 12). (Laid in round 11, ahead of stage 12.) -/
namespace Go.Proofs.YthlbociimbpgkaaDoor
namespace Cp
open Tx

/-- A thing that a server can: its name, its words. -/
structure Cap where
  name : List UInt8
  args : List (List UInt8)
/-- What a line says. -/
def capW : List (List UInt8) → Option Cap
  | [] => none
  | n :: a => some ⟨n, a⟩
def capOf (l : List UInt8) : Option Cap := capW (words (up l))
def ofLines (ls : List (List UInt8)) : List Cap := ls.filterMap capOf
/-- The lines of a body: what is between CRs with LFs. -/
def splitGo (cur : List UInt8) : List UInt8 → List (List UInt8)
  | [] => [cur]
  | [c] => [cur ++ [c]]
  | c :: d :: r => if c = 13 ∧ d = 10 then cur :: splitGo [] r else splitGo (cur ++ [c]) (d :: r)
def linesOf (b : List UInt8) : List (List UInt8) := splitGo [] b
/-- Which lines count. -/
def count (proto : Int) (ls : List (List UInt8)) (body : List UInt8) : List (List UInt8) :=
  if proto = 1 then ls.drop 1 else if proto = 3 then (ls.drop 1).dropLast else if proto = 2 then linesOf body else []
def of (proto : Int) (ls : List (List UInt8)) (body : List UInt8) : List Cap := ofLines (count proto ls body)
/-- 'Has', of the words that are asked for. -/
def hasOne (w : List (List UInt8)) (c : Cap) : Bool := match w with
  | [] => false
  | n :: r => (c.name == n) && r.all (fun x => c.args.contains x)
def hasW (cs : List Cap) (w : List (List UInt8)) : Bool := cs.any (hasOne w)
def has (cs : List Cap) (want : List UInt8) : Bool := hasW cs (words (up want))

theorem hasW_nil (cs : List Cap) : hasW cs [] = false := by
  unfold hasW
  rw [List.any_eq_false]
  intro c _ h
  cases h
theorem has_none (w : List UInt8) : has [] w = false := rfl
theorem hasW_of {cs : List Cap} {c : Cap} {w : List (List UInt8)} (h : c ∈ cs) (hw : hasOne w c = true) : hasW cs w = true := List.any_eq_true.2 ⟨c, h, hw⟩

/-! What is split, line by line. -/
theorem splitGo_crlf (cur r : List UInt8) : splitGo cur (13 :: 10 :: r) = cur :: splitGo [] r := by
  rw [splitGo, if_pos ⟨rfl, rfl⟩]
theorem splitGo_step (cur : List UInt8) (c : UInt8) (r : List UInt8) (h : ¬ (c = 13 ∧ r.head? = some 10)) : splitGo cur (c :: r) = splitGo (cur ++ [c]) r := by
  cases r with
  | nil => rfl
  | cons d r => rw [splitGo, if_neg (fun e => h ⟨e.1, by rw [e.2]; rfl⟩)]
theorem splitGo_run : ∀ (xs cur r : List UInt8), (∀ x ∈ xs, x ≠ 13) → splitGo cur (xs ++ r) = splitGo (cur ++ xs) r
  | [], cur, r, _ => by rw [List.append_nil]; rfl
  | x :: xs, cur, r, h => by
    rw [List.cons_append, splitGo_step _ _ _ (fun e => h x (by simp) e.1), splitGo_run xs (cur ++ [x]) r (fun y hy => h y (by simp [hy])), List.append_assoc]
    rfl
theorem splitGo_len : ∀ (n : Nat) (l cur : List UInt8), l.length ≤ n → 2 * (splitGo cur l).length ≤ l.length + 2
  | 0, l, cur, h => by
    obtain rfl : l = [] := List.length_eq_zero_iff.1 (by omega)
    exact Nat.le_refl _
  | n + 1, l, cur, h => by
    match l with
    | [] => exact Nat.le_refl _
    | [c] => show 2 * 1 ≤ _; simp
    | c :: d :: r =>
      rw [splitGo]
      simp only [List.length_cons] at h ⊢
      split
      · have := splitGo_len n r [] (by omega)
        rw [List.length_cons]
        omega
      · have := splitGo_len n (d :: r) (cur ++ [c]) (by simp only [List.length_cons]; omega)
        simp only [List.length_cons] at this
        omega
theorem linesOf_len (b : List UInt8) : 2 * (linesOf b).length ≤ b.length + 2 := splitGo_len _ b [] (Nat.le_refl _)
/-- Two lines, each with its end (CapsLines). -/
theorem lines_two {b c : List UInt8} (hb : ∀ x ∈ b, x ≠ 13) (hc : ∀ x ∈ c, x ≠ 13) : linesOf (b ++ [13, 10] ++ c ++ [13, 10]) = [b, c, []] := by
  unfold linesOf
  rw [List.append_assoc, List.append_assoc, splitGo_run b [] _ hb, List.nil_append]
  show splitGo b (13 :: 10 :: (c ++ [13, 10])) = _
  rw [splitGo_crlf, splitGo_run c [] _ hc, List.nil_append]
  show b :: splitGo c (13 :: 10 :: []) = _
  rw [splitGo_crlf]
  rfl
theorem capOf_nil : capOf [] = none := rfl
theorem ofLines_len (ls : List (List UInt8)) : (ofLines ls).length ≤ ls.length := List.length_filterMap_le _ _
theorem count_len (proto : Int) (ls : List (List UInt8)) (body : List UInt8) : (count proto ls body).length ≤ max ls.length (body.length + 1) := by
  unfold count
  split
  · rw [List.length_drop]; omega
  · split
    · rw [List.length_dropLast, List.length_drop]; omega
    · split
      · have := linesOf_len body; omega
      · simp
theorem ofLines_app (xs ys : List (List UInt8)) : ofLines (xs ++ ys) = ofLines xs ++ ofLines ys := by simp [ofLines]
theorem ofLines_nil (xs : List (List UInt8)) : ofLines (xs ++ [[]]) = ofLines xs := by rw [ofLines_app]; exact List.append_nil _
theorem capOf_some {l : List UInt8} : (capOf l).isSome = !(words l).isEmpty := by
  unfold capOf
  rw [words_up]
  cases words l with
  | nil => rfl
  | cons n a => rfl
theorem ofLines_two (b c : List UInt8) : (ofLines [b, c]).length = (if (words b).isEmpty then 0 else 1) + (if (words c).isEmpty then 0 else 1) := by
  have e : ∀ x, (ofLines [x]).length = if (words x).isEmpty then 0 else 1 := by
    intro x
    have h := capOf_some (l := x)
    unfold ofLines
    cases hx : capOf x with
    | none =>
      rw [hx] at h
      have hw : (words x).isEmpty = true := by simpa using h.symm
      simp [hx, hw]
    | some k =>
      rw [hx] at h
      have hw : (words x).isEmpty = false := by simpa using h.symm
      simp [hx, hw]
  have e2 : ofLines [b, c] = ofLines [b] ++ ofLines [c] := ofLines_app [b] [c]
  rw [e2, List.length_append, e, e]

/-! A cap's words: not empty, no blank in them, in capitals. -/
def Word (x : List UInt8) : Prop := x ≠ [] ∧ (∀ b ∈ x, blk b = false) ∧ up x = x
theorem word_of {l x : List UInt8} (h : x ∈ words (up l)) : Word x := by
  refine ⟨words_ne _ _ x h, words_bare _ _ (by simp) x h, ?_⟩
  rw [words_up] at h
  obtain ⟨y, _, rfl⟩ := List.mem_map.1 h
  exact up_up y
theorem cap_words {l : List UInt8} {c : Cap} (h : capOf l = some c) : words (up l) = c.name :: c.args := by
  unfold capOf at h
  cases hw : words (up l) with
  | nil => rw [hw] at h; cases h
  | cons n a => rw [hw] at h; cases h; rfl
theorem cap_word {ls : List (List UInt8)} {c : Cap} (h : c ∈ ofLines ls) : Word c.name ∧ ∀ x ∈ c.args, Word x := by
  obtain ⟨l, _, hl⟩ := List.mem_filterMap.1 h
  have hw := cap_words hl
  exact ⟨word_of (l := l) (by rw [hw]; simp), fun x hx => word_of (l := l) (by rw [hw]; simp [hx])⟩
theorem words_one {x : List UInt8} (h : Word x) : words (up x) = [x] := by
  rw [h.2.2]
  have := words_join [x] (fun y hy => by rw [List.mem_singleton.1 hy]; exact h.1) (fun y hy => by rw [List.mem_singleton.1 hy]; exact h.2.1)
  simpa [joinW] using this
theorem words_gap (c : UInt8) (hc : blk c = true) (l : List UInt8) : words (c :: l) = words l := by
  have := words_joins c hc [] l
  simpa [words, wordsGo] using this
theorem words_tail (c : UInt8) (hc : blk c = true) (l : List UInt8) : words (l ++ [c]) = words l := by
  have := words_joins c hc l []
  rw [this]
  simp [words, wordsGo]
theorem up_cons (c : UInt8) (l : List UInt8) : up (c :: l) = upB c :: up l := rfl
/-- A name, and a word of its, with blanks (CapsOwn). -/
theorem words_two {x y : List UInt8} (hx : Word x) (hy : Word y) : words (up (32 :: x ++ 32 :: 32 :: y)) = [x, y] := by
  have e : up (32 :: x ++ 32 :: 32 :: y) = 32 :: (x ++ 32 :: (32 :: y)) := by
    rw [up_app, up_cons, up_cons, up_cons, hx.2.2, hy.2.2]
    rfl
  rw [e, words_gap 32 rfl, words_joins 32 rfl, words_gap 32 rfl]
  have h1 := words_one hx
  have h2 := words_one hy
  rw [hx.2.2] at h1
  rw [hy.2.2] at h2
  rw [h1, h2]
  rfl
theorem own_name {ls : List (List UInt8)} {c : Cap} (h : c ∈ ofLines ls) : has (ofLines ls) c.name = true := by
  unfold has
  rw [words_one (cap_word h).1]
  exact hasW_of h (by simp [hasOne])
theorem own_arg {ls : List (List UInt8)} {c : Cap} {x : List UInt8} (h : c ∈ ofLines ls) (hx : x ∈ c.args) : has (ofLines ls) (32 :: c.name ++ 32 :: 32 :: x) = true := by
  unfold has
  rw [words_two (cap_word h).1 ((cap_word h).2 x hx)]
  exact hasW_of h (by simp [hasOne, hx])
theorem has_empty (cs : List Cap) : has cs [] = false := hasW_nil cs
theorem has_blank (cs : List Cap) : has cs [32] = false := hasW_nil cs

/-! Capitals, blanks (CapsTurns). -/
theorem turn_line (s : List UInt8) : ofLines [32 :: up s ++ [9]] = ofLines [s] := by
  have e : capOf (32 :: up s ++ [9]) = capOf s := by
    unfold capOf
    have e2 : up (32 :: up s ++ [9]) = 32 :: (up s ++ [9]) := by
      rw [up_app, up_cons, up_up]
      rfl
    rw [e2, words_gap 32 rfl, words_tail 9 rfl]
  simp only [ofLines, List.filterMap_cons, e, List.filterMap_nil]
theorem turn_want (cs : List Cap) (w : List UInt8) : has cs (32 :: 32 :: up w) = has cs w := by
  unfold has
  rw [up_cons, up_cons, up_up]
  show hasW cs (words (32 :: 32 :: up w)) = _
  rw [words_gap 32 rfl, words_gap 32 rfl]
theorem own_line (s : List UInt8) : has (ofLines [s]) s = decide (0 < (ofLines [s]).length) := by
  unfold has ofLines
  cases hs : capOf s with
  | none =>
    have : List.filterMap capOf [s] = [] := by simp [hs]
    rw [this]
    rfl
  | some c =>
    have : List.filterMap capOf [s] = [c] := by simp [hs]
    rw [this, cap_words hs]
    simp [hasW, hasOne]

/-! Two things of one name (CapsEach). -/
theorem auth_line {a : List UInt8} (ha : Word a) : capOf ([65, 85, 84, 72, 32] ++ a) = some ⟨[65, 85, 84, 72], [a]⟩ := by
  unfold capOf
  have e : up ([65, 85, 84, 72, 32] ++ a) = [65, 85, 84, 72] ++ 32 :: a := by
    rw [up_app, ha.2.2]
    rfl
  rw [e, words_joins 32 rfl]
  have h1 := words_one ha
  rw [ha.2.2] at h1
  rw [h1]
  rfl
end Cp
end Go.Proofs.YthlbociimbpgkaaDoor

/- slices.Index, Contains of texts walked. -/
namespace Go.Proofs.YthlbociimbpgkaaDoor
open Go.RowKit

theorem any_take_all {α : Type} {xs : List α} {p : α → Bool} {k : Nat} (h : (xs.take k).any p = false) (hk : xs.length ≤ k) : xs.any p = false := by
  rwa [List.take_of_length_le hk] at h
theorem any_take_more {xs : List (List UInt8)} {p : List UInt8 → Bool} {k : Nat} (h : (xs.take k).any p = false) (hk : k < xs.length) (hp : p (xs.getD k []) = false) : (xs.take (k + 1)).any p = false := by
  have e : xs[k] = xs.getD k [] := by rw [List.getD_eq_getElem?_getD, List.getElem?_eq_getElem hk]; rfl
  rw [List.take_succ_eq_append_getElem hk, List.any_append, h, e]
  simpa using hp
theorem any_hit {xs : List (List UInt8)} {p : List UInt8 → Bool} {k : Nat} (hk : k < xs.length) (hp : p (xs.getD k []) = true) : xs.any p = true :=
  List.any_eq_true.2 ⟨_, (show xs.getD k [] ∈ xs by rw [List.getD_eq_getElem?_getD, List.getElem?_eq_getElem hk]; exact List.getElem_mem _), hp⟩
theorem contains_any (xs : List (List UInt8)) (x : List UInt8) : xs.contains x = xs.any (fun y => x == y) := by rw [List.contains_eq_any_beq]

theorem index_any (v : Value) (xs : List (List UInt8)) (x : List UInt8) (w : World) (h : Rd w v (xs.map sv)) (hl : xs.length ≤ 1048576) :
    Calls Tryd.prog 64 #[v, sv x] w fun e w' => ∃ r : Int, e = .returned (.int .i64 r) ∧ decide (0 ≤ r) = xs.contains x ∧ w' = w := by
  obtain ⟨ao, cap, rfl, hc1, _, hc3⟩ := h.formV
  rw [List.length_map] at hc1 hc3 ⊢
  obtain ⟨N, hN⟩ : ∃ N, N = xs.length := ⟨_, rfl⟩
  rw [← hN] at hl hc1 hc3 ⊢
  have HN := Lib.hid hN
  have HC := Lib.hid hc3
  clear hN hc3 h
  unfold sv
  go_enter Tryd.func64, Tryd.ntmps64
  go_wp2
  go_loopw [5, 8] (fun _ i wr => ∃ k : Nat, k ≤ N ∧ i = .int .i64 k ∧ Hid ((xs.take k).any (fun y => x == y) = false) ∧ wr = w) (fun _ i _ => N - (intOf i).toNat)
  case atStart => exact ⟨0, Nat.zero_le _, rfl, rfl, rfl⟩
  case round =>
    obtain ⟨k, hk, rfl, HE, rfl⟩ := hrel
    by_cases hlt : k < N
    · obtain ⟨b, o, rfl, hm, hc⟩ := HC.out (by omega)
      have hcx := hc k _ (svs_at (by rw [← HN.out]; exact hlt))
      unfold maxLen at hm
      clear hc
      obtain ⟨y, hy⟩ : ∃ y, y = xs.getD k [] := ⟨_, rfl⟩
      rw [← hy, sv] at hcx
      have HY := Lib.hid hy
      clear hy
      by_cases hxy : x = y
      · have hb : (x == y) = true := beq_iff_eq.2 hxy
        have HB := Lib.hid hb
        clear hxy
        go_wp2
        go_ret
        refine ⟨_, rfl, ?_, rfl⟩
        rw [contains_any, any_hit (k := k) (by rw [← HN.out]; exact hlt) (by rw [← HY.out]; exact HB.out)]
        exact decide_eq_true (by omega)
      · have hb : (x == y) = false := beq_eq_false_iff_ne.2 hxy
        have HB := Lib.hid hb
        clear hxy
        go_wp2
        go_roundw
        case rel => exact ⟨k + 1, by omega, by go_num, any_take_more HE.out (by rw [← HN.out]; exact hlt) (by rw [← HY.out]; exact HB.out), trivial⟩
        case measure => simp [intOf]; omega
    · go_wp2
      go_ret
      refine ⟨_, rfl, ?_, rfl⟩
      rw [contains_any, any_take_all HE.out (by have := HN.out; omega)]
      rfl

theorem has_any (v : Value) (xs : List (List UInt8)) (x : List UInt8) (w : World) (h : Rd w v (xs.map sv)) (hl : xs.length ≤ 1048576) :
    Calls Tryd.prog 49 #[v, sv x] w fun e w' => e = .returned (.bool (xs.contains x)) ∧ w' = w := by
  have C := index_any v xs x w h hl
  generalize xs.contains x = B at C ⊢
  unfold sv at C ⊢
  go_enter Tryd.func49, Tryd.ntmps49
  go_wp2_with fail
  refine C.mono ?_
  rintro e w' ⟨r, rfl, hr, rfl⟩
  by_cases h0 : 0 ≤ r
  · obtain rfl : B = true := by rw [← hr]; exact decide_eq_true h0
    clear hr
    go_wp2
    go_ret
    exact ⟨rfl, rfl⟩
  · obtain rfl : B = false := by rw [← hr]; exact decide_eq_false h0
    clear hr
    go_wp2
    go_ret
    exact ⟨ret_b (decide_eq_false (by omega)), rfl⟩
end Go.Proofs.YthlbociimbpgkaaDoor
