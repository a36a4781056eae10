/- Payloads with dots, in plain words (layer 9): what stands for a payload, a body line by line. (Laid in round 8, ahead of stage 9.) -/
import Derived.Test.YtnodngcfjdghcaaDoorLinesP
namespace Go.Proofs.YtnodngcfjdghcaaDoor
namespace St

/-- Whether bytes end by a CR and an LF. -/
def ends (xs : List UInt8) : Bool := xs.reverse.take 2 == [10, 13]
/-- A payload, whole. -/
def whole (xs : List UInt8) : List UInt8 := if xs.isEmpty || ends xs then xs else xs ++ [13, 10]
/-- Dots ahead of dots, behind what is ahead. -/
def dots : List UInt8 → List UInt8 → List UInt8
  | _, [] => []
  | ahead, b :: bs => (if b = 46 ∧ (ahead.isEmpty || ends ahead) = true then [46] else []) ++ b :: dots (ahead ++ [b]) bs
/-- What stands for a payload. -/
def put (xs : List UInt8) : List UInt8 := dots [] (whole xs) ++ [46, 13, 10]

theorem ends_nil : ends [] = false := rfl
theorem ends_one (a : UInt8) : ends [a] = false := by simp [ends]
theorem ends_two (xs : List UInt8) (a b : UInt8) : ends (xs ++ [a, b]) = (a == 13 && b == 10) := by
  simp [ends, Bool.and_comm]
theorem ends_crlf (xs : List UInt8) : ends (xs ++ [13, 10]) = true := by rw [ends_two]; rfl
theorem ends_append (xs : List UInt8) {ys : List UInt8} (h : 2 ≤ ys.length) : ends (xs ++ ys) = ends ys := by
  unfold ends
  rw [List.reverse_append, List.take_append_of_le_length (by simpa using h)]
/-- How it is told by the last two bytes. -/
theorem ends_iff {xs : List UInt8} : ends xs = true ↔ ∃ ys, xs = ys ++ [13, 10] := by
  constructor
  · intro h
    have h2 : xs.reverse.take 2 = [10, 13] := by simpa [ends] using h
    refine ⟨(xs.reverse.drop 2).reverse, ?_⟩
    have := List.take_append_drop 2 xs.reverse
    rw [h2] at this
    have := congrArg List.reverse this
    simpa using this.symm
  · rintro ⟨ys, rfl⟩
    exact ends_crlf ys
theorem ends_get {xs : List UInt8} : ends xs = (decide (2 ≤ xs.length) && (xs.getD (xs.length - 2) 0 == 13) && (xs.getD (xs.length - 1) 0 == 10)) := by
  rcases List.eq_nil_or_concat xs with rfl | ⟨ys, b, rfl⟩
  · rfl
  · rcases List.eq_nil_or_concat ys with rfl | ⟨zs, a, rfl⟩
    · rw [List.concat_eq_append]
      simp [ends]
    · rw [List.concat_eq_append, List.concat_eq_append, List.append_assoc]
      show ends (zs ++ [a, b]) = _
      rw [ends_two]
      have e1 : (zs ++ [a, b]).getD ((zs ++ [a, b]).length - 2) 0 = a := by
        simp [List.getD_eq_getElem?_getD]
      have e2 : (zs ++ [a, b]).getD ((zs ++ [a, b]).length - 1) 0 = b := by
        simp [List.getD_eq_getElem?_getD]
      have e3 : decide (2 ≤ (zs ++ [a, b]).length) = true := decide_eq_true (by simp)
      show _ = (decide (2 ≤ (zs ++ [a, b]).length) && ((zs ++ [a, b]).getD ((zs ++ [a, b]).length - 2) 0 == 13) && ((zs ++ [a, b]).getD ((zs ++ [a, b]).length - 1) 0 == 10))
      rw [e1, e2, e3]
      simp

theorem whole_nil : whole [] = [] := rfl
theorem whole_ends {xs : List UInt8} (h : ends xs = true) : whole xs = xs := by simp [whole, h]
theorem whole_more {xs : List UInt8} (h0 : xs ≠ []) (h : ends xs = false) : whole xs = xs ++ [13, 10] := by
  cases xs with
  | nil => exact absurd rfl h0
  | cons => simp [whole, h]
/-- A whole one is none, or ends so. -/
theorem whole_form (xs : List UInt8) : whole xs = [] ∧ xs = [] ∨ ends (whole xs) = true := by
  by_cases h0 : xs = []
  · subst h0; exact .inl ⟨rfl, rfl⟩
  · cases h : ends xs
    · rw [whole_more h0 h]; exact .inr (ends_crlf xs)
    · rw [whole_ends h]; exact .inr h
theorem whole_whole (xs : List UInt8) : whole (whole xs) = whole xs := by
  rcases whole_form xs with ⟨h, _⟩ | h
  · rw [h]; rfl
  · exact whole_ends h
theorem whole_empty {xs : List UInt8} : whole xs = [] ↔ xs = [] := by
  constructor
  · intro h
    rcases whole_form xs with ⟨_, h2⟩ | h2
    · exact h2
    · rw [h] at h2; cases h2
  · rintro rfl; rfl
theorem whole_len (xs : List UInt8) : (whole xs).length ≤ xs.length + 2 := by
  unfold whole
  split <;> simp
/-- One that is whole, and another one behind it. -/
theorem whole_append {a : List UInt8} (ha : a = [] ∨ ends a = true) (b : List UInt8) : whole (a ++ b) = a ++ whole b := by
  rcases ha with rfl | ha
  · rfl
  · by_cases h0 : b = []
    · subst h0; rw [List.append_nil, whole_nil, List.append_nil, whole_ends ha]
    · have hne : a ++ b ≠ [] := by simp [h0]
      obtain ⟨a', rfl⟩ := ends_iff.1 ha
      have he : ends (a' ++ [13, 10] ++ b) = ends b := by
        rcases b with _ | ⟨x, _ | ⟨y, bs⟩⟩
        · exact absurd rfl h0
        · rw [ends_one, List.append_assoc]
          show ends (a' ++ [13, 10, x]) = false
          rw [ends_append a' (by simp)]
          show ends ([13] ++ [10, x]) = false
          rw [ends_two]; rfl
        · exact ends_append _ (by simp)
      cases h : ends b
      · rw [whole_more hne (by rw [he, h]), whole_more h0 h, List.append_assoc]
      · rw [whole_ends (by rw [he, h]), whole_ends h]

/-- What is ahead counts by its end alone. -/
theorem begins_append {a : List UInt8} (ha : a = [] ∨ ends a = true) (c : List UInt8) : ((a ++ c).isEmpty || ends (a ++ c)) = (c.isEmpty || ends c) := by
  rcases ha with rfl | ha
  · rfl
  · obtain ⟨a', rfl⟩ := ends_iff.1 ha
    rcases c with _ | ⟨x, _ | ⟨y, cs⟩⟩
    · simp [ends_crlf]
    · rw [ends_one, List.append_assoc]
      have : ends (a' ++ ([13, 10] ++ [x])) = false := by
        rw [ends_append a' (by simp)]
        show ends ([13] ++ [10, x]) = false
        rw [ends_two]; rfl
      rw [this]
      simp
    · rw [ends_append _ (show 2 ≤ (x :: y :: cs).length by simp)]
      simp
theorem dots_ahead {a : List UInt8} (ha : a = [] ∨ ends a = true) : ∀ (bs c : List UInt8), dots (a ++ c) bs = dots c bs
  | [], _ => rfl
  | b :: bs, c => by
    rw [dots, dots, begins_append ha, List.append_assoc, dots_ahead ha bs (c ++ [b])]
theorem dots_append : ∀ (xs ys ahead : List UInt8), dots ahead (xs ++ ys) = dots ahead xs ++ dots (ahead ++ xs) ys
  | [], ys, ahead => by rw [List.nil_append, List.append_nil]; rfl
  | x :: xs, ys, ahead => by
    rw [List.cons_append, dots, dots, dots_append xs ys, List.append_assoc ahead]
    simp
/-- (StuffJoins.) -/
theorem put_append {a : List UInt8} (ha : a = [] ∨ ends a = true) (b : List UInt8) : put (a ++ b) = dots [] a ++ put b := by
  unfold put
  rw [whole_append ha, dots_append, List.nil_append]
  have := dots_ahead ha (whole b) []
  rw [List.append_nil] at this
  rw [this, List.append_assoc]
theorem dots_len : ∀ (xs ahead : List UInt8), xs.length ≤ (dots ahead xs).length ∧ (dots ahead xs).length ≤ 2 * xs.length
  | [], _ => by simp [dots]
  | x :: xs, ahead => by
    have := dots_len xs (ahead ++ [x])
    rw [dots, List.length_append, List.length_cons, List.length_cons]
    split <;> simp <;> omega
/-- A loop, a byte at a time. -/
theorem dots_snoc (xs : List UInt8) (x : UInt8) : dots [] (xs ++ [x]) = dots [] xs ++ ((if x = 46 ∧ (xs.isEmpty || ends xs) = true then [46] else []) ++ [x]) := by
  rw [dots_append, List.nil_append]
  rfl
theorem put_len (xs : List UInt8) : 3 ≤ (put xs).length ∧ (put xs).length ≤ 2 * xs.length + 7 := by
  have h1 := dots_len (whole xs) []
  have h2 := whole_len xs
  unfold put
  rw [List.length_append]
  simp
  omega
theorem dots_nil (xs : List UInt8) : dots [] xs = [] ↔ xs = [] := by
  constructor
  · intro h
    have := dots_len xs []
    rw [h] at this
    exact List.eq_nil_of_length_eq_zero (by simpa using this.1)
  · rintro rfl; rfl

/-- A body: its bytes, and how many lines. -/
structure Bd where
  bs : List UInt8
  n : Nat
/-- A line, without its dot. -/
def bare (s : List UInt8) : List UInt8 := if s.head? = some 46 then s.tail else s
/-- 'Line'. -/
def Bd.line (m : Int) (b : Bd) (s : List UInt8) : Bool × Nat × Bd :=
  if s = [46] then (true, 0, b)
  else if m < ((b.bs.length + (bare s).length + 2 : Nat) : Int) then (false, 72, b)
  else (false, 0, ⟨b.bs ++ bare s ++ [13, 10], b.n + 1⟩)
theorem bare_dot (s : List UInt8) : bare (46 :: s) = s := rfl
theorem bare_not {s : List UInt8} (h : s.head? ≠ some 46) : bare s = s := if_neg h
theorem bare_len (s : List UInt8) : (bare s).length ≤ s.length := by
  unfold bare
  split <;> simp
theorem line_end (m : Int) (b : Bd) : b.line m [46] = (true, 0, b) := by simp [Bd.line]
theorem line_full {m : Int} {b : Bd} {s : List UInt8} (h : s ≠ [46]) (hm : m < ((b.bs.length + (bare s).length + 2 : Nat) : Int)) : b.line m s = (false, 72, b) := by
  unfold Bd.line; rw [if_neg h, if_pos hm]
theorem line_more {m : Int} {b : Bd} {s : List UInt8} (h : s ≠ [46]) (hm : ((b.bs.length + (bare s).length + 2 : Nat) : Int) ≤ m) : b.line m s = (false, 0, ⟨b.bs ++ bare s ++ [13, 10], b.n + 1⟩) := by
  unfold Bd.line; rw [if_neg h, if_neg (by omega)]

/-- Lines, each with its end. -/
def join (ls : List (List UInt8)) : List UInt8 := ls.flatMap fun l => l ++ [13, 10]
/-- A line with one more dot, if it begins by one. -/
def dotted (l : List UInt8) : List UInt8 := if l.head? = some 46 then 46 :: l else l
theorem bare_dotted (l : List UInt8) : bare (dotted l) = l := by
  unfold dotted
  split
  · rfl
  · rename_i h; exact bare_not h
theorem dotted_not (l : List UInt8) : dotted l ≠ [46] := by
  unfold dotted
  split
  · rename_i h
    intro e
    have : l = [] := by simpa using e
    rw [this] at h; cases h
  · rename_i h
    rintro rfl
    exact h rfl
theorem join_cons (l : List UInt8) (ls : List (List UInt8)) : join (l :: ls) = l ++ [13, 10] ++ join ls := rfl
theorem join_append (xs ys : List (List UInt8)) : join (xs ++ ys) = join xs ++ join ys := by simp [join]
theorem join_ends (ls : List (List UInt8)) : join ls = [] ∨ ends (join ls) = true := by
  rcases List.eq_nil_or_concat ls with rfl | ⟨ys, y, rfl⟩
  · exact .inl rfl
  · right
    rw [List.concat_eq_append, join_append, join_cons]
    show ends (join ys ++ (y ++ [13, 10] ++ [])) = true
    rw [List.append_nil, ← List.append_assoc]
    exact ends_crlf _
/-- Dots within a line without ends: at its beginning alone. -/
theorem dots_inner : ∀ (bs c : List UInt8), c ≠ [] → (∀ x ∈ c ++ bs, x ≠ 10) → dots c bs = bs
  | [], _, _, _ => rfl
  | b :: bs, c, hc, h => by
    have he : ends c = false := by
      cases he : ends c with
      | false => rfl
      | true =>
        obtain ⟨ys, rfl⟩ := ends_iff.1 he
        exact absurd rfl (h 10 (by simp))
    have hb : (c.isEmpty || ends c) = false := by
      rw [he]
      cases c with
      | nil => exact absurd rfl hc
      | cons => rfl
    rw [dots, if_neg (by rw [hb]; simp), dots_inner bs (c ++ [b]) (by simp) (by simpa using h)]
    rfl
theorem dots_line {l : List UInt8} (h : ∀ x ∈ l, x ≠ 10) : dots [] (l ++ [13, 10]) = dotted l ++ [13, 10] := by
  cases l with
  | nil => rfl
  | cons x xs =>
    rw [List.cons_append, dots]
    have h13 : dots ([] ++ [x]) (xs ++ [13]) = xs ++ [13] := dots_inner (xs ++ [13]) ([] ++ [x]) (by simp) (by
      intro y hy
      simp at hy
      rcases hy with rfl | hy | rfl
      · exact h _ (List.mem_cons_self ..)
      · exact h _ (List.mem_cons_of_mem _ hy)
      · decide)
    have e : xs ++ [13, 10] = (xs ++ [13]) ++ [10] := by simp
    rw [e, dots_append, h13]
    show (if x = 46 ∧ _ then [46] else []) ++ x :: (xs ++ [13] ++ [10]) = dotted (x :: xs) ++ [13, 10]
    unfold dotted
    by_cases hx : x = 46
    · subst hx; simp
    · simp [hx]
/-- What stands for lines. -/
theorem dots_join : ∀ (ls : List (List UInt8)), (∀ l ∈ ls, ∀ x ∈ l, x ≠ 10) → dots [] (join ls) = join (ls.map dotted)
  | [], _ => rfl
  | l :: ls, h => by
    rw [join_cons, dots_append, dots_line (h l (List.mem_cons_self ..)), List.nil_append]
    have := dots_ahead (a := l ++ [13, 10]) (.inr (ends_crlf l)) (join ls) []
    rw [List.append_nil] at this
    rw [this, dots_join ls (fun k hk => h k (List.mem_cons_of_mem _ hk))]
    rfl
theorem put_join {ls : List (List UInt8)} (h : ∀ l ∈ ls, ∀ x ∈ l, x ≠ 10) : put (join ls) = join (ls.map dotted ++ [[46]]) := by
  have hw : whole (join ls) = join ls := by
    rcases join_ends ls with h | h
    · rw [h]; rfl
    · exact whole_ends h
  unfold put
  rw [hw, dots_join ls h, join_append]
  rfl

/-! What was put, framed and given to a body. -/
/-- Ends of lines alone. -/
def norm (xs : List UInt8) : List UInt8 := xs.flatMap fun b => if b = 13 ∨ b = 10 then [13, 10] else [b]
theorem norm_snoc (xs : List UInt8) (b : UInt8) : norm (xs ++ [b]) = norm xs ++ (if b = 13 ∨ b = 10 then [13, 10] else [b]) := by simp [norm]
theorem norm_len (xs : List UInt8) : (norm xs).length ≤ 2 * xs.length := by
  induction xs with
  | nil => simp [norm]
  | cons b bs ih =>
    show ((if b = 13 ∨ b = 10 then [13, 10] else [b]) ++ norm bs).length ≤ _
    rw [List.length_append, List.length_cons]
    split <;> simp <;> omega
theorem norm_form : ∀ xs : List UInt8, ∃ (ls : List (List UInt8)) (t : List UInt8), norm xs = join ls ++ t ∧ (∀ l ∈ ls, Li.Bare l) ∧ Li.Bare t
  | [] => ⟨[], [], rfl, fun l h => (by cases h), fun b h => (by cases h)⟩
  | b :: bs => by
    obtain ⟨ls, t, h, hl, ht⟩ := norm_form bs
    have e : norm (b :: bs) = (if b = 13 ∨ b = 10 then [13, 10] else [b]) ++ norm bs := rfl
    rw [e, h]
    by_cases hb : b = 13 ∨ b = 10
    · rw [if_pos hb]
      refine ⟨[] :: ls, t, by rw [join_cons]; simp, ?_, ht⟩
      intro l hm
      rcases List.mem_cons.1 hm with rfl | hm
      · intro x hx; cases hx
      · exact hl l hm
    · rw [if_neg hb]
      have hbb : b ≠ 13 ∧ b ≠ 10 := ⟨fun e => hb (.inl e), fun e => hb (.inr e)⟩
      cases ls with
      | nil =>
        refine ⟨[], b :: t, rfl, hl, ?_⟩
        intro x hx
        rcases List.mem_cons.1 hx with rfl | hx
        · exact hbb
        · exact ht x hx
      | cons l ls =>
        refine ⟨(b :: l) :: ls, t, by rw [join_cons, join_cons]; simp, ?_, ht⟩
        intro k hm
        rcases List.mem_cons.1 hm with rfl | hm
        · intro x hx
          rcases List.mem_cons.1 hx with rfl | hx
          · exact hbb
          · exact hl l (List.mem_cons_self ..) x hx
        · exact hl k (List.mem_cons_of_mem _ hm)
theorem norm_lines (xs : List UInt8) : ∃ ls : List (List UInt8), whole (norm xs) = join ls ∧ ∀ l ∈ ls, Li.Bare l := by
  obtain ⟨ls, t, h, hl, ht⟩ := norm_form xs
  rw [h]
  by_cases h0 : t = []
  · subst h0
    refine ⟨ls, ?_, hl⟩
    rw [List.append_nil]
    rcases join_ends ls with h | h
    · rw [h]; rfl
    · exact whole_ends h
  · refine ⟨ls ++ [t], ?_, ?_⟩
    · rw [whole_append (join_ends ls)]
      have he : ends t = false := by
        cases he : ends t with
        | false => rfl
        | true =>
          obtain ⟨ys, rfl⟩ := ends_iff.1 he
          exact absurd rfl (ht 10 (by simp)).2
      rw [whole_more h0 he, join_append, join_cons]
      simp [join]
    · intro l hm
      rcases List.mem_append.1 hm with hm | hm
      · exact hl l hm
      · rw [List.mem_singleton] at hm
        rw [hm]; exact ht
/-- Lines that are short enough are framed. -/
theorem frame_join {m : Int} : ∀ {ls : List (List UInt8)}, (∀ l ∈ ls, Li.Bare l ∧ (l.length : Int) ≤ m) → Li.start.put m (join ls) = (ls, Li.start)
  | [], _ => rfl
  | l :: ls, h => by
    have h1 := h l (List.mem_cons_self ..)
    rw [join_cons, Li.put_append, Li.put_whole h1.1 h1.2]
    dsimp only
    rw [frame_join (fun k hk => h k (List.mem_cons_of_mem _ hk))]
    rfl
theorem dotted_bare {l : List UInt8} (h : Li.Bare l) : Li.Bare (dotted l) := by
  unfold dotted
  split
  · intro x hx
    rcases List.mem_cons.1 hx with rfl | hx
    · decide
    · exact h x hx
  · exact h
theorem dotted_len (l : List UInt8) : (dotted l).length ≤ l.length + 1 := by
  unfold dotted
  split <;> simp
theorem join_len_mem : ∀ {ls : List (List UInt8)} {l : List UInt8}, l ∈ ls → l.length + 2 ≤ (join ls).length
  | k :: ls, l, h => by
    rw [join_cons, List.length_append, List.length_append]
    rcases List.mem_cons.1 h with rfl | h
    · simp
    · have := join_len_mem h
      simp; omega
theorem join_take_len (ls : List (List UInt8)) (i : Nat) : (join (ls.take i)).length ≤ (join ls).length := by
  have : join ls = join (ls.take i) ++ join (ls.drop i) := by rw [← join_append, List.take_append_drop]
  rw [this, List.length_append]; omega
/-- What was put is framed. (StuffBack.) -/
theorem frame_put {m : Int} {ls : List (List UInt8)} (hb : ∀ l ∈ ls, Li.Bare l) (hm : ((join ls).length : Int) + 1 ≤ m) : Li.start.put m (put (join ls)) = (ls.map dotted ++ [[46]], Li.start) := by
  rw [put_join (fun l hl x hx => (hb l hl x hx).2)]
  refine frame_join (fun l hl => ?_)
  rcases List.mem_append.1 hl with hl | hl
  · obtain ⟨k, hk, rfl⟩ := List.mem_map.1 hl
    have := join_len_mem hk
    have := dotted_len k
    exact ⟨dotted_bare (hb k hk), by omega⟩
  · rw [List.mem_singleton] at hl
    subst hl
    refine ⟨fun b hb => ?_, ?_⟩
    · rw [List.mem_singleton] at hb
      subst hb
      decide
    · simp; omega
/-- A body takes them, one by one. -/
theorem line_dotted {m : Int} {ls : List (List UInt8)} {i : Nat} (hi : i < ls.length) (hm : ((join ls).length : Int) ≤ m) : (⟨join (ls.take i), i⟩ : Bd).line m (dotted (ls.getD i [])) = (false, 0, ⟨join (ls.take (i + 1)), i + 1⟩) := by
  have e : ls.take (i + 1) = ls.take i ++ [ls.getD i []] := by
    rw [List.take_succ_eq_append_getElem hi, List.getD_eq_getElem?_getD, List.getElem?_eq_getElem hi]; rfl
  have h1 := join_take_len ls (i + 1)
  rw [e, join_append] at h1
  have e2 : join [ls.getD i []] = ls.getD i [] ++ [13, 10] := by simp [join]
  rw [e2, List.length_append, List.length_append] at h1
  simp only [List.length_cons, List.length_nil] at h1
  rw [line_more (dotted_not _) (by rw [bare_dotted]; dsimp only; omega), bare_dotted, e, join_append, e2]
  simp

/-! The dots taken away. (StuffLines.) -/
theorem dots_last : ∀ xs : List UInt8, (dots [] xs).getLast? = xs.getLast? := by
  intro xs
  rcases List.eq_nil_or_concat xs with rfl | ⟨ys, y, rfl⟩
  · rfl
  · rw [List.concat_eq_append, dots_snoc]
    simp
theorem dots_ends (xs : List UInt8) : ends (dots [] xs) = ends xs := by
  cases h : ends xs with
  | true =>
    obtain ⟨ys, rfl⟩ := ends_iff.1 h
    have : dots [] (ys ++ [13, 10]) = dots [] ys ++ [13, 10] := by
      rw [show ys ++ [13, 10] = (ys ++ [13]) ++ [10] by simp, dots_snoc, dots_snoc, if_neg (by simp), if_neg (by simp)]
      simp
    rw [this, ends_crlf]
  | false =>
    cases h2 : ends (dots [] xs) with
    | false => rfl
    | true =>
      exfalso
      obtain ⟨ys, hy⟩ := ends_iff.1 h2
      have h3 := dots_last xs
      rw [hy] at h3
      rcases List.eq_nil_or_concat xs with rfl | ⟨zs, z, rfl⟩
      · simp at h3
      · rw [List.concat_eq_append] at *
        have hz : z = 10 := by simpa using h3.symm
        subst hz
        rw [dots_snoc, if_neg (by simp)] at hy
        have hy2 : dots [] zs = ys ++ [13] := by
          have : dots [] zs ++ [10] = (ys ++ [13]) ++ [10] := by simpa using hy
          exact List.append_cancel_right this
        have h4 := dots_last zs
        rw [hy2] at h4
        rcases List.eq_nil_or_concat zs with rfl | ⟨us, u, rfl⟩
        · simp at h4
        · rw [List.concat_eq_append] at *
          have hu : u = 13 := by simpa using h4.symm
          subst hu
          rw [List.append_assoc] at h
          have := ends_crlf us
          rw [show us ++ ([13] ++ [10]) = us ++ [13, 10] by simp, this] at h
          cases h
theorem dots_begins (xs : List UInt8) : ((dots [] xs).isEmpty || ends (dots [] xs)) = (xs.isEmpty || ends xs) := by
  rw [dots_ends]
  congr 1
  cases xs with
  | nil => rfl
  | cons x xs =>
    have := (dots_len (x :: xs) []).1
    cases h : dots [] (x :: xs) with
    | nil => rw [h] at this; simp at this
    | cons => rfl
/-- Behind a dot that was put. -/
theorem dot_begins (xs : List UInt8) : ((dots [] xs ++ [46]).isEmpty || ends (dots [] xs ++ [46])) = false := by
  have : ends (dots [] xs ++ [46]) = false := by
    cases h : ends (dots [] xs ++ [46]) with
    | false => rfl
    | true =>
      obtain ⟨ys, hy⟩ := ends_iff.1 h
      have := congrArg List.getLast? hy
      simp at this
  rw [this]
  simp
end St
end Go.Proofs.YtnodngcfjdghcaaDoor
