/- Who waits, in plain words (layer 19). Laid in round 17, ahead of stage 19. Init alone. -/
namespace Go.Proofs.Ytimieknphedniaa
namespace Pi

/-- The least of some times; 'never', if there are none. -/
def never : Int := 9223372036854775807
def due (l : List Int) : Int := l.foldl min never
theorem foldl_min (l : List Int) : ∀ a b : Int, l.foldl min (min a b) = min a (l.foldl min b) := by
  induction l with
  | nil => intro a b; rfl
  | cons x l ih => intro a b; show l.foldl min (min (min a b) x) = _; rw [Int.min_assoc, ih]; rfl
theorem due_nil : due [] = never := rfl
theorem due_cons (x : Int) (l : List Int) : due (x :: l) = min x (due l) := by
  show l.foldl min (min never x) = _; rw [Int.min_comm, foldl_min]; rfl
theorem due_never (l : List Int) : due l ≤ never := by
  induction l with
  | nil => exact Int.le_refl _
  | cons x l ih => rw [due_cons]; exact Int.le_trans (Int.min_le_right _ _) ih
theorem due_append (l m : List Int) : due (l ++ m) = min (due l) (due m) := by
  induction l with
  | nil => show due m = min (due []) (due m); rw [due_nil, Int.min_eq_right (due_never m)]
  | cons x l ih => show due (x :: (l ++ m)) = _; rw [due_cons, due_cons, ih, Int.min_assoc]
theorem due_le {x : Int} : ∀ {l : List Int}, x ∈ l → due l ≤ x
  | y :: l, h => by
    rw [due_cons]
    rcases List.mem_cons.1 h with rfl | h
    · exact Int.min_le_left _ _
    · exact Int.le_trans (Int.min_le_right _ _) (due_le h)
theorem due_mem : ∀ (l : List Int), due l = never ∨ due l ∈ l
  | [] => .inl rfl
  | x :: l => by
    rw [due_cons]
    rcases Int.le_total x (due l) with h | h
    · rw [Int.min_eq_left h]; exact .inr List.mem_cons_self
    · rw [Int.min_eq_right h]
      rcases due_mem l with h | h
      · exact .inl h
      · exact .inr (List.mem_cons_of_mem _ h)
/-- Of some who wait, none later than 'never': one of them has the least time. -/
theorem due_own {l : List Int} (h0 : l ≠ []) (h : ∀ x ∈ l, x ≤ never) : due l ∈ l := by
  rcases due_mem l with hd | hd
  · cases l with
    | nil => exact absurd rfl h0
    | cons x l =>
      have h1 : due (x :: l) ≤ x := due_le List.mem_cons_self
      have h2 := h x List.mem_cons_self
      have : due (x :: l) = x := by omega
      rw [this]; exact List.mem_cons_self
  · exact hd
/-- As far as i of them are looked at. -/
theorem due_take (l : List Int) (i : Nat) (h : i < l.length) : due (l.take (i + 1)) = min (due (l.take i)) l[i] := by
  rw [List.take_succ_eq_append_getElem h, due_append, due_cons, due_nil]
  have : min l[i] never = min never l[i] := Int.min_comm _ _
  rw [this, ← Int.min_assoc, Int.min_eq_left (due_never _)]
theorem foldl_take (l : List Int) (i : Nat) (a : Int) (h : i < l.length) : (l.take (i + 1)).foldl min a = min ((l.take i).foldl min a) l[i] := by
  rw [List.take_succ_eq_append_getElem h, List.foldl_append]; rfl
/-- Of the words of a whole number: 'due' stays one. -/
theorem due_range {l : List Int} (h : ∀ x ∈ l, -9223372036854775808 ≤ x) : -9223372036854775808 ≤ due l := by
  rcases due_mem l with hd | hd
  · rw [hd]; decide
  · exact h _ hd

/-- PipeDue: times are pushed (the first n), k replies come. -/
theorem due_law {l : List Int} {n k : Nat} (hn : n ≤ l.length) (_hk : k ≤ n) (hl : ∀ x ∈ l, x ≤ never) :
    (∀ i (hi : i < n), k ≤ i → due ((l.take n).drop k) ≤ l[i]'(Nat.lt_of_lt_of_le hi hn))
    ∧ (k < n → ∃ i, ∃ hi : i < n, k ≤ i ∧ l[i]'(Nat.lt_of_lt_of_le hi hn) = due ((l.take n).drop k))
    ∧ (k = n → due ((l.take n).drop k) = never) := by
  have hlen : ((l.take n).drop k).length = n - k := by rw [List.length_drop, List.length_take, Nat.min_eq_left hn]
  refine ⟨?_, ?_, ?_⟩
  · intro i hi hki
    refine due_le (List.mem_iff_getElem.2 ⟨i - k, by omega, ?_⟩)
    rw [List.getElem_drop, List.getElem_take]; congr 1; omega
  · intro h
    have hm : due ((l.take n).drop k) ∈ (l.take n).drop k :=
      due_own (by intro h0; rw [h0] at hlen; simp at hlen; omega) (fun x hx => hl x (List.mem_of_mem_take (List.mem_of_mem_drop hx)))
    obtain ⟨j, hj, he⟩ := List.mem_iff_getElem.1 hm
    refine ⟨k + j, by omega, by omega, ?_⟩
    rw [← he, List.getElem_drop, List.getElem_take]
  · rintro rfl
    have : (l.take k).drop k = [] := List.eq_nil_of_length_eq_zero (by omega)
    rw [this]; rfl

/-- Of all who were pushed, those behind the first k: how the rows turn. -/
theorem drop_push {α : Type} (all : List α) (w : α) {k : Nat} (h : k ≤ all.length) : (all ++ [w]).drop k = all.drop k ++ [w] := by
  rw [List.drop_append_of_le_length h]
theorem drop_pop {α : Type} (all : List α) {k : Nat} (h : k < all.length) : all.drop k = all[k] :: all.drop (k + 1) := List.drop_eq_getElem_cons h

/-- A ring of eight: n from h on. -/
def ring {α : Type} (a : Nat → α) (h n : Nat) : List α := (List.range n).map fun i => a ((h + i) % 8)
theorem ring_length {α : Type} (a : Nat → α) (h n : Nat) : (ring a h n).length = n := by simp [ring]
theorem ring_get {α : Type} (a : Nat → α) (h n : Nat) {i : Nat} (hi : i < (ring a h n).length) : (ring a h n)[i] = a ((h + i) % 8) := by simp [ring]
theorem ring_zero {α : Type} (a : Nat → α) (h : Nat) : ring a h 0 = [] := rfl
theorem ring_push {α : Type} (a : Nat → α) (h n : Nat) (w : α) (hn : n < 8) :
    ring (fun j => if j = (h + n) % 8 then w else a j) h (n + 1) = ring a h n ++ [w] := by
  rw [ring, List.range_succ, List.map_append]
  congr 1
  · refine List.map_congr_left fun i hi => ?_
    have := List.mem_range.1 hi
    show (if (h + i) % 8 = (h + n) % 8 then w else _) = _
    rw [if_neg (by omega)]
  · simp
theorem ring_pop {α : Type} (a : Nat → α) (h n : Nat) : ring a h (n + 1) = a (h % 8) :: ring a ((h + 1) % 8) n := by
  rw [ring, List.range_succ_eq_map, List.map_cons, List.map_map]
  congr 1
  refine List.map_congr_left fun i _ => ?_
  show a ((h + (i + 1)) % 8) = a (((h + 1) % 8 + i) % 8)
  congr 1; omega
theorem ring_mod {α : Type} (a : Nat → α) (h n : Nat) : ring a (h % 8) n = ring a h n := by
  refine List.map_congr_left fun i _ => ?_
  show a ((h % 8 + i) % 8) = _
  congr 1; omega

/-- A row that is moved up by one: the first n of eight. -/
def row {α : Type} (a : Nat → α) (n : Nat) : List α := (List.range n).map a
theorem row_push {α : Type} (a : Nat → α) (n : Nat) (w : α) : row (fun j => if j = n then w else a j) (n + 1) = row a n ++ [w] := by
  rw [row, List.range_succ, List.map_append]
  congr 1
  · refine List.map_congr_left fun i hi => ?_
    have := List.mem_range.1 hi
    rw [if_neg (by omega)]
  · simp
theorem row_pop {α : Type} (a : Nat → α) (n : Nat) : row a (n + 1) = a 0 :: row (fun j => a (j + 1)) n := by
  rw [row, List.range_succ_eq_map, List.map_cons, List.map_map]; rfl
theorem row_same {α : Type} {a b : Nat → α} {n : Nat} (h : ∀ j, j < n → a j = b j) : row a n = row b n :=
  List.map_congr_left fun i hi => h i (List.mem_range.1 hi)

/-- P19.3. -/
def window (ftp pipelining : Bool) (asked : Int) : Int := if ftp || !pipelining then 1 else min (max asked 1) 8
theorem window_law (ftp : Bool) (asked : Int) :
    window ftp false asked = 1 ∧ 1 ≤ window ftp true asked ∧ window ftp true asked ≤ 8 ∧ (ftp = true → window ftp true asked = 1)
    ∧ (ftp = false → asked < 1 ∧ window ftp true asked = 1 ∨ 8 < asked ∧ window ftp true asked = 8 ∨ window ftp true asked = asked) := by
  cases ftp <;> simp [window] <;> omega
end Pi
end Go.Proofs.Ytimieknphedniaa
