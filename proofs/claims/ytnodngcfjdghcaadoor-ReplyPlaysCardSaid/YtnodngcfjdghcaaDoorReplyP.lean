/- Lines as replies, in plain words (layer 11). (Laid in round 10, ahead of stage 11.) -/
import Derived.Test.YtnodngcfjdghcaaDoorLineP
import Derived.Test.YtnodngcfjdghcaaDoorStuffP
namespace Go.Proofs.YtnodngcfjdghcaaDoor
namespace Rp

/-- A reply; a reply under way: its code, its lines so far, its body if it has one. -/
structure Re where
  code : List UInt8
  lines : List (List UInt8)
  body : List UInt8
structure Mid where
  code : List UInt8
  lines : List (List UInt8)
  body : Option St.Bd
/-- What a line makes: more follow ('.inl'); a whole reply ('.inr (.inl r)'); an error ('.inr (.inr e)'). -/
abbrev Out := Sum Mid (Sum Re Nat)

/-- In the middle of nothing. -/
def first (proto : Int) (s : List UInt8) (body : Bool) : Out :=
  match Ln.status proto s with
  | none => .inr (.inr 63)
  | some t => if proto = 2 ∧ body = true ∧ t.code = [43] then .inl ⟨t.code, [t.text], some ⟨[], 0⟩⟩
    else if t.more = true then .inl ⟨t.code, [t.text], none⟩ else .inr (.inl ⟨t.code, [t.text], []⟩)
/-- A line more. -/
def add (m : Mid) (x : List UInt8) (last : Bool) : Out :=
  if 20 ≤ m.lines.length then .inr (.inr 72) else if last = true then .inr (.inl ⟨m.code, m.lines ++ [x], []⟩) else .inl ⟨m.code, m.lines ++ [x], none⟩
/-- Within a reply. -/
def next (proto : Int) (m : Mid) (s : List UInt8) : Out :=
  match m.body with
  | some b => match b.line 1000 s with
    | (true, _, b') => .inr (.inl ⟨m.code, m.lines, b'.bs⟩)
    | (false, 0, b') => .inl ⟨m.code, m.lines, some b'⟩
    | (false, e, _) => .inr (.inr e)
  | none =>
    if proto = 1 then match Ln.status proto s with
      | some t => if t.code = m.code then add m t.text (!t.more) else .inr (.inr 63)
      | none => .inr (.inr 63)
    else match Ln.status proto s with
      | some t => if t.code = m.code ∧ t.more = false then add m t.text true else add m s false
      | none => add m s false
/-- 'Line': of a maker in the middle of something, or of nothing. -/
def step (proto : Int) (st : Option Mid) (s : List UInt8) (body : Bool) : Out :=
  match st with
  | some m => next proto m s
  | none => first proto s body
/-- The maker behind it. -/
def outSt : Out → Option Mid
  | .inl m => some m
  | _ => none
/-- What is told: the reply (or nothing), whether it is whole, what is wrong. -/
def outRe : Out → Re
  | .inr (.inl r) => r
  | _ => ⟨[], [], []⟩
def outDone : Out → Bool
  | .inr (.inl _) => true
  | _ => false
def outErr : Out → Nat
  | .inr (.inr e) => e
  | _ => 0

/-- Lines, the first one in the middle of nothing, up to the first end. -/
def goOn (proto : Int) (m : Mid) : List (List UInt8) → Out
  | [] => .inl m
  | s :: r => match next proto m s with
    | .inl m' => goOn proto m' r
    | o => o
def runs (proto : Int) (body : Bool) : List (List UInt8) → Out
  | [] => .inr (.inr 0)
  | s :: r => match first proto s body with
    | .inl m => goOn proto m r
    | o => o
theorem goOn_snoc (proto : Int) (y : List UInt8) : ∀ (xs : List (List UInt8)) (m m' : Mid), goOn proto m xs = .inl m' → goOn proto m (xs ++ [y]) = next proto m' y
  | [], m, m', h => by
    obtain rfl : m = m' := by simpa [goOn] using h
    show (match next proto m y with | .inl m' => goOn proto m' [] | o => o) = _
    cases next proto m y <;> rfl
  | s :: r, m, m', h => by
    rw [List.cons_append, goOn]
    rw [goOn] at h
    rcases hn : next proto m s with m2 | r' | e
    · rw [hn] at h; exact goOn_snoc proto y r m2 m' h
    · rw [hn] at h; cases h
    · rw [hn] at h; cases h
theorem runs_one (proto : Int) (body : Bool) (y : List UInt8) : runs proto body [y] = first proto y body := by
  show (match first proto y body with | .inl m => goOn proto m [] | o => o) = _
  cases first proto y body <;> rfl
theorem runs_snoc (proto : Int) (body : Bool) (y : List UInt8) (xs : List (List UInt8)) (m : Mid) (h : runs proto body xs = .inl m) : runs proto body (xs ++ [y]) = next proto m y := by
  cases xs with
  | nil => cases h
  | cons s r =>
    rw [List.cons_append, runs]
    rw [runs] at h
    rcases hn : first proto s body with m2 | r' | e
    · rw [hn] at h; exact goOn_snoc proto y r m2 m h
    · rw [hn] at h; cases h
    · rw [hn] at h; cases h
/-- A maker that is in the middle of these lines. -/
def In (proto : Int) (body : Bool) (xs : List (List UInt8)) (st : Option Mid) : Prop := (xs = [] ∧ st = none) ∨ ∃ m, st = some m ∧ runs proto body xs = .inl m
theorem In.step {proto : Int} {body : Bool} {xs : List (List UInt8)} {st : Option Mid} (h : In proto body xs st) (y : List UInt8) (body' : Bool) (hb : xs = [] → body' = body) :
    step proto st y body' = runs proto body (xs ++ [y]) := by
  rcases h with ⟨rfl, rfl⟩ | ⟨m, rfl, hm⟩
  · rw [hb rfl, List.nil_append, runs_one]; rfl
  · rw [runs_snoc _ _ _ _ _ hm]; rfl
theorem In.more {proto : Int} {body : Bool} {xs : List (List UInt8)} {m : Mid} (y : List UInt8) (h : runs proto body (xs ++ [y]) = .inl m) : In proto body (xs ++ [y]) (some m) := .inr ⟨m, rfl, h⟩

/-! How many lines there may be. -/
theorem add_lines {m : Mid} {x : List UInt8} {last : Bool} {m' : Mid} (h : add m x last = .inl m') : m'.lines.length = m.lines.length + 1 ∧ m.lines.length < 20 ∧ m'.body = none := by
  unfold add at h
  split at h
  · cases h
  · split at h
    · cases h
    · cases h
      simp
      omega
theorem first_lines {proto : Int} {s : List UInt8} {body : Bool} {m : Mid} (h : first proto s body = .inl m) : m.lines.length = 1 := by
  unfold first at h
  split at h
  · cases h
  · split at h
    · cases h; rfl
    · split at h
      · cases h; rfl
      · cases h
theorem next_lines {proto : Int} {m : Mid} {s : List UInt8} {m' : Mid} (h : next proto m s = .inl m') : m'.lines.length ≤ max m.lines.length 20 := by
  unfold next at h
  split at h
  · split at h
    · cases h
    · cases h; exact Nat.le_max_left _ _
    · cases h
  · split at h
    · split at h
      · split at h
        · have := add_lines h; omega
        · cases h
      · cases h
    · split at h
      · split at h
        · have := add_lines h; omega
        · have := add_lines h; omega
      · have := add_lines h; omega

/-! Lines that are written of a code and texts (ReplyBack). -/
section back
variable {a b c : UInt8} (ha : Ln.first a = true) (hb : Ln.digit b = true) (hc : Ln.digit c = true)
include ha hb hc
theorem st_more {proto : Int} (hp : proto = 1 ∨ proto = 3) (t : List UInt8) : Ln.status proto ([a, b, c] ++ 45 :: t) = some ⟨[a, b, c], true, t⟩ := by
  unfold Ln.status
  rw [if_neg (by omega), if_pos hp]
  exact Ln.num_sign ha hb hc t
theorem st_last {proto : Int} (hp : proto = 1 ∨ proto = 3) (t : List UInt8) : Ln.status proto ([a, b, c] ++ 32 :: t) = some ⟨[a, b, c], false, t⟩ := by
  unfold Ln.status
  rw [if_neg (by omega), if_pos hp]
  exact Ln.num_blank ha hb hc t
theorem first_more {proto : Int} (hp : proto = 1 ∨ proto = 3) (t : List UInt8) (body : Bool) : first proto ([a, b, c] ++ 45 :: t) body = .inl ⟨[a, b, c], [t], none⟩ := by
  unfold first
  rw [st_more ha hb hc hp]
  dsimp only
  rw [if_neg (by omega), if_pos rfl]
theorem first_last {proto : Int} (hp : proto = 1 ∨ proto = 3) (t : List UInt8) (body : Bool) : first proto ([a, b, c] ++ 32 :: t) body = .inr (.inl ⟨[a, b, c], [t], []⟩) := by
  unfold first
  rw [st_last ha hb hc hp]
  dsimp only
  rw [if_neg (by omega), if_neg (by simp)]
theorem smtp_more (ls : List (List UInt8)) (t : List UInt8) : next 1 ⟨[a, b, c], ls, none⟩ ([a, b, c] ++ 45 :: t) = if 20 ≤ ls.length then .inr (.inr 72) else .inl ⟨[a, b, c], ls ++ [t], none⟩ := by
  unfold next
  dsimp only
  rw [if_pos rfl, st_more ha hb hc (.inl rfl)]
  dsimp only
  rw [if_pos rfl]
  rfl
theorem smtp_last (ls : List (List UInt8)) (t : List UInt8) : next 1 ⟨[a, b, c], ls, none⟩ ([a, b, c] ++ 32 :: t) = if 20 ≤ ls.length then .inr (.inr 72) else .inr (.inl ⟨[a, b, c], ls ++ [t], []⟩) := by
  unfold next
  dsimp only
  rw [if_pos rfl, st_last ha hb hc (.inl rfl)]
  dsimp only
  rw [if_pos rfl]
  rfl
theorem ftp_more (ls : List (List UInt8)) (t : List UInt8) : next 3 ⟨[a, b, c], ls, none⟩ ([a, b, c] ++ 45 :: t) = if 20 ≤ ls.length then .inr (.inr 72) else .inl ⟨[a, b, c], ls ++ [[a, b, c] ++ 45 :: t], none⟩ := by
  unfold next
  dsimp only
  rw [if_neg (by decide), st_more ha hb hc (.inr rfl)]
  dsimp only
  rw [if_neg (by simp)]
  rfl
theorem ftp_last (ls : List (List UInt8)) (t : List UInt8) : next 3 ⟨[a, b, c], ls, none⟩ ([a, b, c] ++ 32 :: t) = if 20 ≤ ls.length then .inr (.inr 72) else .inr (.inl ⟨[a, b, c], ls ++ [t], []⟩) := by
  unfold next
  dsimp only
  rw [if_neg (by decide), st_last ha hb hc (.inr rfl)]
  dsimp only
  rw [if_pos ⟨rfl, rfl⟩]
  rfl
/-- The lines of a reply under way, i texts being over: Smtp's; Ftp's, which keep what they look like but for the first one. -/
def backLines (ftp : Bool) (k : List UInt8) (l : List (List UInt8)) (i : Nat) : List (List UInt8) :=
  if ftp = true then (l.take i).head?.toList ++ ((l.take i).tail).map (fun t => k ++ 45 :: t) else l.take i
omit ha hb hc in
theorem back_len (ftp : Bool) (k : List UInt8) (l : List (List UInt8)) {i : Nat} (hi : i ≤ l.length) : (backLines ftp k l i).length = i := by
  unfold backLines
  split
  · cases i with
    | zero => simp
    | succ i =>
      cases l with
      | nil => simp at hi
      | cons t l => simp at hi ⊢; omega
  · rw [List.length_take]; omega
omit ha hb hc in
theorem back_more (ftp : Bool) (k : List UInt8) (l : List (List UInt8)) {i : Nat} (h0 : 0 < i) (hi : i < l.length) : backLines ftp k l (i + 1) = backLines ftp k l i ++ [if ftp = true then k ++ 45 :: l.getD i [] else l.getD i []] := by
  have e : l.getD i [] = l[i] := by rw [List.getD_eq_getElem?_getD, List.getElem?_eq_getElem hi]; rfl
  unfold backLines
  cases ftp
  · simp only [Bool.false_eq_true, if_false]
    rw [List.take_succ_eq_append_getElem hi, e]
  · simp only [if_true]
    obtain ⟨i, rfl⟩ : ∃ j, i = j + 1 := ⟨i - 1, by omega⟩
    cases l with
    | nil => simp at hi
    | cons t l =>
      have hi' : i < l.length := by simpa using hi
      have e' : l.getD i [] = l[i] := by rw [List.getD_eq_getElem?_getD, List.getElem?_eq_getElem hi']; rfl
      simp only [List.take_succ_cons, List.head?_cons, Option.toList_some, List.tail_cons, List.getD_cons_succ]
      rw [List.take_succ_eq_append_getElem hi', List.map_append, e']
      simp
/-- One more line that is not the last: the maker goes on, or there are too many. -/
theorem back_step (ftp : Bool) (l : List (List UInt8)) {i : Nat} (h0 : 0 < i) (hi : i < l.length) : next (if ftp = true then 3 else 1) ⟨[a, b, c], backLines ftp [a, b, c] l i, none⟩ ([a, b, c] ++ 45 :: l.getD i []) = if 20 ≤ i then .inr (.inr 72) else .inl ⟨[a, b, c], backLines ftp [a, b, c] l (i + 1), none⟩ := by
  rw [back_more _ _ _ h0 hi]
  have hl := back_len ftp [a, b, c] l (Nat.le_of_lt hi)
  cases ftp
  · have := smtp_more ha hb hc (backLines false [a, b, c] l i) (l.getD i [])
    rw [hl] at this
    exact this
  · have := ftp_more ha hb hc (backLines true [a, b, c] l i) (l.getD i [])
    rw [hl] at this
    exact this
theorem back_end (ftp : Bool) (l : List (List UInt8)) {i : Nat} (hi : i < l.length) (t : List UInt8) : next (if ftp = true then 3 else 1) ⟨[a, b, c], backLines ftp [a, b, c] l i, none⟩ ([a, b, c] ++ 32 :: t) = if 20 ≤ i then .inr (.inr 72) else .inr (.inl ⟨[a, b, c], backLines ftp [a, b, c] l i ++ [t], []⟩) := by
  have hl := back_len ftp [a, b, c] l (Nat.le_of_lt hi)
  cases ftp
  · have := smtp_last ha hb hc (backLines false [a, b, c] l i) t
    rw [hl] at this
    exact this
  · have := ftp_last ha hb hc (backLines true [a, b, c] l i) t
    rw [hl] at this
    exact this
omit ha hb hc in
theorem back_one (ftp : Bool) (k : List UInt8) (t : List UInt8) (l : List (List UInt8)) : backLines ftp k (t :: l) 1 = [t] := by
  cases ftp <;> simp [backLines]
end back

/-! A body (ReplyBodies). -/
theorem pop_first (t : List UInt8) : first 2 ([43, 79, 75, 32] ++ t) true = .inl ⟨[43], [t], some ⟨[], 0⟩⟩ := by
  unfold first
  rw [show Ln.status 2 ([43, 79, 75, 32] ++ t) = some ⟨[43], false, t⟩ from Ln.pop_ok t]
  simp
theorem pop_plain (t : List UInt8) : first 2 ([43, 79, 75, 32] ++ t) false = .inr (.inl ⟨[43], [t], []⟩) := by
  unfold first
  rw [show Ln.status 2 ([43, 79, 75, 32] ++ t) = some ⟨[43], false, t⟩ from Ln.pop_ok t]
  simp
theorem pop_err (t : List UInt8) (body : Bool) : first 2 ([45, 69, 82, 82, 32] ++ t) body = .inr (.inl ⟨[45], [t], []⟩) := by
  unfold first
  have h := Ln.pop_err 32 t
  rw [if_pos rfl] at h
  rw [show Ln.status 2 ([45, 69, 82, 82, 32] ++ t) = some ⟨[45], false, t⟩ from h]
  simp
/-- What a line of a body makes. -/
theorem body_next (proto : Int) (k : List UInt8) (ls : List (List UInt8)) (b : St.Bd) (s : List UInt8) : next proto ⟨k, ls, some b⟩ s =
    match b.line 1000 s with
    | (true, _, b') => .inr (.inl ⟨k, ls, b'.bs⟩)
    | (false, 0, b') => .inl ⟨k, ls, some b'⟩
    | (false, e, _) => .inr (.inr e) := rfl
/-- A line that was put, while there is room. -/
theorem body_put {m : Int} {ls : List (List UInt8)} {i : Nat} (hi : i < ls.length) :
    ((⟨St.join (ls.take i), i⟩ : St.Bd).line m (St.dotted (ls.getD i [])) = (false, 0, ⟨St.join (ls.take (i + 1)), i + 1⟩) ∧ ((St.join (ls.take (i + 1))).length : Int) ≤ m) ∨ (⟨St.join (ls.take i), i⟩ : St.Bd).line m (St.dotted (ls.getD i [])) = (false, 72, ⟨St.join (ls.take i), i⟩) := by
  have e : ls.getD i [] = ls[i] := by rw [List.getD_eq_getElem?_getD, List.getElem?_eq_getElem hi]; rfl
  have hj : St.join (ls.take (i + 1)) = St.join (ls.take i) ++ ls.getD i [] ++ [13, 10] := by
    rw [List.take_succ_eq_append_getElem hi, St.join_append, ← e]
    simp [St.join]
  by_cases hm : (((St.join (ls.take i)).length + (St.bare (St.dotted (ls.getD i []))).length + 2 : Nat) : Int) ≤ m
  · refine .inl ⟨?_, ?_⟩
    · rw [St.line_more (St.dotted_not _) hm, St.bare_dotted, hj]
    · rw [St.bare_dotted] at hm
      rw [hj, List.length_append, List.length_append]
      have : ([13, 10] : List UInt8).length = 2 := rfl
      omega
  · exact .inr (St.line_full (St.dotted_not _) (Int.not_le.1 hm))

/-! Codes of two numbers (ReplyCodes). -/
theorem code_inj {n m : Nat} (hn : n < 1000) (hm : m < 1000) (h : Ln.codeOf n = Ln.codeOf m) : n = m := by
  unfold Ln.codeOf at h
  simp only [List.cons.injEq, and_true] at h
  obtain ⟨h1, h2, h3⟩ := h
  have g : ∀ x y : Nat, x < 200 → y < 200 → UInt8.ofNat x = UInt8.ofNat y → x = y := fun x y hx hy e => by
    have := congrArg UInt8.toNat e
    rw [UInt8.toNat_ofNat_of_lt' (by show x < 256; omega), UInt8.toNat_ofNat_of_lt' (by show y < 256; omega)] at this
    exact this
  have k1 := g _ _ (by omega) (by omega) h1
  have k2 := g _ _ (by omega) (by omega) h2
  have k3 := g _ _ (by omega) (by omega) h3
  omega
theorem smtp_other {k : List UInt8} {ls : List (List UInt8)} {s : List UInt8} {t : Ln.Sa} (hs : Ln.status 1 s = some t) (hk : t.code ≠ k) : next 1 ⟨k, ls, none⟩ s = .inr (.inr 63) := by
  unfold next
  dsimp only
  rw [if_pos rfl, hs]
  dsimp only
  rw [if_neg hk]
theorem ftp_other {k : List UInt8} {ls : List (List UInt8)} {s : List UInt8} {t : Ln.Sa} (hs : Ln.status 3 s = some t) (hk : t.code ≠ k) (hl : ls.length < 20) : next 3 ⟨k, ls, none⟩ s = .inl ⟨k, ls ++ [s], none⟩ := by
  unfold next
  dsimp only
  rw [if_neg (by decide), hs]
  dsimp only
  rw [if_neg (fun e => hk e.1)]
  unfold add
  dsimp only
  rw [if_neg (by omega), if_neg (by simp)]
end Rp
end Go.Proofs.YtnodngcfjdghcaaDoor
