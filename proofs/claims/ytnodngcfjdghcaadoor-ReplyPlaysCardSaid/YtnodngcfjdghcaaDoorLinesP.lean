/- Lines out of bytes, in plain words (layer 8): a state, a byte at a time. (Laid in round 7, ahead of stage 8.) -/
import Derived.Test.YtnodngcfjdghcaaDoorRd
namespace Go.Proofs.YtnodngcfjdghcaaDoor
namespace Li

/-- What came since the last whole line, and what is wrong (0: nothing; 60, 61). -/
structure Fm where
  ls : List UInt8
  err : Nat
/-- Nothing came. -/
def start : Fm := ⟨[], 0⟩
/-- One byte more. -/
def Fm.step (m : Int) (f : Fm) (b : UInt8) : Option (List UInt8) × Fm :=
  if f.err ≠ 0 then (none, f)
  else if b = 10 ∧ f.ls.getLast? = some 13 then (some f.ls.dropLast, ⟨[], 0⟩)
  else if b = 10 ∨ f.ls.getLast? = some 13 then (none, ⟨[], 60⟩)
  else if b ≠ 13 ∧ m < (f.ls.length : Int) + 1 then (none, ⟨[], 61⟩)
  else (none, ⟨f.ls ++ [b], 0⟩)
/-- Bytes that come: the lines that are whole by them. -/
def Fm.put (m : Int) : Fm → List UInt8 → List (List UInt8) × Fm
  | f, [] => ([], f)
  | f, b :: bs => ((f.step m b).1.toList ++ (Fm.put m (f.step m b).2 bs).1, (Fm.put m (f.step m b).2 bs).2)

theorem put_nil (m : Int) (f : Fm) : f.put m [] = ([], f) := rfl
theorem put_cons (m : Int) (f : Fm) (b : UInt8) (bs : List UInt8) : f.put m (b :: bs) = ((f.step m b).1.toList ++ ((f.step m b).2.put m bs).1, ((f.step m b).2.put m bs).2) := rfl
/-- It does not matter how bytes are cut. -/
theorem put_append (m : Int) : ∀ (xs ys : List UInt8) (f : Fm), f.put m (xs ++ ys) = ((f.put m xs).1 ++ ((f.put m xs).2.put m ys).1, ((f.put m xs).2.put m ys).2)
  | [], ys, f => by simp [put_nil]
  | x :: xs, ys, f => by rw [List.cons_append, put_cons, put_append m xs ys, put_cons]; simp
theorem put_one (m : Int) (f : Fm) (b : UInt8) : f.put m [b] = ((f.step m b).1.toList, (f.step m b).2) := by simp [put_cons, put_nil]
theorem put_snoc (m : Int) (f : Fm) (xs : List UInt8) (b : UInt8) : f.put m (xs ++ [b]) = ((f.put m xs).1 ++ ((f.put m xs).2.step m b).1.toList, ((f.put m xs).2.step m b).2) := by rw [put_append, put_one]

/-- Behind an error it stays. -/
theorem step_err {m : Int} {f : Fm} (h : f.err ≠ 0) (b : UInt8) : f.step m b = (none, f) := by unfold Fm.step; rw [if_pos h]
theorem put_err {m : Int} {f : Fm} (h : f.err ≠ 0) : ∀ xs : List UInt8, f.put m xs = ([], f)
  | [] => rfl
  | b :: bs => by rw [put_cons, step_err h, put_err h bs]; rfl

/-- The four ways of a byte, no error being there. -/
theorem step_line {m : Int} {f : Fm} (h : f.err = 0) (hl : f.ls.getLast? = some 13) : f.step m 10 = (some f.ls.dropLast, ⟨[], 0⟩) := by
  unfold Fm.step; rw [if_neg (by omega), if_pos ⟨rfl, hl⟩]
theorem step_lf {m : Int} {f : Fm} (h : f.err = 0) (hl : f.ls.getLast? ≠ some 13) : f.step m 10 = (none, ⟨[], 60⟩) := by
  unfold Fm.step; rw [if_neg (by omega), if_neg (fun e => hl e.2), if_pos (.inl rfl)]
theorem step_cr {m : Int} {f : Fm} (h : f.err = 0) (hl : f.ls.getLast? = some 13) {b : UInt8} (hb : b ≠ 10) : f.step m b = (none, ⟨[], 60⟩) := by
  unfold Fm.step; rw [if_neg (by omega), if_neg (fun e => hb e.1), if_pos (.inr hl)]
theorem step_long {m : Int} {f : Fm} (h : f.err = 0) (hl : f.ls.getLast? ≠ some 13) {b : UInt8} (hb : b ≠ 10) (hc : b ≠ 13) (hm : m < (f.ls.length : Int) + 1) : f.step m b = (none, ⟨[], 61⟩) := by
  unfold Fm.step; rw [if_neg (by omega), if_neg (fun e => hb e.1), if_neg (fun e => e.elim hb hl), if_pos ⟨hc, hm⟩]
theorem step_more {m : Int} {f : Fm} (h : f.err = 0) (hl : f.ls.getLast? ≠ some 13) {b : UInt8} (hb : b ≠ 10) (hm : b = 13 ∨ (f.ls.length : Int) + 1 ≤ m) : f.step m b = (none, ⟨f.ls ++ [b], 0⟩) := by
  unfold Fm.step
  rw [if_neg (by omega), if_neg (fun e => hb e.1), if_neg (fun e => e.elim hb hl), if_neg (fun e => by rcases hm with h | h; exact e.1 h; omega)]

/-- How it may stand: no LF; a CR only at the end; not too long. -/
structure Fm.Ok (m : Int) (f : Fm) : Prop where
  lf : ∀ b ∈ f.ls, b ≠ 10
  cr : ∀ b ∈ f.ls.dropLast, b ≠ 13
  len : (f.ls.length : Int) ≤ m + (if f.ls.getLast? = some 13 then 1 else 0)
  el : f.err ≠ 0 → f.ls = []
  e : f.err = 0 ∨ f.err = 60 ∨ f.err = 61
theorem start_ok {m : Int} (hm : 0 ≤ m) : start.Ok m := ⟨fun b h => (by cases h), fun b h => (by cases h), by simpa [start] using hm, fun h => rfl, .inl rfl⟩
theorem err_ok {m : Int} (hm : 0 ≤ m) {n : Nat} (hn : n = 0 ∨ n = 60 ∨ n = 61) : (⟨[], n⟩ : Fm).Ok m := ⟨fun b h => (by cases h), fun b h => (by cases h), by simpa using hm, fun h => rfl, hn⟩
/-- Where the end is no CR, and none lies ahead, there is none. -/
theorem no_cr {xs : List UInt8} (h : ∀ b ∈ xs.dropLast, b ≠ 13) (hl : xs.getLast? ≠ some 13) : ∀ b ∈ xs, b ≠ 13 := by
  rcases List.eq_nil_or_concat xs with rfl | ⟨ys, y, rfl⟩
  · intro b hb; cases hb
  · intro b hb
    rw [List.concat_eq_append] at hb h hl
    rw [List.dropLast_concat] at h
    rcases List.mem_append.1 hb with hb | hb
    · exact h b hb
    · rw [List.mem_singleton] at hb
      rintro rfl
      subst hb
      exact hl (by simp)
theorem step_ok {m : Int} (hm : 0 ≤ m) {f : Fm} (h : f.Ok m) (b : UInt8) : (f.step m b).2.Ok m := by
  by_cases he : f.err = 0
  · by_cases hl : f.ls.getLast? = some 13
    · by_cases hb : b = 10
      · subst hb
        rw [step_line he hl]; exact err_ok hm (.inl rfl)
      · rw [step_cr he hl hb]; exact err_ok hm (.inr (.inl rfl))
    · by_cases hb : b = 10
      · subst hb
        rw [step_lf he hl]; exact err_ok hm (.inr (.inl rfl))
      · by_cases hx : b = 13 ∨ (f.ls.length : Int) + 1 ≤ m
        · rw [step_more he hl hb hx]
          have hn := no_cr h.cr hl
          refine ⟨fun x hxm => ?_, fun x hxm => ?_, ?_, fun h => absurd rfl h, .inl rfl⟩
          · rcases List.mem_append.1 hxm with hxm | hxm
            · exact h.lf x hxm
            · rw [List.mem_singleton] at hxm
              rw [hxm]; exact hb
          · have : (f.ls ++ [b]).dropLast = f.ls := List.dropLast_concat
            rw [this] at hxm
            exact hn x hxm
          · have hf := h.len
            rw [if_neg hl] at hf
            show ((f.ls ++ [b]).length : Int) ≤ m + (if (f.ls ++ [b]).getLast? = some 13 then 1 else 0)
            have hl2 : (f.ls ++ [b]).getLast? = some b := by simp
            rw [hl2, List.length_append, List.length_singleton]
            rcases hx with rfl | hx
            · rw [if_pos rfl]; omega
            · split <;> omega
        · rw [step_long he hl hb (fun e => hx (.inl e)) (by omega)]; exact err_ok hm (.inr (.inr rfl))
  · rw [step_err he]; exact h
theorem put_ok {m : Int} (hm : 0 ≤ m) : ∀ (xs : List UInt8) {f : Fm}, f.Ok m → (f.put m xs).2.Ok m
  | [], _, h => h
  | b :: bs, _, h => by rw [put_cons]; exact put_ok hm bs (step_ok hm h b)

/-- Neither a CR nor an LF. -/
def Bare (xs : List UInt8) : Prop := ∀ b ∈ xs, b ≠ 13 ∧ b ≠ 10
theorem Bare.last {xs : List UInt8} (h : Bare xs) : xs.getLast? ≠ some 13 := fun e => (h 13 (List.mem_of_getLast? e)).1 rfl
theorem Bare.tail {b : UInt8} {xs : List UInt8} (h : Bare (b :: xs)) : Bare xs := fun x hx => h x (List.mem_cons_of_mem _ hx)
theorem Bare.snoc {b : UInt8} {ys xs : List UInt8} (h : Bare ys) (hb : Bare (b :: xs)) : Bare (ys ++ [b]) := fun x hx => by
  rcases List.mem_append.1 hx with hx | hx
  · exact h x hx
  · rw [List.mem_singleton] at hx
    rw [hx]; exact hb b (List.mem_cons_self ..)
/-- Bytes of a line that is short enough. -/
theorem put_bare {m : Int} : ∀ (xs ys : List UInt8), Bare xs → Bare ys → ((ys.length + xs.length : Nat) : Int) ≤ m → (⟨ys, 0⟩ : Fm).put m xs = ([], ⟨ys ++ xs, 0⟩)
  | [], ys, _, _, _ => by rw [put_nil, List.append_nil]
  | b :: bs, ys, hx, hy, hm => by
    rw [List.length_cons] at hm
    have h1 := hx b (List.mem_cons_self ..)
    rw [put_cons, step_more (f := ⟨ys, 0⟩) rfl hy.last h1.2 (.inr (by show ((ys.length : Nat) : Int) + 1 ≤ m; omega)), put_bare bs (ys ++ [b]) hx.tail (hy.snoc hx) (by rw [List.length_append, List.length_singleton]; omega)]
    simp
/-- Bytes of one that is not. -/
theorem put_long {m : Int} : ∀ (xs ys : List UInt8), Bare xs → Bare ys → ((ys.length : Nat) : Int) ≤ m → m < ((ys.length + xs.length : Nat) : Int) → (⟨ys, 0⟩ : Fm).put m xs = ([], ⟨[], 61⟩)
  | [], ys, _, _, h1, h2 => by simp at h2; omega
  | b :: bs, ys, hx, hy, h1, h2 => by
    rw [List.length_cons] at h2
    have hb := hx b (List.mem_cons_self ..)
    by_cases hm : (ys.length : Int) + 1 ≤ m
    · rw [put_cons, step_more (f := ⟨ys, 0⟩) rfl hy.last hb.2 (.inr hm), put_long bs (ys ++ [b]) hx.tail (hy.snoc hx) (by rw [List.length_append, List.length_singleton]; omega) (by rw [List.length_append, List.length_singleton]; omega)]
      rfl
    · rw [put_cons, step_long (f := ⟨ys, 0⟩) rfl hy.last hb.2 hb.1 (by show m < ((ys.length : Nat) : Int) + 1; omega), put_err (f := ⟨[], 61⟩) (by decide)]
      rfl
/-- A line's end. -/
theorem put_crlf {m : Int} {ys : List UInt8} (hy : Bare ys) : (⟨ys, 0⟩ : Fm).put m [13, 10] = ([ys], ⟨[], 0⟩) := by
  rw [put_cons, step_more (f := ⟨ys, 0⟩) rfl hy.last (by decide) (.inl rfl), put_cons, step_line (f := ⟨ys ++ [13], 0⟩) rfl (by simp)]
  simp [put_nil]
theorem put_whole {m : Int} {xs : List UInt8} (hx : Bare xs) (hm : (xs.length : Int) ≤ m) : start.put m (xs ++ [13, 10]) = ([xs], start) := by
  rw [put_append, start, put_bare xs [] hx (fun b h => by cases h) (by simpa using hm)]
  show ([] ++ ((⟨xs, 0⟩ : Fm).put m [13, 10]).1, ((⟨xs, 0⟩ : Fm).put m [13, 10]).2) = _
  rw [put_crlf hx]
  rfl
theorem put_over {m : Int} (h0 : 0 ≤ m) {xs : List UInt8} (hx : Bare xs) (hm : m < (xs.length : Int)) (ys : List UInt8) : start.put m (xs ++ ys) = ([], ⟨[], 61⟩) := by
  rw [put_append, start, put_long xs [] hx (fun b h => by cases h) (by simpa using h0) (by simpa using hm)]
  show ([] ++ ((⟨[], 61⟩ : Fm).put m ys).1, ((⟨[], 61⟩ : Fm).put m ys).2) = _
  rw [put_err (f := ⟨[], 61⟩) (by decide)]
  rfl
/-- Spoilt. -/
theorem put_spoil {m : Int} {ys : List UInt8} (hy : Bare ys) {zs : List UInt8} (hz : zs = [10] ∨ zs = [13, 120] ∨ zs = [13, 13]) : (⟨ys, 0⟩ : Fm).put m zs = ([], ⟨[], 60⟩) := by
  rcases hz with rfl | rfl | rfl
  · rw [put_cons, step_lf (f := ⟨ys, 0⟩) rfl hy.last]; rfl
  · rw [put_cons, step_more (f := ⟨ys, 0⟩) rfl hy.last (by decide) (.inl rfl), put_cons, step_cr (f := ⟨ys ++ [13], 0⟩) rfl (by simp) (by decide)]; rfl
  · rw [put_cons, step_more (f := ⟨ys, 0⟩) rfl hy.last (by decide) (.inl rfl), put_cons, step_cr (f := ⟨ys ++ [13], 0⟩) rfl (by simp) (by decide)]; rfl
/-- How many lines, and how long what is left. -/
theorem put_few {m : Int} : ∀ (xs : List UInt8) (f : Fm), (f.put m xs).1.length ≤ xs.length
  | [], f => Nat.le_refl _
  | b :: bs, f => by
    rw [put_cons, List.length_append, List.length_cons]
    have h1 := put_few (m := m) bs (f.step m b).2
    have h2 : (f.step m b).1.toList.length ≤ 1 := by cases (f.step m b).1 <;> simp
    omega
theorem step_rest {m : Int} (f : Fm) (b : UInt8) : (f.step m b).2.ls.length ≤ f.ls.length + 1 := by
  unfold Fm.step
  split
  · exact Nat.le_succ _
  · split
    · simp
    · split
      · simp
      · split <;> simp
theorem put_rest {m : Int} : ∀ (xs : List UInt8) (f : Fm), (f.put m xs).2.ls.length ≤ f.ls.length + xs.length
  | [], f => Nat.le_refl _
  | b :: bs, f => by
    rw [put_cons, List.length_cons]
    have h1 := put_rest (m := m) bs (f.step m b).2
    have h2 := step_rest (m := m) f b
    show (((f.step m b).2.put m bs).2).ls.length ≤ _
    omega
/-- What is left is the end of what came (where nothing is wrong). -/
theorem step_end {m : Int} {f : Fm} (he : f.err = 0) {xs : List UInt8} (h : ∃ ys, xs = ys ++ f.ls) (b : UInt8) : ∃ ys, xs ++ [b] = ys ++ (f.step m b).2.ls := by
  obtain ⟨ys, rfl⟩ := h
  unfold Fm.step
  split
  · exact absurd he (by assumption)
  · split
    · exact ⟨_, (List.append_nil _).symm⟩
    · split
      · exact ⟨_, (List.append_nil _).symm⟩
      · split
        · exact ⟨_, (List.append_nil _).symm⟩
        · exact ⟨ys, by simp⟩
end Li
end Go.Proofs.YtnodngcfjdghcaaDoor
