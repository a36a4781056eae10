/- Where data are, in plain words (layer 13). (Laid in round 12, ahead of stage 13.) -/
import Derived.Test.YtonophhhndhhhaaDoorDecP
namespace Go.Proofs.YtonophhhndhhhaaDoor
namespace Ad
open Tx

/-- A place: four numbers and a port. -/
structure Ad where
  a : Int
  b : Int
  c : Int
  d : Int
  port : Int
deriving DecidableEq
/-- A row's first digits, and what is behind them. -/
def run (l : List UInt8) : List UInt8 := l.takeWhile dig
def past (l : List UInt8) : List UInt8 := l.dropWhile dig
/-- A number of at most k digits, up to most, and what is behind. -/
def num (most : Int) (k : Nat) (l : List UInt8) : Option (Int × List UInt8) :=
  if (number (run l) most).2 = true ∧ (run l).length ≤ k then some ((number (run l) most).1, past l) else none
/-- Numbers, each behind a comma. -/
def more : Nat → List UInt8 → Option (List Int)
  | 0, _ => some []
  | k + 1, l => match l with
    | [] => none
    | c :: r => if c = 44 then (match num 255 3 r with
      | none => none
      | some (n, r) => (more k r).map (n :: ·)) else none
/-- Six numbers, from the first digit on. -/
def six (l : List UInt8) : Option (List Int) := match num 255 3 (l.dropWhile fun b => !dig b) with
  | none => none
  | some (n, r) => (more 5 r).map (n :: ·)
def place : List Int → Option Ad
  | [a, b, c, d, e, f] => if e * 256 + f = 0 then none else some ⟨a, b, c, d, e * 256 + f⟩
  | _ => none
def pasv (l : List UInt8) : Option Ad := (six l).bind place
/-- The port within a sign. -/
def epsvAt : List UInt8 → Option Int
  | _ :: d :: d1 :: d2 :: r =>
    if 33 ≤ d.toNat ∧ d.toNat ≤ 126 ∧ dig d = false ∧ d1 = d ∧ d2 = d then (match num 65535 5 r with
      | none => none
      | some (n, r) => (match r with
        | e :: f :: _ => if n ≠ 0 ∧ e = d ∧ f = 41 then some n else none
        | _ => none)) else none
  | _ => none
def epsv (l : List UInt8) : Option Int := epsvAt (l.dropWhile fun b => b != 40)
/-- A place written. -/
def text (x : Ad) : List UInt8 :=
  Lib.itoa x.a ++ 44 :: (Lib.itoa x.b ++ 44 :: (Lib.itoa x.c ++ 44 :: (Lib.itoa x.d ++ 44 :: (Lib.itoa (x.port / 256) ++ 44 :: Lib.itoa (x.port % 256)))))

/-! Digits ahead of what is none. -/
def Stop (r : List UInt8) : Prop := ∀ c, r.head? = some c → dig c = false
theorem run_app : ∀ {d r : List UInt8}, digits d = true → Stop r → run (d ++ r) = d ∧ past (d ++ r) = r
  | [], r, _, h => by
    cases r with
    | nil => exact ⟨rfl, rfl⟩
    | cons c r =>
      have := h c rfl
      simp [run, past, this]
  | c :: d, r, hd, h => by
    simp only [digits, List.all_cons, Bool.and_eq_true] at hd
    obtain ⟨h1, h2⟩ := run_app (d := d) (r := r) hd.2 h
    simp only [run, past] at h1 h2
    simp [run, past, hd.1, h1, h2]
/-- One number, as it may stand. -/
def okd (d : List UInt8) : Bool := (number d 255).2 && decide (d.length ≤ 3)
theorem num_app {d r : List UInt8} (hd : digits d = true) (h : Stop r) : num 255 3 (d ++ r) = if okd d = true then some ((number d 255).1, r) else none := by
  obtain ⟨h1, h2⟩ := run_app hd h
  unfold num okd
  rw [h1, h2]
  simp only [Bool.and_eq_true, decide_eq_true_eq]
/-- Rows of digits, a comma ahead of each. -/
def commas (D : List (List UInt8)) : List UInt8 := D.flatMap fun d => 44 :: d
theorem commas_stop {D : List (List UInt8)} {r : List UInt8} (h : Stop r) : Stop (commas D ++ r) := by
  cases D with
  | nil => exact h
  | cons d D =>
    intro c hc
    obtain rfl : (44 : UInt8) = c := by simpa [commas] using hc
    rfl
/-- What ends a row of numbers: no digit, no comma. -/
theorem more_app {r : List UInt8} (hs : Stop r) (hc : r.head? ≠ some 44) : ∀ (k : Nat) (D : List (List UInt8)), (∀ d ∈ D, digits d = true) →
    more k (commas D ++ r) = if k ≤ D.length ∧ (D.take k).all okd = true then some ((D.take k).map fun d => (number d 255).1) else none
  | 0, D, _ => by simp [more]
  | k + 1, [], _ => by
    cases r with
    | nil => simp [commas, more]
    | cons c r =>
      have : c ≠ 44 := fun e => hc (by rw [e]; rfl)
      simp [commas, more, this]
  | k + 1, d :: D, h => by
    have ih := more_app hs hc k D (fun x hx => h x (by simp [hx]))
    have e : commas (d :: D) ++ r = 44 :: (d ++ (commas D ++ r)) := by simp [commas]
    rw [e, more, if_pos rfl, num_app (h d (by simp)) (commas_stop hs)]
    by_cases ho : okd d = true
    · rw [if_pos ho]
      simp only [ih]
      by_cases h2 : k ≤ D.length ∧ (D.take k).all okd = true
      · rw [if_pos h2, if_pos ⟨by simp only [List.length_cons]; omega, by rw [List.take_succ_cons, List.all_cons, ho, h2.2]; rfl⟩]
        rfl
      · rw [if_neg h2, if_neg (fun e => h2 ⟨by have := e.1; simp only [List.length_cons] at this; omega, by
          have := e.2
          rw [List.take_succ_cons, List.all_cons, ho, Bool.true_and] at this
          exact this⟩)]
        rfl
    · rw [if_neg ho, if_neg (fun e => ho (by
        have := e.2
        rw [List.take_succ_cons, List.all_cons, Bool.and_eq_true] at this
        exact this.1))]
theorem ahead_drop : ∀ {s l : List UInt8}, (∀ b ∈ s, dig b = false) → (∀ c, l.head? = some c → dig c = true) → ((s ++ l).dropWhile fun b => !dig b) = l
  | [], l, _, h => by
    cases l with
    | nil => rfl
    | cons c l => simp [h c rfl]
  | b :: s, l, hs, h => by
    have h1 := hs b (by simp)
    rw [List.cons_append, List.dropWhile_cons, h1]
    exact ahead_drop (fun x hx => hs x (by simp [hx])) h
/-- Six numbers at least, behind what has no digit: the first six. -/
theorem six_app {s d : List UInt8} {D : List (List UInt8)} {r : List UInt8} (hs : ∀ b ∈ s, dig b = false) (hd : digits d = true) (hne : d ≠ []) (hD : ∀ x ∈ D, digits x = true) (hr : Stop r) (hc : r.head? ≠ some 44) :
    six (s ++ (d ++ (commas D ++ r))) = if okd d = true ∧ 5 ≤ D.length ∧ (D.take 5).all okd = true then some ((number d 255).1 :: (D.take 5).map fun d => (number d 255).1) else none := by
  have hh : ∀ c, (d ++ (commas D ++ r)).head? = some c → dig c = true := by
    intro c hc2
    cases d with
    | nil => exact absurd rfl hne
    | cons x d =>
      obtain rfl : x = c := by simpa using hc2
      simp only [digits, List.all_cons, Bool.and_eq_true] at hd
      exact hd.1
  unfold six
  rw [ahead_drop hs hh, num_app hd (commas_stop hr)]
  by_cases ho : okd d = true
  · rw [if_pos ho]
    simp only [more_app hr hc 5 D hD]
    by_cases h2 : 5 ≤ D.length ∧ (D.take 5).all okd = true
    · rw [if_pos h2, if_pos ⟨ho, h2⟩]
      rfl
    · rw [if_neg h2, if_neg (fun e => h2 e.2)]
      rfl
  · rw [if_neg ho, if_neg (fun e => ho e.1)]

/-! Small numbers as digits. -/
theorem dec_okd {n : Nat} (h : n ≤ 255) : okd (Lib.decDigits n) = true ∧ (number (Lib.decDigits n) 255).1 = (n : Int) := by
  have hl : (Lib.decDigits n).length ≤ 3 := by
    obtain ⟨_, _, h3, h4, h5⟩ := dec_facts n n (Nat.le_refl _)
    rcases Nat.lt_or_ge 3 (Lib.decDigits n).length with hgt | hle
    · exfalso
      rcases Nat.eq_zero_or_pos n with rfl | hp
      · rw [Lib.decDigits] at hgt
        simp at hgt
      · have h6 := h3 hp
        have : 10 ^ 3 ≤ 10 ^ ((Lib.decDigits n).length - 1) := Nat.pow_le_pow_right (by decide) (by omega)
        omega
    · exact hle
  have hn : number (Lib.decDigits n) 255 = ((n : Int), true) := by
    have hd := dec_all n
    have hv := dec_val n
    have hp := dec_pos n
    rw [number, if_pos ⟨⟨hp, by omega, hd⟩, by rw [hv]; omega⟩, hv]
  refine ⟨?_, by rw [hn]⟩
  unfold okd
  rw [hn]
  simpa using hl
theorem dec_ne (n : Nat) : Lib.decDigits n ≠ [] := fun e => by
  have := dec_pos n
  rw [e] at this
  simp at this
/-- A place that may be written. -/
structure Fit (x : Ad) (a b c d e f : Nat) : Prop where
  ha : x.a = a
  hb : x.b = b
  hc : x.c = c
  hd : x.d = d
  he : x.port = e * 256 + f
  la : a ≤ 255
  lb : b ≤ 255
  lc : c ≤ 255
  ld : d ≤ 255
  le : e ≤ 255
  lf : f ≤ 255
theorem Fit.text {x : Ad} {a b c d e f : Nat} (h : Fit x a b c d e f) : text x = Lib.decDigits a ++ commas [Lib.decDigits b, Lib.decDigits c, Lib.decDigits d, Lib.decDigits e, Lib.decDigits f] := by
  have h1 : x.port / 256 = (e : Int) := by rw [h.he]; have := h.lf; omega
  have h2 : x.port % 256 = (f : Int) := by rw [h.he]; have := h.lf; omega
  have t : ∀ n : Nat, Lib.itoa (n : Int) = Lib.decDigits n := fun n => by rw [itoa_nat (by omega)]; rfl
  unfold Ad.text
  rw [h1, h2, h.ha, h.hb, h.hc, h.hd, t, t, t, t, t, t]
  simp [commas]
/-- What is written is read again. -/
theorem Fit.back {x : Ad} {a b c d e f : Nat} (h : Fit x a b c d e f) {s r : List UInt8} (hs : ∀ b ∈ s, dig b = false) (hr : Stop r) (hc : r.head? ≠ some 44) :
    pasv (s ++ (Ad.text x ++ r)) = if x.port = 0 then none else some x := by
  unfold pasv
  rw [h.text, List.append_assoc, six_app hs (dec_all a) (dec_ne a) (by
    intro y hy
    simp only [List.mem_cons, List.not_mem_nil, or_false] at hy
    rcases hy with rfl | rfl | rfl | rfl | rfl <;> exact dec_all _) hr hc]
  obtain ⟨a1, a2⟩ := dec_okd h.la
  obtain ⟨b1, b2⟩ := dec_okd h.lb
  obtain ⟨c1, c2⟩ := dec_okd h.lc
  obtain ⟨d1, d2⟩ := dec_okd h.ld
  obtain ⟨e1, e2⟩ := dec_okd h.le
  obtain ⟨f1, f2⟩ := dec_okd h.lf
  rw [if_pos ⟨a1, Nat.le_refl _, by simp [b1, c1, d1, e1, f1]⟩]
  simp only [List.take_succ_cons, List.take_zero, List.map_cons, List.map_nil, a2, b2, c2, d2, e2, f2, Option.bind_some, place]
  obtain ⟨xa, xb, xc, xd, xp⟩ := x
  have h1 := h.ha; have h2 := h.hb; have h3 := h.hc; have h4 := h.hd; have h5 := h.he
  simp only at h1 h2 h3 h4 h5
  subst h1 h2 h3 h4 h5
  rfl

/-! The port within a sign. -/
theorem dec_five {p : Nat} (h : p ≤ 65535) : (Lib.decDigits p).length ≤ 5 := by
  obtain ⟨_, _, h3, _, _⟩ := dec_facts p p (Nat.le_refl _)
  rcases Nat.lt_or_ge 5 (Lib.decDigits p).length with hgt | hle
  · exfalso
    rcases Nat.eq_zero_or_pos p with rfl | hp
    · rw [Lib.decDigits] at hgt
      simp at hgt
    · have h6 := h3 hp
      have : 10 ^ 5 ≤ 10 ^ ((Lib.decDigits p).length - 1) := Nat.pow_le_pow_right (by decide) (by omega)
      omega
  · exact hle
theorem num_port {p : Nat} {r : List UInt8} (hr : Stop r) : num 65535 5 (Lib.decDigits p ++ r) = if p ≤ 65535 then some ((p : Int), r) else none := by
  obtain ⟨h1, h2⟩ := run_app (dec_all p) hr
  have hd := dec_all p
  have hv := dec_val p
  have hp := dec_pos p
  unfold num
  rw [h1, h2]
  by_cases h : p ≤ 65535
  · have hl := dec_five h
    have hn : number (Lib.decDigits p) 65535 = ((p : Int), true) := by
      rw [number, if_pos ⟨⟨hp, by omega, hd⟩, by rw [hv]; omega⟩, hv]
    rw [hn, if_pos h, if_pos ⟨rfl, hl⟩]
  · have hn : (number (Lib.decDigits p) 65535).2 = false := by
      rw [number, if_neg (fun e => h (by have := e.2; rw [hv] at this; omega))]
    rw [hn, if_neg h, if_neg (fun e => by cases e.1)]
theorem epsv_drop {s l : List UInt8} (hs : ∀ b ∈ s, b ≠ 40) : epsv (s ++ 40 :: l) = epsvAt (40 :: l) := by
  unfold epsv
  congr 1
  induction s with
  | nil => rfl
  | cons b s ih =>
    have h1 : (b != 40) = true := bne_iff_ne.2 (hs b (by simp))
    rw [List.cons_append, List.dropWhile_cons, h1]
    exact ih (fun x hx => hs x (by simp [hx]))
/-- May it be a sign? -/
def Sign (d : UInt8) : Prop := 33 ≤ d.toNat ∧ d.toNat ≤ 126 ∧ dig d = false
theorem Sign.stop {d : UInt8} (h : Sign d) (r : List UInt8) : Stop (d :: r) := fun c hc => by
  obtain rfl : d = c := by simpa using hc
  exact h.2.2
theorem epsv_whole {s : List UInt8} (hs : ∀ b ∈ s, b ≠ 40) (d : UInt8) (p : Nat) (r : List UInt8) :
    epsv (s ++ 40 :: d :: d :: d :: (Lib.decDigits p ++ d :: 41 :: r)) = if 33 ≤ d.toNat ∧ d.toNat ≤ 126 ∧ dig d = false ∧ 1 ≤ p ∧ p ≤ 65535 then some (p : Int) else none := by
  rw [epsv_drop hs]
  unfold epsvAt
  by_cases h : 33 ≤ d.toNat ∧ d.toNat ≤ 126 ∧ dig d = false
  · simp only
    rw [if_pos ⟨h.1, h.2.1, h.2.2, by trivial, by trivial⟩, num_port (Sign.stop h _)]
    by_cases hp : p ≤ 65535
    · rw [if_pos hp]
      by_cases h0 : p = 0
      · rw [if_neg (fun e => by omega)]
        simp [h0]
      · rw [if_pos ⟨h.1, h.2.1, h.2.2, by omega, hp⟩]
        simp [h0]
    · rw [if_neg hp, if_neg (fun e => hp e.2.2.2.2)]
  · simp only
    rw [if_neg (fun e => h ⟨e.1, e.2.1, e.2.2.1⟩), if_neg (fun e => h ⟨e.1, e.2.1, e.2.2.1⟩)]
theorem epsv_open {s : List UInt8} (hs : ∀ b ∈ s, b ≠ 40) (d : UInt8) (p : Nat) : epsv (s ++ 40 :: d :: d :: d :: (Lib.decDigits p ++ [d])) = none := by
  rw [epsv_drop hs]
  unfold epsvAt
  by_cases h : 33 ≤ d.toNat ∧ d.toNat ≤ 126 ∧ dig d = false
  · simp only
    rw [if_pos ⟨h.1, h.2.1, h.2.2, by trivial, by trivial⟩, num_port (Sign.stop h _)]
    by_cases hp : p ≤ 65535
    · rw [if_pos hp]
    · rw [if_neg hp]
  · simp only
    rw [if_neg (fun e => h ⟨e.1, e.2.1, e.2.2.1⟩)]
theorem epsv_two {s : List UInt8} (hs : ∀ b ∈ s, b ≠ 40) (d : UInt8) (p : Nat) : epsv (s ++ 40 :: d :: d :: (Lib.decDigits p ++ [d, 41])) = none := by
  rw [epsv_drop hs]
  have hd := dec_all p
  cases hp : Lib.decDigits p with
  | nil => exact absurd hp (dec_ne p)
  | cons c r =>
    rw [hp] at hd
    simp only [digits, List.all_cons, Bool.and_eq_true] at hd
    unfold epsvAt
    simp only [List.cons_append]
    rw [if_neg (fun e => by
      have := e.2.2.1
      rw [← e.2.2.2.2, hd.1] at this
      cases this)]
end Ad
end Go.Proofs.YtonophhhndhhhaaDoor
