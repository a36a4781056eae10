/- Bytes as letters: plain facts, of no program. -/
import Derived.WalkKit
import Derived.Lib.Strings
import Derived.Lib.Bytealg
namespace Go.Proofs.YtjogdflhpciciaaDoor
namespace B64

/-- A to Z, a to z, 0 to 9, + and /. -/
def letters : List UInt8 := [65, 66, 67, 68, 69, 70, 71, 72, 73, 74, 75, 76, 77, 78, 79, 80, 81, 82, 83, 84, 85, 86, 87, 88, 89, 90, 97, 98, 99, 100, 101, 102, 103, 104, 105, 106, 107, 108, 109, 110, 111, 112, 113, 114, 115, 116, 117, 118, 119, 120, 121, 122, 48, 49, 50, 51, 52, 53, 54, 55, 56, 57, 43, 47]
def lt (n : Nat) : UInt8 := letters.getD n 0

/-- The number of a letter, 0 for what is none. -/
def val (c : UInt8) : Nat := (Lib.indexByte letters c).toNat
/-- The number of a letter, -1 for what is none. -/
def rv (c : UInt8) : Int :=
  if 65 ≤ c.toNat ∧ c.toNat ≤ 90 then (c.toNat : Int) - 65
  else if 97 ≤ c.toNat ∧ c.toNat ≤ 122 then (c.toNat : Int) - 97 + 26
  else if 48 ≤ c.toNat ∧ c.toNat ≤ 57 then (c.toNat : Int) - 48 + 52
  else if c.toNat = 43 then 62 else if c.toNat = 47 then 63 else -1

theorem lt_facts : ∀ n : Fin 64, val (lt n.val) = n.val ∧ rv (lt n.val) = n.val ∧ lt n.val ≠ 61 := by decide +kernel
theorem val_lt {n : Nat} (h : n < 64) : val (lt n) = n := (lt_facts ⟨n, h⟩).1
theorem rv_lt {n : Nat} (h : n < 64) : rv (lt n) = n := (lt_facts ⟨n, h⟩).2.1
theorem lt_ne {n : Nat} (h : n < 64) : lt n ≠ 61 := (lt_facts ⟨n, h⟩).2.2
theorem val_fill : val 61 = 0 := by decide +kernel
theorem rv_fill : rv 61 = -1 := by decide +kernel
theorem all_bytes {p : UInt8 → Prop} (h : ∀ n : Fin 256, p (UInt8.ofNat n.val)) (c : UInt8) : p c := by
  have := h ⟨c.toNat, c.toNat_lt⟩
  simpa using this
theorem val_small (c : UInt8) : val c < 64 := by
  refine all_bytes (p := fun c => val c < 64) ?_ c
  decide +kernel
theorem rv_small (c : UInt8) : -1 ≤ rv c ∧ rv c ≤ 63 := by
  unfold rv
  repeat (split; · omega)
  omega

def rowOf (xs : List UInt8) : Nat := (xs.getD 0 0).toNat * 65536 + (xs.getD 1 0).toNat * 256 + (xs.getD 2 0).toNat
/-- The letter at place k of the four, of m bytes that are the number 'row'. -/
def lat (m row k : Nat) : UInt8 := if k ≤ m then lt (row / 64 ^ (3 - k) % 64) else 61
/-- The letter at place j when those ahead of place k are laid. -/
def mix (m row k j : Nat) : UInt8 := if j < k then lat m row j else 61
theorem mix_end (m row j : Nat) : mix m row (m + 1) j = lat m row j := by
  unfold mix lat
  by_cases h : j ≤ m
  · rw [if_pos (by omega), if_pos h]
  · rw [if_neg (by omega), if_neg h]
theorem lat_lt {m row k i d : Nat} (h : k ≤ m) (hd : 64 ^ (3 - k) = d) (e : row / d % 64 = i) : lat m row k = lt i := by rw [lat, if_pos h, hd, e]
def four (xs : List UInt8) : List UInt8 := [lat xs.length (rowOf xs) 0, lat xs.length (rowOf xs) 1, lat xs.length (rowOf xs) 2, lat xs.length (rowOf xs) 3]

def put : List UInt8 → List UInt8
  | [] => []
  | [a] => four [a]
  | [a, b] => four [a, b]
  | a :: b :: c :: r => four [a, b, c] ++ put r

theorem put_step {xs : List UInt8} (h : xs ≠ []) : put xs = four (xs.take 3) ++ put (xs.drop 3) := by
  match xs, h with
  | [a], _ => simp [put]
  | [a, b], _ => simp [put]
  | a :: b :: c :: r, _ => simp [put]

theorem put_app : ∀ (d r : List UInt8), d.length % 3 = 0 → put (d ++ r) = put d ++ put r
  | [], r, _ => rfl
  | [a], r, h => by simp at h
  | [a, b], r, h => by simp at h
  | a :: b :: c :: d, r, h => by
    have := put_app d r (by simp at h; omega)
    simp [put, this]

theorem put_few {xs : List UInt8} (h : xs ≠ []) (h3 : xs.length ≤ 3) : put xs = four xs := by
  rw [put_step h, List.take_of_length_le h3, List.drop_of_length_le h3]
  simp [put]

theorem four_len (xs : List UInt8) : (four xs).length = 4 := rfl

theorem put_len : ∀ xs : List UInt8, (put xs).length = (xs.length + 2) / 3 * 4
  | [] => rfl
  | [a] => by simp [put, four_len]
  | [a, b] => by simp [put, four_len]
  | a :: b :: c :: r => by
    have := put_len r
    simp only [put, List.length_append, this, four_len, List.length_cons]
    omega

/-- The number that four letters say, and how many bytes they mean. -/
def rowV (c0 c1 c2 c3 : UInt8) : Nat := ((val c0 * 64 + val c1) * 64 + val c2) * 64 + val c3
def cnt (c2 c3 : UInt8) : Nat := if c3 ≠ 61 then 3 else if c2 ≠ 61 then 2 else 1
def three (c0 c1 c2 c3 : UInt8) : List UInt8 := [UInt8.ofNat (rowV c0 c1 c2 c3 / 65536), UInt8.ofNat (rowV c0 c1 c2 c3 / 256), UInt8.ofNat (rowV c0 c1 c2 c3)]
def back (c0 c1 c2 c3 : UInt8) : List UInt8 := (three c0 c1 c2 c3).take (cnt c2 c3)

theorem rowV_small (c0 c1 c2 c3 : UInt8) : rowV c0 c1 c2 c3 < 16777216 := by
  have h0 := val_small c0; have h1 := val_small c1; have h2 := val_small c2; have h3 := val_small c3
  unfold rowV; omega

theorem ofNat_eq {n : Nat} {a : UInt8} (h : n % 256 = a.toNat) : UInt8.ofNat n = a := by
  rw [← UInt8.toNat_inj, UInt8.toNat_ofNat']; simpa using h

theorem back_four1 (a : UInt8) : back (lat 1 (rowOf [a]) 0) (lat 1 (rowOf [a]) 1) (lat 1 (rowOf [a]) 2) (lat 1 (rowOf [a]) 3) = [a] := by
  have ha := a.toNat_lt
  have e : rowOf [a] = a.toNat * 65536 := by simp [rowOf]
  rw [e]
  have h0 : lat 1 (a.toNat * 65536) 0 = lt (a.toNat / 4) := lat_lt (by omega) rfl (by omega)
  have h1 : lat 1 (a.toNat * 65536) 1 = lt (a.toNat % 4 * 16) := lat_lt (by omega) rfl (by omega)
  have h2 : lat 1 (a.toNat * 65536) 2 = 61 := rfl
  have h3 : lat 1 (a.toNat * 65536) 3 = 61 := rfl
  rw [h0, h1, h2, h3]
  have r : rowV (lt (a.toNat / 4)) (lt (a.toNat % 4 * 16)) 61 61 = a.toNat * 65536 := by
    unfold rowV
    rw [val_lt (by omega), val_lt (by omega), val_fill]; omega
  have ec : cnt 61 61 = 1 := by decide
  have e0 : UInt8.ofNat (a.toNat * 65536 / 65536) = a := ofNat_eq (by omega)
  simp only [back, three, r, ec, List.take_succ_cons, List.take_zero, e0]

theorem back_four2 (a b : UInt8) : back (lat 2 (rowOf [a, b]) 0) (lat 2 (rowOf [a, b]) 1) (lat 2 (rowOf [a, b]) 2) (lat 2 (rowOf [a, b]) 3) = [a, b] := by
  have ha := a.toNat_lt
  have hb := b.toNat_lt
  have e : rowOf [a, b] = a.toNat * 65536 + b.toNat * 256 := by simp [rowOf]
  rw [e]
  have h0 : lat 2 (a.toNat * 65536 + b.toNat * 256) 0 = lt (a.toNat / 4) := lat_lt (by omega) rfl (by omega)
  have h1 : lat 2 (a.toNat * 65536 + b.toNat * 256) 1 = lt (a.toNat % 4 * 16 + b.toNat / 16) := lat_lt (by omega) rfl (by omega)
  have h2 : lat 2 (a.toNat * 65536 + b.toNat * 256) 2 = lt (b.toNat % 16 * 4) := lat_lt (by omega) rfl (by omega)
  have h3 : lat 2 (a.toNat * 65536 + b.toNat * 256) 3 = 61 := rfl
  rw [h0, h1, h2, h3]
  have r : rowV (lt (a.toNat / 4)) (lt (a.toNat % 4 * 16 + b.toNat / 16)) (lt (b.toNat % 16 * 4)) 61 = a.toNat * 65536 + b.toNat * 256 := by
    unfold rowV
    rw [val_lt (by omega), val_lt (by omega), val_lt (by omega), val_fill]; omega
  have ec : cnt (lt (b.toNat % 16 * 4)) 61 = 2 := by
    have := lt_ne (n := b.toNat % 16 * 4) (by omega)
    simp [cnt, this]
  have e0 : UInt8.ofNat ((a.toNat * 65536 + b.toNat * 256) / 65536) = a := ofNat_eq (by omega)
  have e1 : UInt8.ofNat ((a.toNat * 65536 + b.toNat * 256) / 256) = b := ofNat_eq (by omega)
  simp only [back, three, r, ec, List.take_succ_cons, List.take_zero, e0, e1]

theorem lat3 {a b c : Nat} (ha : a < 256) (hb : b < 256) (hc : c < 256) :
    lat 3 (a * 65536 + b * 256 + c) 0 = lt (a / 4) ∧ lat 3 (a * 65536 + b * 256 + c) 1 = lt (a % 4 * 16 + b / 16) ∧
    lat 3 (a * 65536 + b * 256 + c) 2 = lt (b % 16 * 4 + c / 64) ∧ lat 3 (a * 65536 + b * 256 + c) 3 = lt (c % 64) := by
  exact ⟨lat_lt (by omega) rfl (by omega), lat_lt (by omega) rfl (by omega), lat_lt (by omega) rfl (by omega), lat_lt (by omega) rfl (by omega)⟩

theorem back_four3 (a b c : UInt8) : back (lat 3 (rowOf [a, b, c]) 0) (lat 3 (rowOf [a, b, c]) 1) (lat 3 (rowOf [a, b, c]) 2) (lat 3 (rowOf [a, b, c]) 3) = [a, b, c] := by
  have ha := a.toNat_lt
  have hb := b.toNat_lt
  have hc := c.toNat_lt
  have e : rowOf [a, b, c] = a.toNat * 65536 + b.toNat * 256 + c.toNat := by simp [rowOf]
  obtain ⟨h0, h1, h2, h3⟩ := lat3 ha hb hc
  rw [e, h0, h1, h2, h3]
  have r : rowV (lt (a.toNat / 4)) (lt (a.toNat % 4 * 16 + b.toNat / 16)) (lt (b.toNat % 16 * 4 + c.toNat / 64)) (lt (c.toNat % 64)) = a.toNat * 65536 + b.toNat * 256 + c.toNat := by
    unfold rowV
    rw [val_lt (by omega), val_lt (by omega), val_lt (by omega), val_lt (by omega)]; omega
  have ec : cnt (lt (b.toNat % 16 * 4 + c.toNat / 64)) (lt (c.toNat % 64)) = 3 := by
    have := lt_ne (n := c.toNat % 64) (by omega)
    simp [cnt, this]
  have e0 : UInt8.ofNat ((a.toNat * 65536 + b.toNat * 256 + c.toNat) / 65536) = a := ofNat_eq (by omega)
  have e1 : UInt8.ofNat ((a.toNat * 65536 + b.toNat * 256 + c.toNat) / 256) = b := ofNat_eq (by omega)
  have e2 : UInt8.ofNat (a.toNat * 65536 + b.toNat * 256 + c.toNat) = c := ofNat_eq (by omega)
  simp only [back, three, r, ec, List.take_succ_cons, List.take_zero, e0, e1, e2]

/-- What four letters mean, if some bytes have them. -/
theorem back_of {xs : List UInt8} {c0 c1 c2 c3 : UInt8} (h1 : xs ≠ []) (h2 : xs.length ≤ 3) (h : four xs = [c0, c1, c2, c3]) : back c0 c1 c2 c3 = xs := by
  simp only [four, List.cons.injEq, and_true] at h
  obtain ⟨rfl, rfl, rfl, rfl⟩ := h
  match xs, h1, h2 with
  | [a], _, _ => exact back_four1 a
  | [a, b], _, _ => exact back_four2 a b
  | [a, b, c], _, _ => exact back_four3 a b c

theorem back_len (c0 c1 c2 c3 : UInt8) : (back c0 c1 c2 c3).length = cnt c2 c3 := by
  unfold back three
  rw [List.length_take]
  unfold cnt
  simp only [List.length_cons, List.length_nil]
  split
  · rfl
  · split <;> rfl
theorem cnt_le (c2 c3 : UInt8) : 1 ≤ cnt c2 c3 ∧ cnt c2 c3 ≤ 3 := by unfold cnt; split <;> (try split) <;> omega

/-- What the first four letters of a Put mean are the first bytes. -/
theorem put_four {b : List UInt8} {c0 c1 c2 c3 : UInt8} {r : List UInt8} (h : put b = c0 :: c1 :: c2 :: c3 :: r) : b ≠ [] ∧ b.take 3 = back c0 c1 c2 c3 ∧ four (back c0 c1 c2 c3) = [c0, c1, c2, c3] ∧ put (b.drop 3) = r := by
  have hb : b ≠ [] := fun e => by subst e; cases h
  rw [put_step hb] at h
  have h' : four (b.take 3) ++ put (b.drop 3) = [c0, c1, c2, c3] ++ r := h
  obtain ⟨e1, e2⟩ := List.append_inj h' (by rw [four_len]; rfl)
  have h3 : b.take 3 ≠ [] := fun e => hb (by
    have := congrArg List.length e
    rw [List.length_take] at this
    have h0 : min 3 b.length = 0 := this
    exact List.length_eq_zero_iff.1 (by omega))
  have e3 := back_of h3 (by rw [List.length_take]; omega) e1
  exact ⟨hb, e3.symm, by rw [e3, e1], e2⟩

theorem put_inj : ∀ (a b : List UInt8), put a = put b → a = b
  | a, b, h => by
    by_cases ha : a = []
    · subst ha
      have := congrArg List.length h
      rw [put_len, put_len] at this
      simp at this
      exact (List.length_eq_zero_iff.1 (by omega)).symm
    · by_cases hb : b = []
      · subst hb
        have := congrArg List.length h
        rw [put_len, put_len] at this
        have h0 : a.length ≠ 0 := fun e => ha (List.length_eq_zero_iff.1 e)
        simp at this
        omega
      · have e := put_step ha
        obtain ⟨c0, c1, c2, c3, hf⟩ : ∃ c0 c1 c2 c3, four (a.take 3) = [c0, c1, c2, c3] := ⟨_, _, _, _, rfl⟩
        rw [hf] at e
        have g1 := put_four e
        have g2 := put_four (h.symm.trans e)
        have hl : (a.drop 3).length < a.length := by
          have h0 : a.length ≠ 0 := fun e => ha (List.length_eq_zero_iff.1 e)
          rw [List.length_drop]; omega
        have := put_inj (a.drop 3) (b.drop 3) (g1.2.2.2.trans g2.2.2.2.symm)
        rw [← List.take_append_drop 3 a, ← List.take_append_drop 3 b, g1.2.1, g2.2.1, this]
termination_by a => a.length

/-- What stands ahead of letters, whole thirds, stands ahead of the bytes. -/
theorem put_strip : ∀ (d b s : List UInt8), d.length % 3 = 0 → put b = put d ++ s → ∃ b', b = d ++ b' ∧ put b' = s
  | [], b, s, _, h => ⟨b, rfl, h⟩
  | [_], _, _, h, _ => by simp at h
  | [_, _], _, _, h, _ => by simp at h
  | x :: y :: z :: d, b, s, hd, h => by
    have e : put b = lat 3 (rowOf [x, y, z]) 0 :: lat 3 (rowOf [x, y, z]) 1 :: lat 3 (rowOf [x, y, z]) 2 :: lat 3 (rowOf [x, y, z]) 3 :: (put d ++ s) := by
      rw [h]
      simp [put, four]
    obtain ⟨_, h2, _, h4⟩ := put_four e
    rw [back_four3] at h2
    obtain ⟨b', h5, h6⟩ := put_strip d (b.drop 3) s (by simp at hd; omega) h4
    refine ⟨b', ?_, h6⟩
    rw [← List.take_append_drop 3 b, h2, h5]
    rfl

theorem put_ends {d b r : List UInt8} (hd : d.length % 3 ≠ 0) (h : put b = put d ++ r) : r = [] := by
  obtain ⟨d', x, e, h3, hx⟩ : ∃ d' x, d = d' ++ x ∧ d'.length % 3 = 0 ∧ (x.length = 1 ∨ x.length = 2) := by
    refine ⟨d.take (d.length / 3 * 3), d.drop (d.length / 3 * 3), (List.take_append_drop _ _).symm, ?_, ?_⟩
    · rw [List.length_take]; omega
    · rw [List.length_drop]; omega
  subst e
  rw [put_app _ _ h3, List.append_assoc] at h
  obtain ⟨b', rfl, h2⟩ := put_strip d' b _ h3 h
  have hne : x ≠ [] := fun e => by subst e; simp at hx
  rw [put_few hne (by omega)] at h2
  obtain ⟨c0, c1, c2, c3, hf⟩ : ∃ c0 c1 c2 c3, four x = [c0, c1, c2, c3] := ⟨_, _, _, _, rfl⟩
  have hb := back_of hne (by omega) hf
  rw [hf] at h2
  obtain ⟨_, g1, _, g3⟩ := put_four (show put b' = c0 :: c1 :: c2 :: c3 :: r from h2)
  rw [hb] at g1
  have hl := congrArg List.length g1
  rw [List.length_take] at hl
  have : b'.drop 3 = [] := List.drop_of_length_le (by omega)
  rw [this] at g3
  exact g3.symm

theorem put_short {d b r : List UInt8} (h : put b = put d ++ r) : r.length % 4 = 0 := by
  have := congrArg List.length h
  rw [List.length_append, put_len, put_len] at this
  omega

theorem put_other {d b r : List UInt8} {c0 c1 c2 c3 : UInt8} (hd : d.length % 3 = 0) (h : put b = put d ++ (c0 :: c1 :: c2 :: c3 :: r)) : four (back c0 c1 c2 c3) = [c0, c1, c2, c3] := by
  obtain ⟨b', _, h2⟩ := put_strip d b _ hd h
  exact (put_four h2).2.2.1

theorem put_more {d r : List UInt8} {c0 c1 c2 c3 : UInt8} (hd : d.length % 3 = 0) (h : four (back c0 c1 c2 c3) = [c0, c1, c2, c3]) : put d ++ (c0 :: c1 :: c2 :: c3 :: r) = put (d ++ back c0 c1 c2 c3) ++ r := by
  have hl := back_len c0 c1 c2 c3
  have hc := cnt_le c2 c3
  have e := put_few (xs := back c0 c1 c2 c3) (fun e => by rw [e] at hl; simp at hl; omega) (by omega)
  rw [put_app _ _ hd, e, h, List.append_assoc]
  rfl

/-- The bits of letters, six a letter, eight a byte, up to what is no letter. -/
def go : Nat → Nat → List UInt8 → List UInt8
  | _, _, [] => []
  | n, b, c :: r => if rv c < 0 then [] else
    if 8 ≤ b + 6 then UInt8.ofNat ((n % 4096 * 64 + (rv c).toNat) / 2 ^ (b + 6 - 8)) :: go (n % 4096 * 64 + (rv c).toNat) (b + 6 - 8) r else go (n % 4096 * 64 + (rv c).toNat) (b + 6) r

theorem go_0 {n i : Nat} (r : List UInt8) (h : i < 64) : go n 0 (lt i :: r) = go (n % 4096 * 64 + i) 6 r := by
  have h0 : ¬ ((i : Int) < 0) := by omega
  simp [go, rv_lt h, h0]
theorem go_6 {n i : Nat} (r : List UInt8) (h : i < 64) : go n 6 (lt i :: r) = UInt8.ofNat ((n % 4096 * 64 + i) / 16) :: go (n % 4096 * 64 + i) 4 r := by
  have h0 : ¬ ((i : Int) < 0) := by omega
  simp [go, rv_lt h, h0]
theorem go_4 {n i : Nat} (r : List UInt8) (h : i < 64) : go n 4 (lt i :: r) = UInt8.ofNat ((n % 4096 * 64 + i) / 4) :: go (n % 4096 * 64 + i) 2 r := by
  have h0 : ¬ ((i : Int) < 0) := by omega
  simp [go, rv_lt h, h0]
theorem go_2 {n i : Nat} (r : List UInt8) (h : i < 64) : go n 2 (lt i :: r) = UInt8.ofNat (n % 4096 * 64 + i) :: go (n % 4096 * 64 + i) 0 r := by
  have h0 : ¬ ((i : Int) < 0) := by omega
  simp [go, rv_lt h, h0]
theorem go_fill (n b : Nat) (r : List UInt8) : go n b (61 :: r) = [] := by
  simp [go, rv_fill]

theorem go_put : ∀ (xs : List UInt8) (n : Nat), go n 0 (put xs) = xs
  | [], n => rfl
  | [a], n => by
    have ha := a.toNat_lt
    have e : rowOf [a] = a.toNat * 65536 := by simp [rowOf]
    have h0 : lat 1 (a.toNat * 65536) 0 = lt (a.toNat / 4) := lat_lt (by omega) rfl (by omega)
    have h1 : lat 1 (a.toNat * 65536) 1 = lt (a.toNat % 4 * 16) := lat_lt (by omega) rfl (by omega)
    have h2 : lat 1 (a.toNat * 65536) 2 = 61 := rfl
    simp only [put, four, e, List.length_cons, List.length_nil, Nat.zero_add]
    rw [h0, h1, h2, go_0 _ (by omega), go_6 _ (by omega), go_fill]
    rw [ofNat_eq (a := a) (by omega)]
  | [a, b], n => by
    have ha := a.toNat_lt
    have hb := b.toNat_lt
    have e : rowOf [a, b] = a.toNat * 65536 + b.toNat * 256 := by simp [rowOf]
    have h0 : lat 2 (a.toNat * 65536 + b.toNat * 256) 0 = lt (a.toNat / 4) := lat_lt (by omega) rfl (by omega)
    have h1 : lat 2 (a.toNat * 65536 + b.toNat * 256) 1 = lt (a.toNat % 4 * 16 + b.toNat / 16) := lat_lt (by omega) rfl (by omega)
    have h2 : lat 2 (a.toNat * 65536 + b.toNat * 256) 2 = lt (b.toNat % 16 * 4) := lat_lt (by omega) rfl (by omega)
    have h3 : lat 2 (a.toNat * 65536 + b.toNat * 256) 3 = 61 := rfl
    simp only [put, four, e, List.length_cons, List.length_nil, Nat.zero_add, Nat.reduceAdd]
    rw [h0, h1, h2, h3, go_0 _ (by omega), go_6 _ (by omega), go_4 _ (by omega), go_fill]
    rw [ofNat_eq (a := a) (by omega), ofNat_eq (a := b) (by omega)]
  | a :: b :: c :: r, n => by
    have ha := a.toNat_lt
    have hb := b.toNat_lt
    have hc := c.toNat_lt
    have e : rowOf [a, b, c] = a.toNat * 65536 + b.toNat * 256 + c.toNat := by simp [rowOf]
    obtain ⟨h0, h1, h2, h3⟩ := lat3 ha hb hc
    simp only [put, four, e, List.length_cons, List.length_nil, Nat.zero_add, Nat.reduceAdd, List.cons_append, List.nil_append]
    rw [h0, h1, h2, h3, go_0 _ (by omega), go_6 _ (by omega), go_4 _ (by omega), go_2 _ (by omega), go_put r]
    rw [ofNat_eq (a := a) (by omega), ofNat_eq (a := b) (by omega), ofNat_eq (a := c) (by omega)]

/-- Letters of a Put: some of the table, then as many fills as bytes lack to a third. -/
theorem put_form : ∀ xs : List UInt8, ∃ ls, put xs = ls ++ List.replicate ((3 - xs.length % 3) % 3) 61 ∧ ∀ c ∈ ls, ∃ i, i < 64 ∧ c = lt i
  | [] => ⟨[], rfl, by simp⟩
  | [a] => ⟨[lat 1 (rowOf [a]) 0, lat 1 (rowOf [a]) 1], rfl, by
      intro c hc
      simp at hc
      rcases hc with rfl | rfl <;> exact ⟨_, Nat.mod_lt _ (by decide), rfl⟩⟩
  | [a, b] => ⟨[lat 2 (rowOf [a, b]) 0, lat 2 (rowOf [a, b]) 1, lat 2 (rowOf [a, b]) 2], rfl, by
      intro c hc
      simp at hc
      rcases hc with rfl | rfl | rfl <;> exact ⟨_, Nat.mod_lt _ (by decide), rfl⟩⟩
  | a :: b :: c :: r => by
    obtain ⟨ls, h1, h2⟩ := put_form r
    refine ⟨four [a, b, c] ++ ls, ?_, ?_⟩
    · simp only [put, h1, List.length_cons, List.append_assoc]
      congr 4
      omega
    · intro d hd
      rcases List.mem_append.1 hd with hd | hd
      · simp only [four, List.mem_cons, List.not_mem_nil, or_false] at hd
        rcases hd with rfl | rfl | rfl | rfl <;> exact ⟨_, Nat.mod_lt _ (by decide), rfl⟩
      · exact h2 d hd

end B64
end Go.Proofs.YtjogdflhpciciaaDoor
