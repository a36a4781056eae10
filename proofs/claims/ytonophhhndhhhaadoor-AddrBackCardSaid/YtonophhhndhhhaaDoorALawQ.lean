/- What a law of layer 13 says of a place written, whatever stands around it; plain. -/
import Derived.Test.YtonophhhndhhhaaDoorALawP
namespace Go.Proofs.YtonophhhndhhhaaDoor
namespace Ad
open Tx

/-- As many numbers as are asked for, whatever is behind but a digit. -/
theorem more_few {r : List UInt8} (hs : Stop r) : ∀ (k : Nat) (D : List (List UInt8)), k ≤ D.length → (∀ d ∈ D, digits d = true) →
    more k (commas D ++ r) = if (D.take k).all okd = true then some ((D.take k).map fun d => (number d 255).1) else none
  | 0, D, _, _ => by simp [more]
  | k + 1, [], h, _ => by simp at h
  | k + 1, d :: D, hk, h => by
    have ih := more_few hs k D (by simpa using hk) (fun x hx => h x (by simp [hx]))
    have e : commas (d :: D) ++ r = 44 :: (d ++ (commas D ++ r)) := by simp [commas]
    rw [e, more, if_pos rfl, num_app (h d (by simp)) (commas_stop hs)]
    by_cases ho : okd d = true
    · rw [if_pos ho]
      simp only [ih]
      by_cases h2 : (D.take k).all okd = true
      · rw [if_pos h2, if_pos (by rw [List.take_succ_cons, List.all_cons, ho, h2]; rfl)]
        rfl
      · rw [if_neg h2, if_neg (fun e => h2 (by rw [List.take_succ_cons, List.all_cons, ho, Bool.true_and] at e; exact e))]
        rfl
    · rw [if_neg ho, if_neg (fun e => ho (by rw [List.take_succ_cons, List.all_cons, Bool.and_eq_true] at e; exact e.1))]
theorem six_few {s d : List UInt8} {D : List (List UInt8)} {r : List UInt8} (hs : ∀ b ∈ s, dig b = false) (hd : digits d = true) (hne : d ≠ []) (hD : ∀ x ∈ D, digits x = true) (h5 : 5 ≤ D.length) (hr : Stop r) :
    six (s ++ (d ++ (commas D ++ r))) = if okd d = true ∧ (D.take 5).all okd = true then some ((number d 255).1 :: (D.take 5).map fun d => (number d 255).1) else none := by
  have hh : ∀ c, (d ++ (commas D ++ r)).head? = some c → dig c = true := by
    intro c hc2
    cases d with
    | nil => exact absurd rfl hne
    | cons x d =>
      obtain rfl : x = c := by simpa using hc2
      simp only [digits, List.all_cons, Bool.and_eq_true] at hd
      exact hd.1
  unfold six
  rw [ahead_drop hs hh, num_app hd (commas_stop hr)]
  by_cases ho : okd d = true
  · rw [if_pos ho]
    simp only [more_few hr 5 D h5 hD]
    by_cases h2 : (D.take 5).all okd = true
    · rw [if_pos h2, if_pos ⟨ho, h2⟩]
      rfl
    · rw [if_neg h2, if_neg (fun e => h2 e.2)]
      rfl
  · rw [if_neg ho, if_neg (fun e => ho e.1)]
/-- What is written is read again, whatever is behind but a digit. -/
theorem Fit.around {x : Ad} {a b c d e f : Nat} (h : Fit x a b c d e f) {s r : List UInt8} (hs : ∀ b ∈ s, dig b = false) (hr : Stop r) :
    pasv (s ++ (Ad.text x ++ r)) = if x.port = 0 then none else some x := by
  unfold pasv
  rw [h.text, List.append_assoc, six_few hs (dec_all a) (dec_ne a) (by
    intro y hy
    simp only [List.mem_cons, List.not_mem_nil, or_false] at hy
    rcases hy with rfl | rfl | rfl | rfl | rfl <;> exact dec_all _) (Nat.le_refl _) hr]
  obtain ⟨a1, a2⟩ := dec_okd h.la
  obtain ⟨b1, b2⟩ := dec_okd h.lb
  obtain ⟨c1, c2⟩ := dec_okd h.lc
  obtain ⟨d1, d2⟩ := dec_okd h.ld
  obtain ⟨e1, e2⟩ := dec_okd h.le
  obtain ⟨f1, f2⟩ := dec_okd h.lf
  rw [if_pos ⟨a1, by simp [b1, c1, d1, e1, f1]⟩]
  simp only [List.take_succ_cons, List.take_zero, List.map_cons, List.map_nil, a2, b2, c2, d2, e2, f2, Option.bind_some, place]
  obtain ⟨xa, xb, xc, xd, xp⟩ := x
  have h1 := h.ha; have h2 := h.hb; have h3 := h.hc; have h4 := h.hd; have h5 := h.he
  simp only at h1 h2 h3 h4 h5
  subst h1 h2 h3 h4 h5
  rfl
/-- A number that is too great ahead. -/
theorem Fit.big {x : Ad} {a b c d e f : Nat} (h : Fit x a b c d e f) : pasv ([50, 53, 54, 44] ++ Ad.text x) = none := by
  unfold pasv
  have e : [50, 53, 54, 44] ++ Ad.text x = [] ++ ([50, 53, 54] ++ (commas [Lib.decDigits a, Lib.decDigits b, Lib.decDigits c, Lib.decDigits d, Lib.decDigits e, Lib.decDigits f] ++ [])) := by
    rw [h.text]
    simp [commas]
  rw [e, six_few (by simp) (by decide) (by decide) (by
    intro y hy
    simp only [List.mem_cons, List.not_mem_nil, or_false] at hy
    rcases hy with rfl | rfl | rfl | rfl | rfl | rfl <;> exact dec_all _) (by simp) (fun c hc => by cases hc),
    if_neg (fun q => by have : okd [50, 53, 54] = false := by decide
                        rw [this] at q; cases q.1)]
  rfl
/-- A number that is too long at the end. -/
theorem Fit.long {x : Ad} {a b c d e f : Nat} (h : Fit x a b c d e f) : pasv (Ad.text x ++ [48, 48, 48, 48]) = none := by
  unfold pasv
  have ee : Ad.text x ++ [48, 48, 48, 48] = [] ++ (Lib.decDigits a ++ (commas [Lib.decDigits b, Lib.decDigits c, Lib.decDigits d, Lib.decDigits e, Lib.decDigits f ++ [48, 48, 48, 48]] ++ [])) := by
    rw [h.text]
    simp [commas]
  have hbad : okd (Lib.decDigits f ++ [48, 48, 48, 48]) = false := by
    unfold okd
    rw [Bool.and_eq_false_iff]
    exact .inr (decide_eq_false (by simp))
  rw [ee, six_few (by simp) (dec_all a) (dec_ne a) (by
    intro y hy
    simp only [List.mem_cons, List.not_mem_nil, or_false] at hy
    rcases hy with rfl | rfl | rfl | rfl | rfl
    · exact dec_all _
    · exact dec_all _
    · exact dec_all _
    · exact dec_all _
    · rw [digits_app, dec_all]; rfl) (Nat.le_refl _) (fun c hc => by cases hc),
    if_neg (fun q => by
      have := q.2
      simp [hbad] at this)]
  rfl
end Ad
end Go.Proofs.YtonophhhndhhhaaDoor
