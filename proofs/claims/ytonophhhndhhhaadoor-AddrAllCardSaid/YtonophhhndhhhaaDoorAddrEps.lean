/- addr.extended, addr.Epsv walked (layer 13). -/
import Derived.Test.YtonophhhndhhhaaDoorAddrPasv
import Derived.Test.YtonophhhndhhhaaDoorIndex1
namespace Go.Proofs.YtonophhhndhhhaaDoor
open Go.RowKit

namespace Ad
open Tx
def mk (n : Int) : Ad := ⟨0, 0, 0, 0, n⟩
def sign (d : UInt8) : Bool := decide (33 ≤ d.toNat) && decide (d.toNat ≤ 126) && !dig d
/-- What stands behind the one that opens. -/
def ext : List UInt8 → Ad
  | [] => ad0
  | d :: t => if sign d = true ∧ Lib.hasPrefix (d :: t) [d, d, d] = true ∧ (numb 65535 5 (Lib.trimPrefix (d :: t) [d, d, d])).2.2 = true ∧ Lib.hasPrefix (numb 65535 5 (Lib.trimPrefix (d :: t) [d, d, d])).2.1 [d, 41] = true
      then mk (numb 65535 5 (Lib.trimPrefix (d :: t) [d, d, d])).1 else ad0
theorem drop_none : ∀ {l : List UInt8}, (∀ x ∈ l, x ≠ 40) → (l.dropWhile fun b => b != 40) = []
  | [], _ => rfl
  | b :: l, h => by
    have hb : (b != 40) = true := bne_iff_ne.2 (h b (by simp))
    rw [List.dropWhile_cons, hb]
    exact drop_none (l := l) (fun x hx => h x (by simp [hx]))
theorem drop_cut (l : List UInt8) : (l.dropWhile fun b => b != 40) = if (cut1 40 l).2.2 = true then 40 :: (cut1 40 l).2.1 else [] := by
  rcases cut1_at 40 l with ⟨h, e⟩ | ⟨k, h1, h2, h3, e⟩
  · rw [e, if_neg (by simp)]
    exact drop_none h
  · rw [e, if_pos rfl]
    dsimp only
    conv => lhs; rw [h3]
    rw [List.dropWhile_append_of_pos (by intro b hb; exact bne_iff_ne.2 (h2 b hb))]
    simp
theorem ext_at (r : List UInt8) : ext r = ((epsvAt (40 :: r)).map mk).getD ad0 := by
  cases r with
  | nil => rfl
  | cons d t =>
    match t with
    | [] =>
      have : Lib.hasPrefix [d] [d, d, d] = false := by simp [Lib.hasPrefix, List.isPrefixOf]
      rw [ext, if_neg (fun e => by rw [this] at e; cases e.2.1)]
      rfl
    | [d1] =>
      have : Lib.hasPrefix [d, d1] [d, d, d] = false := by simp only [Lib.hasPrefix, List.isPrefixOf, Bool.and_false]
      rw [ext, if_neg (fun e => by rw [this] at e; cases e.2.1)]
      rfl
    | d1 :: d2 :: r =>
      rw [ext]
      have hp : Lib.hasPrefix (d :: d1 :: d2 :: r) [d, d, d] = decide (d1 = d ∧ d2 = d) := by
        rw [Bool.eq_iff_iff]
        simp only [Lib.hasPrefix, List.isPrefixOf, beq_self_eq_true, Bool.true_and, Bool.and_true, Bool.and_eq_true, beq_iff_eq, decide_eq_true_eq]
        exact ⟨fun h => ⟨h.1.symm, h.2.symm⟩, fun h => ⟨h.1.symm, h.2.symm⟩⟩
      by_cases h : 33 ≤ d.toNat ∧ d.toNat ≤ 126 ∧ dig d = false ∧ d1 = d ∧ d2 = d
      · have hs : sign d = true := by simp [sign, h.1, h.2.1, h.2.2.1]
        have hp2 : Lib.hasPrefix (d :: d1 :: d2 :: r) [d, d, d] = true := by rw [hp]; exact decide_eq_true ⟨h.2.2.2.1, h.2.2.2.2⟩
        have ht : Lib.trimPrefix (d :: d1 :: d2 :: r) [d, d, d] = r := by
          unfold Lib.trimPrefix
          rw [if_pos hp2]
          rfl
        rw [ht, hs, hp2]
        rw [epsvAt, if_pos h, num_of_numb]
        simp only [true_and]
        by_cases ho : (numb 65535 5 r).2.2 = true
        · rw [if_pos ho]
          generalize (numb 65535 5 r).2.1 = b at *
          generalize (numb 65535 5 r).1 = n at *
          dsimp only
          match b with
          | [] => simp [Lib.hasPrefix, List.isPrefixOf]
          | [e] => simp [Lib.hasPrefix, List.isPrefixOf]
          | e :: f :: q =>
            have hq : Lib.hasPrefix (e :: f :: q) [d, 41] = decide (e = d ∧ f = 41) := by
              rw [Bool.eq_iff_iff]
              simp only [Lib.hasPrefix, List.isPrefixOf, Bool.and_true, Bool.and_eq_true, beq_iff_eq, decide_eq_true_eq]
              exact ⟨fun h => ⟨h.1.symm, h.2.symm⟩, fun h => ⟨h.1.symm, h.2.symm⟩⟩
            rw [hq]
            by_cases hn : n = 0
            · subst hn
              simp [mk, ad0]
            · by_cases hef : e = d ∧ f = 41
              · simp [ho, hn, hef]
              · simp [ho, hn, hef]
        · rw [if_neg ho, if_neg (fun e => ho e.1)]
          rfl
      · have : ¬ (sign d = true ∧ Lib.hasPrefix (d :: d1 :: d2 :: r) [d, d, d] = true) := by
          rintro ⟨e1, e2⟩
          rw [hp] at e2
          have e2 := of_decide_eq_true e2
          simp [sign] at e1
          exact h ⟨e1.1.1, e1.1.2, e1.2, e2.1, e2.2⟩
        rw [if_neg (fun e => this ⟨e.1, e.2.1⟩)]
        simp only [epsvAt, if_neg h]
        rfl
theorem epsv_ext (l : List UInt8) : ext (cut1 40 l).2.1 = ((epsv l).map mk).getD ad0 := by
  unfold epsv
  rw [drop_cut]
  by_cases h : (cut1 40 l).2.2 = true
  · rw [if_pos h, ext_at]
  · rw [if_neg h]
    rcases cut1_at 40 l with ⟨_, e⟩ | ⟨k, h1, h2, h3, e⟩
    · rw [e]; rfl
    · rw [e] at h; exact absurd rfl h
theorem epsvAt_ne (l : List UInt8) {n : Int} (h : epsvAt l = some n) : n ≠ 0 := by
  unfold epsvAt at h
  split at h
  · split at h
    · split at h
      · cases h
      · split at h
        · split at h
          · rename_i hh
            cases h
            exact hh.1
          · cases h
        · cases h
    · cases h
  · cases h
theorem epsv_told (l : List UInt8) : decide (ext (cut1 40 l).2.1 ≠ ad0) = ((epsv l).map mk).isSome := by
  rw [epsv_ext]
  cases h : epsv l with
  | none => rfl
  | some n =>
    have := epsvAt_ne _ (show epsvAt (l.dropWhile fun b => b != 40) = some n from h)
    simp [mk, ad0, this]
end Ad
end Go.Proofs.YtonophhhndhhhaaDoor
