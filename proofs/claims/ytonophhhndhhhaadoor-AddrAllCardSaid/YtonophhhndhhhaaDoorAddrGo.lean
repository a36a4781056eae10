/- addr.passive in plain words: round by round (layer 13). -/
import Derived.Test.YtonophhhndhhhaaDoorAddrP
import Derived.Test.YtonophhhndhhhaaDoorAddrV
import Derived.Test.YtonophhhndhhhaaDoorAddrNum
namespace Go.Proofs.YtonophhhndhhhaaDoor
open Go.RowKit
namespace Ad
open Tx

/-- What stands behind a comma; whether there is one. -/
def next (l : List UInt8) : List UInt8 := if l.head? = some 44 then l.tail else l
/-- k numbers more. -/
def go : Nat → List UInt8 → Option (List Int)
  | 0, _ => some []
  | k + 1, s => if (numb 255 3 s).2.2 = true ∧ ((numb 255 3 s).2.1.head? = some 44 ∨ k = 0) then (go k (next (numb 255 3 s).2.1)).map ((numb 255 3 s).1 :: ·) else none
theorem go_more : ∀ (k : Nat) (s : List UInt8), go (k + 1) s = match num 255 3 s with
    | none => none
    | some (n, r) => (more k r).map (n :: ·)
  | 0, s => by
    rw [go, num_of_numb]
    by_cases h : (numb 255 3 s).2.2 = true
    · rw [if_pos ⟨h, .inr rfl⟩, if_pos h]; rfl
    · rw [if_neg (fun e => h e.1), if_neg h]
  | k + 1, s => by
    rw [go, num_of_numb]
    by_cases h : (numb 255 3 s).2.2 = true
    · rw [if_pos h]
      generalize (numb 255 3 s).2.1 = b
      generalize (numb 255 3 s).1 = n
      dsimp only
      cases b with
      | nil => rw [if_neg (by rintro ⟨_, e | e⟩ <;> simp at e), more]; rfl
      | cons c r =>
        rw [more]
        by_cases hc : c = 44
        · subst hc
          rw [if_pos ⟨h, .inl rfl⟩, show next (44 :: r) = r from rfl, go_more k r, if_pos rfl]
          rfl
        · rw [if_neg (by rintro ⟨_, e | e⟩ <;> simp [hc] at e)]
          rw [if_neg hc]
          rfl
    · rw [if_neg (fun e => h e.1), if_neg h]

theorem number_ok {l : List UInt8} {m : Nat} (h : (number l m).2 = true) : ∃ v : Nat, (number l m).1 = v ∧ v ≤ m := by
  unfold number at h ⊢
  split
  · rename_i hh
    exact ⟨_, rfl, by have := hh.2; omega⟩
  · rename_i hh
    rw [if_neg hh] at h
    cases h
theorem numb_ok {l : List UInt8} {m k : Nat} (h : (numb m k l).2.2 = true) : ∃ v : Nat, (numb m k l).1 = v ∧ v ≤ m := by
  unfold numb at h ⊢
  split
  · rename_i hh
    rw [if_pos hh] at h
    exact number_ok h
  · rename_i hh
    rw [if_neg hh] at h
    cases h
theorem numb_255 {l : List UInt8} (h : (numb 255 3 l).2.2 = true) : ∃ v : Nat, (numb 255 3 l).1 = v ∧ v ≤ 255 := numb_ok (m := 255) (k := 3) h
theorem past_len (l : List UInt8) : (past l).length ≤ l.length := by
  have := congrArg List.length (run_past l)
  rw [List.length_append] at this
  omega
theorem numb_len (m : Int) (k : Nat) (l : List UInt8) : (numb m k l).2.1.length ≤ l.length := by
  unfold numb
  split <;> exact past_len l
theorem next_len (l : List UInt8) : (next l).length ≤ l.length := by
  unfold next
  split <;> simp
/-- The address of the six numbers that s begins with, or nothing. -/
def passive (s : List UInt8) : Ad := ((go 6 s).bind place).getD ad0
theorem place_port {l : List Int} {x : Ad} (h : place l = some x) : x ≠ ad0 := by
  unfold place at h
  split at h
  · split at h
    · cases h
    · rename_i hn
      cases h
      intro e
      exact hn (congrArg Ad.port e)
  · cases h
/-- Behind what is no digit. -/
def fromDigit (l : List UInt8) : List UInt8 := if 0 ≤ Lib.indexAny l [48, 49, 50, 51, 52, 53, 54, 55, 56, 57] then l.drop (Lib.indexAny l [48, 49, 50, 51, 52, 53, 54, 55, 56, 57]).toNat else l
theorem ten_dig' (b : UInt8) : ([48, 49, 50, 51, 52, 53, 54, 55, 56, 57] : List UInt8).contains b = dig b := congrFun ten_dig b
theorem index_drop : ∀ l : List UInt8, (Lib.indexAny l [48, 49, 50, 51, 52, 53, 54, 55, 56, 57] = -1 ∧ (l.dropWhile fun b => !dig b) = [] ∧ ∀ b ∈ l, dig b = false) ∨
    ∃ k : Nat, k ≤ l.length ∧ Lib.indexAny l [48, 49, 50, 51, 52, 53, 54, 55, 56, 57] = (k : Int) ∧ l.drop k = l.dropWhile fun b => !dig b
  | [] => .inl ⟨rfl, rfl, by simp⟩
  | b :: l => by
    rw [Lib.indexAny, ten_dig']
    cases hb : dig b
    · rcases index_drop l with ⟨h1, h2, h3⟩ | ⟨k, h1, h2, h3⟩
      · refine .inl ⟨by rw [h1]; rfl, by simp [hb, h2], by simpa [hb] using h3⟩
      · refine .inr ⟨k + 1, by simp; omega, ?_, by simp [hb, h3]⟩
        have : ((k : Int) == -1) = false := beq_eq_false_iff_ne.2 (by omega)
        rw [h2, this]
        simp
    · exact .inr ⟨0, Nat.zero_le _, rfl, by simp [hb]⟩
theorem none_passive {l : List UInt8} (h : ∀ b ∈ l, dig b = false) : go 6 l = none := by
  have hr : run l = [] := by
    cases l with
    | nil => rfl
    | cons c l => simp [run, h c (by simp)]
  rw [go_more, num_of_numb]
  have : (numb 255 3 l).2.2 = false := by
    unfold numb
    rw [hr]
    rfl
  rw [this]
  rfl
theorem pasv_go (l : List UInt8) : (go 6 (fromDigit l)).bind place = pasv l := by
  unfold pasv six fromDigit
  rcases index_drop l with ⟨h1, h2, h3⟩ | ⟨k, h1, h2, h3⟩
  · rw [h1, if_neg (by omega), none_passive h3, h2]
    rfl
  · rw [h2, if_pos (by omega), Int.toNat_natCast, h3, go_more]
    rfl
theorem pasv_told (l : List UInt8) : passive (fromDigit l) = (pasv l).getD ad0 ∧ decide (passive (fromDigit l) ≠ ad0) = (pasv l).isSome := by
  unfold passive
  rw [pasv_go]
  refine ⟨rfl, ?_⟩
  unfold pasv
  cases six l with
  | none => rfl
  | some x =>
    cases hp : place x with
    | none => simp [hp]
    | some y => simp [hp, place_port hp]
end Ad

/-- A place in a block of its own. -/
structure AB (w : World) (g : Nat) (x : Ad.Ad) : Prop where
  blk : w.heap[g]? = some (.cells (adc x) 24 (0, 0))
theorem AB.c0 {w : World} {g : Nat} {x : Ad.Ad} (h : AB w g x) : w.cell? ⟨g, 0, none⟩ = some (.int .i64 x.a) := by simp [World.cell?, h.blk, adc]
theorem AB.c1 {w : World} {g : Nat} {x : Ad.Ad} (h : AB w g x) : w.cell? ⟨g, 1, none⟩ = some (.int .i64 x.b) := by simp [World.cell?, h.blk, adc]
theorem AB.c2 {w : World} {g : Nat} {x : Ad.Ad} (h : AB w g x) : w.cell? ⟨g, 2, none⟩ = some (.int .i64 x.c) := by simp [World.cell?, h.blk, adc]
theorem AB.c3 {w : World} {g : Nat} {x : Ad.Ad} (h : AB w g x) : w.cell? ⟨g, 3, none⟩ = some (.int .i64 x.d) := by simp [World.cell?, h.blk, adc]
theorem AB.c4 {w : World} {g : Nat} {x : Ad.Ad} (h : AB w g x) : w.cell? ⟨g, 4, none⟩ = some (.int .i64 x.port) := by simp [World.cell?, h.blk, adc]
theorem AB.froz {w : World} {g : Nat} {x : Ad.Ad} (h : AB w g x) (i : Nat) : w.frozen? ⟨g, i, none⟩ = false := by simp [World.frozen?, h.blk]
theorem AB.put {w : World} {g : Nat} {x : Ad.Ad} (h : AB w g x) (y : Ad.Ad) :
    AB (((((w.setCell ⟨g, 0, none⟩ (.int .i64 y.a)).setCell ⟨g, 1, none⟩ (.int .i64 y.b)).setCell ⟨g, 2, none⟩ (.int .i64 y.c)).setCell ⟨g, 3, none⟩ (.int .i64 y.d)).setCell ⟨g, 4, none⟩ (.int .i64 y.port)) g y := by
  refine ⟨?_⟩
  have := h.blk
  simp [World.setCell, Array.getElem?_modify, this, adc]
theorem AB.below {w w' : World} {g : Nat} {x : Ad.Ad} (h : AB w g x) {B : Nat} (hb : Below B w w') (hg : g < B) : AB w' g x := ⟨(hb.block g hg).trans h.blk⟩
theorem below_set5 {n : Nat} {w w' : World} {b : Nat} (h : Below n w w') (hb : n ≤ b) (u0 u1 u2 u3 u4 : Value) :
    Below n w (((((w'.setCell ⟨b, 0, none⟩ u0).setCell ⟨b, 1, none⟩ u1).setCell ⟨b, 2, none⟩ u2).setCell ⟨b, 3, none⟩ u3).setCell ⟨b, 4, none⟩ u4) :=
  ((((h.setCell (p := ⟨b, 0, none⟩) hb u0).setCell (p := ⟨b, 1, none⟩) hb u1).setCell (p := ⟨b, 2, none⟩) hb u2).setCell (p := ⟨b, 3, none⟩) hb u3).setCell (p := ⟨b, 4, none⟩) hb u4
end Go.Proofs.YtonophhhndhhhaaDoor
