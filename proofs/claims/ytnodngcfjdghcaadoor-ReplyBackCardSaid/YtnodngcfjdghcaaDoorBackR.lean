/- Lines that are written of a code and texts, told to a maker: what a round does; the row that is wanted. -/
import Derived.Test.YtnodngcfjdghcaaDoorReplyLaw
import Derived.Test.YtnodngcfjdghcaaDoorOwnStore
namespace Go.Proofs.YtnodngcfjdghcaaDoor
namespace Rp
/-- The maker, j lines being over. -/
def backSt (ftp : Bool) (k : List UInt8) (xa : List (List UInt8)) (j : Nat) : Option Mid := if j = 0 then none else some ⟨k, backLines ftp k xa j, none⟩
section
variable {a b c : UInt8} (ha : Ln.first a = true) (hb : Ln.digit b = true) (hc : Ln.digit c = true)
include ha hb hc
theorem back_go (ftp : Bool) (xa : List (List UInt8)) {j : Nat} (hj : j < xa.length) : step (if ftp = true then 3 else 1) (backSt ftp [a, b, c] xa j) ([a, b, c] ++ 45 :: xa.getD j []) true = if 20 ≤ j then .inr (.inr 72) else .inl ⟨[a, b, c], backLines ftp [a, b, c] xa (j + 1), none⟩ := by
  have hp : (if ftp = true then (3 : Int) else 1) = 1 ∨ (if ftp = true then (3 : Int) else 1) = 3 := by cases ftp <;> simp
  unfold backSt
  by_cases h0 : j = 0
  · subst h0
    rw [if_pos rfl, if_neg (show ¬ (20 ≤ 0) by decide)]
    cases xa with
    | nil => cases hj
    | cons t xa =>
      rw [Nat.zero_add, back_one]
      exact first_more ha hb hc hp t true
  · rw [if_neg h0]
    exact back_step ha hb hc ftp xa (by omega) hj
theorem back_stop (ftp : Bool) (xa : List (List UInt8)) {j : Nat} (hj : j < xa.length) : step (if ftp = true then 3 else 1) (backSt ftp [a, b, c] xa j) ([a, b, c] ++ 32 :: xa.getD j []) true = if 20 ≤ j then .inr (.inr 72) else .inr (.inl ⟨[a, b, c], backLines ftp [a, b, c] xa j ++ [xa.getD j []], []⟩) := by
  have hp : (if ftp = true then (3 : Int) else 1) = 1 ∨ (if ftp = true then (3 : Int) else 1) = 3 := by cases ftp <;> simp
  unfold backSt
  by_cases h0 : j = 0
  · subst h0
    rw [if_pos rfl, if_neg (show ¬ (20 ≤ 0) by decide)]
    have e : backLines ftp [a, b, c] xa 0 = [] := by cases ftp <;> rfl
    rw [e]
    exact first_last ha hb hc hp (xa.getD 0 []) true
  · rw [if_neg h0]
    exact back_end ha hb hc ftp xa hj _
end
/-- The row that is wanted of Ftp, up to i. -/
def wantAt (k : List UInt8) (xa : List (List UInt8)) (i : Nat) : List (List UInt8) := backLines true k xa i ++ xa.drop i
theorem wantAt_len (k : List UInt8) (xa : List (List UInt8)) {i : Nat} (hi : i ≤ xa.length) : (wantAt k xa i).length = xa.length := by
  unfold wantAt
  rw [List.length_append, back_len _ _ _ hi, List.length_drop]
  omega
theorem wantAt_one (k : List UInt8) {xa : List (List UInt8)} (h : 0 < xa.length) : wantAt k xa 1 = xa := by
  cases xa with
  | nil => cases h
  | cons t xa =>
    unfold wantAt
    rw [back_one]
    rfl
theorem wantAt_more (k : List UInt8) (xa : List (List UInt8)) {i : Nat} (h0 : 0 < i) (hi : i < xa.length) : (wantAt k xa i).set i (k ++ 45 :: xa.getD i []) = wantAt k xa (i + 1) := by
  have hlen := back_len true k xa (Nat.le_of_lt hi)
  unfold wantAt
  rw [back_more true k xa h0 hi, if_pos rfl, List.set_append_right _ _ (by rw [hlen]; exact Nat.le_refl _), hlen, Nat.sub_self, List.drop_eq_getElem_cons hi, List.set_cons_zero, List.append_assoc]
  rfl
theorem wantAt_last (k : List UInt8) (xa : List (List UInt8)) {i : Nat} (hi : i + 1 = xa.length) : wantAt k xa i = backLines true k xa i ++ [xa.getD i []] := by
  unfold wantAt
  rw [List.drop_eq_getElem_cons (by omega), show xa.drop (i + 1) = [] from List.drop_of_length_le (by omega), List.getD_eq_getElem?_getD, List.getElem?_eq_getElem (by omega)]
  rfl
theorem plain_last (k : List UInt8) (xa : List (List UInt8)) {i : Nat} (hi : i + 1 = xa.length) : backLines false k xa i ++ [xa.getD i []] = xa := by
  have e : xa.getD i [] = xa[i]'(by omega) := by rw [List.getD_eq_getElem?_getD, List.getElem?_eq_getElem (by omega)]; rfl
  show xa.take i ++ _ = _
  rw [e, ← List.take_succ_eq_append_getElem (by omega), hi, List.take_length]
end Rp
open Go.RowKit

/-- A maker, and a row of texts that it has not. -/
structure MT (W : World) (g : Nat) (F : Nat → Prop) (p : Int) (st : Option Rp.Mid) (v : Value) (vs : List Value) (wr : World) : Prop where
  m : ML W g F p st wr
  r : Rd wr v vs
  a : ∀ k, v.ownBlock = some k → k < wr.heap.size ∧ ¬ F k
section
variable {W wr w' : World} {g : Nat} {F F' : Nat → Prop} {p : Int} {st : Option Rp.Mid} {v : Value} {vs : List Value}
theorem MT.next (h : MT W g F p st v vs wr) (hb : Below wr.heap.size wr w') : MT W g F p st v vs w' :=
  ⟨h.m.next hb, h.r.below hb, fun k hk => ⟨Nat.lt_of_lt_of_le (h.a k hk).1 hb.size, (h.a k hk).2⟩⟩
/-- What Line does. -/
theorem MT.line (h : MT W g F p st v vs wr) (s : List UInt8) (hs : s.length ≤ 1000000) (body : Bool) {o : Rp.Out} (ho : Rp.step p st s body = o) :
    Calls Tryd.prog 12 #[.pointer (some ⟨g, 0, none⟩), .string (ba s), .bool body] wr fun e w' =>
      ∃ F' lo lc bo bc, e = .returned (.tuple #[.agg #[.string (ba (Rp.outRe o).code), .slice lo (Rp.outRe o).lines.length lc, .slice bo (Rp.outRe o).body.length bc], .bool (Rp.outDone o), .int .i64 (Rp.outErr o : Int)]) ∧ MT W g F' p (Rp.outSt o) v vs w' ∧
        Rd w' (.slice lo (Rp.outRe o).lines.length lc) ((Rp.outRe o).lines.map sv) ∧ Rd w' (.slice bo (Rp.outRe o).body.length bc) ((Rp.outRe o).body.map bv) := by
  subst ho
  refine (h.m.line s hs body).mono ?_
  rintro e w' ⟨F', lo, lc, bo, bc, rfl, h1, h2, h3, h4, h5⟩
  exact ⟨F', lo, lc, bo, bc, rfl, ⟨h1, h2.rd h.r (fun k hk => (h.a k hk).2), fun k hk => ⟨Nat.lt_of_lt_of_le (h.a k hk).1 h2.size, fun e => by
    rcases h3 k e with e | e
    · exact (h.a k hk).2 e
    · have := (h.a k hk).1; omega⟩⟩, h4.1, h5.1⟩
end
/-- Where the law's loop stands. -/
def BK (W : World) (g : Nat) (ftp : Bool) (p : Int) (k : List UInt8) (v : Value) (xa : List (List UInt8)) (j : Nat) (wr : World) : Prop := ∃ F, MT W g F p (Rp.backSt ftp k xa j) v (xa.map sv) wr
/-- The row that is wanted in the end. -/
def wantOf (ftp : Bool) (k : List UInt8) (xa : List (List UInt8)) : List (List UInt8) := if ftp = true then Rp.wantAt k xa (xa.length - 1) else xa
section
variable {W wr : World} {g j N : Nat} {ftp : Bool} {p : Int} {a b c : UInt8} {k : List UInt8} {v : Value} {xa : List (List UInt8)} {D : ByteArray}
theorem back_err (hk : k = [a, b, c]) (ha : Ln.first a = true) (hb : Ln.digit b = true) (hc : Ln.digit c = true) (hp : p = if ftp = true then 3 else 1) (h : BK W g ftp p k v xa j wr) (hj : j < xa.length) (h20 : 20 ≤ j) (hl : (xa.getD j []).length ≤ 1000)
    (hD : D = ba (k ++ 45 :: xa.getD j []) ∨ D = ba (k ++ 32 :: xa.getD j [])) :
    Calls Tryd.prog 12 #[.pointer (some ⟨g, 0, none⟩), .string D, .bool true] wr fun e w' =>
      ∃ F' lo lc bo bc, e = .returned (.tuple #[.agg #[.string ⟨#[]⟩, .slice lo 0 lc, .slice bo 0 bc], .bool false, .int .i64 72]) ∧ MT W g F' p none v (xa.map sv) w' := by
  subst hk hp
  obtain ⟨F, hF⟩ := h
  rcases hD with rfl | rfl
  · have hs := Rp.back_go ha hb hc ftp xa hj
    rw [if_pos h20] at hs
    refine (hF.line _ (by rw [List.length_append]; simp only [List.length_cons, List.length_nil]; omega) true hs).mono ?_
    rintro e w' ⟨F', lo, lc, bo, bc, rfl, h1, _, _⟩
    exact ⟨F', lo, lc, bo, bc, rfl, h1⟩
  · have hs := Rp.back_stop ha hb hc ftp xa hj
    rw [if_pos h20] at hs
    refine (hF.line _ (by rw [List.length_append]; simp only [List.length_cons, List.length_nil]; omega) true hs).mono ?_
    rintro e w' ⟨F', lo, lc, bo, bc, rfl, h1, _, _⟩
    exact ⟨F', lo, lc, bo, bc, rfl, h1⟩
theorem back_next (hk : k = [a, b, c]) (ha : Ln.first a = true) (hb : Ln.digit b = true) (hc : Ln.digit c = true) (hp : p = if ftp = true then 3 else 1) (h : BK W g ftp p k v xa j wr) (hj : j < xa.length) (h20 : j < 20) (hl : (xa.getD j []).length ≤ 1000)
    (hD : D = ba (k ++ 45 :: xa.getD j [])) :
    Calls Tryd.prog 12 #[.pointer (some ⟨g, 0, none⟩), .string D, .bool true] wr fun e w' =>
      ∃ F' lo lc bo bc, e = .returned (.tuple #[.agg #[.string ⟨#[]⟩, .slice lo 0 lc, .slice bo 0 bc], .bool false, .int .i64 0]) ∧ MT W g F' p (some ⟨k, Rp.backLines ftp k xa (j + 1), none⟩) v (xa.map sv) w' := by
  subst hk hp hD
  obtain ⟨F, hF⟩ := h
  have hs := Rp.back_go ha hb hc ftp xa hj
  rw [if_neg (show ¬ 20 ≤ j by omega)] at hs
  refine (hF.line _ (by rw [List.length_append]; simp only [List.length_cons, List.length_nil]; omega) true hs).mono ?_
  rintro e w' ⟨F', lo, lc, bo, bc, rfl, h1, _, _⟩
  exact ⟨F', lo, lc, bo, bc, rfl, h1⟩
theorem BK.more {F : Nat → Prop} (h : MT W g F p (some ⟨k, Rp.backLines ftp k xa (j + 1), none⟩) v (xa.map sv) wr) : BK W g ftp p k v xa (j + 1) wr := by
  refine ⟨F, ?_⟩
  unfold Rp.backSt
  rw [if_neg (Nat.succ_ne_zero _)]
  exact h
theorem back_whole (hk : k = [a, b, c]) (ha : Ln.first a = true) (hb : Ln.digit b = true) (hc : Ln.digit c = true) (hp : p = if ftp = true then 3 else 1) (h : BK W g ftp p k v xa j wr) (hj : j + 1 = xa.length) (hN : N = xa.length) (h20 : j < 20) (hl : (xa.getD j []).length ≤ 1000)
    (hD : D = ba (k ++ 32 :: xa.getD j [])) :
    Calls Tryd.prog 12 #[.pointer (some ⟨g, 0, none⟩), .string D, .bool true] wr fun e w' =>
      ∃ F' lo lc bo bc, e = .returned (.tuple #[.agg #[.string (ba k), .slice lo N lc, .slice bo 0 bc], .bool true, .int .i64 0]) ∧ MT W g F' p none v (xa.map sv) w' ∧ Rd w' (.slice lo N lc) ((wantOf ftp k xa).map sv) := by
  have hw : Rp.backLines ftp k xa j ++ [xa.getD j []] = wantOf ftp k xa := by
    unfold wantOf
    cases ftp
    · rw [if_neg (by decide)]
      exact Rp.plain_last k xa hj
    · rw [if_pos rfl, show xa.length - 1 = j by omega, Rp.wantAt_last k xa hj]
  have hlen : (wantOf ftp k xa).length = N := by
    rw [← hw, List.length_append, Rp.back_len _ _ _ (by omega), hN, ← hj]
    rfl
  subst hk hp hD
  obtain ⟨F, hF⟩ := h
  have hs := Rp.back_stop ha hb hc ftp xa (j := j) (by omega)
  rw [if_neg (show ¬ 20 ≤ j by omega), hw] at hs
  refine (hF.line _ (by rw [List.length_append]; simp only [List.length_cons, List.length_nil]; omega) true hs).mono ?_
  rintro e w' ⟨F', lo, lc, bo, bc, rfl, h1, h2, _⟩
  have h2 : Rd w' (.slice lo (wantOf ftp [a, b, c] xa).length lc) ((wantOf ftp [a, b, c] xa).map sv) := h2
  rw [hlen] at h2
  refine ⟨F', lo, lc, bo, bc, ?_, h1, h2⟩
  show Ending.returned (.tuple #[.agg #[.string (ba [a, b, c]), .slice lo (wantOf ftp [a, b, c] xa).length lc, .slice bo 0 bc], .bool true, .int .i64 0]) = _
  rw [hlen]
end
end Go.Proofs.YtnodngcfjdghcaaDoor
