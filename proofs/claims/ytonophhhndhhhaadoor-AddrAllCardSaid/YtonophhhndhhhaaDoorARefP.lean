/- The reference's Pasv walked (layer 13). -/
import Derived.Test.YtonophhhndhhhaaDoorAddrPasv
import Derived.Test.YtonophhhndhhhaaDoorARefN
import Derived.Test.YtonophhhndhhhaaDoorRefNum
import Derived.Test.YtonophhhndhhhaaDoorOwnSet
import Derived.Laws.AppendOwnNone
import Derived.BigQuiet
import Derived.Deep.QuietTactic
import Derived.Deep.Draws
namespace Go.Proofs.YtonophhhndhhhaaDoor
open Go.RowKit

namespace Ad
open Tx
theorem untilDig : ∀ l : List UInt8, ∃ k, k ≤ l.length ∧ (∀ j, j < k → rdig l j = false) ∧ (l.drop k = l.dropWhile fun b => !dig b) ∧ (k < l.length → rdig l k = true)
  | [] => ⟨0, Nat.le_refl _, fun j h => absurd h (by omega), rfl, fun h => absurd h (by simp)⟩
  | b :: l => by
    cases hb : dig b
    · obtain ⟨k, h1, h2, h3, h4⟩ := untilDig l
      refine ⟨k + 1, by simp; omega, fun j hj => ?_, by rw [List.dropWhile_cons, hb, Bool.not_false, if_pos rfl, List.drop_succ_cons, h3], fun h => ?_⟩
      · cases j with
        | zero => rw [rdig_some (by simp)]; exact hb
        | succ j => rw [rdig_cons]; exact h2 j (by omega)
      · rw [rdig_cons]; exact h4 (by simpa using h)
    · refine ⟨0, Nat.zero_le _, fun j h => absurd h (by omega), by rw [List.dropWhile_cons, hb]; rfl, fun _ => by rw [rdig_some (by simp)]; exact hb⟩
/-- What is left to read: six numbers, or fewer, each behind a comma. -/
def rem (k : Nat) (s : List UInt8) : Option (List Int) := if k = 6 then (match num 255 3 s with
  | none => none
  | some (n, r) => (more 5 r).map (n :: ·)) else more k s
theorem rem_first {s : List UInt8} {n : Int} (h : num 255 3 s = some (n, past s)) : rem 6 s = (rem 5 (past s)).map (n :: ·) := by
  unfold rem
  rw [if_pos rfl, h, if_neg (by decide)]
theorem rem_next {k : Nat} (hk : k < 5) {r : List UInt8} {n : Int} (h : num 255 3 r = some (n, past r)) : rem (k + 1) (44 :: r) = (rem k (past r)).map (n :: ·) := by
  unfold rem
  rw [if_neg (by omega), if_neg (by omega), more, if_pos rfl, h]
theorem rem_no6 {s : List UInt8} (h : num 255 3 s = none) : rem 6 s = none := by
  unfold rem
  rw [if_pos rfl, h]
theorem rem_nil {k : Nat} (hk : k < 5) : rem (k + 1) [] = none := by
  unfold rem
  rw [if_neg (by omega)]
  rfl
theorem rem_other {k : Nat} (hk : k < 5) {c : UInt8} {r : List UInt8} (hc : c ≠ 44) : rem (k + 1) (c :: r) = none := by
  unfold rem
  rw [if_neg (by omega), more, if_neg hc]
theorem rem_no {k : Nat} (hk : k < 5) {r : List UInt8} (h : num 255 3 r = none) : rem (k + 1) (44 :: r) = none := by
  unfold rem
  rw [if_neg (by omega), more, if_pos rfl, h]
end Ad

theorem infoInt : (Tryd.prog.info? 3).map (fun i => (i.zero, i.size, i.bytes)) = some (some (.int .i64 0), 1, 8) := by kernel_rfl
/-- 'append(xs, x)' on a row of ints that the call owns: x lies in a new block of its own. -/
theorem append_int {ops : Array Oper} {rest : List Oper} {o : Oper} {a : Act} {Q : Exit → Act → World → Prop} {w : World} {B n : Nat} {v b : Value} {xs : List Value}
    (hgd : o.guard = none) (s x : Operand) (ho : o.op = .call { callee := .builtin .append, args := #[s, x], argTypes := #[43, 43] })
    (hs : a.eval s = v) (hown : w.ownsRow B 3 1 v n xs) (hx : a.eval x = .slice (some ⟨w.heap.size, 0, none⟩) 1 1)
    (h1 : b.oneCell' = true) (hn : n ≤ 2097152) (hB : B ≤ w.heap.size)
    (h : ∀ v' w', w'.ownsRow B 3 1 v' (n + 1) (xs ++ [b]) → w.grownBy w' v.ownBlock → wpList Tryd.prog ops Q rest (a.put o.dst v') w') : wpList Tryd.prog ops Q (o :: rest) a (w.alloc (.cells #[b] 3)) := by
  obtain ⟨i0, hi, hz0, hz1, hz2⟩ := info_parts infoInt
  refine wpList_append_own _ hgd s x 43 ho B 3 i0 (.int .i64 0) 1 8 Tryd.underlying43 hi hz0 hz1 hz2 rfl (by decide) v n xs hs (hown.alloc _) ⟨w.heap.size, 0, none⟩ 1 1 [b] hx rfl ?_ ?_ ?_ ?_ (by simp; omega) (fun v' w' h2 h3 _ => h v' w' h2 ?_)
  · exact cell_one_new _ _ _
  · intro u hu
    simp at hu
    subst hu
    exact h1
  · unfold maxLen; omega
  · omega
  · exact ⟨h3.os, h3.tape, h3.output, Nat.le_trans (by simp) h3.size, fun k hk hr => (h3.block k (by simp; omega) hr).trans (Below.heap_alloc w _ k hk)⟩

/-- What holds at the head of a round. -/
structure QR (B : Nat) (w wr : World) (l : List UInt8) (a k : Nat) (v : Value) (ns : List Nat) : Prop where
  below : Below B w wr
  res : AB wr B ad0
  own : wr.ownsRow (B + 1) 3 1 v k (ns.map iv)
  small : ∀ x ∈ ns, x ≤ 255
  hk : k ≤ 6
  ha : a ≤ l.length
  eq : Ad.six l = (Ad.rem (6 - k) (l.drop a)).map fun y => (ns.map fun (n : Nat) => (n : Int)) ++ y
theorem QR.lt {B : Nat} {w wr : World} {l : List UInt8} {a k : Nat} {v : Value} {ns : List Nat} (h : QR B w wr l a k v ns) : B < wr.heap.size := (Array.getElem?_eq_some_iff.1 h.res.blk).1
theorem QR.len {B : Nat} {w wr : World} {l : List UInt8} {a k : Nat} {v : Value} {ns : List Nat} (h : QR B w wr l a k v ns) : ns.length = k := by
  have := h.own.1
  simpa using this
theorem QR.fail {B : Nat} {w wr : World} {l : List UInt8} {a k : Nat} {v : Value} {ns : List Nat} (h : QR B w wr l a k v ns) (hr : Ad.rem (6 - k) (l.drop a) = none) : adr (Ad.pasv l) = .tuple #[.agg #[.int .i64 0, .int .i64 0, .int .i64 0, .int .i64 0, .int .i64 0], .bool false] := by
  unfold Ad.pasv
  rw [h.eq, hr]
  rfl
theorem QR.step {B : Nat} {w wr w' : World} {l : List UInt8} {a k a' m : Nat} {v v' : Value} {ns : List Nat} (h : QR B w wr l a k v ns) (hk : k < 6) (hm : m ≤ 255) (ha' : a' ≤ l.length)
    (hr : Ad.rem (6 - k) (l.drop a) = (Ad.rem (6 - (k + 1)) (l.drop a')).map ((m : Int) :: ·))
    (hown : w'.ownsRow (B + 1) 3 1 v' (k + 1) (ns.map iv ++ [.int .i64 (m : Int)])) (hg : wr.grownBy w' v.ownBlock) : QR B w w' l a' (k + 1) v' (ns ++ [m]) := by
  have hne : ∀ j, v.ownBlock = some j → B + 1 ≤ j := fun j hj => by have := (h.own.lt j hj).1; omega
  refine ⟨h.below.grown hg (Nat.le_of_lt h.lt) (fun j hj => by have := hne j hj; omega), ⟨?_⟩, ?_, ?_, by omega, ha', ?_⟩
  · rw [hg.block B h.lt (fun e => by have := hne B e.symm; omega)]
    exact h.res.blk
  · rw [List.map_append]
    exact hown
  · intro x hx
    rcases List.mem_append.1 hx with hx | hx
    · exact h.small x hx
    · simp at hx; omega
  · rw [h.eq, hr, Option.map_map]
    congr 1
    funext y
    simp
theorem QR.done {B : Nat} {w wr : World} {l : List UInt8} {a' : Nat} {v : Value} {ns : List Nat} (h : QR B w wr l a' 6 v ns) : ∃ a b c d e f : Nat, ns = [a, b, c, d, e, f] ∧ e ≤ 255 ∧ f ≤ 255 ∧ Ad.pasv l = if e * 256 + f = 0 then none else some ⟨a, b, c, d, ((e * 256 + f : Nat) : Int)⟩ := by
  have hl := h.len
  have hq := h.eq
  have hsm := h.small
  match ns, hl with
  | [a, b, c, d, e, f], _ =>
    refine ⟨a, b, c, d, e, f, rfl, hsm e (by simp), hsm f (by simp), ?_⟩
    unfold Ad.pasv
    rw [hq]
    simp only [Nat.sub_self, Ad.rem, Ad.more, Nat.reduceEqDiff, if_false, Option.map_some, List.append_nil, List.map_cons, List.map_nil, Option.bind_some, Ad.place]
    by_cases h0 : e * 256 + f = 0
    · rw [if_pos h0, if_pos (by omega)]
    · rw [if_neg h0, if_neg (by omega)]
      simp
end Go.Proofs.YtonophhhndhhhaaDoor
