/- All who were pushed, in a row of the law's own, beside those who wait. -/
import Derived.Test.YtimieknphedniaaWantRow
import Derived.Test.YtimieknphedniaaPipeLaw
namespace Go.Proofs.Ytimieknphedniaa
open Go.RowKit

structure PP (w0 wr : World) (g : Nat) (av : Value) (l m : List Wt) : Prop where
  b : Below w0.heap.size w0 wr
  p : PO wr g m
  o : OW wr w0.heap.size av l
  hg : w0.heap.size ≤ g
  ne : av.ownBlock ≠ some g
section
variable {w0 wr w' : World} {g : Nat} {av : Value} {l m : List Wt}
theorem PP.next (h : PP w0 wr g av l m) (hb : Below wr.heap.size wr w') : PP w0 w' g av l m := ⟨h.b.trans (hb.mono h.b.size), h.p.next hb, h.o.below hb, h.hg, h.ne⟩
theorem PP.turn (h : PP w0 wr g av l m) (hT : Trn (· = g) wr w') {m' : List Wt} (hp : PO w' g m') : PP w0 w' g av l m' :=
  ⟨h.b.trans (hT.below (fun k hk => by rw [hk]; exact h.hg) h.b.size), hp, h.o.apart hT h.ne, h.hg, h.ne⟩
theorem PP.grown (h : PP w0 wr g av l m) {g' n cap : Nat} {l' : List Wt} (h1 : OW w' w0.heap.size (.slice (some ⟨g', 0, none⟩) n cap) l') (h2 : wr.grownBy w' av.ownBlock) (h3 : av.ownBlock = some g' ∨ g' = wr.heap.size) :
    PP w0 w' g (.slice (some ⟨g', 0, none⟩) n cap) l' m := by
  refine ⟨h.b.trans ⟨h2.os, h2.tape, h2.output, h2.size, fun k hk => h2.block k (Nat.lt_of_lt_of_le hk h.b.size) (fun e => ?_)⟩, h.p.same (h2.block g h.p.lt (fun e => h.ne e.symm)), h1, h.hg, fun e => ?_⟩
  · have := (h.o.lt k e.symm).1; omega
  · have e2 : g' = g := by simpa [Value.ownBlock] using e
    subst e2
    rcases h3 with h3 | h3
    · exact h.ne h3
    · have := h.p.lt; omega
end
theorem drop_more {l : List Wt} {K : Nat} (h : K ≤ l.length) (x : Wt) : (l ++ [x]).drop K = l.drop K ++ [x] := Pi.drop_push l x h
theorem drop_one {l : List Wt} {K : Nat} (h : K < l.length) : ∃ x, l[K]? = some x ∧ l.drop K = x :: l.drop (K + 1) := ⟨_, List.getElem?_eq_getElem h, Pi.drop_pop l h⟩
theorem kind_mask (A : Nat) (h : A < 256) : bits .and .u8 (A : Int) 7 = ((A % 8 : Nat) : Int) := mask_u8 3 (by decide) (by omega) (by omega)
end Go.Proofs.Ytimieknphedniaa
