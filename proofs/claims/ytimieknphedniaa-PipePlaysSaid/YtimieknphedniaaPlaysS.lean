/- Both pipes side by side. -/
import Derived.Test.YtimieknphedniaaPipeRefR
import Derived.Test.YtimieknphedniaaPipeRefP
import Derived.Test.YtimieknphedniaaPipeLaw
namespace Go.Proofs.Ytimieknphedniaa
open Go.RowKit

structure PY (w0 wr : World) (g yb : Nat) (s : Value) (m n : List Wt) : Prop where
  b : Below w0.heap.size w0 wr
  p : PO wr g m
  y : YO wr w0.heap.size yb s n
  hg : w0.heap.size ≤ g
  gy : g ≠ yb
  sg : s.ownBlock ≠ some g
section
variable {w0 wr w' : World} {g yb : Nat} {s s' : Value} {m m' n n' : List Wt}
theorem PY.next (h : PY w0 wr g yb s m n) (hb : Below wr.heap.size wr w') : PY w0 w' g yb s m n := ⟨h.b.trans (hb.mono h.b.size), h.p.next hb, h.y.next hb, h.hg, h.gy, h.sg⟩
theorem PY.pipe (h : PY w0 wr g yb s m n) (hT : Trn (· = g) wr w') (hp : PO w' g m') : PY w0 w' g yb s m' n :=
  ⟨h.b.trans (hT.below (fun k hk => by rw [hk]; exact h.hg) h.b.size), hp, h.y.apart hT h.gy.symm h.sg, h.hg, h.gy, h.sg⟩
theorem PY.ref (h : PY w0 wr g yb s m n) (hT : Trn (· = yb) wr w') (hy : YO w' w0.heap.size yb s' n') (hs : s' = s ∨ ∀ k, s'.ownBlock = some k → wr.heap.size ≤ k) : PY w0 w' g yb s' m n' :=
  ⟨h.b.trans (hT.below (fun k hk => by rw [hk]; exact h.y.hg) h.b.size), h.p.apart hT h.gy, hy, h.hg, h.gy, fun e => by
    rcases hs with rfl | hs
    · exact h.sg e
    · have := hs g e
      have := h.p.lt
      omega⟩
theorem yo_new (w : World) (B : Nat) (hB : B ≤ w.heap.size) : YO (w.alloc (.cells #[.slice none 0 0] 29)) B w.heap.size (.slice none 0 0) [] :=
  ⟨heap_alloc_new w _, OW.nil _ _, hB, fun e => by cases e⟩
theorem kind_mask7 (A : Nat) (h : A < 256) : bits .and .u8 (A : Int) 7 = ((A % 8 : Nat) : Int) := mask_u8 3 (by decide) (by omega) (by omega)
end
end Go.Proofs.Ytimieknphedniaa
