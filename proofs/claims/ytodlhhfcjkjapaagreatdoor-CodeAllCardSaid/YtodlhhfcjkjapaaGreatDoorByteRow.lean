import Derived.Test.YtodlhhfcjkjapaaGreatDoorPJ
namespace Go.Proofs.YtodlhhfcjkjapaaGreatDoor
open Go.RowKit
theorem Rd.laid (w:World) (l:List UInt8) (t:TypeId) (n:Nat) (hn:n=l.length) (hm:n≤1048576):Rd (w.alloc (.cells (l.map bv).toArray t)) (.slice (some ⟨w.heap.size,0,none⟩) n n) (l.map bv):=by
 refine .inr ⟨_,0,n,by rw[hn,List.length_map],by rw[hn,List.length_map];exact yR,by unfold maxLen;omega,fun j u hj=>?_⟩;rw[yC (heap_alloc_new w _),Nat.zero_add,←Array.getElem?_toList];exact hj
theorem Rd.byte (w:World) (c:UInt8) (t:TypeId):Rd (w.alloc (.cells #[.int .u8 (c.toNat:Int)] t)) (.slice (some ⟨w.heap.size,0,none⟩) 1 1) ([c].map bv):=Rd.laid w [c] t 1 rfl (by decide)
structure BR (n B:Nat) (w wr:World) (v:Value) (xs:List UInt8):Prop where
 below:Below n w wr
 own:wr.ownsRow B 5 1 v xs.length (xs.map bv)
 sz:B≤wr.heap.size
 nb:n≤B
section
variable {n B:Nat} {w wr w2:World} {v v':Value} {xs ys:List UInt8} {o:Obj}
theorem BR.push (h:BR n B w wr v xs) (h2:w2.ownsRow B 5 1 v' (xs.length+(ys.map bv).length) (xs.map bv++ys.map bv)) (hg:(wr.alloc o).grownBy w2 v.ownBlock):BR n B w w2 v' (xs++ys) where
 below:=(h.below.alloc (Nat.le_trans h.nb h.sz) o).grown hg (by have:=h.nb;have:=h.sz;simp;omega) (fun k hk=>Nat.le_trans h.nb (h.own.lt k hk).1)
 own:=by rw[List.length_append,List.map_append];rw[List.length_map] at h2;exact h2
 sz:=by have:=hg.size;have:=h.sz;simp at *;omega
 nb:=h.nb
theorem BR.old (h:BR n B w wr v xs) (hg:(wr.alloc o).grownBy w2 v.ownBlock) (k:Nat) (hk:k<B):w2.heap[k]?=wr.heap[k]?:=by
 have hs:=h.sz;rw[hg.block k (by simp;omega) (fun e=>by have:=(h.own.lt k e.symm).1;omega)];exact Below.heap_alloc _ _ _ (by omega)
theorem BR.later (h:BR n B w wr v xs) (hb:Below wr.heap.size wr w2):BR n B w w2 v xs where
 below:=h.below.trans (hb.mono (Nat.le_trans h.nb h.sz))
 own:=own_below h.own hb
 sz:=Nat.le_trans h.sz hb.size
 nb:=h.nb
theorem BR.rd (h:BR n B w wr v xs):Rd wr v (xs.map bv):=Rd.of_own (by have:=h.own;rwa [←List.length_map (f:=bv)] at this)
end
end Go.Proofs.YtodlhhfcjkjapaaGreatDoor
