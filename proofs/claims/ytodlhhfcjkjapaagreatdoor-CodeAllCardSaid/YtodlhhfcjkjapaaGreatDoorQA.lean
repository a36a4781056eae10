import Derived.Test.YtodlhhfcjkjapaaGreatDoorPJ
import Derived.Deep.AppendLies
import Derived.ArgAppend
import Derived.Deep.RegionHeld3
namespace Go.Proofs.YtodlhhfcjkjapaaGreatDoor
open Go.RowKit
structure Turn (g:Nat) (s:Value) (w w':World):Prop where
 os:w'.os=w.os
 tape:w'.tape=w.tape
 output:w'.output=w.output
 size:w.heap.size≤w'.heap.size
 block:∀ k,k<w.heap.size→k≠g→s.ownBlock≠some k→w'.heap[k]?=w.heap[k]?
theorem Turn.of_below {g:Nat} {s:Value} {w w':World} (h:Below w.heap.size w w'):Turn g s w w':=⟨h.os,h.tape,h.output,h.size,fun k hk _ _=>h.block k hk⟩
theorem Turn.refl (g:Nat) (s:Value) (w:World):Turn g s w w:=.of_below (Below.refl _ _)
theorem Turn.before {g:Nat} {s:Value} {a b c:World} (h:Below a.heap.size a b) (k:Turn g s b c):Turn g s a c :=
 ⟨k.os.trans h.os,k.tape.trans h.tape,k.output.trans h.output,Nat.le_trans h.size k.size,fun i hi h1 h2=>(k.block i (Nat.lt_of_lt_of_le hi h.size) h1 h2).trans (h.block i hi)⟩
theorem Turn.trans {g:Nat} {s s':Value} {a b c:World} (h:Turn g s a b) (hs:s'.ownBlock=s.ownBlock ∨ ∃ k,s'.ownBlock=some k∧a.heap.size≤k) (k:Turn g s' b c):Turn g s a c:=by
 refine⟨k.os.trans h.os,k.tape.trans h.tape,k.output.trans h.output,Nat.le_trans h.size k.size,fun i hi h1 h2=>(k.block i (Nat.lt_of_lt_of_le hi h.size) h1 ?_).trans (h.block i hi h1 h2)⟩;rcases hs with hs|⟨k,hs,hk⟩
 ·rw[hs];exact h2
 ·rw[hs];intro e;cases e
  omega
theorem Turn.below {g B:Nat} {s:Value} {w w':World} (h:Turn g s w w') (hg:B≤g) (hs:∀ k,s.ownBlock=some k→B≤k) (hB:B≤w.heap.size):Below B w w' :=
 ⟨h.os,h.tape,h.output,h.size,fun k hk=>h.block k (by omega) (by omega) (fun e=>by have:=hs k e;omega)⟩
theorem Turn.cell {g:Nat} {s:Value} {w w':World} (h:Turn g s w w') {p:Addr} {v:Value} (hc:w.cell? p=some v) (h1:p.block≠g) (h2:s.ownBlock≠some p.block):w'.cell? p=some v :=
 (World.cell?_of_block (h.block p.block (World.block_lt_of_cell? w p hc) h1 h2)).trans hc
theorem Turn.own {g B n:Nat} {s:Value} {w w':World} (h:Turn g s w w') {v:Value} {e:TypeId} {vs:List Value} (ho:w.ownsRow B e 1 v n vs) (h1:v.ownBlock≠some g) (h2:v.ownBlock=none∨v.ownBlock≠s.ownBlock):w'.ownsRow B e 1 v n vs:=by
 refine⟨ho.1,?_⟩;rcases ho.2 with hn|⟨b,cap,cur,rfl,hb,hh,r⟩
 ·exact .inl hn
 ·refine .inr ⟨b,cap,cur,rfl,hb,?_,r⟩;rw[h.block b (yD hh).1 (by simpa [Value.ownBlock] using h1) (by rcases h2 with h2|h2 <;> simp[Value.ownBlock] at h2 ⊢;exact fun e=>h2 e.symm)]
  exact hh
def Fr (w:World) (B:Nat) (v:Value) (ys:List UInt8):Prop :=
 (ys=[] ∧ ∃ ao,v = .slice ao 0 0)∨(0<ys.length∧w.ownsRow B 5 1 v ys.length (ys.map bv))
theorem Fr.rd {w:World} {B:Nat} {v:Value} {ys:List UInt8} (h:Fr w B v ys):Rd w v (ys.map bv):=by
 rcases h with ⟨rfl,ao,rfl⟩|⟨_,h⟩
 ·exact .inl ⟨rfl,ao,0,fun _=>rfl,rfl⟩
 ·exact .of_own h
theorem Fr.form {w:World} {B:Nat} {v:Value} {ys:List UInt8} (h:Fr w B v ys):∃ ao cap,v = .slice ao ys.length cap:=by
 rcases h with ⟨rfl,ao,rfl⟩|⟨_,ho⟩
 ·exact⟨_,_,rfl⟩
 ·rcases ho.2 with ⟨rfl,e⟩|⟨_,_,_,rfl,_⟩
  ·rw[e];exact⟨_,_,rfl⟩
  ·exact⟨_,_,rfl⟩
theorem Fr.lower {w:World} {B B':Nat} {v:Value} {ys:List UInt8} (h:Fr w B v ys) (hB:B'≤B):Fr w B' v ys:=h.imp id fun h=>⟨h.1,ownsRow_lower h.2 hB⟩
theorem Fr.below {w w':World} {B:Nat} {v:Value} {ys:List UInt8} (h:Fr w B v ys) (hb:Below w.heap.size w w'):Fr w' B v ys:=h.imp id fun h=>⟨h.1,own_below h.2 hb⟩
theorem run_append_none {P:Program} (w:World) (t ty e:TypeId) (i:TypeInfo) (ht:P.underlying t=some (.slice e)) (hi:P.info? e=some i) (base:Option Addr) (n cap:Nat) (hle:n≤cap) (ao:Option Addr) (c:Nat) (hc:ao=none→c=0) :
  (Builtin.append_ #[t,t] ty #[.slice base n cap,.slice ao 0 c]).run P w = .ok (.slice base n cap) w:=by
 cases ao with
 | none =>
  obtain rfl:=hc rfl;cases base <;> simp[Builtin.append_,run_underlying ht,sizeOf,typeInfo,hi,Builtin.lenOf,hle,Builtin.firstCells,storeCells]
 | some a =>
  have hfc:=run_firstCells_some (P:=P) w i.size 0 a 0 c [] (by simp) (fun j u h=>by simp at h);cases base <;> simp[Builtin.append_,run_underlying ht,sizeOf,typeInfo,hi,Builtin.lenOf,hle,hfc,storeCells]
def Nx (s s':Value) (n:Nat):Prop:=s'.ownBlock=none∨s'.ownBlock=s.ownBlock ∨ ∃ k,s'.ownBlock=some k∧n≤k
theorem Nx.refl (s:Value) (n:Nat):Nx s s n:=.inr (.inl rfl)
theorem Nx.trans {s s' s'':Value} {n m:Nat} (h:Nx s s' n) (h':Nx s' s'' m) (hn:n≤m):Nx s s'' n:=by
 rcases h' with h'|h'|⟨k,h',hk⟩
 ·exact .inl h'
 ·rcases h with h|h|⟨k,h,hk⟩
  ·exact .inl (h'.trans h)
  ·exact .inr (.inl (h'.trans h))
  ·exact .inr (.inr ⟨k,h'.trans h,hk⟩)
 ·exact .inr (.inr ⟨k,h',Nat.le_trans hn hk⟩)
theorem Nx.lower {s s':Value} {n m:Nat} (h:Nx s s' n) (hn:m≤n):Nx s s' m:=by
 rcases h with h|h|⟨k,h,hk⟩
 ·exact .inl h
 ·exact .inr (.inl h)
 ·exact .inr (.inr ⟨k,h,Nat.le_trans hn hk⟩)
def Ap (s s':Value):Prop:=∀ k,s.ownBlock=some k→s'.ownBlock≠some k
theorem Ap.symm {s s':Value} (h:Ap s s'):Ap s' s:=fun k h1 h2=>h k h2 h1
theorem Ap.next {s s' t:Value} {n:Nat} (h:Ap s t) (hn:Nx s s' n) (ht:∀ k,t.ownBlock=some k→k<n):Ap s' t:=by
 rcases hn with hn|hn|⟨k,hn,hk⟩
 ·intro k hk;rw[hn] at hk;cases hk
 ·intro k hk;rw[hn] at hk;exact h k hk
 ·intro j hj e;rw[hn] at hj;cases hj
  have:=ht _ e;omega
theorem Ap.none {s t:Value} (h:s.ownBlock=none):Ap s t:=fun k hk=>by rw[h] at hk;cases hk
theorem Ap.fresh {s t:Value} {n:Nat} (hs:∀ k,s.ownBlock=some k→n≤k) (ht:∀ k,t.ownBlock=some k→k<n):Ap s t:=fun k hk e=>by
 have:=hs k hk;have:=ht k e;omega
theorem Turn.past {g B n:Nat} {s:Value} {w w':World} (h:Turn g s w w') {v:Value} {e:TypeId} {vs:List Value} (ho:w.ownsRow B e 1 v n vs) (h1:v.ownBlock≠some g) (h2:Ap v s):w'.ownsRow B e 1 v n vs :=
 h.own ho h1 (by
  cases hv:v.ownBlock with
  | none=>exact .inl rfl
  | some k=>exact .inr (fun e=>h2 k hv e.symm))
structure Trn (F:Nat→Prop) (w w':World):Prop where
 os:w'.os=w.os
 tape:w'.tape=w.tape
 output:w'.output=w.output
 size:w.heap.size≤w'.heap.size
 block:∀ k,k<w.heap.size → ¬ F k→w'.heap[k]?=w.heap[k]?
def Fx (F F':Nat→Prop) (n:Nat):Prop:=∀ k,F' k→F k∨n≤k
section
variable {F F' F'' G:Nat→Prop} {w w' w'':World} {n m:Nat}
theorem Fx.refl (F:Nat→Prop) (n:Nat):Fx F F n:=fun _ h=>.inl h
theorem Fx.trans (h:Fx F F' n) (h':Fx F' F'' m) (hn:n≤m):Fx F F'' n:=fun k hk=>by
 rcases h' k hk with h'|h'
 ·exact h k h'
 ·exact .inr (Nat.le_trans hn h')
theorem Fx.lower (h:Fx F F' n) (hn:m≤n):Fx F F' m:=fun k hk=>(h k hk).imp id (Nat.le_trans hn)
theorem Trn.refl (F:Nat→Prop) (w:World):Trn F w w:=⟨rfl,rfl,rfl,yR,fun _ _ _=>rfl⟩
theorem Trn.of_below (h:Below w.heap.size w w'):Trn F w w':=⟨h.os,h.tape,h.output,h.size,fun k hk _=>h.block k hk⟩
theorem Trn.trans (h:Trn F w w') (hf:Fx F F' w.heap.size) (k:Trn F' w' w''):Trn F w w'' :=
 ⟨k.os.trans h.os,k.tape.trans h.tape,k.output.trans h.output,Nat.le_trans h.size k.size,fun i hi h1=>(k.block i (Nat.lt_of_lt_of_le hi h.size) (fun e=>by
  rcases hf i e with hf|hf
  ·exact h1 hf
  ·omega)).trans (h.block i hi h1)⟩
theorem Trn.then (h:Trn F w w') (k:Trn F w' w''):Trn F w w'':=h.trans (Fx.refl _ _) k
theorem Trn.setCell (h:Trn F w w') {g i:Nat} (hg:F g) (u:Value):Trn F w (w'.setCell ⟨g,i,none⟩ u) :=
 ⟨h.os,h.tape,h.output,by simpa [World.setCell] using h.size,fun k hk h1=>(Below.heap_setCell _ _ _ _ (fun e=>h1 (by rw[show k=g from e];exact hg))).trans (h.block k hk h1)⟩
theorem Trn.alloc (h:Trn F w w') (o:Obj):Trn F w (w'.alloc o) :=
 ⟨h.os,h.tape,h.output,Nat.le_trans h.size (by simp),fun k hk h1=>(Below.heap_alloc _ _ _ (Nat.lt_of_lt_of_le hk h.size)).trans (h.block k hk h1)⟩
theorem Trn.more (h:Trn F w w') (hf:∀ k,F k→F' k):Trn F' w w':=⟨h.os,h.tape,h.output,h.size,fun k hk h1=>h.block k hk (fun e=>h1 (hf k e))⟩
theorem Trn.below {B:Nat} (h:Trn F w w') (hF:∀ k,F k→B≤k) (hB:B≤w.heap.size):Below B w w' :=
 ⟨h.os,h.tape,h.output,h.size,fun k hk=>h.block k (by omega) (fun e=>by have:=hF k e;omega)⟩
theorem Trn.rd (h:Trn F w w') {v:Value} {vs:List Value} (hr:Rd w v vs) (hv:∀ k,v.ownBlock=some k → ¬ F k):Rd w' v vs:=by
 rcases hr with hr|⟨b,o,cap,e,g1,g2,g3⟩
 ·exact .inl hr
 ·refine .inr ⟨b,o,cap,e,g1,g2,fun j u hj=>?_⟩;have hc:=g3 j u hj;exact(World.cell?_of_block (h.block b (World.block_lt_of_cell? w _ hc) (hv b (by rw[e];rfl)))).trans hc
theorem Trn.own (h:Trn F w w') {B n:Nat} {v:Value} {e:TypeId} {vs:List Value} (ho:w.ownsRow B e 1 v n vs) (hv:∀ k,v.ownBlock=some k → ¬ F k):w'.ownsRow B e 1 v n vs:=by
 refine⟨ho.1,?_⟩;rcases ho.2 with hn|⟨b,cap,cur,rfl,hb,hh,r⟩
 ·exact .inl hn
 ·refine .inr ⟨b,cap,cur,rfl,hb,?_,r⟩;rw[h.block b (yD hh).1 (hv b rfl)];exact hh
def Ft (F G:Nat→Prop):Prop:=∀ k,F k → ¬ G k
theorem Ft.symm (h:Ft F G):Ft G F:=fun k h1 h2=>h k h2 h1
theorem Ft.next (h:Ft F G) (hf:Fx F F' n) (hg:∀ k,G k→k<n):Ft F' G:=fun k hk e=>by
 rcases hf k hk with hf|hf
 ·exact h k hf e
 ·have:=hg k e;omega
end
end Go.Proofs.YtodlhhfcjkjapaaGreatDoor
