import Derived.Test.YtodlhhfcjkjapaaGreatDoorPG
import Derived.Test.YtodlhhfcjkjapaaGreatDoorPE
namespace Go.Proofs.YtodlhhfcjkjapaaGreatDoor
open Go.RowKit
structure HA where
 st:Ps.St
 l:Value
 m:Value
 els:Bool
def HA.sa (h:HA):SA:=⟨h.st,h.l,h.m⟩
def HA.hf (h:HA):Ps.Hf:=⟨h.st,h.els⟩
def hCells (h:HA):List Value:=[.int .i64 (h.st.kind:Int),.string ⟨h.st.s.toArray⟩,.string ⟨h.st.t.toArray⟩,.string ⟨h.st.u.toArray⟩,.int .i64 (h.st.n:Int),.int .i64 (h.st.place:Int),h.l,h.m,.bool h.els]
def hRow (hs:List HA):List Value:=hs.flatMap hCells
theorem hRow_len:∀ cs:List HA,(hRow cs).length=cs.length*9
 | []=>rfl
 | t :: ts=>by
  have ih:=hRow_len ts;rw[show hRow (t :: ts)=hCells t++hRow ts from rfl,List.length_append,ih,List.length_cons];show 9+_=_
  omega
theorem hRow_app (a b:List HA):hRow (a++b)=hRow a++hRow b:=by simp[hRow]
theorem hRow_at:∀ (cs:List HA) (k:Nat) (c:HA),cs[k]?=some c → ∀ i v,(hCells c)[i]?=some v→(hRow cs)[k*9+i]?=some v
 | [],k,c,h,i,v,_=>by cases h
 | x :: cs,0,c,h,i,v,hv=>by
  have e:x=c:=(by simpa using h);rw[←e] at hv;have hi:i<(hCells x).length:=(yE hv).1;rw[show hRow (x :: cs)=hCells x++hRow cs from rfl,Nat.zero_mul,Nat.zero_add,List.getElem?_append_left hi];exact hv
 | x :: cs,k+1,c,h,i,v,hv=>by
  have ih:=hRow_at cs k c (by simpa using h) i v hv;have e:(hCells x).length=9:=rfl;rw[show hRow (x :: cs)=hCells x++hRow cs from rfl,List.getElem?_append_right (by omega),e,show (k+1)*9+i-9=k*9+i by omega];exact ih
inductive Ix where
 | g|b|q|o|s|t
 | l (i:Nat)
 | m (i:Nat)
def bAt (g b q:Nat) (ov sv tv:Value) (al:List HA):Ix→Option Nat
 | .g=>some g
 | .b=>some b
 | .q=>some q
 | .o=>ov.ownBlock
 | .s=>sv.ownBlock
 | .t=>tv.ownBlock
 | .l i=>(al[i]?).bind fun h=>h.l.ownBlock
 | .m i=>(al[i]?).bind fun h=>h.m.ownBlock
def Inj (at':Ix→Option Nat):Prop:=∀ i j k,at' i=some k→at' j=some k→i=j
def FX (at':Ix→Option Nat) (X:Ix→Prop):Nat→Prop:=fun k=>∃ i,X i∧at' i=some k
theorem Inj.far {at':Ix→Option Nat} {X:Ix→Prop} (h:Inj at') {i:Ix} {k:Nat} (hk:at' i=some k) (hi:¬ X i):¬ FX at' X k:=fun ⟨j,hj,e⟩=>hi (h i j k hk e ▸ hj)
theorem Inj.grown {at' at2:Ix→Option Nat} {x:Ix} {n g:Nat} (h:Inj at') (hlt:∀ i k,at' i=some k→k<n) (hg:at' x=some g∨g=n) (h2:∀ i k,at2 i=some k→(i=x∧k=g)∨at' i=some k∧i≠x):Inj at2:=by
 intro i j k hi hj;rcases h2 i k hi with ⟨rfl,rfl⟩|⟨hi,hix⟩
 ·rcases h2 j k hj with ⟨rfl,_⟩|⟨hj,hjx⟩
  ·rfl
  ·rcases hg with hg|hg
   ·exact h _ _ _ hg hj
   ·have:=hlt j k hj;omega
 ·rcases h2 j k hj with ⟨rfl,rfl⟩|⟨hj,hjx⟩
  ·rcases hg with hg|hg
   ·exact absurd (h _ _ _ hi hg) hix
   ·have:=hlt i k hi;omega
  ·exact h _ _ _ hi hj
theorem own_trn {F:Nat→Prop} {w w':World} {B n size:Nat} {e:TypeId} {v:Value} {xs:List Value} (ho:w.ownsRow B e size v n xs) (h:Trn F w w') (hv:∀ k,v.ownBlock=some k → ¬ F k):w'.ownsRow B e size v n xs:=by
 refine⟨ho.1,?_⟩;rcases ho.2 with hn|⟨b,cap,cur,rfl,hb,hh,r⟩
 ·exact .inl hn
 ·refine .inr ⟨b,cap,cur,rfl,hb,?_,r⟩;rw[h.block b (yD hh).1 (hv b rfl)];exact hh
structure Far (w:World) (B:Nat) (at':Ix→Option Nat) (v:Value) (xs:List Nat):Prop where
 rd:Rd w v (xs.map nv)
 ap:∀ k,v.ownBlock=some k→(∀ i,at' i≠some k)∧B≤k∧k<w.heap.size
 one:v.oneCell'=true
theorem Far.trn {w w':World} {B:Nat} {at' at2:Ix→Option Nat} {X:Ix→Prop} {v:Value} {xs:List Nat} (h:Far w B at' v xs) (ht:Trn (FX at' X) w w') (h2:∀ i k,at2 i=some k→at' i=some k∨w.heap.size≤k):Far w' B at2 v xs :=
 ⟨ht.rd h.rd (fun k hk ⟨j,_,e⟩=>(h.ap k hk).1 j e),fun k hk=>⟨fun i e=>by
  rcases h2 i k e with e|e
  ·exact(h.ap k hk).1 i e
  ·have:=(h.ap k hk).2.2;omega,(h.ap k hk).2.1,Nat.lt_of_lt_of_le (h.ap k hk).2.2 ht.size⟩,h.one⟩
def Q9 (w:World) (q:Nat):Prop:=∃ v0 v1 v2 v3 v4 v5 v6 v7 v8,w.heap[q]?=some (.cells #[v0,v1,v2,v3,v4,v5,v6,v7,v8] 105 (0,0))
theorem Q9.lt {w:World} {q:Nat} (h:Q9 w q):q<w.heap.size:=by
 obtain⟨_,_,_,_,_,_,_,_,_,h⟩:=h;exact(yD h).1
theorem Q9.same {w w':World} {q:Nat} (h:Q9 w q) (e:w'.heap[q]?=w.heap[q]?):Q9 w' q:=by
 obtain⟨v0,v1,v2,v3,v4,v5,v6,v7,v8,h⟩:=h;exact⟨v0,v1,v2,v3,v4,v5,v6,v7,v8,e.trans h⟩
structure PX (w:World) (B g b q:Nat) (lv ov sv tv:Value) (md a f:Nat) (ts:List Lx.Tok) (hs ps:List HA) (cs:List SA) (top:List Nat):Prop where
 rb:RB w g lv ov md sv tv a f
 tr:TR w b lv ts
 blt:b<w.heap.size
 qlt:Q9 w q
 op:w.ownsRow B 105 9 ov hs.length (hRow hs)
 os:w.ownsRow B 41 8 sv cs.length (stRow cs)
 tp:IR w B 3 tv top
 hl:∀ h ∈ hs++ps,IR w B 3 h.l h.st.l∧IR w B 3 h.m h.st.m
 cl:∀ c ∈ cs,Far w B (bAt g b q ov sv tv (hs++ps)) c.l c.st.l∧Far w B (bAt g b q ov sv tv (hs++ps)) c.m c.st.m
 nd:Inj (bAt g b q ov sv tv (hs++ps))
 gB:B≤g
 bB:B≤b
 qB:B≤q
section
variable {w w' w2:World} {B g b q md a f:Nat} {lv ov sv tv:Value} {ts:List Lx.Tok} {hs ps:List HA} {cs:List SA} {top:List Nat}
theorem PX.lt (h:PX w B g b q lv ov sv tv md a f ts hs ps cs top):∀ i k,bAt g b q ov sv tv (hs++ps) i=some k→B≤k∧k<w.heap.size:=by
 intro i k hk;cases i with
 | g=>cases hk;exact⟨h.gB,h.rb.lt⟩
 | b=>cases hk;exact⟨h.bB,h.blt⟩
 | q=>cases hk;exact⟨h.qB,h.qlt.lt⟩
 | o=>exact World.ownsRow.lt h.op k hk
 | s=>exact World.ownsRow.lt h.os k hk
 | t=>exact IR.lt h.tp k hk
 | l i =>
  simp only[bAt] at hk;cases hx:(hs++ps)[i]? with
  | none=>rw[hx] at hk;cases hk
  | some x=>rw[hx] at hk;exact IR.lt (h.hl x (List.mem_of_getElem? hx)).1 k hk
 | m i =>
  simp only[bAt] at hk;cases hx:(hs++ps)[i]? with
  | none=>rw[hx] at hk;cases hk
  | some x=>rw[hx] at hk;exact IR.lt (h.hl x (List.mem_of_getElem? hx)).2 k hk
theorem PX.q9_trn {X:Ix→Prop} (h:PX w B g b q lv ov sv tv md a f ts hs ps cs top) (ht:Trn (FX (bAt g b q ov sv tv (hs++ps)) X) w w') (hq:¬ X .q):Q9 w' q :=
 h.qlt.same (ht.block q h.qlt.lt (h.nd.far (i:=.q) rfl hq))
theorem PX.base {X:Ix→Prop} (h:PX w B g b q lv ov sv tv md a f ts hs ps cs top) (ht:Trn (FX (bAt g b q ov sv tv (hs++ps)) X) w w') (hB:B≤w.heap.size):Below B w w' :=
 ht.below (fun k ⟨i,_,e⟩=>(h.lt i k e).1) hB
theorem PX.bsz (h:PX w B g b q lv ov sv tv md a f ts hs ps cs top):B≤w.heap.size:=by
 have:=h.gB;have:=h.rb.lt;omega
theorem PX.hl_trn {X:Ix→Prop} (h:PX w B g b q lv ov sv tv md a f ts hs ps cs top) (ht:Trn (FX (bAt g b q ov sv tv (hs++ps)) X) w w') (i:Nat) (x:HA) (hx:(hs++ps)[i]?=some x) (h1:¬ X (.l i)) (h2:¬ X (.m i)):IR w' B 3 x.l x.st.l∧IR w' B 3 x.m x.st.m:=by
 obtain⟨i1,i2⟩:=h.hl x (List.mem_of_getElem? hx);exact⟨own_trn i1 ht (fun k hk=>h.nd.far (i:=.l i) (by simp only[bAt];rw[hx];exact hk) h1),own_trn i2 ht (fun k hk=>h.nd.far (i:=.m i) (by simp only[bAt];rw[hx];exact hk) h2)⟩
theorem PX.of_g {lv':Value} {md' a' f':Nat} {ts':List Lx.Tok} (h:PX w B g b q lv ov sv tv md a f ts hs ps cs top) (ht:Trn (only g) w w') (hr:RB w' g lv' ov md' sv tv a' f') (htr:TR w' b lv' ts'):PX w' B g b q lv' ov sv tv md' a' f' ts' hs ps cs top:=by
 have ht':Trn (FX (bAt g b q ov sv tv (hs++ps)) (fun i=>i = .g)) w w':=ht.more (fun k hk=>⟨.g,rfl,by rw[show k=g from hk];rfl⟩)
 refine⟨hr,htr,Nat.lt_of_lt_of_le h.blt ht.size,h.q9_trn ht' (by simp),own_trn h.op ht' (fun k hk=>h.nd.far (i:=.o) hk (by simp)),own_trn h.os ht' (fun k hk=>h.nd.far (i:=.s) hk (by simp)),own_trn h.tp ht' (fun k hk=>h.nd.far (i:=.t) hk (by simp)),fun x hx=>?_,fun c hc=>⟨(h.cl c hc).1.trn ht' (fun i k e=>.inl e),(h.cl c hc).2.trn ht' (fun i k e=>.inl e)⟩,h.nd,h.gB,h.bB,h.qB⟩;obtain⟨i,hi⟩:=List.getElem?_of_mem hx;exact h.hl_trn ht' i x hi (by simp) (by simp)
theorem PX.of_q (h:PX w B g b q lv ov sv tv md a f ts hs ps cs top) (ht:Trn (only q) w w') (hq9:Q9 w' q):PX w' B g b q lv ov sv tv md a f ts hs ps cs top:=by
 have ht':Trn (FX (bAt g b q ov sv tv (hs++ps)) (fun i=>i = .q)) w w':=ht.more (fun k hk=>⟨.q,rfl,by rw[show k=q from hk];rfl⟩)
 refine⟨h.rb.trn ht' (h.nd.far (i:=.g) rfl (by simp)),h.tr.trn ht' (h.nd.far (i:=.b) rfl (by simp)),Nat.lt_of_lt_of_le h.blt ht.size,hq9,own_trn h.op ht' (fun k hk=>h.nd.far (i:=.o) hk (by simp)),own_trn h.os ht' (fun k hk=>h.nd.far (i:=.s) hk (by simp)),own_trn h.tp ht' (fun k hk=>h.nd.far (i:=.t) hk (by simp)),fun x hx=>?_,fun c hc=>⟨(h.cl c hc).1.trn ht' (fun i k e=>.inl e),(h.cl c hc).2.trn ht' (fun i k e=>.inl e)⟩,h.nd,h.gB,h.bB,h.qB⟩
 obtain⟨i,hi⟩:=List.getElem?_of_mem hx;exact h.hl_trn ht' i x hi (by simp) (by simp)
theorem PX.below (h:PX w B g b q lv ov sv tv md a f ts hs ps cs top) (hb:Below w.heap.size w w'):PX w' B g b q lv ov sv tv md a f ts hs ps cs top :=
 h.of_g (Trn.of_below hb) (h.rb.below hb) (h.tr.below hb)
theorem PX.hand {x:HA} (h:PX w B g b q lv ov sv tv md a f ts hs [] cs top) (h1:x.l = .slice none 0 0) (h2:x.m = .slice none 0 0) (h3:x.st.l=[]) (h4:x.st.m=[]):PX w B g b q lv ov sv tv md a f ts hs [x] cs top:=by
 have hat:∀ i,bAt g b q ov sv tv (hs++[x]) i=bAt g b q ov sv tv (hs++[]) i:=by
  intro i;rw[List.append_nil]
  have key:∀ (i:Nat) (f:HA→Option Nat),f x=none→((hs++[x])[i]?).bind f=(hs[i]?).bind f:=by
   intro i f hf;rcases Nat.lt_or_ge i hs.length with hi|hi
   ·rw[List.getElem?_append_left hi]
   ·rw[List.getElem?_append_right hi,List.getElem?_eq_none hi];cases hj:i-hs.length with
    | zero=>exact hf
    | succ j=>rfl
  cases i with
  | l i=>exact key i _ (by rw[h1];rfl)
  | m i=>exact key i _ (by rw[h2];rfl)
  | g=>rfl
  | b=>rfl
  | q=>rfl
  | o=>rfl
  | s=>rfl
  | t=>rfl
 refine⟨h.rb,h.tr,h.blt,h.qlt,h.op,h.os,h.tp,fun y hy=>?_,fun c hc=>?_,?_,h.gB,h.bB,h.qB⟩
 ·rcases List.mem_append.1 hy with hy|hy
  ·exact h.hl y (by simp[hy])
  ·rw[List.mem_singleton.1 hy,h1,h2,h3,h4];exact⟨IR.nil _ _ _,IR.nil _ _ _⟩
 ·obtain⟨f1,f2⟩:=h.cl c hc;exact⟨⟨f1.rd,fun k hk=>⟨fun i=>by rw[hat];exact(f1.ap k hk).1 i,(f1.ap k hk).2⟩,f1.one⟩,⟨f2.rd,fun k hk=>⟨fun i=>by rw[hat];exact(f2.ap k hk).1 i,(f2.ap k hk).2⟩,f2.one⟩⟩
 ·intro i j k hi hj;rw[hat] at hi hj;exact h.nd i j k hi hj
theorem PX.els {x:HA} (h:PX w B g b q lv ov sv tv md a f ts hs [x] cs top) (e:Bool):PX w B g b q lv ov sv tv md a f ts hs [⟨x.st,x.l,x.m,e⟩] cs top:=by
 have hat:∀ i,bAt g b q ov sv tv (hs++[⟨x.st,x.l,x.m,e⟩]) i=bAt g b q ov sv tv (hs++[x]) i:=by
  intro i
  have key:∀ (i:Nat) (f:HA→Option Nat),f ⟨x.st,x.l,x.m,e⟩=f x→((hs++[⟨x.st,x.l,x.m,e⟩])[i]?).bind f=((hs++[x])[i]?).bind f:=by
   intro i f hf;rcases Nat.lt_or_ge i hs.length with hi|hi
   ·rw[List.getElem?_append_left hi,List.getElem?_append_left hi]
   ·rw[List.getElem?_append_right hi,List.getElem?_append_right hi];cases hj:i-hs.length with
    | zero=>exact hf
    | succ j=>rfl
  cases i with
  | l i=>exact key i _ rfl
  | m i=>exact key i _ rfl
  | g=>rfl
  | b=>rfl
  | q=>rfl
  | o=>rfl
  | s=>rfl
  | t=>rfl
 refine⟨h.rb,h.tr,h.blt,h.qlt,h.op,h.os,h.tp,fun y hy=>?_,fun c hc=>?_,?_,h.gB,h.bB,h.qB⟩
 ·rcases List.mem_append.1 hy with hy|hy
  ·exact h.hl y (by simp[hy])
  ·rw[List.mem_singleton.1 hy];exact h.hl x (by simp)
 ·obtain⟨f1,f2⟩:=h.cl c hc;exact⟨⟨f1.rd,fun k hk=>⟨fun i=>by rw[hat];exact(f1.ap k hk).1 i,(f1.ap k hk).2⟩,f1.one⟩,⟨f2.rd,fun k hk=>⟨fun i=>by rw[hat];exact(f2.ap k hk).1 i,(f2.ap k hk).2⟩,f2.one⟩⟩
 ·intro i j k hi hj;rw[hat] at hi hj;exact h.nd i j k hi hj
theorem Trn.of_grown {F:Nat→Prop} {v:Value} (hg:w.grownBy w2 v.ownBlock) (hv:∀ k,v.ownBlock=some k→F k):Trn F w w2 :=
 ⟨hg.os,hg.tape,hg.output,hg.size,fun k hk hF=>hg.block k hk (fun e=>hF (hv k e.symm))⟩
theorem PX.growTop {tv':Value} {n g':Nat} (h:PX w B g b q lv ov sv tv md a f ts hs ps cs top) (hg:w.grownBy w2 tv.ownBlock) (hI:IR w2 B 3 tv' (top++[n])) (hv':tv'.ownBlock=some g') (hgg:tv.ownBlock=some g'∨g'=w.heap.size) :
  PX (w2.setCell ⟨g,4,none⟩ tv') B g b q lv ov sv tv' md a f ts hs ps cs (top++[n])∧Below B w (w2.setCell ⟨g,4,none⟩ tv'):=by
 have t2:Trn (FX (bAt g b q ov sv tv (hs++ps)) (fun i=>i = .g∨i = .t)) w w2:=Trn.of_grown hg (fun k hk=>⟨.t,.inr rfl,hk⟩);have t3:Trn (FX (bAt g b q ov sv tv (hs++ps)) (fun i=>i = .g∨i = .t)) w (w2.setCell ⟨g,4,none⟩ tv'):=t2.setCell ⟨.g,.inl rfl,rfl⟩ _
 have hat:∀ i k,bAt g b q ov sv tv' (hs++ps) i=some k→(i = .t∧k=g')∨bAt g b q ov sv tv (hs++ps) i=some k∧i ≠ .t:=by
  intro i k hk;cases i <;> first|exact .inr ⟨hk,by simp⟩|exact .inl ⟨rfl,by simp only[bAt] at hk;rw[hv'] at hk;cases hk;rfl⟩
 have hlt:∀ i k,bAt g b q ov sv tv (hs++ps) i=some k→k<w.heap.size:=fun i k e=>(h.lt i k e).2
 have hgt:g'≠g:=by
  rcases hgg with e|e
  ·intro e2;subst e2;exact absurd (h.nd .t .g _ e rfl) (by simp)
  ·have:=h.rb.lt;omega
 have hrb2:RB w2 g lv ov md sv tv a f:=h.rb.same (hg.block g h.rb.lt (fun e=>absurd (h.nd .g .t g rfl e.symm) (by simp)))
 refine⟨⟨hrb2.set4 tv',h.tr.trn t3 (h.nd.far (i:=.b) rfl (by simp)),Nat.lt_of_lt_of_le h.blt t3.size,h.q9_trn t3 (by simp),own_trn h.op t3 (fun k hk=>h.nd.far (i:=.o) hk (by simp)),own_trn h.os t3 (fun k hk=>h.nd.far (i:=.s) hk (by simp)),?_,fun x hx=>?_,fun c hc=>⟨(h.cl c hc).1.trn t3 ?_,(h.cl c hc).2.trn t3 ?_⟩,h.nd.grown (x:=.t) (g:=g') hlt hgg hat,h.gB,h.bB,h.qB⟩,h.base t3 h.bsz⟩
 ·exact own_trn (F:=only g) hI (Trn.setCell (F:=only g) (Trn.refl _ _) (show g=g from rfl) _) (fun k hk e=>by rw[hv'] at hk;cases hk;exact hgt e)
 ·obtain⟨i,hi⟩:=List.getElem?_of_mem hx;exact h.hl_trn t3 i x hi (by simp) (by simp)
 iterate 2
  ·intro i k e;rcases hat i k e with ⟨rfl,rfl⟩|e
   ·exact hgg.imp id (fun e=>by omega)
   ·exact .inl e.1
theorem al_l (a b:List HA) (i:Nat) {k:Nat} {f:HA→Option Nat} (h:((a[i]?).bind f)=some k):(((a++b)[i]?).bind f)=some k:=by
 cases hx:a[i]? with
 | none=>rw[hx] at h;cases h
 | some x=>rw[List.getElem?_append_left (yE hx).1,hx];rw[hx] at h;exact h
theorem PX.growSt {sv':Value} {g':Nat} {x:HA} (h:PX w B g b q lv ov sv tv md a f ts hs [x] cs top) (hg:w.grownBy w2 sv.ownBlock) (hI:w2.ownsRow B 41 8 sv' (cs.length+1) (stRow (cs++[x.sa]))) (hv':sv'.ownBlock=some g') (hgg:sv.ownBlock=some g'∨g'=w.heap.size) :
  PX (w2.setCell ⟨g,3,none⟩ sv') B g b q lv ov sv' tv md a f ts hs [] (cs++[x.sa]) top∧Below B w (w2.setCell ⟨g,3,none⟩ sv'):=by
 have t2:Trn (FX (bAt g b q ov sv tv (hs++[x])) (fun i=>i = .g∨i = .s)) w w2:=Trn.of_grown hg (fun k hk=>⟨.s,.inr rfl,hk⟩);have t3:Trn (FX (bAt g b q ov sv tv (hs++[x])) (fun i=>i = .g∨i = .s)) w (w2.setCell ⟨g,3,none⟩ sv'):=t2.setCell ⟨.g,.inl rfl,rfl⟩ _;have hxn:(hs++[x])[hs.length]?=some x:=by simp
 have hat:∀ i k,bAt g b q ov sv' tv (hs++[]) i=some k→((i = .s∧k=g')∨bAt g b q ov sv tv (hs++[x]) i=some k∧i ≠ .s)∧i ≠ .l hs.length∧i ≠ .m hs.length:=by
  intro i k hk;cases i with
  | g=>exact⟨.inr ⟨hk,by simp⟩,by simp,by simp⟩
  | b=>exact⟨.inr ⟨hk,by simp⟩,by simp,by simp⟩
  | q=>exact⟨.inr ⟨hk,by simp⟩,by simp,by simp⟩
  | o=>exact⟨.inr ⟨hk,by simp⟩,by simp,by simp⟩
  | t=>exact⟨.inr ⟨hk,by simp⟩,by simp,by simp⟩
  | s=>exact⟨.inl ⟨rfl,by simp only[bAt] at hk;rw[hv'] at hk;cases hk;rfl⟩,by simp,by simp⟩
  | l i =>
   rw[List.append_nil] at hk;refine⟨.inr ⟨al_l hs [x] i hk,by simp⟩,fun e=>?_,by simp⟩;injection e with e
   subst e;simp[bAt] at hk
  | m i =>
   rw[List.append_nil] at hk;refine⟨.inr ⟨al_l hs [x] i hk,by simp⟩,by simp,fun e=>?_⟩;injection e with e
   subst e;simp[bAt] at hk
 have hlt:∀ i k,bAt g b q ov sv tv (hs++[x]) i=some k→k<w.heap.size:=fun i k e=>(h.lt i k e).2
 have hgt:g'≠g:=by
  rcases hgg with e|e
  ·intro e2;subst e2;exact absurd (h.nd .s .g _ e rfl) (by simp)
  ·have:=h.rb.lt;omega
 have hrb2:RB w2 g lv ov md sv tv a f:=h.rb.same (hg.block g h.rb.lt (fun e=>absurd (h.nd .g .s g rfl e.symm) (by simp)))
 have hfar:∀ i k,bAt g b q ov sv' tv (hs++[]) i=some k→bAt g b q ov sv tv (hs++[x]) i=some k∨w.heap.size≤k:=by
  intro i k e;rcases(hat i k e).1 with ⟨rfl,rfl⟩|e
  ·exact hgg.imp id (fun e=>by omega)
  ·exact .inl e.1
 have new:∀ (u:Value) (xs:List Nat) (j:Ix),IR w B 3 u xs→(∀ k,u.ownBlock=some k→bAt g b q ov sv tv (hs++[x]) j=some k)→j ≠ .g→j ≠ .s→(∀ i k,bAt g b q ov sv' tv (hs++[]) i=some k→i≠j)→Far (w2.setCell ⟨g,3,none⟩ sv') B (bAt g b q ov sv' tv (hs++[])) u xs:=by
  intro u xs j hu hj h1 h2 h3;have hu3:=own_trn hu t3 (fun k hk=>h.nd.far (hj k hk) (by simp[h1,h2]));refine⟨IR.rd hu3,fun k hk=>⟨fun i e=>?_,(IR.lt hu3 k hk).1,(IR.lt hu3 k hk).2⟩,IR.one hu⟩;have hk':=hj k hk;rcases(hat i k e).1 with ⟨rfl,rfl⟩|e2
  ·rcases hgg with hgg|hgg
   ·exact h2 (h.nd j .s _ hk' hgg)
   ·have:=hlt _ _ hk';omega
  ·exact h3 i k e (h.nd i j k e2.1 hk')
 refine⟨⟨hrb2.set3 sv',h.tr.trn t3 (h.nd.far (i:=.b) rfl (by simp)),Nat.lt_of_lt_of_le h.blt t3.size,h.q9_trn t3 (by simp),own_trn h.op t3 (fun k hk=>h.nd.far (i:=.o) hk (by simp)),?_,own_trn h.tp t3 (fun k hk=>h.nd.far (i:=.t) hk (by simp)),fun y hy=>?_,fun c hc=>?_,h.nd.grown (x:=.s) (g:=g') hlt hgg (fun i k e=>(hat i k e).1),h.gB,h.bB,h.qB⟩,h.base t3 h.bsz⟩
 ·rw[List.length_append];exact own_trn (F:=only g) hI (Trn.setCell (F:=only g) (Trn.refl _ _) (show g=g from rfl) _) (fun k hk e=>by rw[hv'] at hk;cases hk;exact hgt e)
 ·rw[List.append_nil] at hy;obtain⟨i,hi⟩:=List.getElem?_of_mem hy;exact h.hl_trn t3 i y (by rw[List.getElem?_append_left (yE hi).1];exact hi) (by simp) (by simp)
 ·rcases List.mem_append.1 hc with hc|hc
  ·exact⟨(h.cl c hc).1.trn t3 hfar,(h.cl c hc).2.trn t3 hfar⟩
  ·rw[List.mem_singleton.1 hc];obtain⟨i1,i2⟩:=h.hl x (by simp);exact⟨new _ _ (.l hs.length) i1 (fun k hk=>by simp only[bAt];rw[hxn];exact hk) (by simp) (by simp) (fun i k e=>(hat i k e).2.1),new _ _ (.m hs.length) i2 (fun k hk=>by simp only[bAt];rw[hxn];exact hk) (by simp) (by simp) (fun i k e=>(hat i k e).2.2)⟩
theorem PX.growOp {ov':Value} {g':Nat} {x:HA} (h:PX w B g b q lv ov sv tv md a f ts hs [x] cs top) (hg:w.grownBy w2 ov.ownBlock) (hI:w2.ownsRow B 105 9 ov' (hs.length+1) (hRow (hs++[x]))) (hv':ov'.ownBlock=some g') (hgg:ov.ownBlock=some g'∨g'=w.heap.size) :
  PX (w2.setCell ⟨g,1,none⟩ ov') B g b q lv ov' sv tv md a f ts (hs++[x]) [] cs top∧Below B w (w2.setCell ⟨g,1,none⟩ ov'):=by
 have t2:Trn (FX (bAt g b q ov sv tv (hs++[x])) (fun i=>i = .g∨i = .o)) w w2:=Trn.of_grown hg (fun k hk=>⟨.o,.inr rfl,hk⟩);have t3:Trn (FX (bAt g b q ov sv tv (hs++[x])) (fun i=>i = .g∨i = .o)) w (w2.setCell ⟨g,1,none⟩ ov'):=t2.setCell ⟨.g,.inl rfl,rfl⟩ _
 have hat:∀ i k,bAt g b q ov' sv tv (hs++[x]) i=some k→(i = .o∧k=g')∨bAt g b q ov sv tv (hs++[x]) i=some k∧i ≠ .o:=by
  intro i k hk;cases i <;> first|exact .inr ⟨hk,by simp⟩|exact .inl ⟨rfl,by simp only[bAt] at hk;rw[hv'] at hk;cases hk;rfl⟩
 have hlt:∀ i k,bAt g b q ov sv tv (hs++[x]) i=some k→k<w.heap.size:=fun i k e=>(h.lt i k e).2
 have hgt:g'≠g:=by
  rcases hgg with e|e
  ·intro e2;subst e2;exact absurd (h.nd .o .g _ e rfl) (by simp)
  ·have:=h.rb.lt;omega
 have hrb2:RB w2 g lv ov md sv tv a f:=h.rb.same (hg.block g h.rb.lt (fun e=>absurd (h.nd .g .o g rfl e.symm) (by simp)))
 have hfar:∀ i k,bAt g b q ov' sv tv (hs++[x]) i=some k→bAt g b q ov sv tv (hs++[x]) i=some k∨w.heap.size≤k:=by
  intro i k e;rcases hat i k e with ⟨rfl,rfl⟩|e
  ·exact hgg.imp id (fun e=>by omega)
  ·exact .inl e.1
 have e0:hs++[x]++[]=hs++[x]:=List.append_nil _;refine⟨⟨hrb2.set1 ov',h.tr.trn t3 (h.nd.far (i:=.b) rfl (by simp)),Nat.lt_of_lt_of_le h.blt t3.size,h.q9_trn t3 (by simp),?_,own_trn h.os t3 (fun k hk=>h.nd.far (i:=.s) hk (by simp)),own_trn h.tp t3 (fun k hk=>h.nd.far (i:=.t) hk (by simp)),fun y hy=>?_,fun c hc=>?_,?_,h.gB,h.bB,h.qB⟩,h.base t3 h.bsz⟩
 ·rw[List.length_append];exact own_trn (F:=only g) hI (Trn.setCell (F:=only g) (Trn.refl _ _) (show g=g from rfl) _) (fun k hk e=>by rw[hv'] at hk;cases hk;exact hgt e)
 ·rw[e0] at hy;obtain⟨i,hi⟩:=List.getElem?_of_mem hy;exact h.hl_trn t3 i y hi (by simp) (by simp)
 ·rw[e0];exact⟨(h.cl c hc).1.trn t3 hfar,(h.cl c hc).2.trn t3 hfar⟩
 ·rw[e0];exact h.nd.grown (x:=.o) (g:=g') hlt hgg hat
theorem PX.pop {x:HA} {og cap:Nat} (h:PX w B g b q lv (.slice (some ⟨og,0,none⟩) (hs.length+1) cap) sv tv md a f ts (hs++[x]) [] cs top) (ht:Trn (only g) w w') (hr:RB w' g lv (.slice (some ⟨og,0,none⟩) hs.length cap) md sv tv a f) :
  PX w' B g b q lv (.slice (some ⟨og,0,none⟩) hs.length cap) sv tv md a f ts hs [x] cs top∧Below B w w':=by
 have e0:hs++[x]++[]=hs++[x]:=List.append_nil _;have t3:Trn (FX (bAt g b q (.slice (some ⟨og,0,none⟩) (hs.length+1) cap) sv tv (hs++[x]++[])) (fun i=>i = .g)) w w':=ht.more (fun k hk=>⟨.g,rfl,by rw[show k=g from hk];rfl⟩)
 have hat:∀ i,bAt g b q (.slice (some ⟨og,0,none⟩) hs.length cap) sv tv (hs++[x]) i=bAt g b q (.slice (some ⟨og,0,none⟩) (hs.length+1) cap) sv tv (hs++[x]++[]) i:=by
  intro i;rw[e0];cases i <;> rfl
 have hor:=own_trn h.op t3 (fun k hk=>h.nd.far (i:=.o) hk (by simp));refine⟨⟨hr,h.tr.trn t3 (h.nd.far (i:=.b) rfl (by simp)),Nat.lt_of_lt_of_le h.blt t3.size,h.q9_trn t3 (by simp),?_,own_trn h.os t3 (fun k hk=>h.nd.far (i:=.s) hk (by simp)),own_trn h.tp t3 (fun k hk=>h.nd.far (i:=.t) hk (by simp)),fun y hy=>?_,fun c hc=>?_,?_,h.gB,h.bB,h.qB⟩,h.base t3 h.bsz⟩
 ·refine⟨hRow_len hs,?_⟩;rcases hor.2 with ⟨e,_⟩|⟨g',cap',cur,e,hb,hh,h2,h3,h4,h5⟩
  ·cases e
  ·simp only[Value.slice.injEq,Option.some.injEq,Addr.mk.injEq,and_true,List.length_append,List.length_singleton,true_and] at e;obtain⟨rfl,rfl⟩:=e;rw[List.length_append] at h2;refine .inr ⟨og,cap,cur,rfl,hb,hh,by simp at h2;omega,h3,h4,?_⟩;have:=congrArg (List.take (hs.length*9)) h5;rw[List.take_take,hRow_app,List.length_append,Nat.min_eq_left (by simp;omega),←hRow_len hs,List.take_left] at this;rw[←hRow_len hs];exact this
 ·rw[←e0] at hy;obtain⟨i,hi⟩:=List.getElem?_of_mem hy;exact h.hl_trn t3 i y hi (by simp) (by simp)
 ·exact⟨(h.cl c hc).1.trn t3 (fun i k e=>.inl (by rw[←hat];exact e)),(h.cl c hc).2.trn t3 (fun i k e=>.inl (by rw[←hat];exact e))⟩
 ·intro i j k hi hj;rw[hat] at hi hj;exact h.nd i j k hi hj
end
theorem own_storeN {w:World} {B n g cap k size:Nat} {e:TypeId} {vs:List Value} (h:w.ownsRow B e size (.slice (some ⟨g,0,none⟩) n cap) n vs) (hk:k<n*size) (u:Value) :
  w.frozen? ⟨g,k,none⟩=false∧(∃ u0,w.cell? ⟨g,k,none⟩=some u0)∧(w.setCell ⟨g,k,none⟩ u).ownsRow B e size (.slice (some ⟨g,0,none⟩) n cap) n (vs.set k u):=by
 have hlen:=h.1;rcases h.2 with ⟨e1,_⟩|⟨g',cap',cur,e1,hb,hh,h2,h3,h4,h5⟩
 ·cases e1
 ·simp only[Value.slice.injEq,Option.some.injEq,Addr.mk.injEq,and_true,true_and] at e1;obtain⟨rfl,rfl⟩:=e1;have hc:n*size≤cap*size:=Nat.mul_le_mul_right _ h2;refine⟨by simp[World.frozen?,hh],⟨cur[k]'(by omega),by rw[yC hh,Array.getElem?_eq_getElem]⟩,by rw[List.length_set];exact hlen,.inr ⟨g,cap,cur.setIfInBounds k u,rfl,hb,setCell_row hh,h2,h3,by simpa using h4,?_⟩⟩;rw[←h5,Array.toList_setIfInBounds,List.take_set]
theorem own_cellN {w:World} {B n g cap k size:Nat} {e:TypeId} {vs:List Value} (h:w.ownsRow B e size (.slice (some ⟨g,0,none⟩) n cap) n vs) {u:Value} (hk:vs[k]?=some u):w.cell? ⟨g,k,none⟩=some u:=by
 have:=h.cells (g:=g) rfl k u hk
 rwa [Addr.add_lit,Nat.zero_add] at this
section
variable {w w' w2:World} {B g b q md a f:Nat} {lv ov sv tv:Value} {ts:List Lx.Tok} {hs ps:List HA} {cs:List SA} {top:List Nat}
theorem PX.last {x:HA} {og cap:Nat} (h:PX w B g b q lv (.slice (some ⟨og,0,none⟩) (hs.length+1) cap) sv tv md a f ts (hs++[x]) ps cs top):∀ i u,(hCells x)[i]?=some u→w.cell? ⟨og,hs.length*9+i,none⟩=some u∧w.frozen? ⟨og,hs.length*9+i,none⟩=false:=by
 intro i u hu;have ho:=h.op;rw[List.length_append] at ho;have hi:i<9:=(yE hu).1;exact⟨own_cellN ho (hRow_at _ _ x (by simp) _ _ hu),(own_storeN ho (k:=hs.length*9+i) (by show hs.length*9+i<(hs.length+1)*9;omega) u).1⟩
theorem PX.form {x:HA} (h:PX w B g b q lv ov sv tv md a f ts (hs++[x]) ps cs top):∃ og cap,ov = .slice (some ⟨og,0,none⟩) (hs.length+1) cap∧hs.length+1≤cap∧cap≤maxLen:=by
 rcases h.op.2 with ⟨_,e⟩|⟨og,cap,cur,e,_,_,h2,h3,_⟩
 ·simp at e
 ·exact⟨og,cap,by rw[e,List.length_append];rfl,by simpa using h2,h3⟩
theorem PX.rb_grown {i:Ix} {v:Value} (h:PX w B g b q lv ov sv tv md a f ts hs ps cs top) (hg:w.grownBy w2 v.ownBlock) (hi:bAt g b q ov sv tv (hs++ps) i=v.ownBlock) (hne:i ≠ .g):RB w2 g lv ov md sv tv a f :=
 h.rb.same (hg.block g h.rb.lt (fun e=>hne (h.nd i .g g (hi.trans e.symm) rfl)))
theorem PX.last_grown {x:HA} {og cap:Nat} {i:Ix} {v:Value} (h:PX w B g b q lv (.slice (some ⟨og,0,none⟩) (hs.length+1) cap) sv tv md a f ts (hs++[x]) ps cs top) (hg:w.grownBy w2 v.ownBlock) (hi:bAt g b q (.slice (some ⟨og,0,none⟩) (hs.length+1) cap) sv tv (hs++[x]++ps) i=v.ownBlock) (hne:i ≠ .o):∀ j u,(hCells x)[j]?=some u→w2.cell? ⟨og,hs.length*9+j,none⟩=some u∧w2.frozen? ⟨og,hs.length*9+j,none⟩=false:=by
 intro j u hu;obtain⟨h1,h2⟩:=h.last j u hu;have hb:=hg.block og (h.lt .o og rfl).2 (fun e=>hne (h.nd i .o og (hi.trans e.symm) rfl));exact⟨(World.cell?_of_block (a:=⟨og,hs.length*9+j,none⟩) hb).trans h1,(World.frozen?_of_block (a:=⟨og,hs.length*9+j,none⟩) hb).trans h2⟩
theorem al_mid (a0 c:List HA) (x y:HA) (i:Nat):(a0++[y]++c)[i]?=if i=a0.length then some y else (a0++[x]++c)[i]?:=by
 split
 ·next e=>subst e;simp
 ·next e =>
  rw[List.append_assoc,List.append_assoc];rcases Nat.lt_or_ge i a0.length with h|h
  ·rw[List.getElem?_append_left h,List.getElem?_append_left h]
  ·rw[List.getElem?_append_right h,List.getElem?_append_right h];obtain⟨j,hj⟩:∃ j,i-a0.length=j+1:=⟨i-a0.length-1,by omega⟩;rw[hj];rfl
theorem PX.growL {v':Value} {n g' og cap:Nat} {x:HA} (h:PX w B g b q lv (.slice (some ⟨og,0,none⟩) (hs.length+1) cap) sv tv md a f ts (hs++[x]) ps cs top) (hg:w.grownBy w2 x.l.ownBlock) (hI:IR w2 B 3 v' (x.st.l++[n])) (hv':v'.ownBlock=some g') (hgg:x.l.ownBlock=some g'∨g'=w.heap.size) :
  PX (w2.setCell ⟨og,hs.length*9+6,none⟩ v') B g b q lv (.slice (some ⟨og,0,none⟩) (hs.length+1) cap) sv tv md a f ts (hs++[⟨{ x.st with l:=x.st.l++[n] },v',x.m,x.els⟩]) ps cs top∧Below B w (w2.setCell ⟨og,hs.length*9+6,none⟩ v'):=by
 obtain⟨y,hy⟩:∃ y:HA,y=⟨{ x.st with l:=x.st.l++[n] },v',x.m,x.els⟩:=⟨_,rfl⟩;rw[←hy];obtain⟨ov,hov⟩:∃ ov,ov=Value.slice (some ⟨og,0,none⟩) (hs.length+1) cap:=⟨_,rfl⟩;have hob:ov.ownBlock=some og:=(by rw[hov];rfl);have hlast:=h.last;rw[←hov] at h ⊢;have hxn:(hs++[x]++ps)[hs.length]?=some x:=(by simp);have hmid:=al_mid hs ps x y
 have hix:bAt g b q ov sv tv (hs++[x]++ps) (.l hs.length)=x.l.ownBlock:=(by simp only[bAt];rw[hxn];rfl);have t2:Trn (FX (bAt g b q ov sv tv (hs++[x]++ps)) (fun i=>i = .o∨i = .l hs.length)) w w2:=Trn.of_grown hg (fun k hk=>⟨.l hs.length,.inr rfl,hix.trans hk⟩);have t3:Trn (FX (bAt g b q ov sv tv (hs++[x]++ps)) (fun i=>i = .o∨i = .l hs.length)) w (w2.setCell ⟨og,hs.length*9+6,none⟩ v'):=t2.setCell ⟨.o,.inl rfl,hob⟩ _
 have hat:∀ i k,bAt g b q ov sv tv (hs++[y]++ps) i=some k→(i = .l hs.length∧k=g')∨bAt g b q ov sv tv (hs++[x]++ps) i=some k∧i ≠ .l hs.length:=by
  intro i k hk;cases i with
  | g=>exact .inr ⟨hk,by simp⟩
  | b=>exact .inr ⟨hk,by simp⟩
  | q=>exact .inr ⟨hk,by simp⟩
  | o=>exact .inr ⟨hk,by simp⟩
  | s=>exact .inr ⟨hk,by simp⟩
  | t=>exact .inr ⟨hk,by simp⟩
  | l i =>
   simp only[bAt] at hk ⊢;rw[hmid] at hk;by_cases e:i=hs.length
   ·rw[if_pos e] at hk;refine .inl ⟨by rw[e],?_⟩;have hk:y.l.ownBlock=some k:=hk;rw[show y.l=v' by rw[hy]] at hk;rw[hv'] at hk;cases hk;rfl
   ·rw[if_neg e] at hk;exact .inr ⟨hk,by simpa using e⟩
  | m i =>
   simp only[bAt] at hk ⊢;rw[hmid] at hk;refine .inr ⟨?_,by simp⟩;by_cases e:i=hs.length
   ·rw[if_pos e] at hk;have hk:y.m.ownBlock=some k:=hk;rw[show y.m=x.m by rw[hy]] at hk;rw[e,hxn];exact hk
   ·rw[if_neg e] at hk;exact hk
 have hlt:∀ i k,bAt g b q ov sv tv (hs++[x]++ps) i=some k→k<w.heap.size:=fun i k e=>(h.lt i k e).2
 have hgt:g'≠og:=by
  rcases hgg with e|e
  ·intro e2;subst e2;exact absurd (h.nd (.l hs.length) .o _ (hix.trans e) hob) (by simp)
  ·have:=hlt .o og hob;omega
 have hfar:∀ i k,bAt g b q ov sv tv (hs++[y]++ps) i=some k→bAt g b q ov sv tv (hs++[x]++ps) i=some k∨w.heap.size≤k:=by
  intro i k e;rcases hat i k e with ⟨rfl,rfl⟩|e
  ·exact hgg.imp (fun e=>hix.trans e) (fun e=>by omega)
  ·exact .inl e.1
 have hop2:w2.ownsRow B 105 9 ov (hs++[x]).length (hRow (hs++[x])):=World.ownsRow.kept h.op hg (.inr (fun e=>by
  rw[hob] at e;exact absurd (h.nd .o (.l hs.length) og hob (hix.trans e.symm)) (by simp)))
 refine⟨⟨h.rb.trn t3 (h.nd.far (i:=.g) rfl (by simp)),h.tr.trn t3 (h.nd.far (i:=.b) rfl (by simp)),Nat.lt_of_lt_of_le h.blt t3.size,h.q9_trn t3 (by simp),?_,own_trn h.os t3 (fun k hk=>h.nd.far (i:=.s) hk (by simp)),own_trn h.tp t3 (fun k hk=>h.nd.far (i:=.t) hk (by simp)),fun z hz=>?_,fun c hc=>⟨(h.cl c hc).1.trn t3 hfar,(h.cl c hc).2.trn t3 hfar⟩,h.nd.grown (x:=.l hs.length) (g:=g') hlt (hgg.imp (fun e=>hix.trans e) id) hat,h.gB,h.bB,h.qB⟩,h.base t3 h.bsz⟩
 ·rw[hov] at hop2 ⊢;rw[List.length_append] at hop2 ⊢;have:=(own_storeN hop2 (k:=hs.length*9+6) (by show hs.length*9+6<(hs.length+1)*9;omega) v').2.2;rw[hRow_app,List.set_append_right _ _ (by rw[hRow_len];omega),hRow_len,Nat.add_sub_cancel_left] at this;rw[hRow_app,hy];exact this
 ·obtain⟨i,hi⟩:=List.getElem?_of_mem hz;rw[hmid] at hi;by_cases e:i=hs.length
  ·rw[if_pos e] at hi;cases hi
   obtain⟨i1,i2⟩:=h.hl x (by simp);have hnew:IR (w2.setCell ⟨og,hs.length*9+6,none⟩ v') B 3 v' (x.st.l++[n]):=own_trn (F:=only og) hI (Trn.setCell (F:=only og) (Trn.refl _ _) (show og=og from rfl) _) (fun k hk e=>by rw[hv'] at hk;cases hk;exact hgt e);have hold:IR (w2.setCell ⟨og,hs.length*9+6,none⟩ v') B 3 x.m x.st.m:=own_trn i2 t3 (fun k hk=>h.nd.far (i:=.m hs.length) (by simp only[bAt];rw[hxn];exact hk) (by simp));rw[hy];exact⟨hnew,hold⟩
  ·rw[if_neg e] at hi;by_cases e2:True
   ·obtain⟨i1,i2⟩:=h.hl z (List.mem_of_getElem? hi);exact⟨own_trn i1 t3 (fun k hk=>h.nd.far (i:=.l i) (by simp only[bAt];rw[hi];exact hk) (by simp[e])),own_trn i2 t3 (fun k hk=>h.nd.far (i:=.m i) (by simp only[bAt];rw[hi];exact hk) (by simp))⟩
   ·exact absurd trivial e2
theorem PX.growM {v':Value} {n g' og cap:Nat} {x:HA} (h:PX w B g b q lv (.slice (some ⟨og,0,none⟩) (hs.length+1) cap) sv tv md a f ts (hs++[x]) ps cs top) (hg:w.grownBy w2 x.m.ownBlock) (hI:IR w2 B 3 v' (x.st.m++[n])) (hv':v'.ownBlock=some g') (hgg:x.m.ownBlock=some g'∨g'=w.heap.size) :
  PX (w2.setCell ⟨og,hs.length*9+7,none⟩ v') B g b q lv (.slice (some ⟨og,0,none⟩) (hs.length+1) cap) sv tv md a f ts (hs++[⟨{ x.st with m:=x.st.m++[n] },x.l,v',x.els⟩]) ps cs top∧Below B w (w2.setCell ⟨og,hs.length*9+7,none⟩ v'):=by
 obtain⟨y,hy⟩:∃ y:HA,y=⟨{ x.st with m:=x.st.m++[n] },x.l,v',x.els⟩:=⟨_,rfl⟩;rw[←hy];obtain⟨ov,hov⟩:∃ ov,ov=Value.slice (some ⟨og,0,none⟩) (hs.length+1) cap:=⟨_,rfl⟩;have hob:ov.ownBlock=some og:=(by rw[hov];rfl);have hlast:=h.last;rw[←hov] at h ⊢;have hxn:(hs++[x]++ps)[hs.length]?=some x:=(by simp);have hmid:=al_mid hs ps x y
 have hix:bAt g b q ov sv tv (hs++[x]++ps) (.m hs.length)=x.m.ownBlock:=(by simp only[bAt];rw[hxn];rfl);have t2:Trn (FX (bAt g b q ov sv tv (hs++[x]++ps)) (fun i=>i = .o∨i = .m hs.length)) w w2:=Trn.of_grown hg (fun k hk=>⟨.m hs.length,.inr rfl,hix.trans hk⟩);have t3:Trn (FX (bAt g b q ov sv tv (hs++[x]++ps)) (fun i=>i = .o∨i = .m hs.length)) w (w2.setCell ⟨og,hs.length*9+7,none⟩ v'):=t2.setCell ⟨.o,.inl rfl,hob⟩ _
 have hat:∀ i k,bAt g b q ov sv tv (hs++[y]++ps) i=some k→(i = .m hs.length∧k=g')∨bAt g b q ov sv tv (hs++[x]++ps) i=some k∧i ≠ .m hs.length:=by
  intro i k hk;cases i with
  | g=>exact .inr ⟨hk,by simp⟩
  | b=>exact .inr ⟨hk,by simp⟩
  | q=>exact .inr ⟨hk,by simp⟩
  | o=>exact .inr ⟨hk,by simp⟩
  | s=>exact .inr ⟨hk,by simp⟩
  | t=>exact .inr ⟨hk,by simp⟩
  | m i =>
   simp only[bAt] at hk ⊢;rw[hmid] at hk;by_cases e:i=hs.length
   ·rw[if_pos e] at hk;refine .inl ⟨by rw[e],?_⟩;have hk:y.m.ownBlock=some k:=hk;rw[show y.m=v' by rw[hy]] at hk;rw[hv'] at hk;cases hk;rfl
   ·rw[if_neg e] at hk;exact .inr ⟨hk,by simpa using e⟩
  | l i =>
   simp only[bAt] at hk ⊢;rw[hmid] at hk;refine .inr ⟨?_,by simp⟩;by_cases e:i=hs.length
   ·rw[if_pos e] at hk;have hk:y.l.ownBlock=some k:=hk;rw[show y.l=x.l by rw[hy]] at hk;rw[e,hxn];exact hk
   ·rw[if_neg e] at hk;exact hk
 have hlt:∀ i k,bAt g b q ov sv tv (hs++[x]++ps) i=some k→k<w.heap.size:=fun i k e=>(h.lt i k e).2
 have hgt:g'≠og:=by
  rcases hgg with e|e
  ·intro e2;subst e2;exact absurd (h.nd (.m hs.length) .o _ (hix.trans e) hob) (by simp)
  ·have:=hlt .o og hob;omega
 have hfar:∀ i k,bAt g b q ov sv tv (hs++[y]++ps) i=some k→bAt g b q ov sv tv (hs++[x]++ps) i=some k∨w.heap.size≤k:=by
  intro i k e;rcases hat i k e with ⟨rfl,rfl⟩|e
  ·exact hgg.imp (fun e=>hix.trans e) (fun e=>by omega)
  ·exact .inl e.1
 have hop2:w2.ownsRow B 105 9 ov (hs++[x]).length (hRow (hs++[x])):=World.ownsRow.kept h.op hg (.inr (fun e=>by
  rw[hob] at e;exact absurd (h.nd .o (.m hs.length) og hob (hix.trans e.symm)) (by simp)))
 refine⟨⟨h.rb.trn t3 (h.nd.far (i:=.g) rfl (by simp)),h.tr.trn t3 (h.nd.far (i:=.b) rfl (by simp)),Nat.lt_of_lt_of_le h.blt t3.size,h.q9_trn t3 (by simp),?_,own_trn h.os t3 (fun k hk=>h.nd.far (i:=.s) hk (by simp)),own_trn h.tp t3 (fun k hk=>h.nd.far (i:=.t) hk (by simp)),fun z hz=>?_,fun c hc=>⟨(h.cl c hc).1.trn t3 hfar,(h.cl c hc).2.trn t3 hfar⟩,h.nd.grown (x:=.m hs.length) (g:=g') hlt (hgg.imp (fun e=>hix.trans e) id) hat,h.gB,h.bB,h.qB⟩,h.base t3 h.bsz⟩
 ·rw[hov] at hop2 ⊢;rw[List.length_append] at hop2 ⊢;have:=(own_storeN hop2 (k:=hs.length*9+7) (by show hs.length*9+7<(hs.length+1)*9;omega) v').2.2;rw[hRow_app,List.set_append_right _ _ (by rw[hRow_len];omega),hRow_len,Nat.add_sub_cancel_left] at this;rw[hRow_app,hy];exact this
 ·obtain⟨i,hi⟩:=List.getElem?_of_mem hz;rw[hmid] at hi;by_cases e:i=hs.length
  ·rw[if_pos e] at hi;cases hi
   obtain⟨i1,i2⟩:=h.hl x (by simp);have hnew:IR (w2.setCell ⟨og,hs.length*9+7,none⟩ v') B 3 v' (x.st.m++[n]):=own_trn (F:=only og) hI (Trn.setCell (F:=only og) (Trn.refl _ _) (show og=og from rfl) _) (fun k hk e=>by rw[hv'] at hk;cases hk;exact hgt e);have hold:IR (w2.setCell ⟨og,hs.length*9+7,none⟩ v') B 3 x.l x.st.l:=own_trn i1 t3 (fun k hk=>h.nd.far (i:=.l hs.length) (by simp only[bAt];rw[hxn];exact hk) (by simp));rw[hy];exact⟨hold,hnew⟩
  ·rw[if_neg e] at hi;by_cases e2:True
   ·obtain⟨i1,i2⟩:=h.hl z (List.mem_of_getElem? hi);exact⟨own_trn i1 t3 (fun k hk=>h.nd.far (i:=.l i) (by simp only[bAt];rw[hi];exact hk) (by simp)),own_trn i2 t3 (fun k hk=>h.nd.far (i:=.m i) (by simp only[bAt];rw[hi];exact hk) (by simp[e]))⟩
   ·exact absurd trivial e2
end
end Go.Proofs.YtodlhhfcjkjapaaGreatDoor
