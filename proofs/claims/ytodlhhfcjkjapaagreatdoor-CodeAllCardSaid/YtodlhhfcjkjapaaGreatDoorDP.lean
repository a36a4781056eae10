import Derived.Test.YtodlhhfcjkjapaaGreatDoorCA
import Derived.Test.YtodlhhfcjkjapaaGreatDoorPA
namespace Go.Proofs.YtodlhhfcjkjapaaGreatDoor
namespace Cd
open Ps (St)
inductive F where
 | nil
 | cons (i:Nat) (s:St) (l m r:F)
def forest (row:List St):Nat→List Nat→F
 | 0,_=>.nil
 | _+1,[]=>.nil
 | f+1,i :: r=>.cons i (row.getD i Ck.none') (forest row f (row.getD i Ck.none').l) (forest row f (row.getD i Ck.none').m) (forest row f r)
structure Op where
 kind:Nat
 s:List UInt8
 t:List UInt8
 u:List UInt8
 n:Nat
 to:Int
deriving DecidableEq
def isNil:F→Bool
 | .nil=>true
 | _=>false
def size:F→Nat
 | .nil=>0
 | .cons _ s l m r=>(if s.kind=13 then 0 else if s.kind=5∨s.kind=6 then 1+size l+(if isNil m then 0 else 1+size m) else 1)+size r
def find (x:List UInt8):F→Nat→Option Nat
 | .nil,_=>none
 | .cons _ s l m r,k=>if s.kind=13∧s.s=x then some k else
   (find x l (k+1)).orElse fun _=>(find x m (k+2+size l)).orElse fun _=>find x r (k+(if s.kind=13 then 0 else if s.kind=5∨s.kind=6 then 1+size l+(if isNil m then 0 else 1+size m) else 1))
def goes (g:List UInt8→Option Nat) (x:List UInt8):Int:=match g x with
 | some k=>(k:Int)
 | none=>-1
def jump (to:Int):Op:=⟨18,[],[],[],0,to⟩
def ops (g:List UInt8→Option Nat):F→Nat→List Op
 | .nil,_=>[]
 | .cons _ s l m r,k =>
  if s.kind=13 then ops g r k
  else if s.kind=14 then jump (goes g s.s) :: ops g r (k+1)
  else if s.kind=15 then ⟨15,[],[],[],0,goes g s.s⟩ :: ops g r (k+1)
  else if s.kind=6 then ⟨6,[],[],[],s.n,((k+1+size l:Nat):Int)⟩ :: (ops g l (k+1)++ops g r (k+1+size l+(if isNil m then 0 else 1+size m)))
  else if s.kind=5 then (if isNil m then ⟨5,s.s,s.t,[],0,((k+1+size l:Nat):Int)⟩ :: (ops g l (k+1)++ops g r (k+1+size l))
   else ⟨5,s.s,s.t,[],0,((k+2+size l:Nat):Int)⟩ :: (ops g l (k+1)++jump ((k+2+size l+size m:Nat):Int) :: (ops g m (k+2+size l)++ops g r (k+2+size l+size m))))
  else ⟨s.kind,s.s,s.t,s.u,s.n,0⟩ :: ops g r (k+1)
def tree (row:List St) (top:List Nat):F:=forest row (row.length*row.length+row.length+1) top
def opEnd:Op:=⟨19,[],[],[],0,0⟩
def of (row:List St) (top:List Nat):List Op:=ops (fun x=>find x (tree row top) 0) (tree row top) 0++[opEnd]
def source (src:List UInt8):Ps.Res (List Op × Nat):=match Ck.source src with
 | .error e=>.error e
 | .ok p=>.ok (of p.2.1 p.2.2,p.1)
def Fits:F→Prop
 | .nil=>True
 | .cons _ s l m r=>(s.kind≠5→m = .nil)∧(s.kind≠5∧s.kind≠6→l = .nil)∧Fits l∧Fits m∧Fits r
theorem ops_length (g:List UInt8→Option Nat):∀ (f:F) (k:Nat),Fits f→(ops g f k).length=size f
 | .nil,_,_=>rfl
 | .cons _ s l m r,k,⟨h1,h2,hl,hm,hr⟩=>by
  have el:=fun k=>ops_length g l k hl;have em:=fun k=>ops_length g m k hm;have er:=fun k=>ops_length g r k hr;rw[ops,size];by_cases k13:s.kind=13
  ·rw[if_pos k13,if_pos k13,er];omega
  rw[if_neg k13,if_neg k13];by_cases k14:s.kind=14
  ·rw[if_pos k14,if_neg (by omega),List.length_cons,er];omega
  rw[if_neg k14];by_cases k15:s.kind=15
  ·rw[if_pos k15,if_neg (by omega),List.length_cons,er];omega
  rw[if_neg k15];by_cases k6:s.kind=6
  ·have hm0:=h1 (by omega);subst hm0;rw[if_pos k6,if_pos (show s.kind=5∨s.kind=6 from .inr k6),List.length_cons,List.length_append,el,er];simp only[isNil,if_true];omega
  rw[if_neg k6];by_cases k5:s.kind=5
  ·rw[if_pos k5,if_pos (show s.kind=5∨s.kind=6 from .inl k5)];cases hn:isNil m with
   | true=>simp only[if_true,List.length_cons,List.length_append,el,er];omega
   | false=>simp only[Bool.false_eq_true,if_false,List.length_cons,List.length_append,el,em,er];omega
  ·rw[if_neg k5,if_neg (by omega),List.length_cons,er];omega
end Cd
namespace Cd
open Ps (St)
def RowOk (row:List St):Prop:=∀ j s,row[j]?=some s→Ps.SOk j s
structure LOk (N:Nat) (l:List Nat):Prop where
 lt:∀ x ∈ l,x<N
 inc:l.Pairwise (· < ·)
theorem inc_len:∀ (l:List Nat) (a N:Nat),l.Pairwise (· < ·)→(∀ x ∈ l,a≤x∧x<N)→l.length≤N-a
 | [],_,_,_,_=>Nat.zero_le _
 | x :: l,a,N,h,hb=>by
  rw[List.pairwise_cons] at h;have h1:=hb x (List.mem_cons_self ..);have:=inc_len l (x+1) N h.2 (fun y hy=>⟨h.1 y hy,(hb y (List.mem_cons_of_mem _ hy)).2⟩);rw[List.length_cons];omega
theorem LOk.len {N:Nat} {l:List Nat} (h:LOk N l):l.length≤N:=by
 have:=inc_len l 0 N h.inc (fun x hx=>⟨Nat.zero_le _,h.lt x hx⟩);omega
theorem LOk.tail {N i:Nat} {l:List Nat} (h:LOk N (i :: l)):LOk N l:=⟨fun x hx=>h.lt x (List.mem_cons_of_mem _ hx),(List.pairwise_cons.1 h.inc).2⟩
theorem LOk.head {N i:Nat} {l:List Nat} (h:LOk N (i :: l)):i<N:=h.lt i (List.mem_cons_self ..)
theorem LOk.l {i:Nat} {s:St} (h:Ps.SOk i s):LOk i s.l:=⟨h.lb,h.ls⟩
theorem LOk.m {i:Nat} {s:St} (h:Ps.SOk i s):LOk i s.m:=⟨h.mb,h.ms⟩
theorem getD_at {row:List St} {i:Nat} {s:St} (h:row[i]?=some s):row.getD i Ck.none'=s:=by
 rw[List.getD_eq_getElem?_getD,h];rfl
theorem at_of {row:List St} {i:Nat} (h:i<row.length):∃ s,row[i]?=some s:=⟨row[i],List.getElem?_eq_getElem h⟩
theorem square {i N:Nat} (h:i<N):i*i+i+1≤N*N:=by
 have h1:(i+1)*(i+1)≤N*N:=Nat.mul_le_mul h h
 have h2:(i+1)*(i+1)=i*i+2*i+1:=by
  rw[Nat.add_mul,Nat.mul_add,Nat.one_mul,Nat.mul_one];omega
 omega
theorem forest_fuel {row:List St} (hr:RowOk row):∀ (f g N:Nat) (l:List Nat),N≤row.length→LOk N l→N*N+l.length+1≤f→N*N+l.length+1≤g→forest row f l=forest row g l
 | 0,_,_,_,_,_,hf,_=>absurd hf (by omega)
 | _+1,0,_,_,_,_,_,hg=>absurd hg (by omega)
 | f+1,g+1,N,l,hN,hl,hf,hg=>by
  cases l with
  | nil=>rfl
  | cons i r =>
   have hi:=hl.head;obtain⟨s,hs⟩:=at_of (row:=row) (i:=i) (by omega);have hk:=hr i s hs;have hq:=square hi;rw[List.length_cons] at hf hg;have l1:=(LOk.l hk).len;have m1:=(LOk.m hk).len;rw[forest,forest,getD_at hs,forest_fuel hr f g i s.l (by omega) (LOk.l hk) (by omega) (by omega),forest_fuel hr f g i s.m (by omega) (LOk.m hk) (by omega) (by omega),forest_fuel hr f g N r hN hl.tail (by omega) (by omega)]
section
variable {row:List St} {N i:Nat} {l r:List Nat} {s:St}
theorem tree_of (hr:RowOk row) (hN:N≤row.length) (hl:LOk N l) {f:Nat} (hf:N*N+l.length+1≤f):forest row f l=tree row l:=by
 have h1:=Nat.mul_le_mul hN hN;have h2:=hl.len;exact forest_fuel hr _ _ N l hN hl hf (by omega)
theorem tree_nil (row:List St):tree row [] = .nil:=rfl
theorem tree_cons (hr:RowOk row) (hl:LOk row.length (i :: r)) (hs:row[i]?=some s):tree row (i :: r) = .cons i s (tree row s.l) (tree row s.m) (tree row r):=by
 have hk:=hr i s hs;have hi:=hl.head;have hq:=square hi;have l1:=(LOk.l hk).len;have m1:=(LOk.m hk).len;have r1:=hl.len;rw[List.length_cons] at r1;conv=>lhs;unfold tree
 rw[forest,getD_at hs,tree_of hr (N:=i) (by omega) (LOk.l hk) (by omega),tree_of hr (N:=i) (by omega) (LOk.m hk) (by omega),tree_of hr (N:=row.length) yR hl.tail (by omega)]
end
theorem LOk.more {N M:Nat} {l:List Nat} (h:LOk N l) (hN:N≤M):LOk M l:=⟨fun x hx=>Nat.lt_of_lt_of_le (h.lt x hx) hN,h.inc⟩
theorem tree_ind {row:List St} (hr:RowOk row) {p:List Nat→Prop} (h0:p []) (h1:∀ i r s,LOk row.length (i :: r)→row[i]?=some s→p s.l→p s.m→p r→p (i :: r)):∀ (N:Nat) (l:List Nat),N≤row.length→LOk N l→p l
 | N,l,hN,hl=>by
  induction l with
  | nil=>exact h0
  | cons i r ih =>
   have hi:=hl.head;obtain⟨s,hs⟩:=at_of (row:=row) (i:=i) (by omega);have hk:=hr i s hs;exact h1 i r s (hl.more hN) hs (tree_ind hr h0 h1 i s.l (by omega) (LOk.l hk)) (tree_ind hr h0 h1 i s.m (by omega) (LOk.m hk)) (ih hl.tail)
termination_by N=>N
theorem tree_fits {row:List St} (hr:RowOk row) {l:List Nat} (hl:LOk row.length l):Fits (tree row l):=by
 refine tree_ind hr (p:=fun l=>Fits (tree row l)) trivial (fun i r s h1 h2 hl hm hr'=>?_) row.length l yR hl;have hk:=hr i s h2;rw[tree_cons hr h1 h2];refine⟨fun h5=>?_,fun h=>?_,hl,hm,hr'⟩
 ·rw[hk.m5 h5];rfl
 ·rw[hk.l6 h.1 h.2];rfl
theorem tree_isNil {row:List St} (hr:RowOk row) {l:List Nat} (hl:LOk row.length l):isNil (tree row l)=l.isEmpty:=by
 cases l with
 | nil=>rfl
 | cons i r =>
  obtain⟨s,hs⟩:=at_of (row:=row) (i:=i) hl.head;rw[tree_cons hr hl hs];rfl
def nodes:F→List St
 | .nil=>[]
 | .cons _ s l m r=>s :: (nodes l++(nodes m++nodes r))
theorem find_some (x:List UInt8):∀ (f:F) (k:Nat),(find x f k).isSome=(nodes f).any fun s=>s.kind==13 && s.s==x
 | .nil,_=>rfl
 | .cons _ s l m r,k=>by
  rw[find,nodes,List.any_cons,List.any_append,List.any_append];by_cases h:s.kind=13∧s.s=x
  ·rw[if_pos h];simp[h.1,h.2]
  ·rw[if_neg h]
   have hh:(s.kind==13 && s.s==x)=false:=by
    cases hb:(s.kind==13 && s.s==x) with
    | false=>rfl
    | true=>exact absurd (by simpa using hb) h
   rw[hh,Bool.false_or,←find_some x l (k+1),←find_some x m (k+2+size l),←find_some x r (k+(if s.kind=13 then 0 else if s.kind=5∨s.kind=6 then 1+size l+(if isNil m then 0 else 1+size m) else 1))];cases find x l (k+1) with
   | some _=>rfl
   | none =>
    cases find x m (k+2+size l) with
    | some _=>rfl
    | none=>rfl
theorem find_in (x:List UInt8):∀ (f:F) (k j:Nat),Fits f→find x f k=some j→k≤j∧j≤k+size f
 | .nil,_,_,_,h=>by cases h
 | .cons _ s l m r,k,j,⟨h1,h2,hl,hm,hr⟩,h=>by
  rw[find] at h;rw[size];by_cases hx:s.kind=13∧s.s=x
  ·rw[if_pos hx] at h;cases h
   omega
  ·rw[if_neg hx] at h;cases e1:find x l (k+1) with
   | some a =>
    rw[e1] at h;cases h
    have:=find_in x l (k+1) j hl e1;by_cases h56:s.kind=5∨s.kind=6
    ·rw[if_neg (by omega),if_pos h56];omega
    ·have h0:=h2 (by omega);subst h0;cases e1
   | none =>
    rw[e1] at h;cases e2:find x m (k+2+size l) with
    | some a =>
     rw[e2] at h;cases h
     have:=find_in x m (k+2+size l) j hm e2;by_cases h5:s.kind=5
     ·cases hn:isNil m with
      | true =>
       cases m with
       | nil=>cases e2
       | cons _ _ _ _ _=>cases hn
      | false =>
       rw[if_neg (by omega),if_pos (.inl h5),if_neg (by simp)];omega
     ·have h0:=h1 h5;subst h0;cases e2
    | none =>
     rw[e2] at h;have:=find_in x r _ j hr h;omega
end Cd
namespace Cd
open Ps (St lm)
def ids:F→List Nat
 | .nil=>[]
 | .cons i _ l m r=>i :: (ids l++(ids m++ids r))
theorem nodes_ids {row:List St} (hr:RowOk row) {l:List Nat} (hl:LOk row.length l):nodes (tree row l)=(ids (tree row l)).map fun i=>row.getD i Ck.none':=by
 refine tree_ind hr (p:=fun l=>nodes (tree row l)=(ids (tree row l)).map fun i=>row.getD i Ck.none') rfl (fun i r s h1 h2 e1 e2 e3=>?_) row.length l yR hl;rw[tree_cons hr h1 h2,nodes,ids,e1,e2,e3,List.map_cons,List.map_append,List.map_append,getD_at h2]
def kids (row:List St) (i:Nat):List Nat:=lm (row.getD i Ck.none')
theorem ids_perm {row:List St} (hr:RowOk row) {l:List Nat} (hl:LOk row.length l):(ids (tree row l)).Perm (l++(ids (tree row l)).flatMap (kids row)):=by
 refine tree_ind hr (p:=fun l=>(ids (tree row l)).Perm (l++(ids (tree row l)).flatMap (kids row))) (List.Perm.refl _) (fun i r s h1 h2 e1 e2 e3=>?_) row.length l yR hl;rw[tree_cons hr h1 h2,ids];generalize ids (tree row s.l)=A at *;generalize ids (tree row s.m)=B at *;generalize ids (tree row r)=C at *;have hk:kids row i=s.l++s.m:=(by unfold kids;rw[getD_at h2];rfl);rw[List.cons_append,List.flatMap_cons,hk,List.flatMap_append,List.flatMap_append]
 refine List.Perm.cons i ?_;rw[List.perm_iff_count];intro a;have c1:=e1.count_eq a;have c2:=e2.count_eq a;have c3:=e3.count_eq a;simp only[List.count_append] at c1 c2 c3 ⊢;omega
theorem count_flat (g:Nat→List Nat) (j:Nat):∀ X:List Nat,(X.flatMap g).count j=((X.filter fun i=>decide (j ∈ g i)).flatMap g).count j
 | []=>rfl
 | x :: X=>by
  rw[List.flatMap_cons,List.count_append,count_flat g j X,List.filter_cons];by_cases h:j ∈ g x
  ·rw[if_pos (by simpa using h),List.flatMap_cons,List.count_append]
  ·rw[if_neg (by simpa using h),List.count_eq_zero_of_not_mem h,Nat.zero_add]
theorem count_some (g:Nat→List Nat) (j:Nat) {X Y:List Nat} (h:∀ i,j ∈ g i→X.count i=Y.count i):(X.flatMap g).count j=(Y.flatMap g).count j:=by
 rw[count_flat g j X,count_flat g j Y];refine List.Perm.count_eq (List.Perm.flatMap_right g ?_) j;rw[List.perm_iff_count];intro a;by_cases ha:j ∈ g a
 ·rw[List.count_filter (by simpa using ha),List.count_filter (by simpa using ha)];exact h a ha
 ·rw[List.count_eq_zero_of_not_mem (fun e=>ha (by simpa using (List.mem_filter.1 e).2)),List.count_eq_zero_of_not_mem (fun e=>ha (by simpa using (List.mem_filter.1 e).2))]
theorem ids_all {row:List St} {top:List Nat} (hr:RowOk row) (hl:LOk row.length top) (hp:(top++row.flatMap lm).Perm (List.range row.length)):(ids (tree row top)).Perm (List.range row.length):=by
 have hx:=ids_perm hr hl
 have hrow:row.flatMap lm=(List.range row.length).flatMap (kids row):=by
  have e:row=(List.range row.length).map fun i=>row.getD i Ck.none':=by
   apply List.ext_getElem (by simp)
   intro n h1 h2;simp[List.getD_eq_getElem?_getD,List.getElem?_eq_getElem h1]
  conv=>lhs;rw[e]
  rw[List.flatMap_map];rfl
 rw[hrow] at hp
 have below:∀ i j,j ∈ kids row i→j<i∧i<row.length:=fun i j h=>by
  unfold kids at h;by_cases hi:i<row.length
  ·obtain⟨s,hs⟩:=at_of hi;have hk:=hr i s hs;rw[getD_at hs] at h;refine⟨?_,hi⟩;rcases List.mem_append.1 h with h|h
   ·exact hk.lb j h
   ·exact hk.mb j h
  ·rw[List.getD_eq_getElem?_getD,List.getElem?_eq_none (by omega)] at h;cases h
 have key:∀ (n j:Nat),row.length-j≤n→(ids (tree row top)).count j=(List.range row.length).count j:=by
  intro n;induction n with
  | zero =>
   intro j hj;have h1:=hx.count_eq j;have h2:=hp.count_eq j;rw[List.count_append] at h1 h2;rw[h1,←h2,List.count_eq_zero_of_not_mem (l:=(ids (tree row top)).flatMap (kids row)),List.count_eq_zero_of_not_mem (l:=(List.range row.length).flatMap (kids row))]
   iterate 2
    ·intro e;obtain⟨i,_,hi⟩:=List.mem_flatMap.1 e;have:=below i j hi;omega
  | succ n ih =>
   intro j hj;have h1:=hx.count_eq j;have h2:=hp.count_eq j;rw[List.count_append] at h1 h2;rw[h1,←h2,count_some (kids row) j (fun i hi=>ih i (by have:=below i j hi;omega))]
 rw[List.perm_iff_count];exact fun j=>key _ j yR
theorem nodes_all {row:List St} {top:List Nat} (hr:RowOk row) (hl:LOk row.length top) (hp:(top++row.flatMap lm).Perm (List.range row.length)):(nodes (tree row top)).Perm row:=by
 rw[nodes_ids hr hl];have h:=(ids_all hr hl hp).map fun i=>row.getD i Ck.none'
 have e:((List.range row.length).map fun i=>row.getD i Ck.none')=row:=by
  apply List.ext_getElem (by simp)
  intro n h1 h2;simp[List.getD_eq_getElem?_getD,List.getElem?_eq_getElem h2]
 rwa [e] at h
end Cd
namespace Cd
open Ps (St lm)
def goesK (k:Nat):Bool:=k==18 || k==15 || k==5 || k==6
structure OpOk (M p:Nat) (o:Op):Prop where
 lo:0≤o.to
 hi:o.to≤(M:Int)
 no:goesK o.kind=false→o.to=0
 kd:1≤o.kind∧o.kind≤18∧o.kind≠13∧o.kind≠14
 up:o.kind=5∨o.kind=6→(p:Int)<o.to
structure RowG (M k:Nat) (L:List Op):Prop where
 ok:∀ i o,L[i]?=some o→OpOk M (k+i) o
 top:∀ o ∈ L,o.kind=6→o.to≤((k+L.length:Nat):Int)
 pipe:∀ i o,L[i]?=some o→o.kind=6 → ∀ q u,i<q→((k+q:Nat):Int)<o.to→L[q]?=some u→u.kind=3
theorem RowG.nil (M k:Nat):RowG M k []:=⟨fun i o h=>(by cases h),fun o h=>(by cases h),fun i o h=>(by cases h)⟩
theorem RowG.append {M k:Nat} {A B:List Op} (hA:RowG M k A) (hB:RowG M (k+A.length) B):RowG M k (A++B) where
 ok:=fun i o h=>by
  by_cases hi:i<A.length
  ·rw[List.getElem?_append_left hi] at h;exact hA.ok i o h
  ·rw[List.getElem?_append_right (by omega)] at h;have:=hB.ok _ o h
   rwa [show k+A.length+(i-A.length)=k+i by omega] at this
 top:=fun o h h6=>by
  rw[List.length_append];rcases List.mem_append.1 h with h|h
  ·have:=hA.top o h h6;omega
  ·have:=hB.top o h h6;omega
 pipe:=fun i o h h6 q u hq hlt hu=>by
  by_cases hi:i<A.length
  ·rw[List.getElem?_append_left hi] at h;have ht:=hA.top o (List.mem_of_getElem? h) h6;rw[List.getElem?_append_left (by omega)] at hu;exact hA.pipe i o h h6 q u hq hlt hu
  ·rw[List.getElem?_append_right (by omega)] at h;rw[List.getElem?_append_right (by omega)] at hu;exact hB.pipe _ o h h6 (q-A.length) u (by omega) (by rw[show k+A.length+(q-A.length)=k+q by omega];exact hlt) hu
theorem RowG.cons {M k:Nat} {o:Op} {A:List Op} (ho:OpOk M k o) (h6:o.kind≠6) (hA:RowG M (k+1) A):RowG M k (o :: A):=by
 have h1:RowG M k [o]:=⟨fun i u h=>by
   cases i with
   | zero=>cases h;exact ho
   | succ i=>simp at h,
  fun u h hu=>by
   rw[List.mem_singleton] at h;exact absurd (h ▸ hu) h6,
  fun i u h hu=>by
   cases i with
   | zero=>cases h;exact absurd hu h6
   | succ i=>simp at h⟩
 exact RowG.append h1 hA
end Cd
namespace Cd
open Ps (St lm)
theorem label_found {row:List St} {top:List Nat} (hr:RowOk row) (hl:LOk row.length top) (hp:(top++row.flatMap lm).Perm (List.range row.length)) (x:List UInt8) (hx:(Ck.labels row).contains x=true) :
  ∃ j,find x (tree row top) 0=some j∧j≤size (tree row top):=by
 have hn:=nodes_all hr hl hp
 have hs:(find x (tree row top) 0).isSome=true:=by
  rw[find_some,List.any_eq_true];have:x ∈ Ck.labels row:=(by simpa using hx);obtain⟨s,h1,h2⟩:=List.mem_map.1 this;obtain⟨h3,h4⟩:=List.mem_filter.1 h1;exact⟨s,hn.mem_iff.2 h3,by rw[h2];simpa using h4⟩
 cases hf:find x (tree row top) 0 with
 | none=>rw[hf] at hs;cases hs
 | some j =>
  have:=find_in x _ 0 j (tree_fits hr hl) hf;exact⟨j,rfl,by omega⟩
def els:F→Nat
 | .nil=>0
 | .cons _ _ l m r=>(if isNil m then 0 else 1)+els l+els m+els r
def cnt (k:Nat) (l:List St):Nat:=l.countP fun s=>s.kind==k
theorem cnt_append (k:Nat) (a b:List St):cnt k (a++b)=cnt k a+cnt k b:=List.countP_append
theorem cnt_cons (k:Nat) (s:St) (l:List St):cnt k (s :: l)=cnt k l+if s.kind=k then 1 else 0:=by
 unfold cnt;rw[List.countP_cons];by_cases h:s.kind=k <;> simp[h]
theorem size_cnt:∀ f:F,Fits f→size f+cnt 13 (nodes f)=(nodes f).length+els f
 | .nil,_=>rfl
 | .cons _ s l m r,⟨h1,h2,hl,hm,hr⟩=>by
  have el:=size_cnt l hl;have em:=size_cnt m hm;have er:=size_cnt r hr;rw[size,nodes,els,cnt_cons,cnt_append,cnt_append,List.length_cons,List.length_append,List.length_append];by_cases k13:s.kind=13
  ·obtain rfl:=h2 (by omega);obtain rfl:=h1 (by omega);rw[if_pos k13,if_pos k13];simp only[nodes,els,isNil,cnt,List.countP_nil,if_true,List.length_nil] at *;omega
  rw[if_neg k13,if_neg k13];by_cases h56:s.kind=5∨s.kind=6
  ·rw[if_pos h56];cases hn:isNil m with
   | true =>
    have hm0:m = .nil:=by cases m with
     | nil=>rfl
     | cons _ _ _ _ _=>cases hn
    subst hm0;simp only[if_true,nodes,els,cnt,List.countP_nil,List.length_nil] at *;omega
   | false=>simp only[Bool.false_eq_true,if_false];omega
  ·obtain rfl:=h2 (by omega);obtain rfl:=h1 (by omega);rw[if_neg h56];simp only[nodes,els,isNil,cnt,List.countP_nil,if_true,List.length_nil] at *;omega
def hasElse (s:St):Bool:=!s.m.isEmpty
theorem els_nodes {row:List St} (hr:RowOk row) {l:List Nat} (hl:LOk row.length l):els (tree row l)=(nodes (tree row l)).countP hasElse:=by
 refine tree_ind hr (p:=fun l=>els (tree row l)=(nodes (tree row l)).countP hasElse) rfl (fun i r s h1 h2 e1 e2 e3=>?_) row.length l yR hl;have hk:=hr i s h2;have hi:=h1.head;rw[tree_cons hr h1 h2,els,nodes,List.countP_cons,List.countP_append,List.countP_append,e1,e2,e3,tree_isNil hr ((LOk.m hk).more (by omega))];unfold hasElse;cases s.m.isEmpty <;> simp <;> omega
end Cd
namespace Cd
open Ps (St lm)
abbrev MOp:=Op × Option (List UInt8)
def zop (k:Nat):Op:=⟨k,[],[],[],0,0⟩
def wop (s:St):Op:=⟨s.kind,s.s,s.t,s.u,s.n,0⟩
def one (s:St) (L M:Nat→List MOp) (e:Bool) (k:Nat):List MOp :=
 if s.kind=13 then []
 else if s.kind=14 then [(zop 18,some s.s)]
 else if s.kind=15 then [(zop 15,some s.s)]
 else if s.kind=6 then (⟨6,[],[],[],s.n,((k+1+(L (k+1)).length:Nat):Int)⟩,none) :: L (k+1)
 else if s.kind=5 then (if e then (⟨5,s.s,s.t,[],0,((k+1+(L (k+1)).length:Nat):Int)⟩,none) :: L (k+1)
  else (⟨5,s.s,s.t,[],0,((k+2+(L (k+1)).length:Nat):Int)⟩,none) :: (L (k+1)++(jump ((k+2+(L (k+1)).length+(M (k+2+(L (k+1)).length)).length:Nat):Int),none) :: M (k+2+(L (k+1)).length)))
 else [(wop s,none)]
def mops:F→Nat→List MOp
 | .nil,_=>[]
 | .cons _ s l m r,k=>one s (mops l) (mops m) (isNil m) k++mops r (k+(one s (mops l) (mops m) (isNil m) k).length)
abbrev Lb:=List UInt8 × Nat
def lone (s:St) (L M:Nat→List Lb) (sl:Nat) (e:Bool) (k:Nat):List Lb :=
 if s.kind=13 then [(s.s,k)]
 else if s.kind=14∨s.kind=15 then []
 else if s.kind=6 then L (k+1)
 else if s.kind=5 then L (k+1)++(if e then [] else M (k+2+sl))
 else []
def labs:F→Nat→List Lb
 | .nil,_=>[]
 | .cons _ s l m r,k=>lone s (labs l) (labs m) (mops l (k+1)).length (isNil m) k++labs r (k+(one s (mops l) (mops m) (isNil m) k).length)
def fix (g:List UInt8→Int) (o:MOp):Op:=match o.2 with
 | none=>o.1
 | some x=>{ o.1 with to:=g x }
def toP (p:Int) (o:Op):Op:={ o with to:=p }
theorem one_map (g:List UInt8→Option Nat) (s:St) (L M:Nat→List MOp) (e:Bool) (k:Nat):(one s L M e k).map (fix (goes g)) =
  if s.kind=13 then []
  else if s.kind=14 then [jump (goes g s.s)]
  else if s.kind=15 then [⟨15,[],[],[],0,goes g s.s⟩]
  else if s.kind=6 then ⟨6,[],[],[],s.n,((k+1+(L (k+1)).length:Nat):Int)⟩ :: (L (k+1)).map (fix (goes g))
  else if s.kind=5 then (if e then ⟨5,s.s,s.t,[],0,((k+1+(L (k+1)).length:Nat):Int)⟩ :: (L (k+1)).map (fix (goes g))
   else ⟨5,s.s,s.t,[],0,((k+2+(L (k+1)).length:Nat):Int)⟩ :: ((L (k+1)).map (fix (goes g))++jump ((k+2+(L (k+1)).length+(M (k+2+(L (k+1)).length)).length:Nat):Int) :: (M (k+2+(L (k+1)).length)).map (fix (goes g))))
  else [⟨s.kind,s.s,s.t,s.u,s.n,0⟩]:=by
 unfold one;by_cases h13:s.kind=13
 ·rw[if_pos h13,if_pos h13];rfl
 rw[if_neg h13,if_neg h13];by_cases h14:s.kind=14
 ·rw[if_pos h14,if_pos h14];rfl
 rw[if_neg h14,if_neg h14];by_cases h15:s.kind=15
 ·rw[if_pos h15,if_pos h15];rfl
 rw[if_neg h15,if_neg h15];by_cases h6:s.kind=6
 ·rw[if_pos h6,if_pos h6];rfl
 rw[if_neg h6,if_neg h6];by_cases h5:s.kind=5
 ·rw[if_pos h5,if_pos h5];cases e with
  | true=>rfl
  | false =>
   simp only[Bool.false_eq_true,if_false,List.map_cons,List.map_append];rfl
 ·rw[if_neg h5,if_neg h5];rfl
theorem mops_map (g:List UInt8→Option Nat):∀ (f:F) (k:Nat),Fits f→(mops f k).map (fix (goes g))=ops g f k
 | .nil,_,_=>rfl
 | .cons _ s l m r,k,⟨h1,h2,hl,hm,hr⟩=>by
  have el:=fun k=>mops_map g l k hl;have em:=fun k=>mops_map g m k hm;have er:=fun k=>mops_map g r k hr;have nl:∀ k,(mops l k).length=size l:=fun k=>by rw[←ops_length g l k hl,←el k,List.length_map]
  have nm:∀ k,(mops m k).length=size m:=fun k=>by rw[←ops_length g m k hm,←em k,List.length_map]
  have nm':∀ k,(ops g m k).length=size m:=fun k=>ops_length g m k hm;rw[mops,List.map_append,er,one_map,el,em];have hlen:(one s (mops l) (mops m) (isNil m) k).length=((one s (mops l) (mops m) (isNil m) k).map (fix (goes g))).length:=(by rw[List.length_map]);rw[hlen,one_map,ops];by_cases h13:s.kind=13
  ·simp only[if_pos h13];rfl
  by_cases h14:s.kind=14
  ·simp only[if_neg h13,if_pos h14];rfl
  by_cases h15:s.kind=15
  ·simp only[if_neg h13,if_neg h14,if_pos h15];rfl
  by_cases h6:s.kind=6
  ·obtain rfl:=h1 (by omega);simp only[if_neg h13,if_neg h14,if_neg h15,if_pos h6,isNil,if_true,List.cons_append,List.length_cons,List.length_map,nl,Nat.add_zero];rw[show k+(size l+1)=k+1+size l by omega]
  by_cases h5:s.kind=5
  ·simp only[if_neg h13,if_neg h14,if_neg h15,if_neg h6,if_pos h5];cases hn:isNil m with
   | true =>
    simp only[if_true,List.cons_append,List.length_cons,List.length_map,nl];rw[show k+(size l+1)=k+1+size l by omega]
   | false =>
    simp only[Bool.false_eq_true,if_false,List.cons_append,List.append_assoc,List.length_cons,List.length_append,List.length_map,nl,nm,nm',em];rw[show k+(size l+(size m+1)+1)=k+2+size l+size m by omega]
  ·simp only[if_neg h13,if_neg h14,if_neg h15,if_neg h6,if_neg h5];rfl
theorem mops_len {f:F} (hf:Fits f) (k:Nat):(mops f k).length=size f:=by
 rw[←ops_length (fun _=>none) f k hf,←mops_map _ f k hf,List.length_map]
theorem one_len {i:Nat} {s:St} {l m r:F} (hf:Fits (.cons i s l m r)) (k:Nat):(one s (mops l) (mops m) (isNil m) k).length=if s.kind=13 then 0 else if s.kind=5∨s.kind=6 then 1+size l+(if isNil m then 0 else 1+size m) else 1:=by
 have h:=mops_len hf k;have hr:=mops_len hf.2.2.2.2 (k+(one s (mops l) (mops m) (isNil m) k).length);rw[mops,List.length_append,hr,size] at h;omega
theorem labs_names:∀ (f:F) (k:Nat),Fits f→(labs f k).map (·.1)=((nodes f).filter fun s=>s.kind==13).map (·.s)
 | .nil,_,_=>rfl
 | .cons _ s l m r,k,⟨h1,h2,hl,hm,hr⟩=>by
  have el:=fun k=>labs_names l k hl;have em:=fun k=>labs_names m k hm;have er:=fun k=>labs_names r k hr;rw[labs,nodes,List.map_append,er,List.filter_cons,List.filter_append,List.filter_append];unfold lone;by_cases h13:s.kind=13
  ·obtain rfl:=h1 (by omega);obtain rfl:=h2 (by omega);rw[if_pos h13,h13];rfl
  have e13:(s.kind==13)=false:=yB h13;rw[if_neg h13,e13];simp only[Bool.false_eq_true,if_false,List.map_append];by_cases h45:s.kind=14∨s.kind=15
  ·obtain rfl:=h1 (by omega);obtain rfl:=h2 (by omega);rw[if_pos h45];rfl
  rw[if_neg h45];by_cases h6:s.kind=6
  ·obtain rfl:=h1 (by omega);rw[if_pos h6,el];rfl
  rw[if_neg h6];by_cases h5:s.kind=5
  ·rw[if_pos h5,List.map_append,el];cases hn:isNil m with
   | true =>
    have hm0:m = .nil:=by cases m with
     | nil=>rfl
     | cons _ _ _ _ _=>cases hn
    subst hm0;simp[nodes]
   | false =>
    simp only[Bool.false_eq_true,if_false,em,List.append_assoc]
  ·obtain rfl:=h1 h5;obtain rfl:=h2 ⟨h5,h6⟩;rw[if_neg h5];rfl
def first (x:List UInt8) (l:List Lb):Option Nat:=(l.find? fun e=>e.1==x).map (·.2)
theorem first_append (x:List UInt8) (a b:List Lb):first x (a++b)=(first x a).orElse fun _=>first x b:=by
 unfold first
 rw[List.find?_append];cases a.find? fun e=>e.1==x <;> rfl
theorem find_labs (x:List UInt8):∀ (f:F) (k:Nat),Fits f→find x f k=first x (labs f k)
 | .nil,_,_=>rfl
 | .cons i s l m r,k,hf=>by
  have hol:=one_len hf k;obtain⟨h1,h2,hl,hm,hr⟩:=hf;have el:=fun k=>find_labs x l k hl;have em:=fun k=>find_labs x m k hm;have er:=fun k=>find_labs x r k hr;rw[labs,find,first_append,hol,el,em,er,mops_len hl];unfold lone;by_cases h13:s.kind=13
  ·obtain rfl:=h1 (by omega);obtain rfl:=h2 (by omega);simp only[if_pos h13];by_cases hx:s.s=x
   ·rw[if_pos ⟨h13,hx⟩];simp[first,hx]
   ·rw[if_neg (fun h=>hx h.2)];simp[first,hx,labs]
  rw[if_neg (fun h=>h13 h.1)];simp only[if_neg h13];by_cases h45:s.kind=14∨s.kind=15
  ·obtain rfl:=h1 (by omega);obtain rfl:=h2 (by omega);simp only[if_pos h45];rfl
  simp only[if_neg h45];by_cases h6:s.kind=6
  ·obtain rfl:=h1 (by omega);simp only[if_pos h6];cases first x (labs l (k+1)) <;> rfl
  simp only[if_neg h6];by_cases h5:s.kind=5
  ·simp only[if_pos h5];rw[first_append];cases hn:isNil m with
   | true =>
    have hm0:m = .nil:=by cases m with
     | nil=>rfl
     | cons _ _ _ _ _=>cases hn
    subst hm0;cases first x (labs l (k+1)) <;> rfl
   | false =>
    simp only[Bool.false_eq_true,if_false];cases first x (labs l (k+1)) <;> rfl
  ·obtain rfl:=h1 h5;obtain rfl:=h2 ⟨h5,h6⟩;simp only[if_neg h5];rfl
def last (x:List UInt8) (l:List Lb):Nat:=l.foldl (fun a e=>if e.1=x then e.2 else a) 0
theorem last_snoc (x:List UInt8) (l:List Lb) (e:Lb):last x (l++[e])=if e.1=x then e.2 else last x l:=by
 unfold last;rw[List.foldl_append];rfl
theorem foldl_none (x:List UInt8):∀ (l:List Lb) (a:Nat),x ∉ l.map (·.1)→l.foldl (fun a e=>if e.1=x then e.2 else a) a=a
 | [],_,_=>rfl
 | e :: l,a,h=>by
  rw[List.map_cons,List.mem_cons,not_or] at h;rw[List.foldl_cons,if_neg (fun h'=>h.1 h'.symm)];exact foldl_none x l a h.2
theorem last_first (x:List UInt8):∀ (l:List Lb) (a:Nat),(l.map (·.1)).Nodup→l.foldl (fun a e=>if e.1=x then e.2 else a) a=(first x l).getD a
 | [],_,_=>rfl
 | e :: l,a,h=>by
  rw[List.map_cons,List.nodup_cons] at h;rw[List.foldl_cons];by_cases hx:e.1=x
  ·rw[if_pos hx,foldl_none x l _ (by rw[←hx];exact h.1)];simp[first,hx]
  ·rw[if_neg hx,last_first x l a h.2];simp[first,hx]
def pos (x:List UInt8):List MOp→Nat→List Nat
 | [],_=>[]
 | o :: l,k=>(if o.2=some x then [k] else [])++pos x l (k+1)
theorem pos_append (x:List UInt8):∀ (a b:List MOp) (k:Nat),pos x (a++b) k=pos x a k++pos x b (k+a.length)
 | [],_,_=>rfl
 | o :: a,b,k=>by
  rw[List.cons_append,pos,pos,pos_append x a b (k+1),List.append_assoc,List.length_cons,show k+1+a.length=k+(a.length+1) by omega]
theorem pos_plain (x:List UInt8) (a b:List MOp) (o o':Op) (k:Nat):pos x (a++(o,none) :: b) k=pos x (a++(o',none) :: b) k:=by
 rw[pos_append,pos_append];rfl
theorem pos_mem (x:List UInt8):∀ (a:List MOp) (k i:Nat),i ∈ pos x a k ↔ ∃ o,k≤i∧a[i-k]?=some (o,some x)
 | [],k,i=>by simp[pos]
 | (o,y) :: a,k,i=>by
  rw[pos,List.mem_append,pos_mem x a (k+1) i];constructor
  ·rintro(h|⟨o',h1,h2⟩)
   ·by_cases hy:y=some x
    ·rw[if_pos hy] at h;obtain rfl:=List.mem_singleton.1 h;exact⟨o,yR,by rw[Nat.sub_self,hy];rfl⟩
    ·rw[if_neg hy] at h;cases h
   ·refine⟨o',by omega,?_⟩;rw[show i-k=i-(k+1)+1 by omega];exact h2
  ·rintro⟨o',h1,h2⟩;by_cases hi:i=k
   ·subst hi;rw[Nat.sub_self] at h2;have e:(o,y)=(o',some x):=(by simpa using h2);cases e
    left;rw[if_pos rfl];exact List.mem_singleton.2 rfl
   ·refine .inr ⟨o',by omega,?_⟩;rw[show i-k=i-(k+1)+1 by omega] at h2;exact h2
theorem of_mops {src:List UInt8} {md:Nat} {row:List St} {top:List Nat} (h:Ck.source src = .ok (md,row,top)) :
  of row top=(mops (tree row top) 0++[(opEnd,none)]).map (fix fun x=>(last x (labs (tree row top) 0):Int)):=by
 obtain⟨ha,hw⟩:=Ck.source_ok h;obtain⟨_,_,h3,h4,h5,h6⟩:=Ps.all_in ha;have hr:RowOk row:=h3;have hl:LOk row.length top:=⟨h5,h4⟩;have hf:=tree_fits hr hl;have hn:=nodes_all hr hl h6;have hwz:=fun j s hj=>Ck.wrong_zero (Ck.prog_ok hw j s hj)
 have hnd:((labs (tree row top) 0).map (·.1)).Nodup:=by
  rw[labs_names _ _ hf];have hp:(((nodes (tree row top)).filter fun s=>s.kind==13).map (·.s)).Perm (Ck.labels row):=(hn.filter _).map _;rw[hp.nodup_iff]
  have key:∀ n,n≤row.length→(Ck.labels (row.take n)).Nodup:=by
   intro n;induction n with
   | zero=>intro _;rw[List.take_zero];exact List.nodup_nil
   | succ n ih =>
    intro hn1;obtain⟨s,hs⟩:=at_of (row:=row) (i:=n) (by omega);have e:row.take (n+1)=row.take n++[s]:=(by rw[List.take_add_one,hs];rfl);rw[e];unfold Ck.labels;rw[List.filter_append,List.map_append];by_cases h13:s.kind=13
    ·have hne:=(hwz n s hs).2.2.2.1 h13;have h0:=ih (by omega);rw[List.nodup_append];refine⟨h0,by simp[h13],?_⟩;intro a ha b hb;have:b=s.s:=(by simpa [h13] using hb);subst this;rintro rfl;have:(Ck.labels (row.take n)).contains s.s=true:=List.contains_iff_mem.2 ha;rw[this] at hne;cases hne
    ·simp[h13];exact ih (by omega)
  have:=key row.length yR
  rwa [List.take_length] at this
 have hg:∀ x,(Ck.labels row).contains x=true→((last x (labs (tree row top) 0):Nat):Int)=goes (fun x=>find x (tree row top) 0) x:=fun x hx=>by
  obtain⟨j,hj,_⟩:=label_found hr hl h6 x hx;unfold goes;dsimp only;rw[hj];rw[find_labs x _ _ hf] at hj;unfold last;rw[last_first x _ _ hnd,hj];rfl
 unfold of;rw[←mops_map _ _ _ hf,List.map_append];congr 1
 refine List.map_congr_left fun o ho=>?_
 have key:∀ (f:F) (k:Nat),Fits f→(∀ s ∈ nodes f,s.kind=14∨s.kind=15→(Ck.labels row).contains s.s=true) → ∀ o ∈ mops f k,∀ x,o.2=some x→(Ck.labels row).contains x=true:=by
  intro f;induction f with
  | nil=>intro k _ _ o ho;cases ho
  | cons i s l m r il im ir =>
   intro k hf hs o ho x hx;obtain⟨f1,f2,fl,fm,fr⟩:=hf;have kl:=fun k=>il k fl (fun u hu=>hs u (by rw[nodes];simp[hu]));have km:=fun k=>im k fm (fun u hu=>hs u (by rw[nodes];simp[hu]));have kr:=fun k=>ir k fr (fun u hu=>hs u (by rw[nodes];simp[hu]));have ks:=hs s (by rw[nodes];exact List.mem_cons_self ..);rw[mops] at ho;rcases List.mem_append.1 ho with ho|ho
   ·unfold one at ho;by_cases h13:s.kind=13
    ·rw[if_pos h13] at ho;cases ho
    rw[if_neg h13] at ho;by_cases h14:s.kind=14
    ·rw[if_pos h14,List.mem_singleton] at ho;rw[ho] at hx;cases hx
     exact ks (.inl h14)
    rw[if_neg h14] at ho;by_cases h15:s.kind=15
    ·rw[if_pos h15,List.mem_singleton] at ho;rw[ho] at hx;cases hx
     exact ks (.inr h15)
    rw[if_neg h15] at ho;by_cases h6:s.kind=6
    ·rw[if_pos h6] at ho;rcases List.mem_cons.1 ho with rfl|ho
     ·cases hx
     ·exact kl _ o ho x hx
    rw[if_neg h6] at ho;by_cases h5:s.kind=5
    ·rw[if_pos h5] at ho;cases hn:isNil m with
     | true =>
      rw[hn,if_pos rfl] at ho;rcases List.mem_cons.1 ho with rfl|ho
      ·cases hx
      ·exact kl _ o ho x hx
     | false =>
      rw[hn,if_neg (by simp)] at ho;rcases List.mem_cons.1 ho with rfl|ho
      ·cases hx
      ·rcases List.mem_append.1 ho with ho|ho
       ·exact kl _ o ho x hx
       ·rcases List.mem_cons.1 ho with rfl|ho
        ·cases hx
        ·exact km _ o ho x hx
    ·rw[if_neg h5,List.mem_singleton] at ho;rw[ho] at hx;cases hx
   ·exact kr _ o ho x hx
 unfold fix;cases ho2:o.2 with
 | none=>rfl
 | some x =>
  have hc:=key _ 0 hf (fun s hs hk=>by
   obtain⟨j,hj⟩:=List.getElem?_of_mem (hn.mem_iff.1 hs);exact(hwz j s hj).2.2.2.2.1 (hk.symm)) o ho x ho2
  simp only;rw[hg x hc]
end Cd
end Go.Proofs.YtodlhhfcjkjapaaGreatDoor
