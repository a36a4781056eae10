import Init
import Derived.Test.YtodlhhfcjkjapaaGreatDoorPA
import Derived.Test.YtodlhhfcjkjapaaGreatDoorBA
namespace Go.Proofs.YtodlhhfcjkjapaaGreatDoor
namespace Va
def small (c:UInt8):Bool:=decide (97≤c.toNat) && decide (c.toNat≤122)
def digit (c:UInt8):Bool:=decide (48≤c.toNat) && decide (c.toNat≤57)
def inName (c:UInt8):Bool:=small c || digit c || c==95
inductive Pt where
 | b (c:UInt8)
 | n (x:List UInt8)
deriving DecidableEq
def go:Nat→List UInt8→Option (List Pt)
 | 0,_=>some []
 | _+1,[]=>some []
 | f+1,c :: l=>if c=36 then (if l=[] then none
   else if small (l.headD 0)=true then (go f (l.dropWhile inName)).map (Pt.n (l.takeWhile inName) :: ·)
   else if l.headD 0=36 then (go f l.tail).map (Pt.b 36 :: ·) else none)
  else (go f l).map (Pt.b c :: ·)
def parts (l:List UInt8):Option (List Pt):=go l.length l
def names (ps:List Pt):List (List UInt8):=ps.filterMap fun p=>match p with
 | .b _=>none
 | .n x=>some x
theorem drop_len (p:UInt8→Bool) (l:List UInt8):(l.dropWhile p).length≤l.length:=(List.dropWhile_sublist _).length_le
theorem go_fuel:∀ (f g:Nat) (l:List UInt8),l.length≤f→l.length≤g→go f l=go g l
 | 0,g,l,hf,_=>by
  obtain rfl:l=[]:=List.eq_nil_of_length_eq_zero (by omega);cases g <;> rfl
 | f+1,0,l,_,hg=>by
  obtain rfl:l=[]:=List.eq_nil_of_length_eq_zero (by omega);rfl
 | f+1,g+1,l,hf,hg=>by
  cases l with
  | nil=>rfl
  | cons c l =>
   simp only[List.length_cons] at hf hg;rw[go,go];by_cases h1:c=36
   ·rw[if_pos h1,if_pos h1];by_cases h0:l=[]
    ·rw[if_pos h0,if_pos h0]
    ·rw[if_neg h0,if_neg h0]
     have h1l:l.tail.length+1=l.length:=by cases l with
      | nil=>exact absurd rfl h0
      | cons d r=>simp
     by_cases h2:small (l.headD 0)=true
     ·rw[if_pos h2,if_pos h2]
      have hd:(l.dropWhile inName).length+1≤l.length:=by
       cases l with
       | nil=>exact absurd rfl h0
       | cons d r =>
        have hn:inName d=true:=(by simp[inName,show small d=true from h2]);have:=drop_len inName r;rw[List.dropWhile_cons,hn,if_pos rfl,List.length_cons];omega
      rw[go_fuel f g _ (by omega) (by omega)]
     ·rw[if_neg h2,if_neg h2];by_cases h3:l.headD 0=36
      ·rw[if_pos h3,if_pos h3,go_fuel f g l.tail (by omega) (by omega)]
      ·rw[if_neg h3,if_neg h3]
   ·rw[if_neg h1,if_neg h1,go_fuel f g l (by omega) (by omega)]
theorem parts_of {f:Nat} {l:List UInt8} (h:l.length≤f):go f l=parts l:=go_fuel f l.length l h yR
theorem parts_nil:parts []=some []:=rfl
theorem parts_byte {c:UInt8} (h:c≠36) (l:List UInt8):parts (c :: l)=(parts l).map (Pt.b c :: ·):=by
 unfold parts;rw[List.length_cons,go,if_neg h]
theorem parts_end:parts [36]=none:=rfl
theorem parts_two (l:List UInt8):parts (36 :: 36 :: l)=(parts l).map (Pt.b 36 :: ·):=by
 conv=>lhs;unfold parts
 rw[List.length_cons,go,if_pos rfl,if_neg (by simp)];show (if small 36=true then _ else if (36:UInt8)=36 then (go _ l).map _ else none)=_
 rw[if_neg (by decide),if_pos rfl,parts_of (by simp)]
theorem parts_wrong {d:UInt8} (h1:small d=false) (h2:d≠36) (l:List UInt8):parts (36 :: d :: l)=none:=by
 unfold parts;rw[List.length_cons,go,if_pos rfl,if_neg (by simp)];show (if small d=true then _ else if d=36 then (go _ l).map _ else none)=_
 rw[if_neg (by rw[h1];decide),if_neg h2]
theorem parts_take {d:UInt8} (h:small d=true) (r:List UInt8):parts (36 :: d :: r)=(parts ((d :: r).dropWhile inName)).map (Pt.n ((d :: r).takeWhile inName) :: ·):=by
 have hn:inName d=true:=(by simp[inName,h]);have hd:=drop_len inName (d :: r);conv=>lhs;unfold parts
 rw[List.length_cons,go,if_pos rfl,if_neg (by simp)];show (if small d=true then _ else _)=_
 rw[if_pos h,parts_of hd]
theorem parts_bare:∀ (a r:List UInt8),(∀ c ∈ a,c≠36)→parts (a++r)=(parts r).map (a.map Pt.b ++ ·)
 | [],r,_=>by cases h:parts r <;> simp[h]
 | c :: a,r,h=>by
  rw[List.cons_append,parts_byte (h c (by simp)),parts_bare a r (fun x hx=>h x (by simp[hx])),Option.map_map];rfl
abbrev Env:=List (List UInt8 × List UInt8)
def look (σ:Env) (x:List UInt8):Option (List UInt8):=match σ with
 | []=>none
 | (y,v) :: σ=>if y=x then some v else look σ x
def put (σ:Env) (x v:List UInt8):Env:=match σ with
 | []=>[(x,v)]
 | (y,u) :: σ=>if y=x then (y,v) :: σ else (y,u) :: put σ x v
def set (σ:Env) (x v:List UInt8):Env × Nat:=if 1000<v.length then (σ,71) else if look σ x=none∧16≤σ.length then (σ,72) else (put σ x v,0)
def fill (σ:Env):List Pt→Option (List UInt8)
 | []=>some []
 | .b c :: ps=>(fill σ ps).map (c :: ·)
 | .n x :: ps=>(look σ x).bind fun v=>(fill σ ps).map (v ++ ·)
end Va
namespace Ck
open Ps (St)
def none':St:=⟨0,[],[],[],0,0,[],[]⟩
def wPlain:List UInt8:=[112,108,97,105,110]
def wLogin:List UInt8:=[108,111,103,105,110]
def wCram:List UInt8:=[99,114,97,109]
def wApop:List UInt8:=[97,112,111,112]
def modeOk (md:Nat) (row:List St) (s:St):Bool :=
 if s.kind=8 then md==1
 else if s.kind=9 then md==2
 else if s.kind=10∨s.kind=11 then md==3
 else if s.kind=7 then md != 3 && (s.s==wPlain || s.s==wLogin || s.s==wCram || (s.s==wApop && md==2))
 else if s.kind=6 then s.l.all (fun i=>(row.getD i none').kind==3) && md != 3
 else true
def codesOf (s:St):Option (List UInt8) :=
 if s.kind=2∨s.kind=3∨s.kind=4∨s.kind=8∨(s.kind=5∧s.s=Ps.wCode) then some s.t
 else if s.kind=9 then some s.u else none
def textsOf (s:St):List (List UInt8) :=
 if s.kind=3∨s.kind=4∨s.kind=8∨s.kind=16 then [s.s]
 else if s.kind=1∨s.kind=9∨s.kind=10 then [s.t]
 else if s.kind=7 then [s.t,s.u]
 else if s.kind=11 then [s.s,s.t] else []
def isSet (s:St):Bool:=s.kind==1 || s.kind==9 || s.kind==10
def labels (row:List St):List (List UInt8):=(row.filter fun s=>s.kind==13).map (·.s)
def sets (row:List St):List (List UInt8):=(row.filter isSet).map (·.s)
def known (row:List St) (t:List UInt8):Bool:=match Va.parts t with
 | none=>false
 | some ps=>(Va.names ps).all fun n=>(sets row).contains n
def wrong (md:Nat) (row:List St) (i:Nat) (s:St):Nat :=
 if modeOk md row s=false then 30
 else if s.kind=6∧(s.n<1∨8<s.n) then 1
 else if (codesOf s).all (Ln.codes (md:Int))=false then 34
 else if s.kind=13∧(labels (row.take i)).contains s.s=true then 31
 else if (s.kind=15∨s.kind=14)∧(labels row).contains s.s=false then 33
 else if (textsOf s).all (known row)=false then 32 else 0
def progGo (md:Nat) (row:List St):Nat→List St→Nat × Nat
 | _,[]=>(0,0)
 | i,s :: r=>if wrong md row i s=0 then progGo md row (i+1) r else (s.place,wrong md row i s)
def prog (md:Nat) (row:List St):Nat × Nat:=progGo md row 0 row
def source (src:List UInt8):Ps.Res (Nat × List St × List Nat):=match Ps.all src with
 | .error e=>.error e
 | .ok p=>if (prog p.1 p.2.1).2=0 then .ok p else .error (prog p.1 p.2.1)
theorem go_ok {md:Nat} {row:List St}:∀ {r:List St} {i:Nat},(progGo md row i r).2=0 → ∀ j s,r[j]?=some s→wrong md row (i+j) s=0
 | [],_,_,j,s,h=>by cases h
 | t :: r,i,h,j,s,hj=>by
  rw[progGo] at h;by_cases hw:wrong md row i t=0
  ·rw[if_pos hw] at h;cases j with
   | zero =>
    have e:t=s:=(by simpa using hj);rw[←e];exact hw
   | succ j =>
    have:=go_ok h j s (by simpa using hj);rw[show i+(j+1)=i+1+j by omega];exact this
  ·rw[if_neg hw] at h;exact absurd h hw
theorem prog_ok {md:Nat} {row:List St} (h:(prog md row).2=0) (j:Nat) (s:St) (hj:row[j]?=some s):wrong md row j s=0:=by
 have:=go_ok h j s hj
 rwa [Nat.zero_add] at this
theorem source_ok {src:List UInt8} {p:Nat × List St × List Nat} (h:source src = .ok p):Ps.all src = .ok p∧(prog p.1 p.2.1).2=0:=by
 unfold source at h;cases ha:Ps.all src with
 | error e=>rw[ha] at h;cases h
 | ok q =>
  rw[ha] at h;by_cases hp:(prog q.1 q.2.1).2=0
  ·dsimp only at h;rw[if_pos hp] at h;cases h
   exact⟨rfl,hp⟩
  ·dsimp only at h;rw[if_neg hp] at h;cases h
theorem wrong_zero {md:Nat} {row:List St} {i:Nat} {s:St} (h:wrong md row i s=0) :
  modeOk md row s=true∧(s.kind=6→1≤s.n∧s.n≤8)∧(∀ c,codesOf s=some c→Ln.codes (md:Int) c=true)∧(s.kind=13→(labels (row.take i)).contains s.s=false) ∧
   ((s.kind=15∨s.kind=14)→(labels row).contains s.s=true) ∧ ∀ t ∈ textsOf s,known row t=true:=by
 unfold wrong at h;by_cases h1:modeOk md row s=false
 ·rw[if_pos h1] at h;cases h
 rw[if_neg h1] at h;by_cases h2:s.kind=6∧(s.n<1∨8<s.n)
 ·rw[if_pos h2] at h;cases h
 rw[if_neg h2] at h;by_cases h3:(codesOf s).all (Ln.codes (md:Int))=false
 ·rw[if_pos h3] at h;cases h
 rw[if_neg h3] at h;by_cases h4:s.kind=13∧(labels (row.take i)).contains s.s=true
 ·rw[if_pos h4] at h;cases h
 rw[if_neg h4] at h;by_cases h5:(s.kind=15∨s.kind=14)∧(labels row).contains s.s=false
 ·rw[if_pos h5] at h;cases h
 rw[if_neg h5] at h;by_cases h6:(textsOf s).all (known row)=false
 ·rw[if_pos h6] at h;cases h
 refine⟨by simpa using h1,fun e=>by omega,fun c e=>?_,fun e=>?_,fun e=>?_,?_⟩
 ·rw[e] at h3;simpa using h3
 ·cases hc:(labels (row.take i)).contains s.s with
  | false=>rfl
  | true=>exact absurd ⟨e,hc⟩ h4
 ·cases hc:(labels row).contains s.s with
  | true=>rfl
  | false=>exact absurd ⟨e,hc⟩ h5
 ·have h7:(textsOf s).all (known row)=true:=(by simpa using h6);exact fun t ht=>List.all_eq_true.1 h7 t ht
end Ck
namespace Ck
open Ps (St)
abbrev Fenv:=List (List UInt8 × Nat)
def hitF:Fenv→List UInt8→Option (Nat × Nat)
 | [],_=>none
 | (y,p) :: σ,x=>if y=x then some (0,p) else (hitF σ x).map fun q=>(q.1+1,q.2)
def lookF (σ:Fenv) (x:List UInt8):Option Nat:=(hitF σ x).map (·.2)
def addF (q:Nat→Bool) (σ:Fenv) (k:Nat) (s:St):Fenv:=if (lookF σ s.s).isNone && q s.kind then σ++[(s.s,k)] else σ
def fst (q:Nat→Bool) (row:List St):Nat→Fenv
 | 0=>[]
 | k+1=>match row[k]? with
  | none=>fst q row k
  | some s=>addF q (fst q row k) k s
theorem hitF_push (y:List UInt8) (p:Nat) (x:List UInt8):∀ σ:Fenv,hitF (σ++[(y,p)]) x=(hitF σ x).or (if y=x then some (σ.length,p) else none)
 | []=>rfl
 | (z,r) :: σ=>by
  rw[List.cons_append,hitF,hitF];by_cases h:z=x
  ·rw[if_pos h,if_pos h];rfl
  ·rw[if_neg h,if_neg h,hitF_push y p x σ];cases hitF σ x with
   | some a=>rfl
   | none =>
    by_cases e:y=x
    ·rw[if_pos e,if_pos e];rfl
    ·rw[if_neg e,if_neg e];rfl
theorem lookF_push (σ:Fenv) (y:List UInt8) (p:Nat) (x:List UInt8):lookF (σ++[(y,p)]) x=(lookF σ x).or (if y=x then some p else none):=by
 unfold lookF;rw[hitF_push];cases hitF σ x with
 | some a=>rfl
 | none =>
  by_cases e:y=x
  ·rw[if_pos e,if_pos e];rfl
  ·rw[if_neg e,if_neg e];rfl
theorem look_add (q:Nat→Bool) (σ:Fenv) (k:Nat) (s:St) (x:List UInt8):lookF (addF q σ k s) x=(lookF σ x).or (if q s.kind=true∧s.s=x then some k else none):=by
 unfold addF;by_cases hq:q s.kind=true
 ·by_cases hn:(lookF σ s.s).isNone=true
  ·rw[if_pos (by rw[hn,hq];rfl),lookF_push];by_cases e:s.s=x
   ·rw[if_pos e,if_pos ⟨hq,e⟩]
   ·rw[if_neg e,if_neg (fun h=>e h.2)]
  ·rw[if_neg (by intro h;simp at h;exact hn (by simp[h.1]))];by_cases e:s.s=x
   ·rw[e] at hn;cases hh:lookF σ x with
    | none=>rw[hh] at hn;simp at hn
    | some a=>rfl
   ·rw[if_neg (fun h=>e h.2),Option.or_none]
 ·rw[if_neg (by intro h;simp at h;exact hq h.2),if_neg (fun h=>hq h.1),Option.or_none]
theorem look_fst (q:Nat→Bool) (row:List St) (k:Nat) (s:St) (hs:row[k]?=some s) (x:List UInt8):lookF (fst q row (k+1)) x=(lookF (fst q row k) x).or (if q s.kind=true∧s.s=x then some k else none):=by
 rw[fst,hs];exact look_add q _ k s x
def nms (q:Nat→Bool) (row:List St):List (List UInt8):=(row.filter fun s=>q s.kind).map (·.s)
theorem look_some (q:Nat→Bool) (row:List St) (x:List UInt8):∀ k,k≤row.length→(lookF (fst q row k) x).isSome=(nms q (row.take k)).contains x
 | 0,_=>by simp[fst,lookF,hitF,nms]
 | k+1,hk=>by
  obtain⟨s,hs⟩:∃ s,row[k]?=some s:=⟨_,List.getElem?_eq_getElem (by omega)⟩;have ih:=look_some q row x k (by omega);rw[look_fst q row k s hs,List.take_add_one,hs];unfold nms at ih ⊢;rw[List.filter_append,List.map_append,List.contains_append,←ih];by_cases hq:q s.kind=true
  ·by_cases e:s.s=x
   ·rw[if_pos ⟨hq,e⟩];cases lookF (fst q row k) x <;> simp[hq,e]
   ·rw[if_neg (fun h=>e h.2)];cases lookF (fst q row k) x <;> simp[hq,Ne.symm e]
  ·rw[if_neg (fun h=>hq h.1)];cases lookF (fst q row k) x <;> simp[hq]
theorem look_lt (q:Nat→Bool) (row:List St) (x:List UInt8):∀ k,k≤row.length → ∀ i,lookF (fst q row k) x=some i→i<k
 | 0,_,i,h=>by simp[fst,lookF,hitF] at h
 | k+1,hk,i,h=>by
  obtain⟨s,hs⟩:∃ s,row[k]?=some s:=⟨_,List.getElem?_eq_getElem (by omega)⟩;rw[look_fst q row k s hs] at h;cases hl:lookF (fst q row k) x with
  | some j =>
   rw[hl] at h;have:=look_lt q row x k (by omega) j hl;have e:j=i:=(by simpa using h);omega
  | none =>
   rw[hl] at h;by_cases e:q s.kind=true∧s.s=x
   ·rw[if_pos e] at h;have:k=i:=(by simpa using h);omega
   ·rw[if_neg e] at h;simp at h
theorem look_stays (q:Nat→Bool) (row:List St) (x:List UInt8) (k i:Nat) (h:lookF (fst q row k) x=some i):∀ d,k+d≤row.length→lookF (fst q row (k+d)) x=some i
 | 0,_=>h
 | d+1,hd=>by
  obtain⟨s,hs⟩:∃ s,row[k+d]?=some s:=⟨_,List.getElem?_eq_getElem (by omega)⟩;rw[show k+(d+1)=k+d+1 by omega,look_fst q row (k+d) s hs,look_stays q row x k i h d (by omega)];rfl
theorem look_own (q:Nat→Bool) (row:List St) (k:Nat) (s:St) (hs:row[k]?=some s) (hq:q s.kind=true) :
  ∃ i,lookF (fst q row row.length) s.s=some i∧(i=k ↔ (nms q (row.take k)).contains s.s=false)∧i≤k:=by
 have hk:k<row.length:=(yE hs).1;have h1:=look_fst q row k s hs s.s;rw[if_pos ⟨hq,rfl⟩] at h1;have h2:=look_some q row s.s k (by omega);cases hl:lookF (fst q row k) s.s with
 | none =>
  rw[hl] at h1 h2;have h3:=look_stays q row s.s (k+1) k h1 (row.length-(k+1)) (by omega);rw[show k+1+(row.length-(k+1))=row.length by omega] at h3;exact⟨k,h3,⟨fun _=>h2.symm,fun _=>rfl⟩,yR⟩
 | some i =>
  rw[hl] at h1 h2;have h0:=look_lt q row s.s k (by omega) i hl;have h3:=look_stays q row s.s (k+1) i h1 (row.length-(k+1)) (by omega);rw[show k+1+(row.length-(k+1))=row.length by omega] at h3;refine⟨i,h3,⟨fun e=>by omega,fun e=>?_⟩,by omega⟩;rw[←h2] at e;cases e
def kLabel (k:Nat):Bool:=k==13
def kSet (k:Nat):Bool:=k==1 || k==9 || k==10
theorem nms_labels (row:List St):nms kLabel row=labels row:=rfl
theorem nms_sets (row:List St):nms kSet row=sets row:=rfl
def env (q:Nat→Bool) (row:List St):Fenv:=fst q row row.length
theorem env_some (q:Nat→Bool) (row:List St) (x:List UInt8):(lookF (env q row) x).isSome=(nms q row).contains x:=by
 have:=look_some q row x row.length yR
 rwa [List.take_length] at this
end Ck
namespace Ps
open Lx (Tok)
def Sm (s:St):Prop:=s.s.length≤100∧s.t.length≤100∧s.u.length≤100
def Tm (t:Tok):Prop:=t.text.length≤100
theorem next_tm {c:UInt8} {l:List UInt8} {k:Nat} {t r:List UInt8} (h:Lx.next c l = .ok (k,t,r)):t.length≤100:=by
 unfold Lx.next at h;by_cases c1:c=34
 ·rw[if_pos c1] at h;cases hx:Lx.txt l with
  | none=>rw[hx] at h;cases h
  | some p =>
   rw[hx] at h;dsimp only at h;split at h
   ·cases h
   ·cases h;omega
 ·rw[if_neg c1] at h;by_cases c2:Lx.small c=true
  ·rw[if_pos c2] at h;split at h
   ·cases h
   ·cases h;omega
  ·rw[if_neg c2] at h;by_cases c3:Lx.digit c=true
   ·rw[if_pos c3] at h;split at h
    ·cases h
    ·cases h;omega
   ·rw[if_neg c3] at h;split at h
    ·cases h;simp
    ·cases h
theorem go_tm (n:Nat):∀ (f k:Nat) (l:List UInt8) {ts:List Tok},Lx.go n f k l = .ok ts → ∀ t ∈ ts,Tm t
 | 0,k,l,ts,h=>by cases h;intro t ht;rw[List.mem_singleton.1 ht];exact Nat.zero_le _
 | f+1,k,[],ts,h=>by cases h;intro t ht;rw[List.mem_singleton.1 ht];exact Nat.zero_le _
 | f+1,k,c :: l,ts,h=>by
  rw[Lx.go] at h;cases hx:Lx.next c l with
  | error x=>rw[hx] at h;cases h
  | ok x =>
   obtain⟨kd,t,r⟩:=x;rw[hx] at h;dsimp only at h;split at h
   ·cases h
   ·split at h
    ·cases h
    ·next hg =>
     cases h
     intro u hu;rcases List.mem_cons.1 hu with rfl|hu
     ·exact next_tm hx
     ·exact go_tm n f (k+1) _ hg u hu
theorem lex_tm {l:List UInt8} {ts:List Tok} (h:Lx.all l = .ok ts):∀ t ∈ ts,Tm t:=by
 unfold Lx.all at h;split at h
 ·cases h
 ·exact go_tm _ _ _ _ h
theorem words_tm:∀ (xs:List W) (ts:List Tok) {ws:List (List UInt8)} {n:Nat} {r:List Tok},words xs ts = .ok (ws,n,r)→(∀ t ∈ ts,Tm t)→(∀ w ∈ ws,w.length≤100) ∧ ∀ t ∈ r,Tm t
  | [],ts,ws,n,r,h,ht=>by
    rw[words] at h;cases h
    exact⟨fun w hw=>(by cases hw),ht⟩
  | x :: xs,[],ws,n,r,h,ht=>by rw[words] at h;cases h
  | x :: xs,t :: ts,ws,n,r,h,ht=>by
    rw[words] at h;split at h
    · cases hw:words xs ts with
      | error e=>rw[hw] at h;cases h
      | ok y =>
        obtain⟨ws',n',r'⟩:=y;rw[hw] at h;cases h
        obtain⟨h1,h2⟩:=words_tm xs ts hw (fun u hu=>ht u (List.mem_cons_of_mem _ hu));have h0:=ht t (List.mem_cons_self ..);refine⟨fun w hw=>?_,h2⟩;cases x with
        | n => rcases List.mem_cons.1 hw with rfl | hw
               · exact h0
               · exact h1 w hw
        | t => rcases List.mem_cons.1 hw with rfl | hw
               · exact h0
               · exact h1 w hw
        | w => rcases List.mem_cons.1 hw with rfl | hw
               · exact h0
               · exact h1 w hw
        | i=>exact h1 w hw
        | s c=>exact h1 w hw
    · cases h
theorem getD_tm {ws:List (List UInt8)} (h:∀ w ∈ ws,w.length≤100) (i:Nat):(ws.getD i []).length≤100:=by
 rw[List.getD_eq_getElem?_getD];cases hw:ws[i]? with
 | none=>exact Nat.zero_le _
 | some w=>exact h w (List.mem_of_getElem? hw)
theorem mk_sm (k p:Nat) {ws:List (List UInt8)} (n:Nat) (l m:List Nat) (h:∀ w ∈ ws,w.length≤100):Sm (mk k p ws n l m):=by
 unfold mk;split
 ·exact⟨Nat.zero_le _,getD_tm h 0,getD_tm h 2⟩
 ·exact⟨getD_tm h 0,getD_tm h 1,getD_tm h 2⟩
def AllSm (row:List St):Prop:=∀ s ∈ row,Sm s
theorem AllSm.snoc {row:List St} {s:St} (h:AllSm row) (hs:Sm s):AllSm (row++[s]):=by
 intro u hu;rcases List.mem_append.1 hu with hu|hu
 ·exact h u hu
 ·rw[List.mem_singleton.1 hu];exact hs
def AllTm (ts:List Tok):Prop:=∀ t ∈ ts,Tm t
theorem sm_all:∀ f,(∀ d row ts i row' r,one f d row ts = .ok (i,row',r)→AllSm row→AllTm ts→AllSm row'∧AllTm r)∧(∀ d row ts l row' r,block f d row ts = .ok (l,row',r)→AllSm row→AllTm ts→AllSm row'∧AllTm r)∧(∀ d row ts l row' r,many f d row ts = .ok (l,row',r)→AllSm row→AllTm ts→AllSm row'∧AllTm r)
 | 0=>⟨fun d row ts i row' r h=>(by rw[one] at h;cases h),fun d row ts l row' r h=>(by rw[block] at h;cases h),fun d row ts l row' r h=>(by rw[many] at h;cases h)⟩
 | f+1=>by
  obtain⟨i1,i2,i3⟩:=sm_all f;refine⟨fun d row ts i row' r h hr ht=>?_,fun d row ts l row' r h hr ht=>?_,fun d row ts l row' r h hr ht=>?_⟩
  ·cases ts with
   | nil=>rw[one] at h;cases h
   | cons t ts =>
    rw[one] at h;split at h
    ·cases hw:words (shape (kindOf t.text)) ts with
     | error e=>rw[hw] at h;cases h
     | ok x =>
      obtain⟨ws,n,q⟩:=x;rw[hw] at h;dsimp only at h;obtain⟨g1,g2⟩:=words_tm _ _ hw (fun u hu=>ht u (List.mem_cons_of_mem _ hu));split at h
      ·cases hb:block f d row q with
       | error e=>rw[hb] at h;cases h
       | ok y =>
        obtain⟨l,row1,r1⟩:=y;rw[hb] at h;dsimp only at h;obtain⟨g3,g4⟩:=i2 _ _ _ _ _ _ hb hr g2;split at h
        ·cases hb2:block f d row1 r1.tail with
         | error e=>rw[hb2] at h;cases h
         | ok z =>
          obtain⟨m,row2,r2⟩:=z;rw[hb2] at h;cases h
          obtain⟨g5,g6⟩:=i2 _ _ _ _ _ _ hb2 g3 (fun u hu=>g4 u (List.mem_of_mem_tail hu));exact⟨g5.snoc (mk_sm _ _ _ _ _ g1),g6⟩
        ·cases h
         exact⟨g3.snoc (mk_sm _ _ _ _ _ g1),g4⟩
      ·cases h
       exact⟨hr.snoc (mk_sm _ _ _ _ _ g1),g2⟩
    ·cases h
  ·cases ts with
   | nil=>rw[block] at h;cases h
   | cons t ts =>
    rw[block] at h;split at h
    ·split at h
     ·cases h
     ·exact i3 _ _ _ _ _ _ h hr (fun u hu=>ht u (List.mem_cons_of_mem _ hu))
    ·cases h
  ·cases ts with
   | nil=>rw[many] at h;cases h
   | cons t ts =>
    rw[many] at h;split at h
    ·cases h
     exact⟨hr,fun u hu=>ht u (List.mem_cons_of_mem _ hu)⟩
    ·cases ho:one f d row (t :: ts) with
     | error e=>rw[ho] at h;cases h
     | ok x =>
      obtain⟨i,row1,r1⟩:=x;rw[ho] at h;dsimp only at h;obtain⟨g1,g2⟩:=i1 _ _ _ _ _ _ ho hr ht;cases hm:many f d row1 r1 with
      | error e=>rw[hm] at h;cases h
      | ok y =>
       obtain⟨l',row2,r2⟩:=y;rw[hm] at h;cases h
       exact i3 _ _ _ _ _ _ hm g1 g2
theorem sm_tops:∀ f row ts l row',tops f row ts = .ok (l,row')→AllSm row→AllTm ts→AllSm row'
 | 0,row,ts,l,row',h,_,_=>by rw[tops] at h;cases h
 | f+1,row,[],l,row',h,_,_=>by rw[tops] at h;cases h
 | f+1,row,t :: ts,l,row',h,hr,ht=>by
  rw[tops] at h;split at h
  ·cases h
   exact hr
  ·cases ho:one f 0 row (t :: ts) with
   | error e=>rw[ho] at h;cases h
   | ok x =>
    obtain⟨i,row1,r1⟩:=x;rw[ho] at h;dsimp only at h;cases hm:tops f row1 r1 with
    | error e=>rw[hm] at h;cases h
    | ok y =>
     obtain⟨l',row2⟩:=y;rw[hm] at h;cases h
     obtain⟨g1,g2⟩:=(sm_all f).1 _ _ _ _ _ _ ho hr ht;exact sm_tops f _ _ _ _ hm g1 g2
theorem head_sub {ts:List Tok} {md:Nat} {r:List Tok} (h:head ts = .ok (md,r)) (ht:AllTm ts):AllTm r:=by
 unfold head at h;split at h
 ·split at h
  ·split at h
   ·split at h
    ·split at h
     ·split at h
      ·cases h
       exact fun u hu=>ht u (List.mem_cons_of_mem _ (List.mem_cons_of_mem _ (List.mem_cons_of_mem _ hu)))
      ·cases h
     ·cases h
    ·cases h
   ·cases h
  ·cases h
 ·cases h
theorem all_sm {src:List UInt8} {md:Nat} {row:List St} {top:List Nat} (h:all src = .ok (md,row,top)):AllSm row:=by
 unfold all at h;cases hl:Lx.all src with
 | error e=>rw[hl] at h;cases h
 | ok ts =>
  rw[hl] at h;dsimp only at h;unfold prog at h;cases hh:head ts with
  | error e=>rw[hh] at h;cases h
  | ok x =>
   obtain⟨md',r⟩:=x;rw[hh] at h;dsimp only at h;cases ht:tops (fuel r.length) [] r with
   | error e=>rw[ht] at h;cases h
   | ok y =>
    obtain⟨l,row'⟩:=y;rw[ht] at h;dsimp only at h;split at h
    ·cases h
    ·cases h
     exact sm_tops _ _ _ _ _ ht (fun s hs=>(by cases hs)) (head_sub hh (lex_tm hl))
structure Neat (row:List St):Prop where
 few:row.length≤100
 sm:AllSm row
 ll:∀ st ∈ row,st.l.length≤100
 lb:∀ st ∈ row,∀ x ∈ st.l,x<row.length
theorem all_neat {src:List UInt8} {md:Nat} {row:List St} {top:List Nat} (h:all src = .ok (md,row,top)):Neat row:=by
 obtain⟨_,h2,h3,_,_,h6⟩:=all_in h;refine⟨h2,all_sm h,fun st hst=>?_,fun st hst x hx=>?_⟩
 ·have hl:=h6.length_eq;rw[List.length_append,List.length_range] at hl;obtain⟨a,b,rfl⟩:=List.append_of_mem hst;rw[List.flatMap_append,List.flatMap_cons,List.length_append,List.length_append] at hl;unfold lm at hl;rw[List.length_append] at hl;omega
 ·obtain⟨j,hj⟩:=List.mem_iff_getElem?.1 hst;have:=(h3 j st hj).lb x hx;have:=(yE hj).1;omega
theorem Neat.nil:Neat []:=⟨by simp,fun s hs=>(by cases hs),fun s hs=>(by cases hs),fun s hs=>(by cases hs)⟩
end Ps
namespace Ck
open Ps (St)
def r1 (md:Nat) (row:List St) (st:St):Bool:=!modeOk md row st
def r2 (st:St):Bool:=decide (st.kind=6∧(st.n<1∨8<st.n))
def r3 (md:Nat) (st:St):Bool:=!(codesOf st).all (Ln.codes (md:Int))
def r4 (row:List St) (k:Nat) (st:St):Bool:=decide (st.kind=13∧(labels (row.take k)).contains st.s=true)
def r5 (row:List St) (st:St):Bool:=decide ((st.kind=15∨st.kind=14)∧(labels row).contains st.s=false)
def r6 (row:List St) (st:St):Bool:=!(textsOf st).all (known row)
theorem wrong_rules (md:Nat) (row:List St) (k:Nat) (st:St):wrong md row k st =
  if r1 md row st=true then 30 else if r2 st=true then 1 else if r3 md st=true then 34 else if r4 row k st=true then 31 else if r5 row st=true then 33 else if r6 row st=true then 32 else 0:=by
 unfold wrong r1 r2 r3 r4 r5 r6;simp only[Bool.not_eq_true',decide_eq_true_eq]
theorem go_hit {md:Nat} {row:List St} {k:Nat} {st:St} (h:prog md row=progGo md row k (row.drop k)) (hk:row[k]?=some st) (hw:wrong md row k st≠0):prog md row=(st.place,wrong md row k st):=by
 obtain⟨hl,he⟩:=yE hk;rw[h,List.drop_eq_getElem_cons hl,he,progGo,if_neg hw]
theorem go_next {md:Nat} {row:List St} {k:Nat} {st:St} (h:prog md row=progGo md row k (row.drop k)) (hk:row[k]?=some st) (hw:wrong md row k st=0):prog md row=progGo md row (k+1) (row.drop (k+1)):=by
 obtain⟨hl,he⟩:=yE hk;rw[h,List.drop_eq_getElem_cons hl,he,progGo,if_pos hw]
theorem go_end {md:Nat} {row:List St} {k:Nat} (h:prog md row=progGo md row k (row.drop k)) (hk:row.length≤k):prog md row=(0,0):=by
 rw[h,List.drop_eq_nil_of_le hk,progGo]
theorem wrong_of {md:Nat} {row:List St} {k:Nat} {st:St} :
  (r1 md row st=true→wrong md row k st=30)∧(r1 md row st=false→r2 st=true→wrong md row k st=1)∧(r1 md row st=false→r2 st=false→r3 md st=true→wrong md row k st=34) ∧
  (r1 md row st=false→r2 st=false→r3 md st=false→r4 row k st=true→wrong md row k st=31)∧(r1 md row st=false→r2 st=false→r3 md st=false→r4 row k st=false→r5 row st=true→wrong md row k st=33) ∧
  (r1 md row st=false→r2 st=false→r3 md st=false→r4 row k st=false→r5 row st=false→r6 row st=true→wrong md row k st=32) ∧
  (r1 md row st=false→r2 st=false→r3 md st=false→r4 row k st=false→r5 row st=false→r6 row st=false→wrong md row k st=0):=by
 rw[wrong_rules];refine⟨fun a=>?_,fun a b=>?_,fun a b c=>?_,fun a b c d=>?_,fun a b c d e=>?_,fun a b c d e f=>?_,fun a b c d e f=>?_⟩
 ·simp[a]
 ·simp[a,b]
 ·simp[a,b,c]
 ·simp[a,b,c,d]
 ·simp[a,b,c,d,e]
 ·simp[a,b,c,d,e,f]
 ·simp[a,b,c,d,e,f]
theorem source_cases (src:List UInt8):(∃ p c,Ps.all src = .error (p,c)∧source src = .error (p,c)) ∨
  ∃ md row top,Ps.all src = .ok (md,row,top)∧(((prog md row).2=0∧source src = .ok (md,row,top))∨((prog md row).2≠0∧source src = .error (prog md row))):=by
 unfold source;cases ha:Ps.all src with
 | error e=>exact .inl ⟨e.1,e.2,rfl,rfl⟩
 | ok q =>
  obtain⟨md,row,top⟩:=q;refine .inr ⟨md,row,top,rfl,?_⟩;by_cases hp:(prog md row).2=0
  ·exact .inl ⟨hp,if_pos hp⟩
  ·exact .inr ⟨hp,if_neg hp⟩
end Ck
end Go.Proofs.YtodlhhfcjkjapaaGreatDoor
