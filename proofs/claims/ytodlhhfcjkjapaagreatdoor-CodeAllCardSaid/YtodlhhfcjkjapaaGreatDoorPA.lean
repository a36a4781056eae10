import Init
namespace Go.Proofs.YtodlhhfcjkjapaaGreatDoor
namespace Lx
structure Tok where
 kind:Nat
 text:List UInt8
 place:Nat
deriving DecidableEq,Repr
def small (c:UInt8):Bool:=decide (97≤c.toNat) && decide (c.toNat≤122)
def digit (c:UInt8):Bool:=decide (48≤c.toNat) && decide (c.toNat≤57)
def inName (c:UInt8):Bool:=small c || digit c || c==95
def blank (c:UInt8):Bool:=c==32 || c==9 || c==10 || c==13
def sign (c:UInt8):Bool:=c==123 || c==125 || c==59 || c==61
def skip:Bool→List UInt8→List UInt8
 | _,[]=>[]
 | true,c :: l=>if c=10 then skip false l else skip true l
 | false,c :: l=>if c=35 then skip true l else if blank c=true then skip false l else c :: l
def turned (c:UInt8):Option UInt8:=if c=92 then some 92 else if c=34 then some 34 else if c=110 then some 10 else if c=114 then some 13 else if c=116 then some 9 else none
def txt:List UInt8→Option (List UInt8 × List UInt8)
 | []=>none
 | c :: l=>if c=34 then some ([],l) else if c.toNat<32∨126<c.toNat then none else
  if c=92 then (match l with
   | []=>none
   | e :: l=>match turned e with
    | none=>none
    | some t=>(txt l).map fun p=>(t :: p.1,p.2))
  else (txt l).map fun p=>(c :: p.1,p.2)
def next (c:UInt8) (l:List UInt8):Except Nat (Nat × List UInt8 × List UInt8) :=
  if c=34 then (match txt l with
   | none=>.error 11
   | some (t,r)=>if 100<t.length then .error 11 else .ok (3,t,r))
  else if small c=true then
   (if 12<((c :: l).takeWhile inName).length then .error 13 else .ok (1,(c :: l).takeWhile inName,(c :: l).dropWhile inName))
  else if digit c=true then
   (if 9<((c :: l).takeWhile digit).length then .error 12 else .ok (2,(c :: l).takeWhile digit,(c :: l).dropWhile digit))
  else if sign c=true then .ok (4,[c],l)
  else .error 10
theorem txt_len:∀ (l:List UInt8) {t r:List UInt8},txt l=some (t,r)→r.length<l.length∧t.length+r.length<l.length
 | [],_,_,h=>by cases h
 | c :: l,t,r,h=>by
  unfold txt at h;split at h
  ·cases h;simp
  ·split at h
   ·cases h
   ·split at h
    ·split at h
     ·cases h
     ·rename_i e l
      split at h
      ·cases h
      ·rename_i q hq
       cases hx:txt l with
       | none=>rw[hx] at h;cases h
       | some p =>
        rw[hx] at h;cases h
        have:=txt_len l (t:=p.1) (r:=p.2) (by rw[hx]);simp only[List.length_cons];omega
    ·cases hx:txt l with
     | none=>rw[hx] at h;cases h
     | some p =>
      rw[hx] at h;cases h
      have:=txt_len l (t:=p.1) (r:=p.2) (by rw[hx]);simp only[List.length_cons];omega
theorem next_len {c:UInt8} {l:List UInt8} {k:Nat} {t r:List UInt8} (h:next c l = .ok (k,t,r)):r.length≤l.length:=by
 unfold next at h;by_cases c1:c=34
 ·rw[if_pos c1] at h;cases hx:txt l with
  | none=>rw[hx] at h;cases h
  | some p =>
   rw[hx] at h;dsimp only at h;by_cases hb:100<p.1.length
   ·rw[if_pos hb] at h;cases h
   ·rw[if_neg hb] at h;cases h
    exact Nat.le_of_lt (txt_len l hx).1
 ·rw[if_neg c1] at h;by_cases c2:small c=true
  ·rw[if_pos c2] at h;by_cases hb:12<((c :: l).takeWhile inName).length
   ·rw[if_pos hb] at h;cases h
   ·rw[if_neg hb] at h;cases h
    have:inName c=true:=(by simp[inName,c2]);rw[List.dropWhile_cons,this,if_pos rfl];exact List.Sublist.length_le (List.dropWhile_sublist _)
  ·rw[if_neg c2] at h;by_cases c3:digit c=true
   ·rw[if_pos c3] at h;by_cases hb:9<((c :: l).takeWhile digit).length
    ·rw[if_pos hb] at h;cases h
    ·rw[if_neg hb] at h;cases h
     rw[List.dropWhile_cons,c3,if_pos rfl];exact List.Sublist.length_le (List.dropWhile_sublist _)
   ·rw[if_neg c3] at h;by_cases c4:sign c=true
    ·rw[if_pos c4] at h;cases h;exact Nat.le_refl _
    ·rw[if_neg c4] at h;cases h
def go (n:Nat):Nat→Nat→List UInt8→Except (Nat × Nat) (List Tok)
 | 0,_,_=>.ok [⟨0,[],n⟩]
 | f+1,k,l=>match l with
  | []=>.ok [⟨0,[],n⟩]
  | c :: l'=>match next c l' with
   | .error e=>.error (n-(c :: l').length,e)
   | .ok (kd,t,r)=>if 400≤k then .error (0,4) else
    (match go n f (k+1) (skip false r) with
    | .error x=>.error x
    | .ok ts=>.ok (⟨kd,t,n-(c :: l').length⟩ :: ts))
def all (l:List UInt8):Except (Nat × Nat) (List Tok):=if 2000<l.length then .error (0,4) else go l.length l.length 0 (skip false l)
theorem skip_len:∀ (b:Bool) (l:List UInt8),(skip b l).length≤l.length
 | _,[]=>by simp[skip]
 | true,c :: l=>by
  unfold skip;split
  ·have:=skip_len false l;simp only[List.length_cons];omega
  ·have:=skip_len true l;simp only[List.length_cons];omega
 | false,c :: l=>by
  unfold skip;split
  ·have:=skip_len true l;simp only[List.length_cons];omega
  ·split
   ·have:=skip_len false l;simp only[List.length_cons];omega
   ·exact Nat.le_refl _
theorem go_fuel (n:Nat):∀ (f g k:Nat) (l:List UInt8),l.length≤f→l.length≤g→go n f k l=go n g k l
 | 0,g,k,l,hf,hg=>by
  obtain rfl:l=[]:=List.eq_nil_of_length_eq_zero (by omega);cases g <;> rfl
 | f+1,0,k,l,hf,hg=>by
  obtain rfl:l=[]:=List.eq_nil_of_length_eq_zero (by omega);rfl
 | f+1,g+1,k,l,hf,hg=>by
  cases l with
  | nil=>rfl
  | cons c l =>
   rw[go,go];cases hn:next c l with
   | error e=>rfl
   | ok x =>
    obtain⟨kd,t,r⟩:=x;have h1:=next_len hn;have h2:=skip_len false r;dsimp only;rw[go_fuel n f g (k+1) (skip false r) (by simp only[List.length_cons] at hf;omega) (by simp only[List.length_cons] at hg;omega)]
theorem skip_remark:∀ (g:List UInt8),(∀ c ∈ g,c≠10) → ∀ s,skip true (g++10 :: s)=skip false s
 | [],_,s=>by rw[List.nil_append,skip,if_pos rfl]
 | c :: g,h,s=>by
  rw[List.cons_append,skip,if_neg (h c (by simp))];exact skip_remark g (fun x hx=>h x (by simp[hx])) s
theorem go_ne {n:Nat}:∀ {f k:Nat} {l:List UInt8} {ts:List Tok},go n f k l = .ok ts→ts≠[]
 | 0,k,l,ts,h=>by cases h;simp
 | f+1,k,[],ts,h=>by cases h;simp
 | f+1,k,c :: l,ts,h=>by
  rw[go] at h;cases hy:next c l with
  | error e=>rw[hy] at h;cases h
  | ok y =>
   rw[hy] at h;dsimp only at h;split at h
   ·cases h
   ·split at h
    ·cases h
    ·cases h;simp
theorem go_count (n d:Nat):∀ (f j:Nat) (l:List UInt8) {ts:List Tok},go n f j l = .ok ts→go n f (j+d) l=if ts.length=1∨j+d+(ts.length-1)≤400 then .ok ts else .error (0,4)
 | 0,j,l,ts,h=>by cases h;rfl
 | f+1,j,[],ts,h=>by cases h;rfl
 | f+1,j,c :: l,ts,h=>by
  rw[go] at h ⊢;cases hx:next c l with
  | error e=>rw[hx] at h;cases h
  | ok x =>
   obtain⟨kd,q,r⟩:=x;rw[hx] at h;dsimp only at h ⊢;by_cases hk:400≤j
   ·rw[if_pos hk] at h;cases h
   ·rw[if_neg hk] at h;cases hg:go n f (j+1) (skip false r) with
    | error x=>rw[hg] at h;cases h
    | ok ts' =>
     rw[hg] at h;cases h
     have hne:=go_ne hg;obtain⟨a,ts'',rfl⟩:=List.exists_cons_of_ne_nil hne;have ih:=go_count n d f (j+1) (skip false r) hg;rw[show j+1+d=j+d+1 by omega] at ih;rw[ih];simp only[List.length_cons] at *;by_cases hd:400≤j+d
     ·rw[if_pos hd,if_neg (by omega)]
     ·rw[if_neg hd];by_cases hc:ts''.length+1=1∨j+d+1+(ts''.length+1-1)≤400
      ·rw[if_pos hc,if_pos (by omega)]
      ·rw[if_neg hc,if_neg (by omega)]
def word (n m:Nat):List UInt8:=List.replicate n 97++61 :: List.replicate m 55
end Lx
namespace Lx
def pl (c:UInt8):Bool:=decide (32≤c.toNat) && decide (c.toNat≤126)
def stand (c:UInt8) (r:List UInt8):UInt8 × Nat :=
 if c=92 then (match r with
  | []=>(0,0)
  | e :: _=>match turned e with
   | some t=>(t,2)
   | none=>(0,0))
 else if pl c=true then (c,1) else (0,0)
theorem txt_step (c:UInt8) (r:List UInt8) (h34:¬ c=34):txt (c :: r)=if (stand c r).2=0 then none else (txt ((c :: r).drop (stand c r).2)).map fun p=>((stand c r).1 :: p.1,p.2):=by
 conv=>lhs;unfold txt
 rw[if_neg h34];unfold stand;by_cases h92:c=92
 ·subst h92;rw[if_neg (by decide),if_pos rfl,if_pos rfl];cases r with
  | nil=>rfl
  | cons e l =>
   cases ht:turned e with
   | none=>simp[ht]
   | some t=>simp[ht]
 ·rw[if_neg h92,if_neg h92];by_cases hp:c.toNat<32∨126<c.toNat
  ·have hpl:pl c=false:=(by rw[Bool.eq_false_iff];intro e;simp[pl] at e;omega);simp[hp,hpl]
  ·have hpl:pl c=true:=(by simp[pl];omega);simp[hp,hpl]
theorem stand_len (c:UInt8) (r:List UInt8):(stand c r).2≤(c :: r).length:=by
 unfold stand;by_cases h92:c=92
 ·rw[if_pos h92];cases r with
  | nil=>simp
  | cons e l =>
   dsimp only;cases turned e <;> simp
 ·rw[if_neg h92];split <;> simp
def mapE (ts:List Tok):Except (Nat × Nat) (List Tok)→Except (Nat × Nat) (List Tok)
 | .error x=>.error x
 | .ok us=>.ok (ts++us)
theorem mapE_nil (r:Except (Nat × Nat) (List Tok)):mapE [] r=r:=by cases r <;> rfl
theorem mapE_mapE (ts us:List Tok) (r:Except (Nat × Nat) (List Tok)):mapE ts (mapE us r)=mapE (ts++us) r:=by cases r <;> simp[mapE]
theorem go_step (L j:Nat) (c:UInt8) (r:List UInt8) (h:r.length+1≤L):go L L j (c :: r)=match next c r with
  | .error e=>.error (L-(r.length+1),e)
  | .ok (kd,t,rest)=>if 400≤j then .error (0,4) else mapE [⟨kd,t,L-(r.length+1)⟩] (go L L (j+1) (skip false rest)):=by
 rw[go_fuel L L (L+1) j (c :: r) (by simpa using h) (by simp;omega)];rw[go];cases hn:next c r with
 | error e=>simp only[List.length_cons]
 | ok x =>
  obtain⟨kd,t,rest⟩:=x;dsimp only;by_cases h4:400≤j
  ·rw[if_pos h4,if_pos h4]
  ·rw[if_neg h4,if_neg h4];cases go L L (j+1) (skip false rest) with
   | error x=>rfl
   | ok ts=>simp only[mapE,List.length_cons,List.singleton_append]
theorem txt_suf:∀ (l:List UInt8) {t r:List UInt8},txt l=some (t,r)→r <:+ l
 | [],_,_,h=>by cases h
 | c :: l,t,r,h=>by
  by_cases h34:c=34
  ·subst h34;unfold txt at h;rw[if_pos rfl] at h;cases h
   exact List.suffix_cons _ _
  ·rw[txt_step c l h34] at h;split at h
   ·cases h
   ·next hn =>
    cases hx:txt ((c :: l).drop (stand c l).2) with
    | none=>rw[hx] at h;cases h
    | some p =>
     rw[hx] at h;cases h
     have hlt:((c :: l).drop (stand c l).2).length<(c :: l).length:=(by rw[List.length_drop,List.length_cons];omega);have:=txt_suf ((c :: l).drop (stand c l).2) (t:=p.1) (r:=p.2) (by rw[hx]);exact this.trans (List.drop_suffix _ _)
termination_by l=>l.length
theorem next_suf {c:UInt8} {l:List UInt8} {k:Nat} {t r:List UInt8} (h:next c l = .ok (k,t,r)):r <:+ c :: l:=by
 unfold next at h;by_cases c1:c=34
 ·rw[if_pos c1] at h;cases hx:txt l with
  | none=>rw[hx] at h;cases h
  | some p =>
   rw[hx] at h;dsimp only at h;split at h
   ·cases h
   ·cases h;exact(txt_suf l (t:=p.1) (r:=p.2) (by rw[hx])).trans (List.suffix_cons _ _)
 ·rw[if_neg c1] at h;by_cases c2:small c=true
  ·rw[if_pos c2] at h;split at h
   ·cases h
   ·cases h;exact List.dropWhile_suffix _
  ·rw[if_neg c2] at h;by_cases c3:digit c=true
   ·rw[if_pos c3] at h;split at h
    ·cases h
    ·cases h;exact List.dropWhile_suffix _
   ·rw[if_neg c3] at h;split at h
    ·cases h;exact List.suffix_cons _ _
    ·cases h
theorem next_small {c:UInt8} {l:List UInt8} {k:Nat} {t r:List UInt8} (h:next c l = .ok (k,t,r)):r.length<(c :: l).length:=by
 have:=next_len h;simp only[List.length_cons];omega
theorem next_err0 {c:UInt8} {l:List UInt8} {e:Nat} (h:next c l = .error e):e≠0:=by
 unfold next at h;by_cases c1:c=34
 ·rw[if_pos c1] at h;cases hx:txt l with
  | none=>rw[hx] at h;cases h;decide
  | some p =>
   rw[hx] at h;dsimp only at h;split at h
   ·cases h;decide
   ·cases h
 ·rw[if_neg c1] at h;by_cases c2:small c=true
  ·rw[if_pos c2] at h;split at h
   ·cases h;decide
   ·cases h
  ·rw[if_neg c2] at h;by_cases c3:digit c=true
   ·rw[if_pos c3] at h;split at h
    ·cases h;decide
    ·cases h
   ·rw[if_neg c3] at h;split at h
    ·cases h
    ·cases h;decide
theorem skip_suf:∀ (b:Bool) (l:List UInt8),skip b l <:+ l
 | _,[]=>by simp[skip]
 | true,c :: l=>by
  unfold skip;split
  ·exact(skip_suf false l).trans (List.suffix_cons _ _)
  ·exact(skip_suf true l).trans (List.suffix_cons _ _)
 | false,c :: l=>by
  unfold skip;split
  ·exact(skip_suf true l).trans (List.suffix_cons _ _)
  ·split
   ·exact(skip_suf false l).trans (List.suffix_cons _ _)
   ·exact List.suffix_refl _
theorem suf_drop {s l:List UInt8} (h:s <:+ l):l.drop (l.length-s.length)=s:=(List.suffix_iff_eq_drop.1 h).symm
theorem skip_skip:∀ (b:Bool) (l:List UInt8),skip false (skip b l)=skip b l
 | _,[]=>by simp[skip]
 | true,c :: l=>by
  rw[skip];split
  ·exact skip_skip false l
  ·exact skip_skip true l
 | false,c :: l=>by
  by_cases h1:c=35
  ·rw[show skip false (c :: l)=skip true l by rw[skip,if_pos h1]];exact skip_skip true l
  ·by_cases h2:blank c=true
   ·rw[show skip false (c :: l)=skip false l by rw[skip,if_neg h1,if_pos h2]];exact skip_skip false l
   ·rw[show skip false (c :: l)=c :: l by rw[skip,if_neg h1,if_neg h2]];rw[skip,if_neg h1,if_neg h2]
theorem go_err (n:Nat):∀ (f k:Nat) (l:List UInt8) {p e:Nat},go n f k l = .error (p,e)→e≠0∧p≤n
 | 0,k,l,p,e,h=>by cases h
 | f+1,k,[],p,e,h=>by cases h
 | f+1,k,c :: l,p,e,h=>by
  rw[go] at h;cases hx:next c l with
  | error x=>rw[hx] at h;cases h;exact⟨next_err0 hx,Nat.sub_le _ _⟩
  | ok x =>
   obtain⟨kd,t,r⟩:=x;rw[hx] at h;dsimp only at h;split at h
   ·cases h;exact⟨by decide,Nat.zero_le _⟩
   ·split at h
    ·next hg=>cases h;exact go_err n f (k+1) _ hg
    ·cases h
theorem all_err {l:List UInt8} {p e:Nat} (h:all l = .error (p,e)):e≠0∧p≤l.length:=by
 unfold all at h;split at h
 ·cases h;exact⟨by decide,Nat.zero_le _⟩
 ·exact go_err _ _ _ _ h
theorem all_few {l:List UInt8} {ts:List Tok} (h:all l = .ok ts):ts.length≤401:=by
 unfold all at h;split at h
 ·cases h
 ·have h2:=go_count l.length 0 _ _ _ h;rw[Nat.add_zero,h] at h2;split at h2
  ·omega
  ·cases h2
end Lx
namespace Lx
end Lx
namespace Ps
open Lx (Tok)
inductive W where
 | n|t|i|w
 | s (c:UInt8)
deriving DecidableEq
structure St where
 kind:Nat
 s:List UInt8
 t:List UInt8
 u:List UInt8
 n:Nat
 place:Nat
 l:List Nat
 m:List Nat
deriving DecidableEq,Repr
def wLet:List UInt8:=[108,101,116]
def wIf:List UInt8:=[105,102]
def wElse:List UInt8:=[101,108,115,101]
def wMode:List UInt8:=[109,111,100,101]
def wCap:List UInt8:=[99,97,112]
def wCode:List UInt8:=[99,111,100,101]
def wText:List UInt8:=[116,101,120,116]
def firsts:List (List UInt8):=[wLet,[103,114,101,101,116],[115,101,110,100],[99,97,112,115],wIf,[112,105,112,101],[97,117,116,104],[100,97,116,97],[98,111,100,121],[103,101,116],[112,117,116],[116,105,109,101,111,117,116],[108,97,98,101,108],[103,111,116,111],[111,110],[112,114,105,110,116],[115,116,111,112]]
def kindIn (x:List UInt8):Nat→List (List UInt8)→Nat
 | _,[]=>0
 | k,y :: l=>if x=y then k else kindIn x (k+1) l
def kindOf (x:List UInt8):Nat:=kindIn x 1 firsts
def mode (x:List UInt8):Nat:=if x=[115,109,116,112] then 1 else if x=[112,111,112,51] then 2 else if x=[102,116,112] then 3 else 0
def shape:Nat→List W
 | 1=>[.n,.s 61,.t,.s 59]
 | 2=>[.t,.s 59]
 | 3=>[.t,.t,.s 59]
 | 4=>[.t,.t,.s 59]
 | 5=>[.w,.t]
 | 6=>[.i]
 | 7=>[.n,.t,.t,.s 59]
 | 8=>[.t,.t,.s 59]
 | 9=>[.n,.t,.t,.s 59]
 | 10=>[.n,.t,.s 59]
 | 11=>[.t,.t,.s 59]
 | 12=>[.i,.s 59]
 | 13=>[.n,.s 59]
 | 14=>[.n,.s 59]
 | 15=>[.n,.s 59]
 | 16=>[.t,.s 59]
 | 17=>[.s 59]
 | _=>[]
def num (l:List UInt8):Nat:=l.foldl (fun a c=>a*10+(c.toNat-48)) 0
def isSign (c:UInt8) (t:Tok):Bool:=t.kind==4 && t.text==[c]
def isName (x:List UInt8) (t:Tok):Bool:=t.kind==1 && t.text==x
def fits (x:W) (t:Tok):Bool:=match x with
 | .n=>t.kind==1
 | .t=>t.kind==3
 | .i=>t.kind==2
 | .w=>isName wCap t || isName wCode t || isName wText t
 | .s c=>isSign c t
def addW (x:W) (t:Tok) (ws:List (List UInt8)):List (List UInt8):=match x with
 | .n=>t.text :: ws
 | .t=>t.text :: ws
 | .w=>t.text :: ws
 | .i=>ws
 | .s _=>ws
def addN (x:W) (t:Tok) (n:Nat):Nat:=match x with
 | .i=>num t.text
 | _=>n
def words:List W→List Tok→Except (Nat × Nat) (List (List UInt8) × Nat × List Tok)
 | [],ts=>.ok ([],0,ts)
 | _ :: _,[]=>.error (0,20)
 | x :: xs,t :: ts=>if fits x t=true then (match words xs ts with
  | .error e=>.error e
  | .ok (ws,n,r)=>.ok (addW x t ws,addN x t n,r)) else .error (t.place,20)
def mk (k p:Nat) (ws:List (List UInt8)) (n:Nat) (l m:List Nat):St :=
 if k=2 then ⟨k,[],ws.getD 0 [],ws.getD 2 [],n,p,l,m⟩ else ⟨k,ws.getD 0 [],ws.getD 1 [],ws.getD 2 [],n,p,l,m⟩
def elseNext (r:List Tok):Bool:=match r with
 | []=>false
 | u :: _=>isName wElse u
abbrev Res (α:Type):=Except (Nat × Nat) α
mutual
def one:Nat→Nat→List St→List Tok→Res (Nat × List St × List Tok)
 | 0,_,_,_=>.error (0,99)
 | _+1,_,_,[]=>.error (0,20)
 | f+1,d,row,t :: ts =>
  if t.kind=1∧kindOf t.text≠0 then (match words (shape (kindOf t.text)) ts with
   | .error e=>.error e
   | .ok (ws,n,r) =>
    if kindOf t.text=5∨kindOf t.text=6 then (match block f d row r with
     | .error e=>.error e
     | .ok (l,row1,r1) =>
      if kindOf t.text=5∧elseNext r1=true then (match block f d row1 r1.tail with
       | .error e=>.error e
       | .ok (m,row2,r2)=>.ok (row2.length,row2++[mk (kindOf t.text) t.place ws n l m],r2))
      else .ok (row1.length,row1++[mk (kindOf t.text) t.place ws n l []],r1))
    else .ok (row.length,row++[mk (kindOf t.text) t.place ws n [] []],r))
  else .error (t.place,20)
def block:Nat→Nat→List St→List Tok→Res (List Nat × List St × List Tok)
 | 0,_,_,_=>.error (0,99)
 | _+1,_,_,[]=>.error (0,20)
 | f+1,d,row,t :: ts=>if isSign 123 t=true then (if 8≤d then .error (t.place,21) else many f (d+1) row ts) else .error (t.place,20)
def many:Nat→Nat→List St→List Tok→Res (List Nat × List St × List Tok)
 | 0,_,_,_=>.error (0,99)
 | _+1,_,_,[]=>.error (0,20)
 | f+1,d,row,t :: ts=>if isSign 125 t=true then .ok ([],row,ts) else (match one f d row (t :: ts) with
  | .error e=>.error e
  | .ok (i,row1,r1)=>(match many f d row1 r1 with
   | .error e=>.error e
   | .ok (l,row2,r2)=>.ok (i :: l,row2,r2)))
end
def tops:Nat→List St→List Tok→Res (List Nat × List St)
 | 0,_,_=>.error (0,99)
 | _+1,_,[]=>.error (0,20)
 | f+1,row,t :: ts=>if t.kind=0 then .ok ([],row) else (match one f 0 row (t :: ts) with
  | .error e=>.error e
  | .ok (i,row1,r1)=>(match tops f row1 r1 with
   | .error e=>.error e
   | .ok (l,row2)=>.ok (i :: l,row2)))
def fuel (n:Nat):Nat:=3*n+3
def head:List Tok→Res (Nat × List Tok)
 | t0 :: ts=>if isName wMode t0=true then (match ts with
  | t1 :: ts=>if t1.kind=1∧mode t1.text≠0 then (match ts with
   | t2 :: ts=>if isSign 59 t2=true then .ok (mode t1.text,ts) else .error (t2.place,20)
   | []=>.error (0,20)) else .error (t1.place,20)
  | []=>.error (0,20)) else .error (t0.place,20)
 | []=>.error (0,20)
def prog (ts:List Tok):Res (Nat × List St × List Nat):=match head ts with
 | .error e=>.error e
 | .ok (md,r)=>(match tops (fuel r.length) [] r with
  | .error e=>.error e
  | .ok (l,row)=>if 100<row.length then .error (0,4) else .ok (md,row,l))
def all (src:List UInt8):Res (Nat × List St × List Nat):=match Lx.all src with
 | .error e=>.error e
 | .ok ts=>prog ts
end Ps
namespace Ps
open Lx (Tok)
def Done {α:Type} (x:Res α):Prop:=x ≠ .error (0,99)
theorem done_err {α β:Type} {e:Nat × Nat} (h:Done (.error e:Res α)):Done (.error e:Res β):=fun h2=>h (by cases h2;rfl)
theorem done_no {α:Type} {p c:Nat} (h:c≠99):Done (.error (p,c):Res α):=fun h2=>h (by cases h2;rfl)
theorem done_ok {α:Type} (y:α):Done (.ok y:Res α):=fun h=>by cases h
theorem more_all:∀ f,(∀ d row ts,Done (one f d row ts)→one (f+1) d row ts=one f d row ts)∧(∀ d row ts,Done (block f d row ts)→block (f+1) d row ts=block f d row ts)∧(∀ d row ts,Done (many f d row ts)→many (f+1) d row ts=many f d row ts)
 | 0=>⟨fun d row ts h=>absurd (by rw[one]) h,fun d row ts h=>absurd (by rw[block]) h,fun d row ts h=>absurd (by rw[many]) h⟩
 | f+1=>by
  obtain⟨i1,i2,i3⟩:=more_all f;refine⟨fun d row ts h=>?_,fun d row ts h=>?_,fun d row ts h=>?_⟩
  ·cases ts with
   | nil=>rw[one,one]
   | cons t ts =>
    rw[one] at h ⊢;conv=>rhs;rw[one]
    by_cases h1:t.kind=1∧kindOf t.text≠0
    ·rw[if_pos h1] at h ⊢;rw[if_pos h1];cases hw:words (shape (kindOf t.text)) ts with
     | error e=>rfl
     | ok x =>
      obtain⟨ws,n,q⟩:=x;rw[hw] at h;dsimp only at h ⊢;by_cases h2:kindOf t.text=5∨kindOf t.text=6
      ·rw[if_pos h2] at h ⊢;rw[if_pos h2];have hb:Done (block f d row q):=fun e=>by rw[e] at h;exact h rfl
       rw[i2 _ _ _ hb];cases hb1:block f d row q with
       | error e=>rfl
       | ok y =>
        obtain⟨l,row1,r1⟩:=y;rw[hb1] at h;dsimp only at h ⊢;by_cases h3:kindOf t.text=5∧elseNext r1=true
        ·rw[if_pos h3] at h ⊢;rw[if_pos h3];have hb2:Done (block f d row1 r1.tail):=fun e=>by rw[e] at h;exact h rfl
         rw[i2 _ _ _ hb2]
        ·rw[if_neg h3,if_neg h3]
      ·rw[if_neg h2,if_neg h2]
    ·rw[if_neg h1,if_neg h1]
  ·cases ts with
   | nil=>rw[block,block]
   | cons t ts =>
    rw[block] at h ⊢;conv=>rhs;rw[block]
    by_cases h1:isSign 123 t=true
    ·rw[if_pos h1] at h ⊢;rw[if_pos h1];by_cases h2:8≤d
     ·rw[if_pos h2,if_pos h2]
     ·rw[if_neg h2] at h ⊢;rw[if_neg h2];exact i3 _ _ _ h
    ·rw[if_neg h1,if_neg h1]
  ·cases ts with
   | nil=>rw[many,many]
   | cons t ts =>
    rw[many] at h ⊢;conv=>rhs;rw[many]
    by_cases h1:isSign 125 t=true
    ·rw[if_pos h1,if_pos h1]
    ·rw[if_neg h1] at h ⊢;rw[if_neg h1];have ho:Done (one f d row (t :: ts)):=fun e=>by rw[e] at h;exact h rfl
     rw[i1 _ _ _ ho];cases ho1:one f d row (t :: ts) with
     | error e=>rfl
     | ok x =>
      obtain⟨i,row1,r1⟩:=x;rw[ho1] at h;dsimp only at h ⊢;have hm:Done (many f d row1 r1):=fun e=>by rw[e] at h;exact h rfl
      rw[i3 _ _ _ hm]
theorem one_ge {f g d:Nat} {row:List St} {ts:List Tok} (h:Done (one f d row ts)) (hg:f≤g):one g d row ts=one f d row ts:=by
 induction g with
 | zero=>rw[show f=0 by omega]
 | succ g ih =>
  by_cases e:f=g+1
  ·rw[e]
  ·have e2:=ih (by omega);rw[(more_all g).1 _ _ _ (by rw[e2];exact h),e2]
theorem block_ge {f g d:Nat} {row:List St} {ts:List Tok} (h:Done (block f d row ts)) (hg:f≤g):block g d row ts=block f d row ts:=by
 induction g with
 | zero=>rw[show f=0 by omega]
 | succ g ih =>
  by_cases e:f=g+1
  ·rw[e]
  ·have e2:=ih (by omega);rw[(more_all g).2.1 _ _ _ (by rw[e2];exact h),e2]
theorem many_ge {f g d:Nat} {row:List St} {ts:List Tok} (h:Done (many f d row ts)) (hg:f≤g):many g d row ts=many f d row ts:=by
 induction g with
 | zero=>rw[show f=0 by omega]
 | succ g ih =>
  by_cases e:f=g+1
  ·rw[e]
  ·have e2:=ih (by omega);rw[(more_all g).2.2 _ _ _ (by rw[e2];exact h),e2]
theorem tops_more:∀ f row ts,Done (tops f row ts)→tops (f+1) row ts=tops f row ts
 | 0,row,ts,h=>absurd (by rw[tops]) h
 | f+1,row,[],h=>by rw[tops,tops]
 | f+1,row,t :: ts,h=>by
  rw[tops] at h ⊢;conv=>rhs;rw[tops]
  by_cases h1:t.kind=0
  ·rw[if_pos h1,if_pos h1]
  ·rw[if_neg h1] at h ⊢;rw[if_neg h1];have ho:Done (one f 0 row (t :: ts)):=fun e=>by rw[e] at h;exact h rfl
   rw[(more_all f).1 _ _ _ ho];cases ho1:one f 0 row (t :: ts) with
   | error e=>rfl
   | ok x =>
    obtain⟨i,row1,r1⟩:=x;rw[ho1] at h;dsimp only at h ⊢;have hm:Done (tops f row1 r1):=fun e=>by rw[e] at h;exact h rfl
    rw[tops_more f _ _ hm]
theorem tops_ge {f g:Nat} {row:List St} {ts:List Tok} (h:Done (tops f row ts)) (hg:f≤g):tops g row ts=tops f row ts:=by
 induction g with
 | zero=>rw[show f=0 by omega]
 | succ g ih =>
  by_cases e:f=g+1
  ·rw[e]
  ·have e2:=ih (by omega);rw[tops_more g _ _ (by rw[e2];exact h),e2]
theorem words_len:∀ (xs:List W) (ts:List Tok) {ws:List (List UInt8)} {n:Nat} {r:List Tok},words xs ts = .ok (ws,n,r)→r.length+xs.length=ts.length
 | [],ts,_,_,_,h=>by cases h;rfl
 | x :: xs,[],_,_,_,h=>by cases h
 | x :: xs,t :: ts,_,_,_,h=>by
  rw[words] at h;split at h
  ·cases hw:words xs ts with
   | error e=>rw[hw] at h;cases h
   | ok y =>
    obtain⟨ws,n,r⟩:=y;rw[hw] at h;cases h
    have:=words_len xs ts hw;simp only[List.length_cons];omega
  ·cases h
theorem words_err:∀ (xs:List W) (ts:List Tok) {x:Nat × Nat},words xs ts = .error x→x.2=20
 | [],ts,_,h=>by cases h
 | x :: xs,[],_,h=>by cases h;rfl
 | x :: xs,t :: ts,_,h=>by
  rw[words] at h;split at h
  ·cases hw:words xs ts with
   | error e=>rw[hw] at h;cases h;exact words_err xs ts hw
   | ok y=>obtain⟨ws,n,r⟩:=y;rw[hw] at h;cases h
  ·cases h;rfl
theorem left_all:∀ f,(∀ d row ts i row' r,one f d row ts = .ok (i,row',r)→r.length+1≤ts.length)∧(∀ d row ts l row' r,block f d row ts = .ok (l,row',r)→r.length+2≤ts.length)∧(∀ d row ts l row' r,many f d row ts = .ok (l,row',r)→r.length+1≤ts.length)
 | 0=>⟨fun d row ts i row' r h=>(by rw[one] at h;cases h),fun d row ts l row' r h=>(by rw[block] at h;cases h),fun d row ts l row' r h=>(by rw[many] at h;cases h)⟩
 | f+1=>by
  obtain⟨i1,i2,i3⟩:=left_all f;refine⟨fun d row ts i row' r h=>?_,fun d row ts l row' r h=>?_,fun d row ts l row' r h=>?_⟩
  ·cases ts with
   | nil=>rw[one] at h;cases h
   | cons t ts =>
    rw[one] at h;split at h
    ·cases hw:words (shape (kindOf t.text)) ts with
     | error e=>rw[hw] at h;cases h
     | ok x =>
      obtain⟨ws,n,q⟩:=x;have hq:=words_len _ _ hw;rw[hw] at h;dsimp only at h;split at h
      ·cases hb:block f d row q with
       | error e=>rw[hb] at h;cases h
       | ok y =>
        obtain⟨l,row1,r1⟩:=y;have hl:=i2 _ _ _ _ _ _ hb;rw[hb] at h;dsimp only at h;by_cases h3:kindOf t.text=5∧elseNext r1=true
        ·rw[if_pos h3] at h;cases hb2:block f d row1 r1.tail with
         | error e=>rw[hb2] at h;cases h
         | ok z =>
          obtain⟨m,row2,r2⟩:=z;have hl2:=i2 _ _ _ _ _ _ hb2;rw[hb2] at h;cases h
          rw[List.length_tail] at hl2;simp only[List.length_cons];omega
        ·rw[if_neg h3] at h;cases h
         simp only[List.length_cons];omega
      ·cases h
       simp only[List.length_cons];omega
    ·cases h
  ·cases ts with
   | nil=>rw[block] at h;cases h
   | cons t ts =>
    rw[block] at h;split at h
    ·split at h
     ·cases h
     ·have:=i3 _ _ _ _ _ _ h;simp only[List.length_cons];omega
    ·cases h
  ·cases ts with
   | nil=>rw[many] at h;cases h
   | cons t ts =>
    rw[many] at h;split at h
    ·cases h;simp
    ·cases ho:one f d row (t :: ts) with
     | error e=>rw[ho] at h;cases h
     | ok x =>
      obtain⟨i,row1,r1⟩:=x;have h1:=i1 _ _ _ _ _ _ ho;rw[ho] at h;dsimp only at h;cases hm:many f d row1 r1 with
      | error e=>rw[hm] at h;cases h
      | ok y =>
       obtain⟨l',row2,r2⟩:=y;have h2:=i3 _ _ _ _ _ _ hm;rw[hm] at h;cases h
       simp only[List.length_cons] at *;omega
theorem enough_all:∀ f,(∀ d row ts,3*ts.length+1≤f→Done (one f d row ts))∧(∀ d row ts,3*ts.length+1≤f→Done (block f d row ts))∧(∀ d row ts,3*ts.length+2≤f→Done (many f d row ts))
 | 0=>⟨fun d row ts h=>(by omega),fun d row ts h=>(by omega),fun d row ts h=>(by omega)⟩
 | f+1=>by
  obtain⟨i1,i2,i3⟩:=enough_all f;refine⟨fun d row ts h=>?_,fun d row ts h=>?_,fun d row ts h=>?_⟩
  ·cases ts with
   | nil=>rw[one];exact done_no (by decide)
   | cons t ts =>
    simp only[List.length_cons] at h;rw[one];split
    ·cases hw:words (shape (kindOf t.text)) ts with
     | error e =>
      intro h9;have:=words_err _ _ hw;cases h9
      cases this
     | ok x =>
      obtain⟨ws,n,q⟩:=x;have hq:=words_len _ _ hw;dsimp only;split
      ·have hd:=i2 d row q (by omega);cases hb:block f d row q with
       | error e=>rw[hb] at hd;exact done_err hd
       | ok y =>
        obtain⟨l,row1,r1⟩:=y;have hl:=(left_all f).2.1 _ _ _ _ _ _ hb;dsimp only;by_cases h3:kindOf t.text=5∧elseNext r1=true
        ·rw[if_pos h3];have hd2:=i2 d row1 r1.tail (by rw[List.length_tail];omega);cases hb2:block f d row1 r1.tail with
         | error e=>rw[hb2] at hd2;exact done_err hd2
         | ok z=>exact done_ok _
        ·rw[if_neg h3];exact done_ok _
      ·exact done_ok _
    ·exact done_no (by decide)
  ·cases ts with
   | nil=>rw[block];exact done_no (by decide)
   | cons t ts =>
    simp only[List.length_cons] at h;rw[block];split
    ·split
     ·exact done_no (by decide)
     ·exact i3 _ _ _ (by omega)
    ·exact done_no (by decide)
  ·cases ts with
   | nil=>rw[many];exact done_no (by decide)
   | cons t ts =>
    simp only[List.length_cons] at h;rw[many];split
    ·exact done_ok _
    ·have hd:=i1 d row (t :: ts) (by simp only[List.length_cons];omega);cases ho:one f d row (t :: ts) with
     | error e=>rw[ho] at hd;exact done_err hd
     | ok x =>
      obtain⟨i,row1,r1⟩:=x;have h1:=(left_all f).1 _ _ _ _ _ _ ho;simp only[List.length_cons] at h1;dsimp only;have hd2:=i3 d row1 r1 (by omega);cases hm:many f d row1 r1 with
      | error e=>rw[hm] at hd2;exact done_err hd2
      | ok y=>exact done_ok _
theorem enough_tops:∀ f row ts,3*ts.length+2≤f→Done (tops f row ts)
 | 0,row,ts,h=>(by omega)
 | f+1,row,[],h=>by rw[tops];exact done_no (by decide)
 | f+1,row,t :: ts,h=>by
  simp only[List.length_cons] at h;rw[tops];split
  ·exact done_ok _
  ·have hd:=(enough_all f).1 0 row (t :: ts) (by simp only[List.length_cons];omega);cases ho:one f 0 row (t :: ts) with
   | error e=>rw[ho] at hd;exact done_err hd
   | ok x =>
    obtain⟨i,row1,r1⟩:=x;have h1:=(left_all f).1 _ _ _ _ _ _ ho;simp only[List.length_cons] at h1;dsimp only;have hd2:=enough_tops f row1 r1 (by omega);cases hm:tops f row1 r1 with
    | error e=>rw[hm] at hd2;exact done_err hd2
    | ok y=>exact done_ok _
end Ps
namespace Ps
open Lx (Tok)
def lm (s:St):List Nat:=s.l++s.m
structure SOk (k:Nat) (s:St):Prop where
 kd:1≤s.kind∧s.kind≤17
 l6:s.kind≠5→s.kind≠6→s.l=[]
 m5:s.kind≠5→s.m=[]
 lb:∀ x ∈ s.l,x<k
 mb:∀ x ∈ s.m,x<k
 ls:s.l.Pairwise (· < ·)
 ms:s.m.Pairwise (· < ·)
def InOne (row:List St) (i:Nat) (row':List St):Prop:=∃ new st,row'=row++(new++[st])∧i=row.length+new.length ∧
 (∀ j s,(new++[st])[j]?=some s→SOk (row.length+j) s)∧((new++[st]).flatMap lm).Perm (List.range' row.length new.length)
def InMany (row:List St) (l:List Nat) (row':List St):Prop:=∃ new,row'=row++new ∧
 (∀ j s,new[j]?=some s→SOk (row.length+j) s)∧l.Pairwise (· < ·)∧(∀ x ∈ l,row.length≤x∧x<row.length+new.length)∧(l++new.flatMap lm).Perm (List.range' row.length new.length)
theorem kindIn_le (x:List UInt8):∀ (l:List (List UInt8)) (k:Nat),kindIn x k l=0∨(k≤kindIn x k l∧kindIn x k l<k+l.length)
 | [],k=>.inl rfl
 | y :: l,k=>by
  rw[kindIn];by_cases h:x=y
  ·rw[if_pos h];exact .inr ⟨Nat.le_refl _,by simp⟩
  ·rw[if_neg h];rcases kindIn_le x l (k+1) with h2|⟨h2,h3⟩
   ·exact .inl h2
   ·exact .inr ⟨by omega,by simp;omega⟩
theorem kindOf_le {x:List UInt8} (h:kindOf x≠0):1≤kindOf x∧kindOf x≤17:=by
 rcases kindIn_le x firsts 1 with h2|⟨h2,h3⟩
 ·exact absurd h2 h
 ·exact⟨h2,by unfold kindOf;have:firsts.length=17:=rfl;omega⟩
theorem mk_kind (k p:Nat) (ws:List (List UInt8)) (n:Nat) (l m:List Nat):(mk k p ws n l m).kind=k∧(mk k p ws n l m).l=l∧(mk k p ws n l m).m=m:=by
 unfold mk;split <;> exact⟨rfl,rfl,rfl⟩
theorem mk_ok {k p:Nat} {ws:List (List UInt8)} {n:Nat} {l m:List Nat} {at':Nat} (hk:1≤k∧k≤17) (h6:k≠5→k≠6→l=[]) (h5:k≠5→m=[]) (lb:∀ x ∈ l,x<at') (mb:∀ x ∈ m,x<at') (ls:l.Pairwise (· < ·)) (ms:m.Pairwise (· < ·)):SOk at' (mk k p ws n l m):=by
 obtain⟨e1,e2,e3⟩:=mk_kind k p ws n l m;exact⟨by rw[e1];exact hk,by rw[e1,e2];exact h6,by rw[e1,e3];exact h5,by rw[e2];exact lb,by rw[e3];exact mb,by rw[e2];exact ls,by rw[e3];exact ms⟩
theorem ok_app {N:Nat} {a b:List St} (h1:∀ j s,a[j]?=some s→SOk (N+j) s) (h2:∀ j s,b[j]?=some s→SOk (N+a.length+j) s):∀ j s,(a++b)[j]?=some s→SOk (N+j) s:=by
 intro j s h;by_cases hj:j<a.length
 ·rw[List.getElem?_append_left hj] at h;exact h1 j s h
 ·rw[List.getElem?_append_right (by omega)] at h;have:=h2 _ s h
  rwa [show N+a.length+(j-a.length)=N+j by omega] at this
theorem ok_one {N:Nat} {s:St} (h:SOk N s):∀ j u,[s][j]?=some u→SOk (N+j) u:=by
 intro j u hu;cases j with
 | zero=>simp at hu;rw[←hu];exact h
 | succ j=>simp at hu
theorem range_app (a n m:Nat):List.range' a n++List.range' (a+n) m=List.range' a (n+m):=by
 rw[List.range'_append_1]
theorem in_all:∀ f,(∀ d row ts i row' r,one f d row ts = .ok (i,row',r)→InOne row i row')∧(∀ d row ts l row' r,block f d row ts = .ok (l,row',r)→InMany row l row')∧(∀ d row ts l row' r,many f d row ts = .ok (l,row',r)→InMany row l row')
 | 0=>⟨fun d row ts i row' r h=>(by rw[one] at h;cases h),fun d row ts l row' r h=>(by rw[block] at h;cases h),fun d row ts l row' r h=>(by rw[many] at h;cases h)⟩
 | f+1=>by
  obtain⟨i1,i2,i3⟩:=in_all f;refine⟨fun d row ts i row' r h=>?_,fun d row ts l row' r h=>?_,fun d row ts l row' r h=>?_⟩
  ·cases ts with
   | nil=>rw[one] at h;cases h
   | cons t ts =>
    rw[one] at h;by_cases h1:t.kind=1∧kindOf t.text≠0
    ·rw[if_pos h1] at h;have hk:=kindOf_le h1.2;generalize kindOf t.text=k at h hk;cases hw:words (shape k) ts with
     | error e=>rw[hw] at h;cases h
     | ok x =>
      obtain⟨ws,n,q⟩:=x;rw[hw] at h;dsimp only at h;by_cases h2:k=5∨k=6
      ·rw[if_pos h2] at h;cases hb:block f d row q with
       | error e=>rw[hb] at h;cases h
       | ok y =>
        obtain⟨l,row1,r1⟩:=y;rw[hb] at h;dsimp only at h;obtain⟨n1,e1,o1,p1,b1,m1⟩:=i2 _ _ _ _ _ _ hb;by_cases h3:k=5∧elseNext r1=true
        ·rw[if_pos h3] at h;cases hb2:block f d row1 r1.tail with
         | error e=>rw[hb2] at h;cases h
         | ok z =>
          obtain⟨m,row2,r2⟩:=z;rw[hb2] at h;cases h
          obtain⟨n2,e2,o2,p2,b2,m2⟩:=i2 _ _ _ _ _ _ hb2;subst e1;rw[List.length_append] at o2 b2 m2;refine⟨n1++n2,mk k t.place ws n l m,by rw[e2];simp,by rw[e2];simp,?_,?_⟩
          ·refine ok_app (ok_app o1 o2) (ok_one (mk_ok hk (fun a b=>absurd h2 (by omega)) (fun a=>absurd h3.1 a) (fun x hx=>?_) (fun x hx=>?_) p1 p2))
           ·have:=b1 x hx;simp;omega
           ·have:=b2 x hx;simp;omega
          ·rw[List.flatMap_append,List.flatMap_append];have e3:[mk k t.place ws n l m].flatMap lm=l++m:=(by simp[lm,mk_kind]);rw[e3,List.length_append,←range_app];refine List.Perm.trans ?_ (m1.append m2);have p:((n1.flatMap lm++n2.flatMap lm)++(l++m)).Perm ((l++m)++(n1.flatMap lm++n2.flatMap lm)):=List.perm_append_comm;refine p.trans ?_;rw[List.append_assoc,List.append_assoc];refine List.Perm.append_left l ?_
           rw[←List.append_assoc,←List.append_assoc];exact List.Perm.append_right _ List.perm_append_comm
        ·rw[if_neg h3] at h;cases h
         subst e1;refine⟨n1,mk k t.place ws n l [],by simp,by simp,?_,?_⟩
         ·exact ok_app o1 (ok_one (mk_ok hk (fun a b=>absurd h2 (by omega)) (fun _=>rfl) (fun x hx=>(b1 x hx).2) (by simp) p1 List.Pairwise.nil))
         ·rw[List.flatMap_append];have e3:[mk k t.place ws n l []].flatMap lm=l:=(by simp[lm,mk_kind]);rw[e3];exact List.perm_append_comm.trans m1
      ·rw[if_neg h2] at h;cases h
       refine⟨[],mk k t.place ws n [] [],by simp,by simp,?_,?_⟩
       ·exact ok_one (mk_ok hk (fun _ _=>rfl) (fun _=>rfl) (by simp) (by simp) List.Pairwise.nil List.Pairwise.nil)
       ·simp[lm,mk_kind]
    ·rw[if_neg h1] at h;cases h
  ·cases ts with
   | nil=>rw[block] at h;cases h
   | cons t ts =>
    rw[block] at h;split at h
    ·split at h
     ·cases h
     ·exact i3 _ _ _ _ _ _ h
    ·cases h
  ·cases ts with
   | nil=>rw[many] at h;cases h
   | cons t ts =>
    rw[many] at h;split at h
    ·cases h
     exact⟨[],by simp,by simp,List.Pairwise.nil,by simp,by simp⟩
    ·cases ho:one f d row (t :: ts) with
     | error e=>rw[ho] at h;cases h
     | ok x =>
      obtain⟨i,row1,r1⟩:=x;rw[ho] at h;dsimp only at h;cases hm:many f d row1 r1 with
      | error e=>rw[hm] at h;cases h
      | ok y =>
       obtain⟨l',row2,r2⟩:=y;rw[hm] at h;cases h
       obtain⟨n1,st,e1,rfl,o1,m1⟩:=i1 _ _ _ _ _ _ ho;obtain⟨n2,e2,o2,p2,b2,m2⟩:=i3 _ _ _ _ _ _ hm;subst e1;rw[List.length_append,List.length_append,List.length_singleton] at o2 b2 m2;refine⟨n1++[st]++n2,by rw[e2];simp,?_,?_,?_,?_⟩
       ·refine ok_app o1 (fun j s hj=>?_);have:=o2 j s hj
        rwa [show row.length+(n1++[st]).length+j=row.length+(n1.length+1)+j by simp] 
       ·exact List.pairwise_cons.2 ⟨fun x hx=>by have:=b2 x hx;omega,p2⟩
       ·intro x hx;rcases List.mem_cons.1 hx with rfl|hx
        ·simp
        ·have:=b2 x hx;simp;omega
       ·rw[List.flatMap_append,List.cons_append];have e3:(n1++[st]++n2).length=n1.length+1+n2.length:=(by simp;omega);rw[e3,←range_app,←range_app];have m3:=(m1.append_right [row.length+n1.length]).append m2;refine List.Perm.trans ?_ m3
        have p:(l'++((n1++[st]).flatMap lm++n2.flatMap lm)).Perm ((n1++[st]).flatMap lm++(l'++n2.flatMap lm)):=by
         rw[←List.append_assoc,←List.append_assoc];exact List.Perm.append_right _ List.perm_append_comm
        refine(List.Perm.cons _ p).trans ?_;rw[List.append_assoc];exact(List.perm_middle (l₁:=(n1++[st]).flatMap lm) (l₂:=l'++n2.flatMap lm) (a:=row.length+n1.length)).symm
theorem in_tops:∀ f row ts l row',tops f row ts = .ok (l,row')→InMany row l row'
 | 0,row,ts,l,row',h=>by rw[tops] at h;cases h
 | f+1,row,[],l,row',h=>by rw[tops] at h;cases h
 | f+1,row,t :: ts,l,row',h=>by
  rw[tops] at h;split at h
  ·cases h
   exact⟨[],by simp,by simp,List.Pairwise.nil,by simp,by simp⟩
  ·cases ho:one f 0 row (t :: ts) with
   | error e=>rw[ho] at h;cases h
   | ok x =>
    obtain⟨i,row1,r1⟩:=x;rw[ho] at h;dsimp only at h;cases hm:tops f row1 r1 with
    | error e=>rw[hm] at h;cases h
    | ok y =>
     obtain⟨l',row2⟩:=y;rw[hm] at h;cases h
     obtain⟨n1,st,e1,rfl,o1,m1⟩:=(in_all f).1 _ _ _ _ _ _ ho;obtain⟨n2,e2,o2,p2,b2,m2⟩:=in_tops f _ _ _ _ hm;subst e1;rw[List.length_append,List.length_append,List.length_singleton] at o2 b2 m2;refine⟨n1++[st]++n2,by rw[e2];simp,?_,?_,?_,?_⟩
     ·refine ok_app o1 (fun j s hj=>?_);have:=o2 j s hj
      rwa [show row.length+(n1++[st]).length+j=row.length+(n1.length+1)+j by simp]
     ·exact List.pairwise_cons.2 ⟨fun x hx=>by have:=b2 x hx;omega,p2⟩
     ·intro x hx;rcases List.mem_cons.1 hx with rfl|hx
      ·simp
      ·have:=b2 x hx;simp;omega
     ·rw[List.flatMap_append,List.cons_append];have e3:(n1++[st]++n2).length=n1.length+1+n2.length:=(by simp;omega);rw[e3,←range_app,←range_app];have m3:=(m1.append_right [row.length+n1.length]).append m2;refine List.Perm.trans ?_ m3
      have p:(l'++((n1++[st]).flatMap lm++n2.flatMap lm)).Perm ((n1++[st]).flatMap lm++(l'++n2.flatMap lm)):=by
       rw[←List.append_assoc,←List.append_assoc];exact List.Perm.append_right _ List.perm_append_comm
      refine(List.Perm.cons _ p).trans ?_;rw[List.append_assoc];exact(List.perm_middle (l₁:=(n1++[st]).flatMap lm) (l₂:=l'++n2.flatMap lm) (a:=row.length+n1.length)).symm
theorem mode_le (x:List UInt8):mode x≤3:=by
 unfold mode;repeat (first|split|omega)
theorem head_ok {ts:List Tok} {md:Nat} {r:List Tok} (h:head ts = .ok (md,r)):1≤md∧md≤3:=by
 unfold head at h;split at h
 ·split at h
  ·split at h
   ·split at h
    ·next h2 =>
     split at h
     ·split at h
      ·cases h
       exact⟨Nat.one_le_iff_ne_zero.2 h2.2,mode_le _⟩
      ·cases h
     ·cases h
    ·cases h
   ·cases h
  ·cases h
 ·cases h
theorem all_in {src:List UInt8} {md:Nat} {row:List St} {top:List Nat} (h:all src = .ok (md,row,top)) :
  (1≤md∧md≤3)∧row.length≤100∧(∀ j s,row[j]?=some s→SOk j s)∧top.Pairwise (· < ·)∧(∀ x ∈ top,x<row.length)∧(top++row.flatMap lm).Perm (List.range row.length):=by
 unfold all at h;cases hl:Lx.all src with
 | error e=>rw[hl] at h;cases h
 | ok ts =>
  rw[hl] at h;dsimp only at h;unfold prog at h;cases hh:head ts with
  | error e=>rw[hh] at h;cases h
  | ok x =>
   obtain⟨md',r⟩:=x;rw[hh] at h;dsimp only at h;cases ht:tops (fuel r.length) [] r with
   | error e=>rw[ht] at h;cases h
   | ok y =>
    obtain⟨l,row'⟩:=y;rw[ht] at h;dsimp only at h;split at h
    ·cases h
    ·next hb =>
     cases h
     obtain⟨new,e1,o1,p1,b1,m1⟩:=in_tops _ _ _ _ _ ht;rw[List.nil_append] at e1;subst e1;refine⟨head_ok hh,by omega,fun j s hj=>by simpa using o1 j s hj,p1,fun x hx=>by simpa using (b1 x hx).2,?_⟩;rw[List.range_eq_range'];exact m1
end Ps
namespace Ps
open Lx (Tok)
def mv (c D:Nat) (s:St):St:={ s with place:=s.place+D,l:=s.l.map (· + c),m:=s.m.map (· + c) }
end Ps
namespace Ps
open Lx (Tok)
def oneR (d:Nat) (row:List St) (ts:List Tok):=one (3*ts.length+1) d row ts
def blockR (d:Nat) (row:List St) (ts:List Tok):=block (3*ts.length+1) d row ts
def manyR (d:Nat) (row:List St) (ts:List Tok):=many (3*ts.length+2) d row ts
def topsR (row:List St) (ts:List Tok):=tops (3*ts.length+2) row ts
theorem oneR_of {f d:Nat} {row:List St} {ts:List Tok} (h:3*ts.length+1≤f):one f d row ts=oneR d row ts:=one_ge ((enough_all _).1 d row ts (Nat.le_refl _)) h
theorem blockR_of {f d:Nat} {row:List St} {ts:List Tok} (h:3*ts.length+1≤f):block f d row ts=blockR d row ts:=block_ge ((enough_all _).2.1 d row ts (Nat.le_refl _)) h
theorem manyR_of {f d:Nat} {row:List St} {ts:List Tok} (h:3*ts.length+2≤f):many f d row ts=manyR d row ts:=many_ge ((enough_all _).2.2 d row ts (Nat.le_refl _)) h
theorem topsR_of {f:Nat} {row:List St} {ts:List Tok} (h:3*ts.length+2≤f):tops f row ts=topsR row ts:=tops_ge (enough_tops _ row ts (Nat.le_refl _)) h
def brace (d:Nat):List Tok→Res (List Tok)
 | []=>.error (0,20)
 | t :: ts=>if isSign 123 t=true then (if 8≤d then .error (t.place,21) else .ok ts) else .error (t.place,20)
def headM (d:Nat):List Tok→Res (St × List Tok)
 | []=>.error (0,20)
 | t :: ts=>if t.kind=1∧kindOf t.text≠0 then (match words (shape (kindOf t.text)) ts with
   | .error e=>.error e
   | .ok (ws,n,r)=>if kindOf t.text=5∨kindOf t.text=6 then (match brace d r with
     | .error e=>.error e
     | .ok r'=>.ok (mk (kindOf t.text) t.place ws n [] [],r'))
    else .ok (mk (kindOf t.text) t.place ws n [] [],r))
  else .error (t.place,20)
structure Hf where
 st:St
 els:Bool
def addL (h:Hf) (l:List Nat):Hf:=if h.els=true then ⟨{ h.st with m:=h.st.m++l },h.els⟩ else ⟨{ h.st with l:=h.st.l++l },h.els⟩
abbrev Out:=Res (List St × List Nat)
def fin (k:List Nat→List St→List Nat→List Tok→Out) (d:Nat) (h:Hf) (row:List St) (top:List Nat) (r:List Tok):Out :=
 if h.st.kind=5∧h.els=false∧elseNext r=true then (match blockR d row r.tail with
  | .error e=>.error e
  | .ok (m,row2,r2)=>k [row2.length] (row2++[{ h.st with m:=h.st.m++m }]) top r2)
 else k [row.length] (row++[h.st]) top r
def run:List Hf→List Nat→List St→List Nat→List Tok→Out
 | [],p,row,top,ts=>(match topsR row ts with
  | .error e=>.error e
  | .ok (l,row')=>.ok (row',top++p++l))
 | h :: S,p,row,top,ts=>(match manyR (S.length+1) row ts with
  | .error e=>.error e
  | .ok (l,row1,r1)=>fin (run S) S.length (addL h (p++l)) row1 top r1)
def bump (n:Nat):List Hf→List Hf
 | []=>[]
 | h :: S=>addL h [n] :: S
def bumpT (n:Nat) (S:List Hf) (top:List Nat):List Nat:=if S=[] then top++[n] else top
theorem addL_nil (h:Hf):addL h []=h:=by
 unfold addL;split <;> simp
theorem addL_addL (h:Hf) (a b:List Nat):addL (addL h a) b=addL h (a++b):=by
 unfold addL;cases h.els <;> simp
theorem run_put (S:List Hf) (n:Nat) (row:List St) (top:List Nat) (ts:List Tok):run S [n] row top ts=run (bump n S) [] row (bumpT n S top) ts:=by
 cases S with
 | nil=>simp[run,bump,bumpT]
 | cons h S =>
  simp only[run,bump,bumpT];cases manyR (S.length+1) row ts with
  | error e=>rfl
  | ok x =>
   obtain⟨l,row1,r1⟩:=x;simp only[addL_addL,List.nil_append];rfl
theorem run_end {row:List St} {top:List Nat} {t:Tok} {ts:List Tok} (h:t.kind=0):run [] [] row top (t :: ts) = .ok (row,top):=by
 rw[run,topsR,List.length_cons,show 3*(ts.length+1)+2=(3*ts.length+4)+1 by omega,tops,if_pos h];simp
theorem run_close {h:Hf} {S:List Hf} {row:List St} {top:List Nat} {t:Tok} {ts:List Tok} (hc:isSign 125 t=true):run (h :: S) [] row top (t :: ts)=fin (run S) S.length h row top ts:=by
 rw[run,manyR,List.length_cons,show 3*(ts.length+1)+2=(3*ts.length+4)+1 by omega,many,if_pos hc];simp[addL_nil]
theorem many_step {d:Nat} {row:List St} {t:Tok} {ts:List Tok} (hc:isSign 125 t=false):manyR d row (t :: ts)=(match oneR d row (t :: ts) with
  | .error e=>.error e
  | .ok (i,row1,r1)=>(match manyR d row1 r1 with
   | .error e=>.error e
   | .ok (l,row2,r2)=>.ok (i :: l,row2,r2))):=by
 rw[manyR,List.length_cons,show 3*(ts.length+1)+2=(3*ts.length+4)+1 by omega,many,if_neg (by rw[hc];decide),oneR_of (by rw[List.length_cons];omega)];cases ho:oneR d row (t :: ts) with
 | error e=>rfl
 | ok x =>
  obtain⟨i,row1,r1⟩:=x;have h1:=(left_all _).1 _ _ _ _ _ _ ho;simp only[List.length_cons] at h1;dsimp only;rw[manyR_of (by omega)];all_goals (cases manyR d row1 r1 <;> rfl)
theorem tops_step {row:List St} {t:Tok} {ts:List Tok} (hc:t.kind≠0):topsR row (t :: ts)=(match oneR 0 row (t :: ts) with
  | .error e=>.error e
  | .ok (i,row1,r1)=>(match topsR row1 r1 with
   | .error e=>.error e
   | .ok (l,row2)=>.ok (i :: l,row2))):=by
 rw[topsR,List.length_cons,show 3*(ts.length+1)+2=(3*ts.length+4)+1 by omega,tops,if_neg hc,oneR_of (by rw[List.length_cons];omega)];cases ho:oneR 0 row (t :: ts) with
 | error e=>rfl
 | ok x =>
  obtain⟨i,row1,r1⟩:=x;have h1:=(left_all _).1 _ _ _ _ _ _ ho;simp only[List.length_cons] at h1;dsimp only;rw[topsR_of (by omega)];all_goals (cases topsR row1 r1 <;> rfl)
theorem block_step (d:Nat) (row:List St) (ts:List Tok):blockR d row ts=(match brace d ts with
  | .error e=>.error e
  | .ok r=>manyR (d+1) row r):=by
 cases ts with
 | nil=>rw[blockR,List.length_nil,block];rfl
 | cons t ts =>
  rw[blockR,List.length_cons,show 3*(ts.length+1)+1=(3*ts.length+3)+1 by omega,block,brace,manyR_of (by omega)];split
  ·split <;> rfl
  ·rfl
theorem mk_kind3 (k p:Nat) (ws:List (List UInt8)) (n:Nat) (l m:List Nat):(mk k p ws n l m).kind=k∧(mk k p ws n l m).l=l∧(mk k p ws n l m).m=m:=by unfold mk;split <;> exact⟨rfl,rfl,rfl⟩
theorem mk_lm (k p:Nat) (ws:List (List UInt8)) (n:Nat) (l m l' m':List Nat):mk k p ws n l m = { mk k p ws n l' m' with l:=l,m:=m }:=by unfold mk;split <;> rfl
theorem mk_l (k p:Nat) (ws:List (List UInt8)) (n:Nat) (l m l':List Nat):mk k p ws n l m = { mk k p ws n l' m with l:=l }:=by unfold mk;split <;> rfl
theorem brace_len {d:Nat} {r r':List Tok} (h:brace d r = .ok r'):r'.length+1=r.length:=by
 cases r with
 | nil=>cases h
 | cons t ts =>
  rw[brace] at h;split at h
  ·split at h
   ·cases h
   ·cases h;rfl
  ·cases h
theorem one_step (d:Nat) (row:List St) (ts:List Tok):oneR d row ts=(match headM d ts with
  | .error e=>.error e
  | .ok (st,r)=>if st.kind=5∨st.kind=6 then (match manyR (d+1) row r with
    | .error e=>.error e
    | .ok (l,row1,r1)=>if st.kind=5∧elseNext r1=true then (match blockR d row1 r1.tail with
      | .error e=>.error e
      | .ok (m,row2,r2)=>.ok (row2.length,row2++[{ st with l:=l,m:=m }],r2))
     else .ok (row1.length,row1++[{ st with l:=l }],r1))
   else .ok (row.length,row++[st],r)):=by
 cases ts with
 | nil=>rw[oneR,List.length_nil,one];rfl
 | cons t ts =>
  rw[oneR,List.length_cons,show 3*(ts.length+1)+1=(3*ts.length+3)+1 by omega,one,headM];by_cases h1:t.kind=1∧kindOf t.text≠0
  ·rw[if_pos h1,if_pos h1];cases hw:words (shape (kindOf t.text)) ts with
   | error e=>rfl
   | ok x =>
    obtain⟨ws,n,r⟩:=x;have hlen:=words_len _ _ hw;have hk:=fun l m=>mk_kind3 (kindOf t.text) t.place ws n l m;dsimp only;by_cases h5:kindOf t.text=5∨kindOf t.text=6
    ·rw[if_pos h5,if_pos h5,blockR_of (by omega),block_step];cases hb:brace d r with
     | error e=>rfl
     | ok r' =>
      dsimp only;rw[if_pos (by rw[(hk _ _).1];exact h5)];cases hm:manyR (d+1) row r' with
      | error e=>rfl
      | ok y =>
       obtain⟨l,row1,r1⟩:=y;have hl1:=(left_all _).2.2 _ _ _ _ _ _ hm;have hl2:=brace_len hb;dsimp only;rw[(hk [] []).1];by_cases h6:kindOf t.text=5∧elseNext r1=true
       ·rw[if_pos h6,if_pos h6,blockR_of (by rw[List.length_tail];omega)];cases blockR d row1 r1.tail with
        | error e=>rfl
        | ok z =>
         obtain⟨m,row2,r2⟩:=z;simp only[mk_lm (kindOf t.text) t.place ws n l m [] [],(hk [] []).1]
       ·rw[if_neg h6,if_neg h6];simp only[mk_l (kindOf t.text) t.place ws n l [] [],(hk [] []).1]
    ·rw[if_neg h5,if_neg h5];dsimp only;rw[if_neg (by rw[(hk _ _).1];exact h5)]
  ·rw[if_neg h1,if_neg h1]
theorem run_one {S:List Hf} {row:List St} {top:List Nat} {t:Tok} {ts:List Tok} (h0:S=[]→t.kind≠0) (h1:S≠[]→isSign 125 t=false):run S [] row top (t :: ts)=(match oneR S.length row (t :: ts) with
  | .error e=>.error e
  | .ok (i,row1,r1)=>run S [i] row1 top r1):=by
 cases S with
 | nil =>
  rw[run,tops_step (h0 rfl),List.length_nil];cases oneR 0 row (t :: ts) with
  | error e=>rfl
  | ok x =>
   obtain⟨i,row1,r1⟩:=x;dsimp only;rw[run];cases topsR row1 r1 with
   | error e=>rfl
   | ok y=>simp
 | cons h S =>
  rw[run,many_step (h1 (by simp)),List.length_cons];cases oneR (S.length+1) row (t :: ts) with
  | error e=>rfl
  | ok x =>
   obtain⟨i,row1,r1⟩:=x;dsimp only;rw[run];cases manyR (S.length+1) row1 r1 with
   | error e=>rfl
   | ok y=>simp
theorem headM_nil {d:Nat} {ts:List Tok} {st:St} {r:List Tok} (h:headM d ts = .ok (st,r)):st.l=[]∧st.m=[]:=by
 cases ts with
 | nil=>cases h
 | cons t ts =>
  rw[headM] at h;split at h
  ·split at h
   ·cases h
   ·split at h
    ·split at h
     ·cases h
     ·cases h;exact(mk_kind3 _ _ _ _ _ _).2
    ·cases h;exact(mk_kind3 _ _ _ _ _ _).2
  ·cases h
theorem run_head {S:List Hf} {row:List St} {top:List Nat} {t:Tok} {ts:List Tok} (h0:S=[]→t.kind≠0) (h1:S≠[]→isSign 125 t=false):run S [] row top (t :: ts)=(match headM S.length (t :: ts) with
  | .error e=>.error e
  | .ok (st,r)=>if st.kind=5∨st.kind=6 then run (⟨st,false⟩ :: S) [] row top r else run S [row.length] (row++[st]) top r):=by
 rw[run_one h0 h1,one_step];cases hh:headM S.length (t :: ts) with
 | error e=>rfl
 | ok x =>
  obtain⟨st,r⟩:=x;obtain⟨hl,hm⟩:=headM_nil hh;obtain⟨k,s,u,v,n,p,l0,m0⟩:=st;dsimp only at hl hm;subst hl hm;dsimp only;by_cases h5:k=5∨k=6
  ·rw[if_pos h5,if_pos h5,run];cases manyR (S.length+1) row r with
   | error e=>rfl
   | ok y =>
    obtain⟨l,row1,r1⟩:=y;simp only[fin,addL,List.nil_append,Bool.false_eq_true,if_false,true_and];by_cases h6:k=5∧elseNext r1=true
    ·rw[if_pos h6,if_pos h6];cases blockR S.length row1 r1.tail with
     | error e=>rfl
     | ok z=>rfl
    ·rw[if_neg h6,if_neg h6]
  ·rw[if_neg h5,if_neg h5]
theorem fin_else {h:Hf} {S:List Hf} {row:List St} {top:List Nat} {r:List Tok} (hk:h.st.kind=5) (he:h.els=false) (hn:elseNext r=true):fin (run S) S.length h row top r=(match brace S.length r.tail with
  | .error e=>.error e
  | .ok r'=>run (⟨h.st,true⟩ :: S) [] row top r'):=by
 rw[fin,if_pos ⟨hk,he,hn⟩,block_step];cases hb:brace S.length r.tail with
 | error e=>rfl
 | ok r' =>
  dsimp only;rw[run];cases manyR (S.length+1) row r' with
  | error e=>rfl
  | ok x =>
   obtain⟨m,row1,r1⟩:=x;simp[fin,addL]
theorem fin_put {h:Hf} {S:List Hf} {row:List St} {top:List Nat} {r:List Tok} (hn:¬ (h.st.kind=5∧h.els=false∧elseNext r=true)):fin (run S) S.length h row top r=run S [row.length] (row++[h.st]) top r:=by
 rw[fin,if_neg hn]
theorem prog_run (ts:List Tok):prog ts=(match head ts with
  | .error e=>.error e
  | .ok (md,r)=>(match run [] [] [] [] r with
   | .error e=>.error e
   | .ok (row,l)=>if 100<row.length then .error (0,4) else .ok (md,row,l))):=by
 unfold prog;cases head ts with
 | error e=>rfl
 | ok x =>
  obtain⟨md,r⟩:=x;dsimp only;rw[topsR_of (by unfold fuel;omega),run];cases topsR [] r with
  | error e=>rfl
  | ok y=>simp
end Ps
namespace Lx
theorem next_kind {c:UInt8} {l:List UInt8} {k:Nat} {t r:List UInt8} (h:next c l = .ok (k,t,r)):k≠0:=by
 unfold next at h;by_cases c1:c=34
 ·rw[if_pos c1] at h;cases hx:txt l with
  | none=>rw[hx] at h;cases h
  | some p =>
   rw[hx] at h;dsimp only at h;split at h
   ·cases h
   ·cases h;decide
 ·rw[if_neg c1] at h;by_cases c2:small c=true
  ·rw[if_pos c2] at h;split at h
   ·cases h
   ·cases h;decide
  ·rw[if_neg c2] at h;by_cases c3:digit c=true
   ·rw[if_pos c3] at h;split at h
    ·cases h
    ·cases h;decide
   ·rw[if_neg c3] at h;split at h
    ·cases h;decide
    ·cases h
theorem go_form (n:Nat):∀ (f k:Nat) (l:List UInt8) {ts:List Tok},go n f k l = .ok ts → ∃ a,ts=a++[⟨0,[],n⟩] ∧ ∀ t ∈ a,t.kind≠0
 | 0,k,l,ts,h=>by cases h;exact⟨[],rfl,by simp⟩
 | f+1,k,[],ts,h=>by cases h;exact⟨[],rfl,by simp⟩
 | f+1,k,c :: l,ts,h=>by
  rw[go] at h;cases hx:next c l with
  | error x=>rw[hx] at h;cases h
  | ok x =>
   obtain⟨kd,t,r⟩:=x;rw[hx] at h;dsimp only at h;split at h
   ·cases h
   ·split at h
    ·cases h
    ·next hg =>
     cases h
     obtain⟨a,e,ha⟩:=go_form n f (k+1) _ hg
     exact⟨⟨kd,t,n-(c :: l).length⟩ :: a,by rw[e];rfl,fun u hu=>by
      rcases List.mem_cons.1 hu with rfl|hu
      ·exact next_kind hx
      ·exact ha u hu⟩
end Lx
namespace Ps
open Lx (Tok)
def hdr (x:List UInt8):List Tok:=[⟨1,wMode,0⟩,⟨1,x,5⟩,⟨4,[59],5+x.length⟩]
def rest (x:List UInt8) (us:List Tok):Res (Nat × List St × List Nat):=match tops (fuel us.length) [] us with
 | .error e=>.error e
 | .ok (l,row)=>if 100<row.length then .error (0,4) else .ok (mode x,row,l)
end Ps
end Go.Proofs.YtodlhhfcjkjapaaGreatDoor
