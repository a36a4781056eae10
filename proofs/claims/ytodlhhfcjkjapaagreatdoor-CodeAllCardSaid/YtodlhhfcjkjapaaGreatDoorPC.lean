import Derived.Test.YtodlhhfcjkjapaaGreatDoorPB
import Derived.Test.YtodlhhfcjkjapaaGreatDoorPN
namespace Go.Proofs.YtodlhhfcjkjapaaGreatDoor
namespace Ps
open Lx (Tok)
def isTxt (x:W):Bool:=match x with | .n=>true | .t=>true | .w=>true|_=>false
theorem words_cnt:∀ (xs:List W) (ts:List Tok) {ws:List (List UInt8)} {n:Nat} {r:List Tok},words xs ts = .ok (ws,n,r)→ws.length=(xs.filter isTxt).length
 | [],ts,ws,n,r,h=>by cases h;rfl
 | x :: xs,[],_,_,_,h=>by cases h
 | x :: xs,t :: ts,ws,n,r,h=>by
  rw[words] at h;split at h
  ·cases hw:words xs ts with
   | error e=>rw[hw] at h;cases h
   | ok y =>
    obtain⟨ws',n',r'⟩:=y;rw[hw] at h;cases h
    have ih:=words_cnt xs ts hw;cases x <;> simp[addW,isTxt,ih,List.filter_cons]
  ·cases h
def skipK (k:Nat):Nat:=if k=2 then 1 else 0
theorem shape_cnt:∀ k:Fin 18,skipK k.val+((shape k.val).filter isTxt).length≤3∧(k.val=2→((shape k.val).filter isTxt).length=1):=by decide +kernel
theorem head_took {d k:Nat} {t:Tok} {ts r:List Tok} (hd:d≤8) (hf:∀ u ∈ t :: ts,Fine u) (h1:t.kind=1) (hk:kindOf t.text=k) (hk0:k≠0) (h:takeW d (tailW k) ts = .ok r) :
  ∃ c,ts=c++r∧c.length=(tailW k).length∧headM d (t :: ts) = .ok (mk k t.place (texts c) (lastN c 0) [] [],r)∧skipK k+(texts c).length≤3∧(k=2→(texts c).length=1):=by
 obtain⟨c,h2,h3,h4⟩:=(head_take hd hf h1 hk hk0).2 r h;refine⟨c,h2,h3,h4,?_⟩;have hle:=kindOf_le (x:=t.text) (by rw[hk];exact hk0);rw[hk] at hle;have hs:=shape_cnt ⟨k,by omega⟩;simp only at hs;rw[headM,hk,if_pos (c:=t.kind=1∧k≠0) ⟨h1,hk0⟩] at h4;cases hw:words (shape k) ts with
 | error e=>rw[hw] at h4;cases h4
 | ok y =>
  obtain⟨ws,n,r'⟩:=y;have hc:=words_cnt _ _ hw;rw[hw] at h4;dsimp only at h4;obtain⟨p1,p2,p3,p4⟩:=tail_parts ⟨k,by omega⟩;simp only at p1 p2 p3 p4;obtain⟨c',e1,e2,e3,e4⟩:=words_last p3 hw
  have:texts c=ws:=by
   subst h2;have hlen:c'.length≤c.length:=by rw[e2,h3,p1,List.length_append,←p2,List.length_map];omega
   have htk:c.take c'.length=c':=by
    have h:=congrArg (List.take c'.length) e1;rw[List.take_append_of_le_length hlen,List.take_left] at h;exact h
   obtain⟨z,hz⟩:∃ z,c=c'++z:=⟨c.drop c'.length,by
    conv=>lhs;rw[←List.take_append_drop c'.length c,htk]⟩
   clear htk;subst hz;rw[e3]
   have hzl:z.length=if k=5∨k=6 then 1 else 0:=by
    have h:=h3;rw[p1,List.length_append,List.length_append,e2,←p2,List.length_map] at h;split <;> rename_i h5 <;> simp only[h5,if_true,if_false,List.length_cons,List.length_nil] at h <;> omega
   by_cases h5:k=5∨k=6
   ·rw[if_pos h5] at hzl h4;obtain⟨u,rfl⟩:=List.length_eq_one_iff.1 hzl;rw[List.append_assoc] at e1;have e5:=List.append_cancel_left e1;subst e5;rw[List.singleton_append,brace] at h4;by_cases hs2:isSign 123 u=true
    ·have hu:u.kind=4:=(by unfold isSign at hs2;simp at hs2;exact hs2.1);simp[texts,hu]
    ·rw[if_neg hs2] at h4;cases h4
   ·rw[if_neg h5] at hzl;obtain rfl:=List.length_eq_zero_iff.1 hzl;rw[List.append_nil]
  rw[this,hc];exact hs
theorem mk_fields {k p n:Nat} {ws:List (List UInt8)} (h2:k=2→ws.length=1):mk k p ws n [] []=⟨k,(List.replicate (skipK k) []++ws).getD 0 [],(List.replicate (skipK k) []++ws).getD 1 [],(List.replicate (skipK k) []++ws).getD 2 [],n,p,[],[]⟩:=by
 unfold mk skipK;by_cases h:k=2
 ·rw[if_pos h,if_pos h];have hl:=h2 h
  match ws,hl with
  | [a],_=>rfl
 ·rw[if_neg h,if_neg h];rfl
theorem texts_snoc (c:List Tok) (t:Tok):texts (c++[t])=texts c++(if t.kind=1∨t.kind=3 then [t.text] else []):=by
 unfold texts;rw[List.filter_append,List.map_append];congr 1
 by_cases h:t.kind=1∨t.kind=3
 ·rw[if_pos h,List.filter_cons_of_pos (by simpa using h)];rfl
 ·rw[if_neg h,List.filter_cons_of_neg (by simpa using h)];rfl
theorem lastN_snoc (c:List Tok) (t:Tok):lastN (c++[t]) 0=if t.kind=2 then num t.text else lastN c 0:=by
 unfold lastN;rw[List.foldl_append];rfl
theorem texts_le (c:List Tok) (i:Nat):(texts (c.take i)).length≤(texts c).length:=by
 have:texts c=texts (c.take i)++texts (c.drop i):=by
  unfold texts;rw[←List.map_append,←List.filter_append,List.take_append_drop]
 rw[this,List.length_append];omega
theorem take_snoc' {c:List Tok} {i:Nat} {t:Tok} (h:c[i]?=some t):c.take (i+1)=c.take i++[t]:=by
 rw[List.take_add_one,h];rfl
theorem num_fine {t:Tok} (h:Fine t) (hk:t.kind=2):Tx.number t.text 9223372036854775807=((num t.text:Int),true)∧t.text.length≤9:=by
 rcases h with h|h|h|h|h
 ·omega
 ·omega
 ·obtain⟨_,⟨c,r,e,_⟩,hall,h9⟩:=h
  have hd:Tx.digits t.text=true:=by
   unfold Tx.digits;rw[List.all_eq_true];intro c hc;have:=hall c hc;unfold Lx.digit at this;unfold Tx.dig;exact this
  have hlt:=Tx.val_lt' _ t.text rfl hd;have h10:10 ^ t.text.length≤10 ^ 9:=Nat.pow_le_pow_right (by decide) h9;refine⟨?_,h9⟩;unfold Tx.number;rw[if_pos ⟨⟨by rw[e];simp,h9,hd⟩,by have:(10:Nat) ^ 9=1000000000:=rfl;omega⟩];rfl
 ·omega
 ·omega
theorem words_ne:∀ k:Fin 18,1≤k.val → ∀ x ∈ fw k.val :: tailW k.val,x≠[]:=by decide +kernel
theorem tail_len:∀ k:Fin 18,(tailW k.val).length≤4:=by decide +kernel
theorem tail_pos:∀ k:Fin 18,1≤k.val→1≤(tailW k.val).length:=by decide +kernel
theorem fw_in:∀ (l:List (List UInt8)) (k0:Nat) (x:List UInt8),kindIn x k0 l≠0→l.getD (kindIn x k0 l-k0) []=x
 | [],_,_,h=>absurd rfl h
 | y :: l,k0,x,h=>by
  rw[kindIn] at h ⊢;by_cases e:x=y
  ·rw[if_pos e,Nat.sub_self];exact e.symm
  ·rw[if_neg e] at h ⊢;have ih:=fw_in l (k0+1) x h;have hle:=(kindIn_le x l (k0+1)).resolve_left h;obtain⟨j,hj⟩:∃ j,kindIn x (k0+1) l-k0=j+1:=⟨kindIn x (k0+1) l-k0-1,by omega⟩;rw[hj];rw[show kindIn x (k0+1) l-(k0+1)=j by omega] at ih;exact ih
theorem fw_of {x:List UInt8} {k:Nat} (h:kindOf x=k) (h0:k≠0):x=fw k:=by
 have:=fw_in firsts 1 x (by rw[show kindIn x 1 firsts=kindOf x from rfl,h];exact h0);rw[show kindIn x 1 firsts=kindOf x from rfl,h] at this;exact this.symm
end Ps
namespace Ps
open Lx (Tok)
theorem brace_code {d:Nat} {r:List Tok} {x:Nat × Nat} (h:brace d r = .error x):x.2=20∨x.2=21:=by
 cases r with
 | nil=>cases h;exact .inl rfl
 | cons t r =>
  rw[brace] at h;split at h
  ·split at h
   ·cases h;exact .inr rfl
   ·cases h
  ·cases h;exact .inl rfl
theorem brace_deep {d:Nat} {r r':List Tok} (h:brace d r = .ok r'):d≤7:=by
 cases r with
 | nil=>cases h
 | cons t r =>
  rw[brace] at h;split at h
  ·split at h
   ·cases h
   ·omega
  ·cases h
theorem headM_code {d:Nat} {ts:List Tok} {x:Nat × Nat} (h:headM d ts = .error x):x.2=20∨x.2=21:=by
 cases ts with
 | nil=>cases h;exact .inl rfl
 | cons t ts =>
  rw[headM] at h;split at h
  ·cases hw:words (shape (kindOf t.text)) ts with
   | error e=>rw[hw] at h;cases h;exact .inl (words_err _ _ hw)
   | ok y =>
    obtain⟨ws,n,r⟩:=y;rw[hw] at h;dsimp only at h;split at h
    ·cases hb:brace d r with
     | error e=>rw[hb] at h;cases h;exact brace_code hb
     | ok r'=>rw[hb] at h;cases h
    ·cases h
  ·cases h;exact .inl rfl
theorem headM_ok {d:Nat} {t:Tok} {ts:List Tok} {st:St} {r:List Tok} (hd:d≤8) (he:Ends (t :: ts)) (h:headM d (t :: ts) = .ok (st,r)) :
  Ends r∧r.length<(t :: ts).length∧1≤st.kind∧st.kind≤17∧(st.kind=5∨st.kind=6→d≤7):=by
 by_cases h1:t.kind=1∧kindOf t.text≠0
 ·have hle:=kindOf_le (x:=t.text) h1.2;have hht:=head_take (d:=d) hd he.1 h1.1 rfl h1.2;cases htk:takeW d (tailW (kindOf t.text)) ts with
  | error x=>rw[hht.1 x htk] at h;cases h
  | ok r' =>
   obtain⟨c,e1,e2,e3⟩:=hht.2 r' htk;rw[e3] at h;cases h
   have hne:∀ w ∈ tailW (kindOf t.text),w≠[]:=fun w hw=>words_ne ⟨kindOf t.text,by omega⟩ hle.1 w (by simp only[List.mem_cons];exact .inr hw);obtain⟨q1,q2,q3⟩:=takeW_end hne (he.tail (by omega)) htk;refine⟨q1,by simp only[List.length_cons];omega,?_,?_,?_⟩
   ·rw[(mk_kind3 _ _ _ _ _ _).1];exact hle.1
   ·rw[(mk_kind3 _ _ _ _ _ _).1];exact hle.2
   ·rw[(mk_kind3 _ _ _ _ _ _).1];intro h5;rw[headM,if_pos h1] at e3;cases hw:words (shape (kindOf t.text)) ts with
    | error e=>rw[hw] at e3;cases e3
    | ok y =>
     obtain⟨ws,n,r2⟩:=y;rw[hw] at e3;dsimp only at e3;rw[if_pos h5] at e3;cases hb:brace d r2 with
     | error e=>rw[hb] at e3;cases e3
     | ok r3=>exact brace_deep hb
 ·rw[headM,if_neg h1] at h;cases h
theorem take_else {d:Nat} (hd:d≤8) {r:List Tok} (he:Ends r) (hn:elseNext r=true):takeW d [wElse,[123]] r=brace d r.tail:=by
 cases r with
 | nil=>cases hn
 | cons u r =>
  have hu:isName wElse u=true:=hn
  have hf:fitsT wElse u=true:=by
   rw[show wElse=101 :: 108 :: [115,101] from rfl,fitsT_word (by decide) (he.1 u (by simp))];exact hu
  rw[takeW,if_pos hf,if_neg (fun e=>by cases e.1)];exact takeW_brace hd (fun v hv=>he.1 v (by simp[hv]))
theorem else_fits {u:Tok} (hf:Fine u):fitsT wElse u=isName wElse u:=by
 rw[show wElse=101 :: 108 :: [115,101] from rfl];exact fitsT_word (by decide) hf
theorem suffix_shape:∀ k:Fin 18,List.isSuffixOf [123] (shapeS k.val)=decide (k.val=5∨k.val=6):=by decide +kernel
end Ps
namespace Ps
open Lx (Tok)
theorem take_one {d:Nat} {w:List UInt8} {ws:List (List UInt8)} {t:Tok} {ts:List Tok} (hw:w≠[123]):takeW d (w :: ws) (t :: ts)=if fitsT w t=true then takeW d ws ts else .error (t.place,20):=by
 rw[takeW];split
 ·rw[if_neg (fun e=>hw e.1)]
 ·rfl
theorem take_script {d:Nat} {ts:List Tok} (he:Ends ts):(∀ x,takeW d [wMode,[109],[59]] ts = .error x→head ts = .error x∧x.2=20) ∧
  (∀ r,takeW d [wMode,[109],[59]] ts = .ok r → ∃ t0 t1 t2,ts=t0 :: t1 :: t2 :: r∧head ts = .ok (mode t1.text,r)∧Ends r):=by
 obtain⟨t0,ts1,rfl,hf0⟩:=he.ne;have h0:fitsT wMode t0=isName wMode t0:=(by rw[show wMode=109 :: 111 :: [100,101] from rfl];exact fitsT_word (by decide) hf0);rw[take_one (by decide),h0];by_cases h1:isName wMode t0=true
 ·rw[if_pos h1];have hk0:t0.kind≠0:=(by unfold isName at h1;simp at h1;omega);have he1:=he.tail hk0;obtain⟨t1,ts2,rfl,hf1⟩:=he1.ne;have h2:fitsT [109] t1=(t1.kind==1 && mode t1.text != 0):=rfl;rw[take_one (by decide),h2];by_cases h3:(t1.kind==1 && mode t1.text != 0)=true
  ·rw[if_pos h3];have h3':t1.kind=1∧mode t1.text≠0:=(by simpa using h3);have he2:=he1.tail (by omega);obtain⟨t2,ts3,rfl,hf2⟩:=he2.ne;rw[take_one (by decide),fitsT_sign rfl hf2];by_cases h4:isSign 59 t2=true
   ·rw[if_pos h4];have hk2:t2.kind≠0:=(by unfold isSign at h4;simp at h4;omega);refine⟨fun x h=>(by cases h),fun r h=>?_⟩;cases h
    refine⟨t0,t1,t2,rfl,?_,he2.tail hk2⟩;show (if isName wMode t0=true then _ else _)=_
    rw[if_pos h1,if_pos h3'];exact if_pos h4
   ·rw[if_neg h4];refine⟨fun x h=>?_,fun r h=>(by cases h)⟩;cases h
    refine⟨?_,rfl⟩;show (if isName wMode t0=true then _ else _)=_
    rw[if_pos h1,if_pos h3'];exact if_neg h4
  ·rw[if_neg h3];have h3':¬ (t1.kind=1∧mode t1.text≠0):=(by simpa using h3);refine⟨fun x h=>?_,fun r h=>(by cases h)⟩;cases h
   refine⟨?_,rfl⟩;show (if isName wMode t0=true then _ else _)=_
   rw[if_pos h1,if_neg h3']
 ·rw[if_neg h1];refine⟨fun x h=>?_,fun r h=>(by cases h)⟩;cases h
  refine⟨?_,rfl⟩;show (if isName wMode t0=true then _ else _)=_
  rw[if_neg h1]
theorem all_of {l:List UInt8}:all l=(match Lx.all l with | .error e=>.error e | .ok ts=>prog ts):=rfl
theorem all_few {l:List UInt8} {ts:List Tok} (h:Lx.all l = .ok ts):ts.length≤401:=by
 have go_few:∀ (n f k:Nat) (l:List UInt8) {ts:List Tok},Lx.go n f k l = .ok ts→k≤400→ts.length+k≤401:=by
  intro n f;induction f with
  | zero=>intro k l ts h hk;cases h;simp;omega
  | succ f ih =>
   intro k l ts h hk;cases l with
   | nil=>cases h;simp;omega
   | cons c l =>
    rw[Lx.go] at h;cases hx:Lx.next c l with
    | error x=>rw[hx] at h;cases h
    | ok x =>
     obtain⟨kd,t,r⟩:=x;rw[hx] at h;dsimp only at h;split at h
     ·cases h
     ·next h4 =>
      split at h
      ·cases h
      ·next hg =>
       cases h
       have:=ih (k+1) _ hg (by omega);simp only[List.length_cons];omega
 unfold Lx.all at h;split at h
 ·cases h
 ·have:=go_few _ _ _ _ h (by omega);omega
end Ps
end Go.Proofs.YtodlhhfcjkjapaaGreatDoor
