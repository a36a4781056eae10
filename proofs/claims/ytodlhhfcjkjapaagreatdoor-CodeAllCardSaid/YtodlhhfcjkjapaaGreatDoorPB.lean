import Derived.Test.YtodlhhfcjkjapaaGreatDoorPA
import Derived.Test.YtodlhhfcjkjapaaGreatDoorPN
namespace Go.Proofs.YtodlhhfcjkjapaaGreatDoor
namespace Ps
def shapeS:Nat→List UInt8
 | 1=>[108,101,116,32,110,32,61,32,116,32,59]
 | 2=>[103,114,101,101,116,32,116,32,59]
 | 3=>[115,101,110,100,32,116,32,116,32,59]
 | 4=>[99,97,112,115,32,116,32,116,32,59]
 | 5=>[105,102,32,119,32,116,32,123]
 | 6=>[112,105,112,101,32,105,32,123]
 | 7=>[97,117,116,104,32,110,32,116,32,116,32,59]
 | 8=>[100,97,116,97,32,116,32,116,32,59]
 | 9=>[98,111,100,121,32,110,32,116,32,116,32,59]
 | 10=>[103,101,116,32,110,32,116,32,59]
 | 11=>[112,117,116,32,116,32,116,32,59]
 | 12=>[116,105,109,101,111,117,116,32,105,32,59]
 | 13=>[108,97,98,101,108,32,110,32,59]
 | 14=>[103,111,116,111,32,110,32,59]
 | 15=>[111,110,32,110,32,59]
 | 16=>[112,114,105,110,116,32,116,32,59]
 | 17=>[115,116,111,112,32,59]
 | _=>[]
def tailW:Nat→List (List UInt8)
 | 1=>[[110],[61],[116],[59]]
 | 2=>[[116],[59]]
 | 3=>[[116],[116],[59]]
 | 4=>[[116],[116],[59]]
 | 5=>[[119],[116],[123]]
 | 6=>[[105],[123]]
 | 7=>[[110],[116],[116],[59]]
 | 8=>[[116],[116],[59]]
 | 9=>[[110],[116],[116],[59]]
 | 10=>[[110],[116],[59]]
 | 11=>[[116],[116],[59]]
 | 12=>[[105],[59]]
 | 13=>[[110],[59]]
 | 14=>[[110],[59]]
 | 15=>[[110],[59]]
 | 16=>[[116],[59]]
 | 17=>[[59]]
 | _=>[]
def fw (k:Nat):List UInt8:=firsts.getD (k-1) []
def wordW (x:List UInt8):Option W:=if x=[110] then some .n else if x=[116] then some .t else if x=[105] then some .i else if x=[119] then some .w else if x=[123] then none else (x.head?).map .s
def untilB:List (List UInt8)→List W
 | []=>[]
 | x :: l=>match wordW x with
  | none=>[]
  | some y=>y :: untilB l
theorem shape_words:∀ k:Fin 18,1≤k.val→Tx.words (shapeS k.val)=fw k.val :: tailW k.val:=by decide +kernel
theorem shape_until:∀ k:Fin 18,untilB (tailW k.val)=shape k.val:=by decide +kernel
theorem words_of {k:Nat} (h:1≤k) (h2:k≤17):Tx.words (shapeS k)=fw k :: tailW k:=shape_words ⟨k,by omega⟩ h
theorem until_of {k:Nat} (h2:k≤17):untilB (tailW k)=shape k:=shape_until ⟨k,by omega⟩
theorem shapeS_len:∀ k:Fin 18,(shapeS k.val).length≤12:=by decide +kernel
theorem kind_from (x:List UInt8) (k:Nat) (h1:1≤k) (h2:k≤17):kindIn x k (firsts.drop (k-1))=if x=fw k then k else kindIn x (k+1) (firsts.drop k):=by
 have hl:firsts.length=17:=rfl
 have e:firsts.drop (k-1)=fw k :: firsts.drop k:=by
  have:=List.drop_eq_getElem_cons (l:=firsts) (i:=k-1) (by omega);rw[this,show k-1+1=k by omega];congr 1
  rw[fw,List.getD_eq_getElem?_getD,List.getElem?_eq_getElem (by omega)];rfl
 rw[e,kindIn]
end Ps
namespace Ps
open Lx (Tok)
def Fine (t:Tok):Prop:=(t.kind=0∧t.text=[])∨(t.kind=1 ∧ ∃ c r,t.text=c :: r∧Lx.small c=true)∨(t.kind=2∧(∃ c r,t.text=c :: r∧Lx.digit c=true)∧(∀ c ∈ t.text,Lx.digit c=true)∧t.text.length≤9)∨t.kind=3∨(t.kind=4 ∧ ∃ c,t.text=[c]∧Lx.sign c=true)
theorem all_while (p:UInt8→Bool):∀ l:List UInt8,∀ c ∈ l.takeWhile p,p c=true
 | [],c,h=>by simp at h
 | x :: l,c,h=>by
  by_cases hx:p x=true
  ·rw[List.takeWhile_cons_of_pos hx] at h;rcases List.mem_cons.1 h with rfl|h
   ·exact hx
   ·exact all_while p l c h
  ·rw[List.takeWhile_cons_of_neg hx] at h;simp at h
theorem next_fine {c:UInt8} {l:List UInt8} {k:Nat} {t r:List UInt8} (h:Lx.next c l = .ok (k,t,r)) (p:Nat):Fine ⟨k,t,p⟩:=by
 unfold Lx.next at h;by_cases c1:c=34
 ·rw[if_pos c1] at h;cases hx:Lx.txt l with
  | none=>rw[hx] at h;cases h
  | some p =>
   rw[hx] at h;dsimp only at h;split at h
   ·cases h
   ·cases h;exact .inr (.inr (.inr (.inl rfl)))
 ·rw[if_neg c1] at h;by_cases c2:Lx.small c=true
  ·rw[if_pos c2] at h;have hi:Lx.inName c=true:=(by unfold Lx.inName;rw[c2];rfl);split at h
   ·cases h
   ·cases h;exact .inr (.inl ⟨rfl,c,_,List.takeWhile_cons_of_pos hi,c2⟩)
  ·rw[if_neg c2] at h;by_cases c3:Lx.digit c=true
   ·rw[if_pos c3] at h;split at h
    ·cases h
    ·next h9=>cases h;exact .inr (.inr (.inl ⟨rfl,⟨c,_,List.takeWhile_cons_of_pos c3,c3⟩,all_while _ _,Nat.le_of_not_lt h9⟩))
   ·rw[if_neg c3] at h;split at h
    ·next h4=>cases h;exact .inr (.inr (.inr (.inr ⟨rfl,c,rfl,h4⟩)))
    ·cases h
theorem go_fine (n:Nat):∀ (f k:Nat) (l:List UInt8) {ts:List Tok},Lx.go n f k l = .ok ts → ∀ t ∈ ts,Fine t
 | 0,k,l,ts,h=>by cases h;intro t ht;rw[List.mem_singleton.1 ht];exact .inl ⟨rfl,rfl⟩
 | f+1,k,[],ts,h=>by cases h;intro t ht;rw[List.mem_singleton.1 ht];exact .inl ⟨rfl,rfl⟩
 | f+1,k,c :: l,ts,h=>by
  rw[Lx.go] at h;cases hx:Lx.next c l with
  | error x=>rw[hx] at h;cases h
  | ok x =>
   obtain⟨kd,t,r⟩:=x;rw[hx] at h;dsimp only at h;split at h
   ·cases h
   ·split at h
    ·cases h
    ·next hg =>
     cases h
     intro u hu;rcases List.mem_cons.1 hu with rfl|hu
     ·exact next_fine hx _
     ·exact go_fine n f (k+1) _ hg u hu
def Ends (ts:List Tok):Prop:=(∀ t ∈ ts,Fine t) ∧ ∃ a z,ts=a++[z]∧z.kind=0∧z.text=[] ∧ ∀ t ∈ a,t.kind≠0
theorem all_ends {l:List UInt8} {ts:List Tok} (h:Lx.all l = .ok ts):Ends ts:=by
 unfold Lx.all at h;split at h
 ·cases h
 ·obtain⟨a,e,ha⟩:=Lx.go_form _ _ _ _ h;exact⟨go_fine _ _ _ _ h,a,_,e,rfl,rfl,ha⟩
theorem Ends.ne {ts:List Tok} (h:Ends ts):∃ t r,ts=t :: r∧Fine t:=by
 obtain⟨hf,a,z,rfl,_⟩:=h;cases a with
 | nil=>exact⟨z,[],rfl,hf z (by simp)⟩
 | cons t a=>exact⟨t,a++[z],rfl,hf t (by simp)⟩
theorem Ends.tail {t:Tok} {r:List Tok} (h:Ends (t :: r)) (hk:t.kind≠0):Ends r:=by
 obtain⟨hf,a,z,e,hz,hz2,ha⟩:=h;cases a with
 | nil =>
  have:t=z:=(by simpa using congrArg (·.head?) e);exact absurd (this ▸ hz) hk
 | cons u a =>
  simp only[List.cons_append,List.cons.injEq] at e;obtain⟨rfl,rfl⟩:=e;exact⟨fun t ht=>hf t (by simp[ht]),a,z,rfl,hz,hz2,fun t ht=>ha t (by simp[ht])⟩
def fitsT (w:List UInt8) (t:Tok):Bool :=
 if w=[116] then t.kind==3 else if w=[105] then t.kind==2 else if w=[110] then t.kind==1
 else if w=[119] then t.kind==1 && (t.text==wCap || t.text==wCode || t.text==wText)
 else if w=[109] then t.kind==1 && mode t.text != 0 else t.kind != 3 && t.text==w
theorem fitsT_end {w:List UInt8} {t:Tok} (hw:w≠[]) (h:fitsT w t=true) (hf:Fine t):t.kind≠0:=by
 intro hk
 have ht:t.text=[]:=by
  rcases hf with h|h|h|h|h
  ·exact h.2
  ·omega
  ·omega
  ·omega
  ·omega
 unfold fitsT at h;rw[hk,ht] at h;repeat' split at h
 all_goals first|exact absurd h (by decide)|skip
 simp at h;exact hw h
def takeW (d:Nat):List (List UInt8)→List Tok→Res (List Tok)
 | [],ts=>.ok ts
 | _ :: _,[]=>.error (0,20)
 | w :: ws,t :: ts=>if fitsT w t=true then (if w=[123]∧d=8 then .error (t.place,21) else takeW d ws ts) else .error (t.place,20)
theorem takeW_end {d:Nat}:∀ {ws:List (List UInt8)} {ts r:List Tok},(∀ w ∈ ws,w≠[])→Ends ts→takeW d ws ts = .ok r→Ends r∧r=ts.drop ws.length∧ws.length+r.length=ts.length
 | [],ts,r,_,he,h=>by cases h;exact⟨he,rfl,by simp⟩
 | w :: ws,[],r,_,_,h=>by cases h
 | w :: ws,t :: ts,r,hw,he,h=>by
  rw[takeW] at h;split at h
  ·next hfit =>
   split at h
   ·cases h
   ·have he':=he.tail (fitsT_end (hw w (by simp)) hfit (he.1 t (by simp)));obtain⟨h1,h2,h3⟩:=takeW_end (fun w hm=>hw w (by simp[hm])) he' h;exact⟨h1,by rw[h2];rfl,by simp only[List.length_cons];omega⟩
  ·cases h
theorem fitsT_sign {c:UInt8} {t:Tok} (hc:Lx.sign c=true) (hf:Fine t):fitsT [c] t=isSign c t:=by
 have hns:Lx.small c=false∧Lx.digit c=false:=by
  unfold Lx.sign at hc;simp at hc;rcases hc with (((rfl|rfl)|rfl)|rfl) <;> decide
 have h1:∀ n:UInt8,Lx.small n=true→([c]:List UInt8)≠[n]:=by
  intro n hn e;rw[List.cons.inj e |>.1,hn] at hns;cases hns.1
 unfold fitsT isSign;rw[if_neg (h1 116 (by decide)),if_neg (h1 105 (by decide)),if_neg (h1 110 (by decide)),if_neg (h1 119 (by decide)),if_neg (h1 109 (by decide))];obtain⟨k,x,p⟩:=t;rcases hf with h|h|h|h|h
 ·obtain⟨rfl,rfl⟩:=h;rfl
 ·obtain⟨rfl,d,r,rfl,hd⟩:=h
  have:((d :: r:List UInt8)==[c])=false:=by
   rw[beq_eq_false_iff_ne];intro e;rw[(List.cons.inj e).1,hns.1] at hd;cases hd
  simp[this]
 ·obtain⟨rfl,⟨d,r,rfl,hd⟩,_⟩:=h
  have:((d :: r:List UInt8)==[c])=false:=by
   rw[beq_eq_false_iff_ne];intro e;rw[(List.cons.inj e).1,hns.2] at hd;cases hd
  simp[this]
 ·obtain rfl:=h;simp
 ·obtain⟨rfl,_⟩:=h;simp
theorem fitsT_word {a b:UInt8} {w:List UInt8} {t:Tok} (ha:Lx.small a=true) (hf:Fine t):fitsT (a :: b :: w) t=isName (a :: b :: w) t:=by
 have h1:∀ n:UInt8,(a :: b :: w:List UInt8)≠[n]:=(by intro n e;cases e);unfold fitsT isName;rw[if_neg (h1 _),if_neg (h1 _),if_neg (h1 _),if_neg (h1 _),if_neg (h1 _)];obtain⟨k,x,p⟩:=t;rcases hf with h|h|h|h|h
 ·obtain⟨rfl,rfl⟩:=h;rfl
 ·obtain⟨rfl,_⟩:=h;rfl
 ·obtain⟨rfl,⟨d,r,rfl,hd⟩,_⟩:=h
  have:((d :: r:List UInt8)==a :: b :: w)=false:=by
   rw[beq_eq_false_iff_ne];intro e;rw[(List.cons.inj e).1] at hd;unfold Lx.small at ha;unfold Lx.digit at hd;simp at ha hd;omega
  simp[this]
 ·obtain rfl:=h;simp
 ·obtain⟨rfl,c,rfl,_⟩:=h;have:(([c]:List UInt8)==a :: b :: w)=false:=(by simp);simp[this]
theorem fits_fw:∀ k:Fin 18,1≤k.val → ∃ a b w,fw k.val=a :: b :: w∧Lx.small a=true:=by
 intro k h;have:∀ k:Fin 18,1≤k.val→(match fw k.val with|a :: _ :: _=>Lx.small a|_=>false)=true:=(by decide +kernel);have:=this k h;split at this
 ·next a b w e=>exact⟨a,b,w,e,this⟩
 ·cases this
theorem fitsT_fw {k:Nat} (h:1≤k) (h2:k≤17) {t:Tok} (hf:Fine t):fitsT (fw k) t=isName (fw k) t:=by
 obtain⟨a,b,w,e,ha⟩:=fits_fw ⟨k,by omega⟩ h;rw[show fw k=a :: b :: w from e];exact fitsT_word ha hf
def good (w:List UInt8):Prop:=w=[110]∨w=[116]∨w=[105]∨w=[119]∨w=[61]∨w=[59]
def asks (w:List UInt8):W:=(wordW w).getD .n
theorem fits_good {w:List UInt8} {t:Tok} (hw:good w) (hf:Fine t):fitsT w t=fits (asks w) t:=by
 rcases hw with rfl|rfl|rfl|rfl|rfl|rfl
 ·rfl
 ·rfl
 ·rfl
 ·show (t.kind==1 && (t.text==wCap || t.text==wCode || t.text==wText))=(isName wCap t || isName wCode t || isName wText t)
  unfold isName;cases (t.kind==1) <;> simp
 ·exact fitsT_sign rfl hf
 ·exact fitsT_sign rfl hf
theorem good_bracket {w:List UInt8} (hw:good w):w≠[123]:=by
 rintro rfl;unfold good at hw;revert hw;decide
def texts (c:List Tok):List (List UInt8):=(c.filter fun t=>t.kind==1 || t.kind==3).map (·.text)
def lastN (c:List Tok) (n:Nat):Nat:=c.foldl (fun n t=>if t.kind=2 then num t.text else n) n
theorem fits_kind {x:W} {t:Tok} (h:fits x t=true):t.kind=(match x with | .n=>1 | .w=>1 | .t=>3 | .i=>2 | .s _=>4):=by
 cases x <;> simp[fits,isName,isSign] at h ⊢ <;> omega
theorem words_took:∀ (xs:List W) (ts:List Tok) {ws:List (List UInt8)} {n:Nat} {r:List Tok},words xs ts = .ok (ws,n,r) →
  ∃ c,ts=c++r∧c.length=xs.length∧ws=texts c∧(xs.count .i=0 → ∀ m,lastN c m=m)∧(xs.count .i=0→n=0)∧(xs.count .i≤1 → ∀ m,xs.count .i=1→lastN c m=n)
 | [],ts,ws,n,r,h=>by cases h;exact⟨[],rfl,rfl,rfl,fun _ _=>rfl,fun _=>rfl,fun _ _ h=>by simp at h⟩
 | x :: xs,[],_,_,_,h=>by cases h
 | x :: xs,t :: ts,ws,n,r,h=>by
  rw[words] at h;split at h
  ·next hfit =>
   cases hw:words xs ts with
   | error e=>rw[hw] at h;cases h
   | ok y =>
    obtain⟨ws',n',r'⟩:=y;rw[hw] at h;cases h
    obtain⟨c,rfl,hl,rfl,h1,h2,h3⟩:=words_took xs ts hw;have hk:=fits_kind hfit;refine⟨t :: c,rfl,by simp[hl],?_,?_,?_,?_⟩
    ·cases x <;> simp[texts,addW,hk]
    ·intro h0 m;have hx:x ≠ .i:=(by rintro rfl;simp at h0);have h0':xs.count .i=0:=(by rw[List.count_cons] at h0;omega);have hk2:t.kind≠2:=(by rw[hk];cases x <;> first|exact absurd rfl hx|simp);show lastN c (if t.kind=2 then num t.text else m)=m
     rw[if_neg hk2,h1 h0']
    ·intro h0;have hx:x ≠ .i:=(by rintro rfl;simp at h0);have h0':xs.count .i=0:=(by rw[List.count_cons] at h0;omega);rw[h2 h0'];cases x <;> first|rfl|exact absurd rfl hx
    ·intro hle m h1';show lastN c (if t.kind=2 then num t.text else m)=_
     by_cases hx:x = .i
     ·subst hx;have h0':xs.count .i=0:=(by simp at h1';omega);rw[if_pos hk,h1 h0'];rfl
     ·have h0':xs.count .i=1:=(by rw[List.count_cons,if_neg (by simpa using hx)] at h1';omega);have hk2:t.kind≠2:=(by rw[hk];cases x <;> first|exact absurd rfl hx|simp);rw[if_neg hk2,h3 (by omega) m h0'];cases x <;> first|rfl|exact absurd rfl hx
  ·cases h
theorem words_last {xs:List W} (hx:xs.count .i≤1) {ts:List Tok} {ws:List (List UInt8)} {n:Nat} {r:List Tok} (h:words xs ts = .ok (ws,n,r)):∃ c,ts=c++r∧c.length=xs.length∧ws=texts c∧n=lastN c 0:=by
 obtain⟨c,h1,h2,h3,h4,h5,h6⟩:=words_took xs ts h;refine⟨c,h1,h2,h3,?_⟩;by_cases h0:xs.count .i=0
 ·rw[h5 h0,h4 h0]
 ·exact(h6 hx 0 (by omega)).symm
theorem takeW_app (d:Nat) (b:List (List UInt8)):∀ (l:List (List UInt8)) (ts:List Tok),(∀ w ∈ l,good w)→(∀ t ∈ ts,Fine t)→takeW d (l++b) ts=(match words (l.map asks) ts with
  | .error e=>.error e
  | .ok (_,_,r)=>takeW d b r)
 | [],ts,_,_=>rfl
 | w :: l,[],_,_=>rfl
 | w :: l,t :: ts,hl,hf=>by
  have ih:=takeW_app d b l ts (fun w hm=>hl w (by simp[hm])) (fun t hm=>hf t (by simp[hm]));have hg:=hl w (by simp);rw[List.cons_append,takeW,List.map_cons,words,fits_good hg (hf t (by simp)),if_neg (c:=w=[123]∧d=8) (fun h=>good_bracket hg h.1),ih];by_cases h:fits (asks w) t=true
  ·rw[if_pos h,if_pos h];cases words (l.map asks) ts <;> rfl
  ·rw[if_neg h,if_neg h]
theorem takeW_brace {d:Nat} (hd:d≤8) {r:List Tok} (hf:∀ t ∈ r,Fine t):takeW d [[123]] r=brace d r:=by
 cases r with
 | nil=>rfl
 | cons t r =>
  rw[takeW,brace,fitsT_sign rfl (hf t (by simp))];split
  ·by_cases h:d=8
   ·rw[if_pos ⟨rfl,h⟩,if_pos (by omega)]
   ·rw[if_neg (fun e=>h e.2),if_neg (by omega)];rfl
  ·rfl
def front (k:Nat):List (List UInt8):=(tailW k).filter (· != [123])
theorem tail_parts:∀ k:Fin 18,tailW k.val=front k.val++(if k.val=5∨k.val=6 then [[123]] else [])∧(front k.val).map asks=shape k.val∧(shape k.val).count .i≤1∧(∀ w ∈ front k.val,w=[110]∨w=[116]∨w=[105]∨w=[119]∨w=[61]∨w=[59]):=by decide +kernel
theorem head_take {d k:Nat} {t:Tok} {ts:List Tok} (hd:d≤8) (hf:∀ u ∈ t :: ts,Fine u) (h1:t.kind=1) (hk:kindOf t.text=k) (hk0:k≠0) :
  (∀ x,takeW d (tailW k) ts = .error x→headM d (t :: ts) = .error x) ∧
  (∀ r,takeW d (tailW k) ts = .ok r → ∃ c,ts=c++r∧c.length=(tailW k).length∧headM d (t :: ts) = .ok (mk k t.place (texts c) (lastN c 0) [] [],r)):=by
 have hle:=kindOf_le (x:=t.text) (by rw[hk];exact hk0);rw[hk] at hle;obtain⟨p1,p2,p3,p4⟩:=tail_parts ⟨k,by omega⟩;simp only at p1 p2 p3 p4;have hf':∀ u ∈ ts,Fine u:=fun u hu=>hf u (by simp[hu]);rw[p1,takeW_app d _ _ ts p4 hf',p2,headM,hk,if_pos (c:=t.kind=1∧k≠0) ⟨h1,hk0⟩];cases hw:words (shape k) ts with
 | error e=>exact⟨fun x h=>(by cases h;rfl),fun r h=>(by cases h)⟩
 | ok y =>
  obtain⟨ws,n,r⟩:=y;obtain⟨c,rfl,hc,rfl,rfl⟩:=words_last p3 hw;have hlen:c.length=(front k).length:=(by rw[hc,←p2,List.length_map]);dsimp only;by_cases h5:k=5∨k=6
  ·rw[if_pos h5,if_pos h5,takeW_brace hd (fun u hu=>hf' u (by simp[hu]))];cases hb:brace d r with
   | error e=>exact⟨fun x h=>(by cases h;rfl),fun r h=>(by cases h)⟩
   | ok r' =>
    refine⟨fun x h=>(by cases h),fun r2 h=>?_⟩;cases h
    cases r with
    | nil=>cases hb
    | cons u r =>
     rw[brace] at hb;split at hb
     ·next hs =>
      split at hb
      ·cases hb
      ·cases hb
       have hu:u.kind=4:=(by unfold isSign at hs;simp at hs;exact hs.1);refine⟨c++[u],by simp,by simp[hlen],?_⟩;rw[show texts (c++[u])=texts c by simp[texts,hu],show lastN (c++[u]) 0=lastN c 0 by simp[lastN,hu]]
     ·cases hb
  ·rw[if_neg h5,if_neg h5];refine⟨fun x h=>(by cases h),fun r2 h=>?_⟩;cases h
   exact⟨c,rfl,by simp[hlen],rfl⟩
end Ps
end Go.Proofs.YtodlhhfcjkjapaaGreatDoor
