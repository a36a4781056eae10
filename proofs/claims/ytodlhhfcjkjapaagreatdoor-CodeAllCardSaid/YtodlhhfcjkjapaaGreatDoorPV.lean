import Derived.Test.YtodlhhfcjkjapaaGreatDoorPC
import Derived.Test.YtodlhhfcjkjapaaGreatDoorPA
namespace Go.Proofs.YtodlhhfcjkjapaaGreatDoor
namespace Ps
open Lx (Tok)
abbrev WRes:=Res (List (List UInt8) × Nat × List Tok)
def wres (acc:List (List UInt8)) (sn:Bool) (n:Nat) (r:WRes):WRes:=match r with
 | .error e=>.error e
 | .ok (ws,n2,q)=>.ok (acc++ws,if sn then n else n2,q)
def WLink (e f:Nat) (acc:List (List UInt8)) (sn:Bool) (n:Nat) (rest:List W) (ts:List Tok) (T:WRes):Prop :=
 (e=0∧T=wres acc sn n (words rest ts))∨(e≠0∧T = .error (f,e))
theorem wres_text {acc:List (List UInt8)} {sn:Bool} {n:Nat} {x:W} {xs:List W} {t:Tok} {ts:List Tok} (hx:x = .n∨x = .t∨x = .w) (hf:fits x t=true):wres acc sn n (words (x :: xs) (t :: ts))=wres (acc++[t.text]) sn n (words xs ts):=by
 rw[words,if_pos hf];cases words xs ts with
 | error e=>rfl
 | ok y =>
  obtain⟨ws,n2,q⟩:=y;rcases hx with rfl|rfl|rfl <;> simp[wres,addW,addN]
theorem wres_num {acc:List (List UInt8)} {sn:Bool} {n:Nat} {xs:List W} {t:Tok} {ts:List Tok} (hf:fits .i t=true) (hs:sn=false):wres acc sn n (words (.i :: xs) (t :: ts))=wres acc true (num t.text) (words xs ts):=by
 subst hs;rw[words,if_pos hf];cases words xs ts with
 | error e=>rfl
 | ok y=>obtain⟨ws,n2,q⟩:=y;simp[wres,addW,addN]
theorem wres_sign {acc:List (List UInt8)} {sn:Bool} {n:Nat} {xs:List W} {c:UInt8} {t:Tok} {ts:List Tok} (hf:fits (.s c) t=true):wres acc sn n (words (.s c :: xs) (t :: ts))=wres acc sn n (words xs ts):=by
 rw[words,if_pos hf];cases words xs ts with
 | error e=>rfl
 | ok y=>obtain⟨ws,n2,q⟩:=y;simp[wres,addW,addN]
theorem wres_no {acc:List (List UInt8)} {sn:Bool} {n:Nat} {x:W} {xs:List W} {t:Tok} {ts:List Tok} (hf:fits x t=false):wres acc sn n (words (x :: xs) (t :: ts)) = .error (t.place,20):=by
 rw[words,if_neg (by rw[hf];decide)];rfl
theorem WLink.no {e f:Nat} {acc acc':List (List UInt8)} {sn sn':Bool} {n n':Nat} {x:W} {xs:List W} {t:Tok} {ts ts':List Tok} {T:WRes} (h:WLink e f acc sn n (x :: xs) (t :: ts) T) (he:e=0) (hf:fits x t=false):WLink 20 t.place acc' sn' n' xs ts' T:=by
 rcases h with ⟨_,h⟩|⟨h,_⟩
 ·exact .inr ⟨by decide,by rw[h,wres_no hf]⟩
 ·exact absurd he h
theorem WLink.err {e f:Nat} {acc acc':List (List UInt8)} {sn sn':Bool} {n n':Nat} {xs xs':List W} {ts ts':List Tok} {T:WRes} (h:WLink e f acc sn n xs ts T) (he:e≠0):WLink e f acc' sn' n' xs' ts' T:=by
 rcases h with ⟨h,_⟩|⟨_,h⟩
 ·exact absurd h he
 ·exact .inr ⟨he,h⟩
theorem WLink.text {e f:Nat} {acc:List (List UInt8)} {sn:Bool} {n:Nat} {x:W} {xs:List W} {t:Tok} {ts:List Tok} {T:WRes} (h:WLink e f acc sn n (x :: xs) (t :: ts) T) (he:e=0) (hx:x = .n∨x = .t∨x = .w) (hf:fits x t=true) (f':Nat):WLink 0 f' (acc++[t.text]) sn n xs ts T:=by
 rcases h with ⟨_,h⟩|⟨h,_⟩
 ·exact .inl ⟨rfl,by rw[h,wres_text hx hf]⟩
 ·exact absurd he h
theorem WLink.num {e f:Nat} {acc:List (List UInt8)} {sn:Bool} {n:Nat} {xs:List W} {t:Tok} {ts:List Tok} {T:WRes} (h:WLink e f acc sn n (.i :: xs) (t :: ts) T) (he:e=0) (hs:sn=false) (hf:fits .i t=true) (f':Nat):WLink 0 f' acc true (Ps.num t.text) xs ts T:=by
 rcases h with ⟨_,h⟩|⟨h,_⟩
 ·exact .inl ⟨rfl,by rw[h,wres_num hf hs]⟩
 ·exact absurd he h
theorem WLink.sign {e f:Nat} {acc:List (List UInt8)} {sn:Bool} {n:Nat} {c:UInt8} {xs:List W} {t:Tok} {ts:List Tok} {T:WRes} (h:WLink e f acc sn n (.s c :: xs) (t :: ts) T) (he:e=0) (hf:fits (.s c) t=true) (f':Nat):WLink 0 f' acc sn n xs ts T:=by
 rcases h with ⟨_,h⟩|⟨h,_⟩
 ·exact .inl ⟨rfl,by rw[h,wres_sign hf]⟩
 ·exact absurd he h
def WEnd (e f:Nat) (ws:List (List UInt8)) (n:Nat) (ts:List Tok) (T:WRes):Prop:=(e=0∧T = .ok (ws,n,ts))∨(e≠0∧T = .error (f,e))
theorem WLink.fin {e f:Nat} {acc:List (List UInt8)} {sn:Bool} {n:Nat} {ts:List Tok} {T:WRes} (h:WLink e f acc sn n [] ts T) (hn:sn=false→n=0):WEnd e f acc n ts T:=by
 rcases h with ⟨h0,h⟩|h
 ·refine .inl ⟨h0,?_⟩;rw[h,words,wres,List.append_nil];cases sn with
  | false=>rw[hn rfl];rfl
  | true=>rfl
 ·exact .inr h
theorem tail_kinds:∀ k:Fin 18,∀ x ∈ tailW k.val,x=[110]∨x=[119]∨x=[116]∨x=[105]∨x=[123]∨x=[61]∨x=[59]:=by decide +kernel
theorem until_cons {x:List UInt8} {l:List (List UInt8)}:untilB (x :: l)=match wordW x with|none=>[]|some y=>y :: untilB l:=rfl
theorem one_int:∀ k:Fin 18,∀ i:Fin 5,(tailW k.val)[i.val]?=some [105]→((tailW k.val).take i.val).contains [105]=false:=by decide +kernel
theorem num_ref {t:Tok} (h:Fine t) (hk:t.kind=2):Tx.number t.text 999999999=((num t.text:Int),true)∧t.text.length≤9:=by
 rcases h with h|h|h|h|h
 ·omega
 ·omega
 ·obtain⟨_,⟨c,r,e,_⟩,hall,h9⟩:=h
  have hd:Tx.digits t.text=true:=by
   unfold Tx.digits;rw[List.all_eq_true];intro c hc;have:=hall c hc;unfold Lx.digit at this;unfold Tx.dig;exact this
  have hlt:=Tx.val_lt' _ t.text rfl hd;have h10:10 ^ t.text.length≤10 ^ 9:=Nat.pow_le_pow_right (by decide) h9;refine⟨?_,h9⟩;unfold Tx.number;rw[if_pos ⟨⟨by rw[e];simp,h9,hd⟩,by have:(10:Nat) ^ 9=1000000000:=rfl;omega⟩];rfl
 ·omega
 ·omega
theorem num_none:Tx.number ([]:List UInt8) 999999999=(0,false):=rfl
end Ps
namespace Ps
open Lx (Tok)
abbrev BRes:=Res (List Nat × List St × List Tok)
abbrev ORes:=Res (Nat × List St × List Tok)
def BEnd (e f:Nat) (xs:List Nat) (row:List St) (ts:List Tok) (T:BRes):Prop:=(e=0∧T = .ok (xs,row,ts))∨(e≠0∧T = .error (f,e))
def OEnd (e f i:Nat) (row:List St) (ts:List Tok) (T:ORes):Prop:=(e=0∧T = .ok (i,row,ts))∨(e≠0∧T = .error (f,e))
def BAsk (F d e f:Nat) (row:List St) (ts:List Tok) (T:BRes):Prop:=(e=0∧T=block F d row ts∧Done T)∨(e≠0∧T = .error (f,e))
def mres (xs:List Nat) (r:BRes):BRes:=match r with
 | .error e=>.error e
 | .ok (l,row,q)=>.ok (xs++l,row,q)
def MLink (F d e f:Nat) (xs:List Nat) (row:List St) (ts:List Tok) (T:BRes):Prop:=(e=0∧T=mres xs (many F d row ts)∧Done T)∨(e≠0∧T = .error (f,e))
theorem done_mres {xs:List Nat} {r:BRes} (h:Done (mres xs r)):Done r:=fun e=>by rw[e] at h;exact h rfl
theorem BAsk.open_ {F d e f:Nat} {row:List St} {t:Tok} {ts:List Tok} {T:BRes} (h:BAsk F d e f row (t :: ts) T) (he:e=0) (hs:isSign 123 t=true) (hd:¬ 8≤d):∃ F',F=F'+1 ∧ ∀ f',MLink F' (d+1) 0 f' [] row ts T:=by
 rcases h with ⟨_,rfl,hD⟩|⟨h,_⟩
 ·cases F with
  | zero=>exact absurd (by rw[block]) hD
  | succ F =>
   refine⟨F,rfl,fun f'=>?_⟩;have e1:block (F+1) d row (t :: ts)=many F (d+1) row ts:=(by rw[block,if_pos hs,if_neg hd]);rw[e1] at hD ⊢;exact .inl ⟨rfl,by cases many F (d+1) row ts <;> rfl,hD⟩
 ·exact absurd he h
theorem BAsk.deep {F d e f:Nat} {row:List St} {t:Tok} {ts:List Tok} {T:BRes} (h:BAsk F d e f row (t :: ts) T) (he:e=0) (hs:isSign 123 t=true) (hd:8≤d):T = .error (t.place,21):=by
 rcases h with ⟨_,rfl,hD⟩|⟨h,_⟩
 ·cases F with
  | zero=>exact absurd (by rw[block]) hD
  | succ F=>rw[block,if_pos hs,if_pos hd]
 ·exact absurd he h
theorem BAsk.no {F d e f:Nat} {row:List St} {t:Tok} {ts:List Tok} {T:BRes} (h:BAsk F d e f row (t :: ts) T) (he:e=0) (hs:isSign 123 t=false):T = .error (t.place,20):=by
 rcases h with ⟨_,rfl,hD⟩|⟨h,_⟩
 ·cases F with
  | zero=>exact absurd (by rw[block]) hD
  | succ F=>rw[block,if_neg (by rw[hs];decide)]
 ·exact absurd he h
theorem BAsk.err {F d e f:Nat} {row:List St} {ts:List Tok} {T:BRes} (h:BAsk F d e f row ts T) (he:e≠0):T = .error (f,e):=by
 rcases h with ⟨h,_⟩|⟨_,h⟩
 ·exact absurd h he
 ·exact h
theorem MLink.mk_err {F d e f:Nat} {xs:List Nat} {row:List St} {ts:List Tok} {T:BRes} (h:T = .error (f,e)) (he:e≠0):MLink F d e f xs row ts T:=.inr ⟨he,h⟩
theorem MLink.err {F d e f:Nat} {xs:List Nat} {row:List St} {ts:List Tok} {T:BRes} (h:MLink F d e f xs row ts T) (he:e≠0):T = .error (f,e):=by
 rcases h with ⟨h,_⟩|⟨_,h⟩
 ·exact absurd h he
 ·exact h
theorem MLink.close {F d e f:Nat} {xs:List Nat} {row:List St} {t:Tok} {ts:List Tok} {T:BRes} (h:MLink F d e f xs row (t :: ts) T) (he:e=0) (hs:isSign 125 t=true):T = .ok (xs,row,ts):=by
 rcases h with ⟨_,rfl,hD⟩|⟨h,_⟩
 ·cases F with
  | zero=>exact absurd (by rw[many]) (done_mres hD)
  | succ F=>rw[many,if_pos hs,mres,List.append_nil]
 ·exact absurd he h
theorem MLink.more {F d e f:Nat} {xs:List Nat} {row:List St} {t:Tok} {ts:List Tok} {T:BRes} (h:MLink F d e f xs row (t :: ts) T) (he:e=0) (hs:isSign 125 t=false) :
  ∃ F',F=F'+1∧Done (one F' d row (t :: ts)) ∧ ∀ e' f' i row' ts',OEnd e' f' i row' ts' (one F' d row (t :: ts))→MLink F' d e' f' (xs++[i]) row' ts' T:=by
 rcases h with ⟨_,rfl,hD⟩|⟨h,_⟩
 ·cases F with
  | zero=>exact absurd (by rw[many]) (done_mres hD)
  | succ F =>
   rw[many,if_neg (by rw[hs];decide)] at hD;refine⟨F,rfl,fun e=>by rw[e] at hD;exact hD rfl,fun e' f' i row' ts' ho=>?_⟩;rw[many,if_neg (by rw[hs];decide)];rcases ho with ⟨h0,ho⟩|⟨h0,ho⟩
   ·rw[ho] at hD ⊢;refine .inl ⟨h0,?_,?_⟩
    ·dsimp only;cases many F d row' ts' with
     | error x=>rfl
     | ok y=>obtain⟨l,r2,q⟩:=y;simp[mres]
    ·dsimp only;exact hD
   ·rw[ho];exact .inr ⟨h0,rfl⟩
 ·exact absurd he h
def k1 (f d k p:Nat) (row:List St) (ws:List (List UInt8)) (n:Nat) (r:List Tok):ORes :=
 if k=5∨k=6 then (match block f d row r with
  | .error e=>.error e
  | .ok (l,row1,r1) =>
   if k=5∧elseNext r1=true then (match block f d row1 r1.tail with
    | .error e=>.error e
    | .ok (m,row2,r2)=>.ok (row2.length,row2++[mk k p ws n l m],r2))
   else .ok (row1.length,row1++[mk k p ws n l []],r1))
 else .ok (row.length,row++[mk k p ws n [] []],r)
theorem one_k1 {f d:Nat} {row:List St} {t:Tok} {ts:List Tok} (h:t.kind=1∧kindOf t.text≠0):one (f+1) d row (t :: ts)=(match words (shape (kindOf t.text)) ts with | .error e=>.error e | .ok (ws,n,r)=>k1 f d (kindOf t.text) t.place row ws n r):=by
 rw[one,if_pos h];rfl
theorem one_no {f d:Nat} {row:List St} {t:Tok} {ts:List Tok} (h:¬ (t.kind=1∧kindOf t.text≠0)):one (f+1) d row (t :: ts) = .error (t.place,20):=by rw[one,if_neg h]
theorem one_f {F d:Nat} {row:List St} {ts:List Tok} (h:Done (one F d row ts)):∃ f,F=f+1:=by
 cases F with
 | zero=>exact absurd (by rw[one]) h
 | succ f=>exact⟨f,rfl⟩
def L1 (f d k p e fr:Nat) (row:List St) (ws:List (List UInt8)) (n:Nat) (r:List Tok) (T:ORes):Prop:=(e=0∧T=k1 f d k p row ws n r∧Done T)∨(e≠0∧T = .error (fr,e))
theorem L1.of {f d:Nat} {row:List St} {t:Tok} {ts:List Tok} (h:t.kind=1∧kindOf t.text≠0) (hD:Done (one (f+1) d row (t :: ts))) {e fr n:Nat} {ws:List (List UInt8)} {r:List Tok} (hw:WEnd e fr ws n r (words (shape (kindOf t.text)) ts)):L1 f d (kindOf t.text) t.place e fr row ws n r (one (f+1) d row (t :: ts)):=by
 rw[one_k1 h] at hD ⊢;rcases hw with ⟨h0,hw⟩|⟨h0,hw⟩
 ·rw[hw] at hD ⊢;exact .inl ⟨h0,rfl,hD⟩
 ·rw[hw];exact .inr ⟨h0,rfl⟩
def LF (e fr:Nat) (s:St) (row:List St) (r:List Tok) (T:ORes):Prop:=(e=0∧T = .ok (row.length,row++[s],r))∨(e≠0∧T = .error (fr,e))
theorem LF.fin {e fr:Nat} {s:St} {row:List St} {r:List Tok} {T:ORes} (h:LF e fr s row r T):OEnd e fr row.length (row++[s]) r T:=h
theorem L1.plain {f d k p e fr n:Nat} {row:List St} {ws:List (List UInt8)} {r:List Tok} {T:ORes} (h:L1 f d k p e fr row ws n r T) (hk:¬ (k=5∨k=6)):LF e fr (mk k p ws n [] []) row r T:=by
 rcases h with ⟨h0,rfl,_⟩|h
 ·exact .inl ⟨h0,by rw[k1,if_neg hk]⟩
 ·exact .inr h
theorem L1.ask {f d k p e fr n:Nat} {row:List St} {ws:List (List UInt8)} {r:List Tok} {T:ORes} (h:L1 f d k p e fr row ws n r T) (hk:k=5∨k=6):∃ T1,BAsk f d e fr row r T1 ∧ ∀ e' f' xs row' r',BEnd e' f' xs row' r' T1 →
  (¬ (e'=0∧k=5∧elseNext r'=true)→LF e' f' (mk k p ws n xs []) row' r' T)∧(e'=0→k=5→elseNext r'=true → ∀ f2,∃ T2,BAsk f d 0 f2 row' r'.tail T2 ∧ ∀ e2 f2' ys row2 r2,BEnd e2 f2' ys row2 r2 T2→LF e2 f2' (mk k p ws n xs ys) row2 r2 T):=by
 rcases h with ⟨h0,rfl,hD⟩|⟨h0,rfl⟩
 ·refine⟨block f d row r,.inl ⟨h0,rfl,?_⟩,fun e' f' xs row' r' hb=>⟨fun hn=>?_,fun h1 h2 h3 f2=>?_⟩⟩
  ·intro e;rw[k1,if_pos hk,e] at hD;exact hD rfl
  ·rw[k1,if_pos hk];rcases hb with ⟨h1,hb⟩|⟨h1,hb⟩
   ·rw[hb];dsimp only;rw[if_neg (fun h=>hn ⟨h1,h⟩)];exact .inl ⟨h1,rfl⟩
   ·rw[hb];exact .inr ⟨h1,rfl⟩
  ·rcases hb with ⟨_,hb⟩|⟨h4,_⟩
   ·rw[k1,if_pos hk,hb] at hD;dsimp only at hD;rw[if_pos ⟨h2,h3⟩] at hD;refine⟨block f d row' r'.tail,.inl ⟨rfl,rfl,fun e=>by rw[e] at hD;exact hD rfl⟩,fun e2 f2' ys row2 r2 hb2=>?_⟩;rw[k1,if_pos hk,hb];dsimp only;rw[if_pos ⟨h2,h3⟩];rcases hb2 with ⟨h5,hb2⟩|⟨h5,hb2⟩
    ·rw[hb2];exact .inl ⟨h5,rfl⟩
    ·rw[hb2];exact .inr ⟨h5,rfl⟩
   ·exact absurd h1 h4
 ·refine⟨.error (fr,e),.inr ⟨h0,rfl⟩,fun e' f' xs row' r' hb=>⟨fun _=>?_,fun h1=>?_⟩⟩
  ·rcases hb with ⟨_,hb⟩|⟨h1,hb⟩
   ·cases hb
   ·cases hb;exact .inr ⟨h0,rfl⟩
  ·rcases hb with ⟨_,hb⟩|⟨h2,_⟩
   ·cases hb
   ·exact absurd h1 h2
end Ps
namespace Ps
open Lx (Tok)
abbrev PRes:=Res (Nat × List St × List Nat)
abbrev TRes:=Res (List Nat × List St)
def tres (xs:List Nat) (r:TRes):TRes:=match r with
 | .error e=>.error e
 | .ok (l,row)=>.ok (xs++l,row)
def tfin (md:Nat) (r:TRes):PRes:=match r with
 | .error e=>.error e
 | .ok (l,row)=>if 100<row.length then .error (0,4) else .ok (md,row,l)
def TLink (F md e f:Nat) (xs:List Nat) (row:List St) (ts:List Tok) (T:PRes):Prop:=(e=0∧T=tfin md (tres xs (tops F row ts))∧Done (tops F row ts))∨(e≠0∧T = .error (f,e))
theorem TLink.err {F md e f:Nat} {xs:List Nat} {row:List St} {ts:List Tok} {T:PRes} (h:TLink F md e f xs row ts T) (he:e≠0):T = .error (f,e):=by
 rcases h with ⟨h,_⟩|⟨_,h⟩
 ·exact absurd h he
 ·exact h
theorem TLink.close {F md e f:Nat} {xs:List Nat} {row:List St} {t:Tok} {ts:List Tok} {T:PRes} (h:TLink F md e f xs row (t :: ts) T) (he:e=0) (hk:t.kind=0):T=if 100<row.length then .error (0,4) else .ok (md,row,xs):=by
 rcases h with ⟨_,rfl,hD⟩|⟨h,_⟩
 ·cases F with
  | zero=>exact absurd (by rw[tops]) hD
  | succ F=>rw[tops,if_pos hk,tres,tfin,List.append_nil]
 ·exact absurd he h
theorem TLink.more {F md e f:Nat} {xs:List Nat} {row:List St} {t:Tok} {ts:List Tok} {T:PRes} (h:TLink F md e f xs row (t :: ts) T) (he:e=0) (hk:t.kind≠0) :
  ∃ F',F=F'+1∧Done (one F' 0 row (t :: ts)) ∧ ∀ e' f' i row' ts',OEnd e' f' i row' ts' (one F' 0 row (t :: ts))→TLink F' md e' f' (xs++[i]) row' ts' T:=by
 rcases h with ⟨_,rfl,hD⟩|⟨h,_⟩
 ·cases F with
  | zero=>exact absurd (by rw[tops]) hD
  | succ F =>
   rw[tops,if_neg hk] at hD;refine⟨F,rfl,fun e=>by rw[e] at hD;exact hD rfl,fun e' f' i row' ts' ho=>?_⟩;rw[tops,if_neg hk];rcases ho with ⟨h0,ho⟩|⟨h0,ho⟩
   ·rw[ho] at hD ⊢;dsimp only at hD ⊢;refine .inl ⟨h0,?_,fun e=>by rw[e] at hD;exact hD rfl⟩;cases tops F row' ts' with
    | error x=>rfl
    | ok y=>obtain⟨l,r2⟩:=y;simp[tres]
   ·rw[ho];exact .inr ⟨h0,rfl⟩
 ·exact absurd he h
theorem prog_no0 {t0:Tok} {r:List Tok} (h:isName wMode t0=false):prog (t0 :: r) = .error (t0.place,20):=by
 have e:head (t0 :: r) = .error (t0.place,20):=by
  show (if isName wMode t0=true then _ else _)=_
  rw[if_neg (by rw[h];decide)]
 unfold prog;rw[e]
theorem prog_no1 {t0 t1:Tok} {r:List Tok} (h:isName wMode t0=true) (h1:¬ (t1.kind=1∧mode t1.text≠0)):prog (t0 :: t1 :: r) = .error (t1.place,20):=by
 have e:head (t0 :: t1 :: r) = .error (t1.place,20):=by
  show (if isName wMode t0=true then (if t1.kind=1∧mode t1.text≠0 then _ else _) else _)=_
  rw[if_pos h,if_neg h1]
 unfold prog;rw[e]
theorem prog_no2 {t0 t1 t2:Tok} {r:List Tok} (h:isName wMode t0=true) (h1:t1.kind=1∧mode t1.text≠0) (h2:isSign 59 t2=false):prog (t0 :: t1 :: t2 :: r) = .error (t2.place,20):=by
 have e:head (t0 :: t1 :: t2 :: r) = .error (t2.place,20):=by
  show (if isName wMode t0=true then (if t1.kind=1∧mode t1.text≠0 then (if isSign 59 t2=true then _ else _) else _) else _)=_
  rw[if_pos h,if_pos h1,if_neg (by rw[h2];decide)]
 unfold prog;rw[e]
theorem prog_yes {t0 t1 t2:Tok} {r:List Tok} (h:isName wMode t0=true) (h1:t1.kind=1∧mode t1.text≠0) (h2:isSign 59 t2=true) (f:Nat):TLink (fuel r.length) (mode t1.text) 0 f [] [] r (prog (t0 :: t1 :: t2 :: r)):=by
 refine .inl ⟨rfl,?_,enough_tops _ _ _ (by unfold fuel;omega)⟩
 have e:head (t0 :: t1 :: t2 :: r) = .ok (mode t1.text,r):=by
  show (if isName wMode t0=true then (if t1.kind=1∧mode t1.text≠0 then (if isSign 59 t2=true then _ else _) else _) else _)=_
  rw[if_pos h,if_pos h1,if_pos h2]
 unfold prog;rw[e];dsimp only;cases tops (fuel r.length) [] r with
 | error x=>rfl
 | ok y=>obtain⟨l,row⟩:=y;simp[tres,tfin]
end Ps
end Go.Proofs.YtodlhhfcjkjapaaGreatDoor
