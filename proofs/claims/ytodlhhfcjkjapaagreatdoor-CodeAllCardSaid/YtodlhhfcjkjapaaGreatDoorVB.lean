import Derived.Test.YtodlhhfcjkjapaaGreatDoorVF
import Derived.Test.YtodlhhfcjkjapaaGreatDoorRd
import Derived.Deep.AppendLies
namespace Go.Proofs.YtodlhhfcjkjapaaGreatDoor
open Go.RowKit
namespace Va
def Pt.text:Pt→List UInt8
 | .b c=>[c]
 | .n x=>x
def Pt.isName:Pt→Bool
 | .b _=>false
 | .n _=>true
end Va
def partCells (t:Va.Pt):List Value:=[.string ⟨t.text.toArray⟩,.bool t.isName]
def partRow (ts:List Va.Pt):List Value:=ts.flatMap partCells
theorem partRow_at:∀ (ts:List Va.Pt) (k:Nat) (t:Va.Pt),ts[k]?=some t→(partRow ts)[k*2]?=some (.string ⟨t.text.toArray⟩)∧(partRow ts)[k*2+1]?=some (.bool t.isName)
 | [],k,t,h=>by cases h
 | x :: ts,0,t,h=>by
  cases h
  exact⟨rfl,rfl⟩
 | x :: ts,k+1,t,h=>by
  obtain⟨h1,h2⟩:=partRow_at ts k t (by simpa using h);rw[show partRow (x :: ts)=partCells x++partRow ts from rfl];have e:(partCells x).length=2:=rfl;refine⟨?_,?_⟩
  ·rw[List.getElem?_append_right (by omega),e,show (k+1)*2-2=k*2 by omega];exact h1
  ·rw[List.getElem?_append_right (by omega),e,show (k+1)*2+1-2=k*2+1 by omega];exact h2
section
variable {P:Program} {w w':World} {B:Nat} {e:TypeId} {v:Value} {ts:List Va.Pt}
def PO (w:World) (B:Nat) (e:TypeId) (v:Value) (ts:List Va.Pt):Prop:=w.ownsRow B e 2 v ts.length (partRow ts)
theorem PO.nil (w:World) (B:Nat) (e:TypeId):PO w B e (.slice none 0 0) []:=World.ownsRow_nil _ _ _ _
theorem PO.below (h:PO w B e v ts) (hb:Below w.heap.size w w'):PO w' B e v ts :=
 World.ownsRow.kept h (row:=Option.none) ⟨hb.os,hb.tape,hb.output,hb.size,fun k hk _=>hb.block k hk⟩ (by
  cases hv:v.ownBlock
  ·exact .inl rfl
  ·exact .inr (by simp))
theorem PO.lt (h:PO w B e v ts):∀ k,v.ownBlock=some k→B≤k∧k<w.heap.size:=World.ownsRow.lt h
theorem PO.form (h:PO w B e v ts):∃ ao cap,v = .slice ao ts.length cap∧(ts=[] ∨ ∃ g,ao=some ⟨g,0,none⟩)∧ts.length≤cap∧cap≤maxLen:=by
 rcases h.2 with ⟨rfl,hn⟩|⟨g,cap,cur,rfl,_,hg,h2,h3,h4,h5⟩
 ·obtain rfl:ts=[]:=List.length_eq_zero_iff.1 hn;exact⟨_,_,rfl,.inl rfl,yR,Nat.zero_le _⟩
 ·exact⟨_,cap,rfl,.inr ⟨g,rfl⟩,h2,h3⟩
theorem PO.cells {ao:Option Addr} {n cap g:Nat} (h:PO w B e (.slice ao n cap) ts) (hg:ao=some ⟨g,0,none⟩) (k:Nat) (t:Va.Pt) (ht:ts[k]?=some t):w.cell? ⟨g,k*2,none⟩=some (.string ⟨t.text.toArray⟩)∧w.cell? ⟨g,k*2+1,none⟩=some (.bool t.isName):=by
 rcases h.2 with ⟨e1,hn⟩|⟨g',cap',cur,e1,_,hh,h2,h3,h4,h5⟩
 ·obtain rfl:ts=[]:=List.length_eq_zero_iff.1 hn;cases ht
 ·have hgg:g'=g:=by
   simp only[Value.slice.injEq] at e1;have:=e1.1.symm.trans hg;simpa using this
  subst hgg;have hk:k<ts.length:=(yE ht).1;obtain⟨c0,c1⟩:=partRow_at ts k t ht
  have at':∀ i u,i<ts.length*2→(partRow ts)[i]?=some u→w.cell? ⟨g',i,none⟩=some u:=by
   intro i u hi hu;rw[yC hh,←Array.getElem?_toList];rw[←h5,List.getElem?_take_of_lt hi] at hu;exact hu
  exact⟨at' _ _ (by omega) c0,at' _ _ (by omega) c1⟩
theorem wp_append_part {o:Oper} {a:Act} {K:Act→World→Prop} {Q:Exit→Act→World→Prop} {T:TypeId} {i0:TypeInfo} {z:Value} {by' b:Nat} (t:Va.Pt)
  (hT:P.underlying T=some (.slice e)) (hi:P.info? e=some i0) (hz:i0.zero=some z) (hs3:i0.size=2) (hby:i0.bytes=by') (hzs:z.cells.size=2) (hby':by'≤64)
  (s x:Operand) (ho:o.op = .call { callee:=.builtin .append,args:=#[s,x],argTypes:=#[T,T] })
  (hs:a.eval s=v) (h:PO w B e v ts) (hx:a.eval x = .slice (some ⟨b,0,none⟩) 1 1) (hb:w.heap[b]?=some (.cells (partCells t).toArray e (0,0)))
  (hn:ts.length≤1048576) (hB:B≤w.heap.size)
  (h':∀ g cap w',PO w' B e (.slice (some ⟨g,0,none⟩) (ts.length+1) cap) (ts++[t])→w.grownBy w' v.ownBlock→(v.ownBlock=some g∨g=w.heap.size)→K (a.put o.dst (.slice (some ⟨g,0,none⟩) (ts.length+1) cap)) w'):o.wp P a w K Q:=by
 refine wp_append_lies w s x T ho B e i0 z 2 by' hT hi hz hs3 hby hzs (by decide) v ts.length (partRow ts) hs h ⟨b,0,none⟩ 1 1 (partCells t) hx rfl ?_ ?_ (by decide) (by unfold maxLen;omega) ?_ hB _ rfl (fun g cap w' h2 h3 h4 _=>h' g cap w' ?_ h3 h4)
 ·exact World.news_of_block hb
 ·intro u hu;simp[partCells] at hu;rcases hu with rfl|rfl <;> rfl
 ·have:(ts.length+1)*by'≤(ts.length+1)*64:=Nat.mul_le_mul_left _ hby';omega
 ·unfold PO;rw[List.length_append,show partRow (ts++[t])=partRow ts++partCells t by simp[partRow]];exact h2
end
end Go.Proofs.YtodlhhfcjkjapaaGreatDoor
namespace Go.Proofs.YtodlhhfcjkjapaaGreatDoor
namespace Va
theorem go_few:∀ (f:Nat) (l:List UInt8) (ps:List Pt),go f l=some ps→ps.length≤l.length ∧ ∀ p ∈ ps,p.text.length≤l.length
 | 0,l,ps,h=>by cases h;exact⟨Nat.zero_le _,fun p hp=>by cases hp⟩
 | _+1,[],ps,h=>by cases h;exact⟨Nat.zero_le _,fun p hp=>by cases hp⟩
 | f+1,c :: l,ps,h=>by
  rw[go] at h
  have more:∀ (m:List UInt8) (p:Pt),m.length≤l.length→p.text.length≤l.length+1→(go f m).map (p :: ·)=some ps→ps.length≤l.length+1 ∧ ∀ p ∈ ps,p.text.length≤l.length+1:=fun m p hm hp e=>by
   cases hg:go f m with
   | none=>rw[hg] at e;cases e
   | some qs =>
    rw[hg] at e;cases e
    obtain⟨h1,h2⟩:=go_few f m qs hg;refine⟨by rw[List.length_cons];omega,fun q hq=>?_⟩;rcases List.mem_cons.1 hq with rfl|hq
    ·exact hp
    ·have:=h2 q hq;omega
  rw[List.length_cons];by_cases h1:c=36
  ·rw[if_pos h1] at h;by_cases h0:l=[]
   ·rw[if_pos h0] at h;cases h
   ·rw[if_neg h0] at h;by_cases h2:small (l.headD 0)=true
    ·rw[if_pos h2] at h;exact more _ _ (drop_len _ _) (by show (l.takeWhile inName).length≤_;have:=len_parts inName l;omega) h
    ·rw[if_neg h2] at h;by_cases h3:l.headD 0=36
     ·rw[if_pos h3] at h;exact more _ _ (by rw[List.length_tail];omega) (by show 1≤_;omega) h
     ·rw[if_neg h3] at h;cases h
  ·rw[if_neg h1] at h;exact more _ _ yR (by show 1≤_;omega) h
theorem parts_few {l:List UInt8} {ps:List Pt} (h:parts l=some ps):ps.length≤l.length ∧ ∀ p ∈ ps,p.text.length≤l.length:=go_few _ _ _ h
theorem names_more {ps:List Pt} {k:Nat} {p:Pt} (h:ps[k]?=some p):names (ps.take (k+1))=names (ps.take k)++if p.isName=true then [p.text] else []:=by
 obtain⟨hk,he⟩:=yE h;rw[List.take_succ_eq_append_getElem hk,he];unfold names;rw[List.filterMap_append];cases p <;> rfl
def Fi (σ:Env) (ps:List Pt) (k:Nat) (o:List UInt8):Prop:=fill σ ps=(fill σ (ps.drop k)).map (o ++ ·)
section
variable {σ:Env} {ps:List Pt} {k:Nat} {o:List UInt8} {p:Pt}
theorem Fi.start (σ:Env) (ps:List Pt):Fi σ ps 0 []:=by
 unfold Fi;rw[List.drop_zero];cases fill σ ps <;> rfl
theorem Fi.drop (h:ps[k]?=some p):ps.drop k=p :: ps.drop (k+1):=by
 obtain⟨hk,he⟩:=yE h;rw[←he];exact List.drop_eq_getElem_cons hk
theorem Fi.byte (h:Fi σ ps k o) (hp:ps[k]?=some p) (hn:p.isName=false):Fi σ ps (k+1) (o++p.text):=by
 unfold Fi at *;rw[h,Fi.drop hp];cases p with
 | n x=>cases hn
 | b c =>
  rw[fill];cases fill σ (ps.drop (k+1)) with
  | none=>rfl
  | some q=>show some (o++(c :: q))=some ((o++[c])++q);rw[List.append_assoc];rfl
theorem Fi.name {v:List UInt8} (h:Fi σ ps k o) (hp:ps[k]?=some p) (hn:p.isName=true) (hv:look σ p.text=some v):Fi σ ps (k+1) (o++v):=by
 unfold Fi at *;rw[h,Fi.drop hp];cases p with
 | b x=>cases hn
 | n x =>
  rw[fill,show look σ x=some v from hv];show ((fill σ (ps.drop (k+1))).map _).map _=_
  cases fill σ (ps.drop (k+1)) with
  | none=>rfl
  | some q=>show some (o++(v++q))=some ((o++v)++q);rw[List.append_assoc]
theorem Fi.unset (h:Fi σ ps k o) (hp:ps[k]?=some p) (hn:p.isName=true) (hv:look σ p.text=none):fill σ ps=none:=by
 unfold Fi at *;rw[h,Fi.drop hp];cases p with
 | b x=>cases hn
 | n x=>rw[fill,show look σ x=none from hv];rfl
theorem Fi.end (h:Fi σ ps k o) (hk:ps.length≤k):fill σ ps=some o:=by
 unfold Fi at *;rw[h,List.drop_eq_nil_of_le hk,fill];show some (o++[])=_
 rw[List.append_nil]
end
end Va
end Go.Proofs.YtodlhhfcjkjapaaGreatDoor
