import Derived.Test.YtodlhhfcjkjapaaGreatDoorParsePut
import Derived.Test.YtodlhhfcjkjapaaGreatDoorPA
import Derived.Test.YtodlhhfcjkjapaaGreatDoorPH
import Derived.Test.YtodlhhfcjkjapaaGreatDoorPC
import Derived.Test.YtodlhhfcjkjapaaGreatDoorBA
import Derived.Test.YtodlhhfcjkjapaaGreatDoorPL
set_option maxRecDepth 200000
set_option maxHeartbeats 8000000
namespace Go.Proofs.YtodlhhfcjkjapaaGreatDoor
open Go.RowKit
def stk (hs:List HA):List Ps.Hf:=(hs.map HA.hf).reverse
theorem stk_snoc (hs:List HA) (x:HA):stk (hs++[x])=x.hf :: stk hs:=by simp[stk]
theorem stk_len (hs:List HA):(stk hs).length=hs.length:=by simp[stk]
structure Lens (hs ps:List HA) (cs:List SA) (top:List Nat):Prop where
 h:∀ x ∈ hs++ps,x.st.l.length≤cs.length∧x.st.m.length≤cs.length
 t:top.length≤cs.length
theorem put_any {B g b q md a f:Nat} {lv ov sv' tv:Value} {ts:List Lx.Tok} {hs:List HA} {cs:List SA} {top:List Nat} (x:HA) (w:World) (h:PX w B g b q lv ov sv' tv md a f ts hs [x] cs top) (hn:hs.length≤1048576) (hc:cs.length≤1048576) (hl:Lens hs [x] cs top) :
  Calls Tryz.prog 64 #[.pointer (some ⟨g,0,none⟩),.agg (stCells x.sa).toArray] w fun e w'=>e = .returned (.tuple #[])∧(∃ sv2 tv2 hs' top',PX w' B g b q lv ov sv2 tv2 md a f ts hs' [] (cs++[x.sa]) top'∧stk hs'=Ps.bump cs.length (stk hs)∧top'=Ps.bumpT cs.length (stk hs) top∧hs'.length=hs.length∧Lens hs' [] (cs++[x.sa]) top')∧Below B w w':=by
 have ht:=hl.t;rcases List.eq_nil_or_concat hs with rfl|⟨hs0,y,rfl⟩
 ·refine(put_top x w h hc (by omega)).mono ?_;rintro e w' ⟨rfl,⟨sv2,tv2,hp⟩,hb⟩;refine⟨rfl,⟨sv2,tv2,[],_,hp,rfl,rfl,rfl,⟨fun z hz=>by simp at hz,?_⟩⟩,hb⟩;rw[List.length_append,List.length_append];simp only[List.length_singleton];omega
 ·rw[List.concat_eq_append] at *;have hn0:hs0.length≤1048576:=(by rw[List.length_append] at hn;omega);obtain⟨y1,y2⟩:=hl.h y (by simp)
  have hold:∀ z ∈ hs0,z.st.l.length≤cs.length+1∧z.st.m.length≤cs.length+1:=fun z hz=>by
   have:=hl.h z (by simp[hz]);omega
  cases hy:y.els with
  | false =>
   refine(put_l y x w h hy hn0 hc (by omega)).mono ?_;rintro e w' ⟨rfl,⟨sv2,v2,hp⟩,hb⟩;refine⟨rfl,⟨sv2,tv,_,top,hp,?_,?_,by simp,⟨fun z hz=>?_,by rw[List.length_append];simp;omega⟩⟩,hb⟩
   ·rw[stk_snoc,stk_snoc,Ps.bump];congr 1
    unfold Ps.addL HA.hf;simp[hy]
   ·rw[stk_snoc,Ps.bumpT,if_neg (by simp)]
   ·rw[List.length_append,List.length_singleton];rw[List.append_nil] at hz;rcases List.mem_append.1 hz with hz|hz
    ·exact hold z hz
    ·rw[List.mem_singleton.1 hz];simp only[List.length_append,List.length_singleton];omega
  | true =>
   refine(put_m y x w h hy hn0 hc (by omega)).mono ?_;rintro e w' ⟨rfl,⟨sv2,v2,hp⟩,hb⟩;refine⟨rfl,⟨sv2,tv,_,top,hp,?_,?_,by simp,⟨fun z hz=>?_,by rw[List.length_append];simp;omega⟩⟩,hb⟩
   ·rw[stk_snoc,stk_snoc,Ps.bump];congr 1
    unfold Ps.addL HA.hf;simp[hy]
   ·rw[stk_snoc,Ps.bumpT,if_neg (by simp)]
   ·rw[List.length_append,List.length_singleton];rw[List.append_nil] at hz;rcases List.mem_append.1 hz with hz|hz
    ·exact hold z hz
    ·rw[List.mem_singleton.1 hz];simp only[List.length_append,List.length_singleton];omega
theorem half_info:(Tryz.prog.info? 105).map (fun i=>(i.zero,i.size,i.bytes))=some (some (.agg #[.int .i64 0,.string ⟨#[]⟩,.string ⟨#[]⟩,.string ⟨#[]⟩,.int .i64 0,.int .i64 0,.slice none 0 0,.slice none 0 0,.bool false]),9,128):=by kernel_rfl
theorem append_h {o:Oper} {a:Act} {K:Act→World→Prop} {Q:Exit→Act→World→Prop} {w:World} {B b:Nat} {v:Value} {cs:List HA} (t:HA)
  (s x:Operand) (ho:o.op = .call { callee:=.builtin .append,args:=#[s,x],argTypes:=#[73,73] })
  (hs:a.eval s=v) (h:w.ownsRow B 105 9 v cs.length (hRow cs)) (hx:a.eval x = .slice (some ⟨b,0,none⟩) 1 1) (hb:w.heap[b]?=some (.cells (hCells t).toArray 105 (0,0)))
  (hl:t.l.oneCell'=true) (hm:t.m.oneCell'=true) (hn:cs.length≤1048576) (hB:B≤w.heap.size)
  (h':∀ g cap w',w'.ownsRow B 105 9 (.slice (some ⟨g,0,none⟩) (cs.length+1) cap) (cs.length+1) (hRow (cs++[t]))→w.grownBy w' v.ownBlock→(v.ownBlock=some g∨g=w.heap.size)→K (a.put o.dst (.slice (some ⟨g,0,none⟩) (cs.length+1) cap)) w'):o.wp Tryz.prog a w K Q:=by
 obtain⟨i0,hi,hz0,hz1,hz2⟩:=info_parts half_info;refine wp_append_lies w s x _ ho B _ i0 _ 9 128 Tryz.underlying73 hi hz0 hz1 hz2 (by decide) (by decide) v cs.length (hRow cs) hs h ⟨b,0,none⟩ 1 1 (hCells t) hx rfl (World.news_of_block hb) ?_ (by decide) (by unfold maxLen;omega) (by omega) hB _ rfl (fun g cap w' h2 h3 h4 _=>h' g cap w' ?_ h3 h4)
 ·intro u hu;simp[hCells] at hu;rcases hu with rfl|rfl|rfl|rfl|rfl|rfl|rfl|rfl|rfl
  ·rfl
  ·rfl
  ·rfl
  ·rfl
  ·rfl
  ·rfl
  ·exact hl
  ·exact hm
  ·rfl
 ·rw[show hRow (cs++[t])=hRow cs++hCells t by simp[hRow]];exact h2
def lenG (w:World) (g:Nat):Nat:=match w.cell? ⟨g,0,none⟩ with
 | some (.slice _ n _)=>n
 | _=>0
theorem RB.lenG {w:World} {g b md a f:Nat} {lv ov sv tv:Value} {ts:List Lx.Tok} (h:RB w g lv ov md sv tv a f) (ht:TR w b lv ts):lenG w g=ts.length:=by
 obtain⟨o,cap,rfl,_⟩:=ht;unfold Proofs.YtodlhhfcjkjapaaGreatDoor.lenG;rw[h.c0]
theorem PX.lenG {w:World} {B g b q md a f:Nat} {lv ov sv tv:Value} {ts:List Lx.Tok} {hs ps:List HA} {cs:List SA} {top:List Nat} (h:PX w B g b q lv ov sv tv md a f ts hs ps cs top):lenG w g=ts.length:=h.rb.lenG h.tr
structure SJ (w0 w:World) (B g b q md:Nat) (ts:List Lx.Tok) (hs ps:List HA) (cs:List SA) (top:List Nat):Prop where
 px:∃ lv ov sv tv,PX w B g b q lv ov sv tv md 0 0 ts hs ps cs top
 ends:Ps.Ends ts
 d:hs.length≤8
 few:cs.length+(hs.length+ps.length)+ts.length≤1000000
 lens:Lens hs ps cs top
 base:Below B w0 w
abbrev FR (a:Act) (g q:Nat):Prop:=∃ f:Nat→Value,a = { tmps:=#[.pointer (some ⟨g,0,none⟩),f 1,.pointer (some ⟨q,0,none⟩),f 3,f 4,f 5,f 6,f 7,f 8,f 9,f 10,f 11,f 12,f 13,f 14,f 15,f 16,f 17,f 18,f 19,f 20,f 21,f 22,f 23,f 24,f 25,f 26,f 27,f 28,f 29,f 30,f 31,f 32,f 33,f 34,f 35,f 36,f 37,f 38,f 39,f 40,f 41,f 42,f 43,f 44,f 45,f 46,f 47,f 48,f 49,f 50,f 51,f 52,f 53,f 54,f 55,f 56,f 57,f 58,f 59,f 60,f 61,f 62,f 63,f 64,f 65,f 66,f 67,f 68,f 69,f 70,f 71,f 72,f 73,f 74,f 75,f 76,f 77,f 78,f 79,f 80,f 81,f 82],defers:=[] }
theorem FR.of (a:Act) (g q:Nat) (h:a = { tmps:=#[.pointer (some ⟨g,0,none⟩),yG a 1,.pointer (some ⟨q,0,none⟩),yG a 3,yG a 4,yG a 5,yG a 6,yG a 7,yG a 8,yG a 9,yG a 10,yG a 11,yG a 12,yG a 13,yG a 14,yG a 15,yG a 16,yG a 17,yG a 18,yG a 19,yG a 20,yG a 21,yG a 22,yG a 23,yG a 24,yG a 25,yG a 26,yG a 27,yG a 28,yG a 29,yG a 30,yG a 31,yG a 32,yG a 33,yG a 34,yG a 35,yG a 36,yG a 37,yG a 38,yG a 39,yG a 40,yG a 41,yG a 42,yG a 43,yG a 44,yG a 45,yG a 46,yG a 47,yG a 48,yG a 49,yG a 50,yG a 51,yG a 52,yG a 53,yG a 54,yG a 55,yG a 56,yG a 57,yG a 58,yG a 59,yG a 60,yG a 61,yG a 62,yG a 63,yG a 64,yG a 65,yG a 66,yG a 67,yG a 68,yG a 69,yG a 70,yG a 71,yG a 72,yG a 73,yG a 74,yG a 75,yG a 76,yG a 77,yG a 78,yG a 79,yG a 80,yG a 81,yG a 82],defers:=[] }):FR a g q:=⟨fun i=>a.tmps.getD i undef,h⟩
def rowOf (cs:List SA):List Ps.St:=cs.map (·.st)
theorem rowOf_snoc (cs:List SA) (x:SA):rowOf (cs++[x])=rowOf cs++[x.st]:=by simp[rowOf]
def stMu (g l:Nat) (_:Act) (w:World):Nat:=4*lenG w g+(if l=0 then 0 else if l=1 then 1 else 2)
def StJ (w0:World) (B g b q md:Nat) (Tg:Ps.Out) (l:Nat) (a:Act) (w:World):Prop :=
 (l=1∧FR a g q ∧ ∃ ts hs cs top,SJ w0 w B g b q md ts hs [] cs top∧Tg=Ps.run (stk hs) [] (rowOf cs) top ts) ∨
 (l=0∧FR a g q ∧ ∃ t ts hs x cs top,SJ w0 w B g b q md (t :: ts) (hs++[x]) [] cs top∧Ps.isSign 125 t=true∧Tg=Ps.fin (Ps.run (stk hs)) (stk hs).length x.hf (rowOf cs) top ts) ∨
 (l=3∧FR a g q ∧ ∃ ts hs x cs top,SJ w0 w B g b q md ts hs [x] cs top∧H9 w q (hCells x)∧Tg=Ps.run (stk hs) [cs.length] (rowOf cs++[x.st]) top ts) ∨
 (l=2∧FR a g q ∧ ∃ ts hs x cs top,SJ w0 w B g b q md ts hs [x] cs top∧H9 w q (hCells x)∧hs.length≤7∧Tg=Ps.run (x.hf :: stk hs) [] (rowOf cs) top ts)
def StQ (B g md:Nat) (Tg:Ps.Out) (w:World):Prop:=match Tg with
 | .error (p,c)=>∃ lv ov sv tv,RB w g lv ov md sv tv p c∧(c=20∨c=21)
 | .ok (row,top)=>∃ b q lv ov sv tv ts cs,PX w B g b q lv ov sv tv md 0 0 ts [] [] cs top∧rowOf cs=row
theorem statements_any {B g b md:Nat} {lv:Value} {ts:List Lx.Tok} (w:World) (h:RB w g lv (.slice none 0 0) md (.slice none 0 0) (.slice none 0 0) 0 0) (ht:TR w b lv ts) (he:Ps.Ends ts) (hbg:b≠g) (hB:B≤g) (hB2:B≤b) (hS:SHP w) (hg0:0<B) (hl:ts.length≤1000000) :
  Calls Tryz.prog 38 #[.pointer (some ⟨g,0,none⟩)] w fun e w'=>e = .returned (.tuple #[])∧Below B w w'∧StQ B g md (Ps.run [] [] [] [] ts) w':=by
 obtain⟨Tg,hTg⟩:∃ Tg,Ps.run [] [] [] [] ts=Tg:=⟨_,rfl⟩;rw[hTg];have hgl:=h.lt
 have hbl:b<w.heap.size:=by
  obtain⟨t,r,e,_⟩:=he.ne;exact ht.lt (by rw[e];simp)
 have hinit:∀ T,w.alloc (.cells #[.int .i64 0,.string ⟨#[]⟩,.string ⟨#[]⟩,.string ⟨#[]⟩,.int .i64 0,.int .i64 0,.slice none 0 0,.slice none 0 0,.bool false] 105)=T→SJ w T B g b w.heap.size md ts [] [] [] []:=by
  intro T hT;have hbT:Below w.heap.size w T:=(by rw[←hT];exact yA);have hq:T.heap[w.heap.size]?=some (.cells #[.int .i64 0,.string ⟨#[]⟩,.string ⟨#[]⟩,.string ⟨#[]⟩,.int .i64 0,.int .i64 0,.slice none 0 0,.slice none 0 0,.bool false] 105 (0,0)):=(by rw[←hT];exact heap_alloc_new _ _);have hsz:=hbT.size
  refine⟨⟨lv,.slice none 0 0,.slice none 0 0,.slice none 0 0,h.below hbT,ht.below hbT,by omega,⟨_,_,_,_,_,_,_,_,_,hq⟩,World.ownsRow_nil _ _ _ _,World.ownsRow_nil _ _ _ _,World.ownsRow_nil _ _ _ _,fun x hx=>by simp at hx,fun x hx=>by simp at hx,?_,hB,hB2,by omega⟩,he,by simp,by simp only[List.length_nil];omega,⟨fun x hx=>by simp at hx,by simp⟩,hbT.mono (by omega)⟩;intro i j k hi hj
  cases i <;> cases j <;> simp[bAt,Value.ownBlock] at hi hj <;> first|rfl|omega
 have HI:=yH hinit;have HTG0:=yH hTg;have HSH:=yH hS;clear hinit h ht he hTg hS hl;go_enter Tryz.func38,Tryz.ntmps38;go_wp2;refine wp_scope_many (StJ w B g b w.heap.size md Tg) (stMu g) ?pass ?first
 case first =>
  intro hp;go_wp2;go_step3
  rename_i K hk
  refine hk _ _ ?_;refine(show ∀ a wx,StJ w B g b w.heap.size md Tg 1 a wx→Code.wp _ _ _ a wx from fun a wx hJ=>?_) _ _ (Or.inl ⟨rfl,FR.of _ _ _ rfl,ts,[],[],[],HI.out _ rfl,HTG0.out.symm⟩);obtain⟨r,hr,hw⟩:=hp 1 _ _ hJ;obtain⟨_,hr⟩:=Code.seq.inj (Option.some.inj hr);subst hr;exact hw
 case pass =>
  clear HI HTG0;generalize hqq:w.heap.size=q;have HSHP:=yH (fun (wx:World) (hb:Below B w wx)=>(fun i hi=>(hb.cell (p:=⟨0,i,none⟩) hg0).trans (HSH.out i hi):SHP wx));have HQW:=yH hqq;clear HSH hqq hgl hbl;intro l a wr hJ;rcases hJ with ⟨rfl,⟨f,rfl⟩,ts,hs,cs,top,hSJ,hT⟩|⟨rfl,⟨f,rfl⟩,t,ts,hs,x,cs,top,hSJ,hsg,hT⟩|⟨rfl,⟨f,rfl⟩,ts,hs,x,cs,top,hSJ,hq,hT⟩|⟨rfl,⟨f,rfl⟩,ts,hs,x,cs,top,hSJ,hq,hd7,hT⟩
  ·refine⟨_,rfl,?_⟩;have HS:=yH hSJ;obtain⟨lv,ov,sv',tv,hP⟩:=hSJ.px;obtain⟨t,ts',rfl,hfine⟩:=hSJ.ends.ne;clear hSJ;rcases List.eq_nil_or_concat hs with rfl|⟨hs0,x,hx⟩
   ·have hop:=hP.op;rw[show ([]:List HA).length=0 from rfl] at hop;obtain⟨oo,oc,rfl⟩:=own_form9 hop;have htr:=hP.tr;obtain⟨o,cap,rfl,hcap,_,hcell⟩:=htr;obtain⟨c0,c1,c2⟩:=hcell 0 t rfl;rw[Nat.zero_mul,Nat.add_zero] at c0 c1 c2;have g0:=hP.rb.c0;have g1:=hP.rb.c1;have hp0:(0:Int)<((t :: ts').length:Int):=(by simp only[List.length_cons];omega);have hp1:0<(t :: ts').length:=(by simp);clear hcell hop;by_cases hk0:t.kind=0
    ·have k0:((t.kind:Int)==0)=true:=beq_iff_eq.2 (by omega);have k0':((t.kind:Int)=0)=True:=yT;have HT:=yH (show Tg = .ok (rowOf cs,top) by rw[hT];exact Ps.run_end hk0);have HP:=yH hP;clear hT hP hk0;generalize (t :: ts').length=L at g0 hp0 hp1 hcap;go_wp2;rw[jumps_ret];refine bodyPost_ret (v:=.tuple #[]) (by simp[results,Tryz.results38,go_sem]) rfl ?_;refine⟨rfl,HS.out.base,?_⟩;rw[HT.out]
     exact⟨b,q,_,_,_,_,_,cs,HP.out,rfl⟩
    ·have k0:((t.kind:Int)==0)=false:=yB;have k0':((t.kind:Int)=0)=False:=yF;have hlenT:(t :: ts').length≤1000000:=(by have:=HS.out.few;omega);have HENDT:=yH HS.out.ends;have hBW:Below B w wr:=HS.out.base;have hSW:SHP wr:=HSHP.out _ hBW;have hd8:0≤8:=by have:=HS.out.d;simp only[List.length_nil] at this;omega
     have HDA:=head_any t ts' b g md 0 0 0 _ _ _ _ wr hP.rb hP.tr hbg HENDT.out ⟨_,_,rfl⟩ hd8 (by omega) hSW (by omega);have HRUN:=yH (hT.trans (Ps.run_head (S:=stk []) (fun _=>hk0) (fun h=>absurd rfl h)));have HLG:=yH (show lenG wr g=(t :: ts').length from hP.lenG);have HT3:=yH hP;clear hT hP hk0 hfine;go_wp2_with fail
     refine HDA.mono ?_;rintro e w2 hQ;obtain⟨ht2,hQ⟩:=hQ;clear HDA;have hb2:Below B w w2:=hBW.trans (ht2.below (fun k hk=>by rw[show k=g from hk];exact hB) HT3.out.bsz);have hgq:¬ (g=q):=fun e=>absurd (HT3.out.nd .g .q q (by rw[←e];rfl) rfl) (by simp);have hrun:=HRUN.out;rw[show (stk []).length=0 by rw[stk_len];simp] at hrun;cases hh:Ps.headM 0 (t :: ts') with
     | error x =>
      obtain⟨p0,c0⟩:=x;rw[hh] at hQ hrun;obtain⟨⟨st,rfl⟩,hr2⟩:=hQ;have hc:=Ps.headM_code hh;dsimp only at hc;obtain⟨k,s,t2,u,n,p,pl,pm⟩:=st;have hP2:=HT3.out.of_g ht2 hr2 (HT3.out.tr.trn ht2 hbg);obtain⟨v0,v1,v2,v3,v4,v5,v6,v7,v8,hq2⟩:=hP2.qlt;have hq2':H9 w2 q [v0,v1,v2,v3,v4,v5,v6,v7,v8]:=hq2;have z0:=hq2'.cell (i:=0) rfl;have z1:=hq2'.cell (i:=1) rfl;have z2:=hq2'.cell (i:=2) rfl;have z3:=hq2'.cell (i:=3) rfl
      have z4:=hq2'.cell (i:=4) rfl;have z5:=hq2'.cell (i:=5) rfl;have z6:=hq2'.cell (i:=6) rfl;have z7:=hq2'.cell (i:=7) rfl;have z8:=hq2'.cell (i:=8) rfl;have zf0:=hq2'.fr 0;have zf1:=hq2'.fr 1;have zf2:=hq2'.fr 2;have zf3:=hq2'.fr 3;have zf4:=hq2'.fr 4;have zf5:=hq2'.fr 5;have zf6:=hq2'.fr 6;have zf7:=hq2'.fr 7;have zf8:=hq2'.fr 8
      obtain⟨w3,hw3⟩:∃ w3,(((((((((w2.setCell ⟨q,0,none⟩ (.int .i64 (k:Int))).setCell ⟨q,1,none⟩ (.string ⟨s.toArray⟩)).setCell ⟨q,2,none⟩ (.string ⟨t2.toArray⟩)).setCell ⟨q,3,none⟩ (.string ⟨u.toArray⟩)).setCell ⟨q,4,none⟩ (.int .i64 (n:Int))).setCell ⟨q,5,none⟩ (.int .i64 (p:Int))).setCell ⟨q,6,none⟩ (.slice none 0 0)).setCell ⟨q,7,none⟩ (.slice none 0 0)).setCell ⟨q,8,none⟩ (.bool false))=w3:=⟨_,rfl⟩
      have ht3:Trn (only q) w2 w3:=by
       rw[←hw3];exact setN_trn (F:=only q) (show q=q from rfl) [.int .i64 (k:Int),.string ⟨s.toArray⟩,.string ⟨t2.toArray⟩,.string ⟨u.toArray⟩,.int .i64 (n:Int),.int .i64 (p:Int),.slice none 0 0,.slice none 0 0,.bool false] 0 (Trn.refl _ _)
      have hq3:H9 w3 q [.int .i64 (k:Int),.string ⟨s.toArray⟩,.string ⟨t2.toArray⟩,.string ⟨u.toArray⟩,.int .i64 (n:Int),.int .i64 (p:Int),.slice none 0 0,.slice none 0 0,.bool false]:=by
       rw[←hw3];exact hq2'.set (vs:=[.int .i64 (k:Int),.string ⟨s.toArray⟩,.string ⟨t2.toArray⟩,.string ⟨u.toArray⟩,.int .i64 (n:Int),.int .i64 (p:Int),.slice none 0 0,.slice none 0 0,.bool false]) rfl
      have HQ:=yH hq3;have hP3:=hP2.of_q ht3 ⟨_,_,_,_,_,_,_,_,_,hq3⟩;have hqB:B≤q:=hP2.qB;clear hq2;have hr3:=hP3.rb;have c6:=hr3.c6;have cc1:((c0:Int) != 0)=true:=(by rw[bne_iff_ne];omega);have cc2:((c0:Int)==0)=false:=yB;have cc3:((c0:Int)=0)=False:=yF;have HR3:=yH hr3
      have HFIN:=yH (⟨hrun,hc,hb2.trans (ht3.below (fun k hk=>by rw[show k=q from hk];exact hqB) (by have:=hb2.size;have:=hP2.bsz;omega))⟩:_∧_∧_);clear hP2 hP3 hr3 hr2 ht2 ht3 hh hc hq3 hq2' hb2 hrun hBW hSW;unfold stC stCells;go_wp2;rw[jumps_ret];refine bodyPost_ret (v:=.tuple #[]) (by simp[results,Tryz.results38,go_sem]) rfl ?_;refine⟨rfl,HFIN.out.2.2,?_⟩;rw[HFIN.out.1];exact⟨_,_,_,_,HR3.out,HFIN.out.2.1⟩
     | ok x =>
      obtain⟨st,r⟩:=x;rw[hh] at hQ hrun;obtain⟨rfl,lv',hr2,htr2⟩:=hQ;have hpr:=Ps.headM_ok hd8 HENDT.out hh;have hnl:=Ps.headM_nil hh;obtain⟨k,s,t2,u,n,p,pl,pm⟩:=st;dsimp only at hnl hpr hrun;obtain⟨rfl,rfl⟩:=hnl;obtain⟨hpe,hplen,hpk1,hpk2,hp7⟩:=hpr;have hP2:=HT3.out.of_g ht2 hr2 htr2;obtain⟨v0,v1,v2,v3,v4,v5,v6,v7,v8,hq2⟩:=hP2.qlt;have hq2':H9 w2 q [v0,v1,v2,v3,v4,v5,v6,v7,v8]:=hq2;have z0:=hq2'.cell (i:=0) rfl
      have z1:=hq2'.cell (i:=1) rfl;have z2:=hq2'.cell (i:=2) rfl;have z3:=hq2'.cell (i:=3) rfl;have z4:=hq2'.cell (i:=4) rfl;have z5:=hq2'.cell (i:=5) rfl;have z6:=hq2'.cell (i:=6) rfl;have z7:=hq2'.cell (i:=7) rfl;have z8:=hq2'.cell (i:=8) rfl;have zf0:=hq2'.fr 0;have zf1:=hq2'.fr 1;have zf2:=hq2'.fr 2;have zf3:=hq2'.fr 3;have zf4:=hq2'.fr 4;have zf5:=hq2'.fr 5;have zf6:=hq2'.fr 6;have zf7:=hq2'.fr 7;have zf8:=hq2'.fr 8
      obtain⟨w3,hw3⟩:∃ w3,(((((((((w2.setCell ⟨q,0,none⟩ (.int .i64 (k:Int))).setCell ⟨q,1,none⟩ (.string ⟨s.toArray⟩)).setCell ⟨q,2,none⟩ (.string ⟨t2.toArray⟩)).setCell ⟨q,3,none⟩ (.string ⟨u.toArray⟩)).setCell ⟨q,4,none⟩ (.int .i64 (n:Int))).setCell ⟨q,5,none⟩ (.int .i64 (p:Int))).setCell ⟨q,6,none⟩ (.slice none 0 0)).setCell ⟨q,7,none⟩ (.slice none 0 0)).setCell ⟨q,8,none⟩ (.bool false))=w3:=⟨_,rfl⟩
      have ht3:Trn (only q) w2 w3:=by
       rw[←hw3];exact setN_trn (F:=only q) (show q=q from rfl) [.int .i64 (k:Int),.string ⟨s.toArray⟩,.string ⟨t2.toArray⟩,.string ⟨u.toArray⟩,.int .i64 (n:Int),.int .i64 (p:Int),.slice none 0 0,.slice none 0 0,.bool false] 0 (Trn.refl _ _)
      have hq3:H9 w3 q [.int .i64 (k:Int),.string ⟨s.toArray⟩,.string ⟨t2.toArray⟩,.string ⟨u.toArray⟩,.int .i64 (n:Int),.int .i64 (p:Int),.slice none 0 0,.slice none 0 0,.bool false]:=by
       rw[←hw3];exact hq2'.set (vs:=[.int .i64 (k:Int),.string ⟨s.toArray⟩,.string ⟨t2.toArray⟩,.string ⟨u.toArray⟩,.int .i64 (n:Int),.int .i64 (p:Int),.slice none 0 0,.slice none 0 0,.bool false]) rfl
      have HQ:=yH hq3;have hP3:=hP2.of_q ht3 ⟨_,_,_,_,_,_,_,_,_,hq3⟩;have hqB:B≤q:=hP2.qB;clear hq2;have hP:=hP3.hand (x:=⟨⟨k,s,t2,u,n,p,[],[]⟩,.slice none 0 0,.slice none 0 0,false⟩) rfl rfl rfl rfl;have c6:w3.cell? ⟨g,6,none⟩=some (.int .i64 0):=hP.rb.c6;have hb3:Below B w w3:=hb2.trans (ht3.below (fun k hk=>by rw[show k=q from hk];exact hqB) (by have:=hb2.size;have:=hP2.bsz;omega));have hS3:=HSHP.out _ hb3
      have SHx:=yH (fun (wx:World) (hx:SHP wx)=>pshape_any k (by omega) wx hx);have hsuf:=Ps.suffix_shape ⟨k,by omega⟩
      have HSx:=yH (fun wx=>by
       have:=Tryz.strings_HasSuffix ⟨(Ps.shapeS k).toArray⟩ ⟨#[123]⟩ wx (by
        have:=Ps.shapeS_len ⟨k,by omega⟩;show (Ps.shapeS k).length≤_
        simp only at this;omega)
       rw[show Lib.hasSuffix (⟨(Ps.shapeS k).toArray⟩:ByteArray).data.toList (⟨#[123]⟩:ByteArray).data.toList=decide (k=5∨k=6) from hsuf] at this;exact this)
      have y0:=hq3.cell (i:=0) rfl;have HENDS:=yH hpe
      have HFEW:=yH (show cs.length+(0+1)+r.length≤1000000 by
       have:=HS.out.few;simp only[List.length_cons,List.length_nil] at this hplen;omega)
      have HFEW:=yH (show cs.length+(([]:List HA).length + [(⟨⟨k,s,t2,u,n,p,[],[]⟩,.slice none 0 0,.slice none 0 0,false⟩:HA)].length)+r.length≤1000000 by
       have:=HFEW.out;simp only[List.length_cons,List.length_nil];omega)
      have HLENS:=yH (⟨fun z hz=>by
       rcases List.mem_append.1 hz with hz|hz
       ·exact HS.out.lens.h z (by rw[List.append_nil];exact hz)
       ·rw[List.mem_singleton.1 hz];exact⟨Nat.zero_le _,Nat.zero_le _⟩,HS.out.lens.t⟩:Lens [] [⟨⟨k,s,t2,u,n,p,[],[]⟩,.slice none 0 0,.slice none 0 0,false⟩] cs top)
      have HD:=yH HS.out.d;have HBASE:=yH hb3;have HMU1:=yH (show 4*r.length+1<4*lenG wr g+1 by rw[HLG.out];omega);have HMU2:=yH (show 4*r.length+2<4*lenG wr g+1 by rw[HLG.out];omega);clear hP2 hP3 hr2 ht2 ht3 hh hq3 hq2' hb2 hBW hSW hpe hplen hsuf hb3 htr2;by_cases h56:k=5∨k=6
      ·rw[if_pos h56] at hrun;rw[decide_eq_true h56] at HSx;have HTG:=yH hrun;have HD7:=yH (hp7 h56);have HP:=yH hP;clear hrun hP hp7 h56 hpk1 hpk2;unfold stC stCells;go_wp2_with fail
       refine(SHx.out _ hS3).mono ?_;rintro e w4 ⟨rfl,rfl⟩;go_wp2_with fail
       refine(HSx.out _).mono ?_;rintro e w4 ⟨rfl,he4⟩;obtain rfl:=he4.symm;go_wp2;go_step3
       refine⟨Or.inr (Or.inr (Or.inr ⟨rfl,FR.of _ _ _ rfl,r,[],⟨⟨k,s,t2,u,n,p,[],[]⟩,.slice none 0 0,.slice none 0 0,false⟩,cs,top,⟨⟨_,_,_,_,HP.out⟩,HENDS.out,HD.out,HFEW.out,HLENS.out,HBASE.out⟩,HQ.out,by simp only[List.length_nil];have:=HD7.out;omega,HTG.out⟩)),?_⟩;show 4*lenG w3 g+2<_
       rw[HP.out.lenG];exact HMU2.out
      ·rw[if_neg h56] at hrun;rw[decide_eq_false h56] at HSx;have hrl:(rowOf cs).length=cs.length:=(by unfold rowOf;rw[List.length_map]);rw[hrl] at hrun;have HTG:=yH hrun;have HMU:=HMU1;clear hrun hp7 h56 hpk1 hpk2 hrl;unfold stC stCells;go_wp2_with fail
       refine(SHx.out _ hS3).mono ?_;rintro e w4 ⟨rfl,rfl⟩;go_wp2_with fail
       refine(HSx.out _).mono ?_;rintro e w4 ⟨rfl,he4⟩;obtain rfl:=he4.symm;have PA:=put_any ⟨⟨k,s,t2,u,n,p,[],[]⟩,.slice none 0 0,.slice none 0 0,false⟩ w3 hP (by have:=HD.out;omega) (by have:=HFEW.out;omega) HLENS.out;have y0:=HQ.out.cell (i:=0) rfl;have y1:=HQ.out.cell (i:=1) rfl;have y2:=HQ.out.cell (i:=2) rfl;have y3:=HQ.out.cell (i:=3) rfl;have y4:=HQ.out.cell (i:=4) rfl;have y5:=HQ.out.cell (i:=5) rfl;have y6:=HQ.out.cell (i:=6) rfl
       have y7:=HQ.out.cell (i:=7) rfl;clear HQ;go_wp2_with fail
       refine wp_label ?_;simp only[Exit.then];go_wp2_with fail
       refine PA.mono ?_;rintro e w5 ⟨rfl,⟨sv5,tv5,hs5,top5,hP5,hst5,htop5,hlen5,hlens5⟩,hb5⟩;have HP5:=yH hP5;have HX5:=yH (⟨hst5,htop5,hlen5,hlens5⟩:_∧_∧_∧_);have HB5:=yH hb5;clear hP5 hst5 htop5 hlen5 hlens5 hb5 PA hP;go_wp2;go_step3
       refine⟨Or.inl ⟨rfl,FR.of _ _ _ rfl,_,hs5,_,top5,⟨⟨_,_,_,_,HP5.out⟩,HENDS.out,by rw[HX5.out.2.2.1];exact HD.out,by have:=HFEW.out;rw[List.length_append,List.length_singleton,HX5.out.2.2.1];simp only[List.length_cons,List.length_nil] at this ⊢;omega,HX5.out.2.2.2,HBASE.out.trans HB5.out⟩,?_⟩,?_⟩
       ·rw[HTG.out,Ps.run_put,HX5.out.1,HX5.out.2.1,rowOf_snoc];rfl
       ·show 4*lenG w5 g+1<_
        rw[HP5.out.lenG];exact HMU.out
   ·rw[List.concat_eq_append] at hx;subst hx;obtain⟨og,oc,rfl,_,_⟩:=hP.form;have IS:=is_any [125] b g md 0 0 _ _ _ _ t ts' wr hP.rb hP.tr;rw[Ps.fitsT_sign rfl hfine] at IS;have g1:=hP.rb.c1;have n1:(0:Int)<(hs0.length:Int)+1:=(by omega);have n2:(((hs0.length:Int)+1)==0)=false:=yB;have n3:(((hs0.length:Int)+1)=0)=False:=yF;by_cases hsg:Ps.isSign 125 t=true
    ·rw[hsg] at IS;have HP:=yH hP;have HT:=yH hT;clear hP hT;go_wp2_with fail
     refine IS.mono ?_;rintro e w1 ⟨rfl,hb1⟩;have HP1:=yH (HP.out.below hb1);have HB1:=yH (hb1.mono HP.out.bsz);clear hb1 IS;go_wp2;go_step3
     refine⟨Or.inr (Or.inl ⟨rfl,FR.of _ _ _ rfl,t,ts',hs0,x,cs,top,⟨⟨_,_,_,_,HP1.out⟩,HS.out.ends,HS.out.d,HS.out.few,HS.out.lens,HS.out.base.trans HB1.out⟩,hsg,?_⟩),?_⟩
     ·rw[HT.out,stk_snoc,Ps.run_close hsg]
     ·show 4*lenG w1 g+0<4*lenG wr g+1
      rw[HP1.out.lenG,HP.out.lenG];omega
    ·have hsf:Ps.isSign 125 t=false:=(by simpa using hsg);rw[hsf] at IS;have HP:=yH hP;have HB0:=yH hP.bsz;go_wp2_with fail
     refine IS.mono ?_;rintro e w1 ⟨rfl,hb1⟩;have hP1:=HP.out.below hb1;have g1:=hP1.rb.c1;have HBW1:=yH (HS.out.base.trans (hb1.mono HB0.out));clear hb1 IS;have hlenT:(t :: ts').length≤1000000:=(by have:=HS.out.few;omega);have HENDT:=yH HS.out.ends;have hBW:Below B w w1:=HBW1.out;have hSW:SHP w1:=HSHP.out _ hBW;have hd8:(hs0.length+1)≤8:=by have:=HS.out.d;simp only[List.length_append,List.length_cons,List.length_nil] at this;omega
     have HDA:=head_any t ts' b g md 0 0 (hs0.length+1) _ _ _ _ w1 hP1.rb hP1.tr hbg HENDT.out ⟨_,_,rfl⟩ hd8 (by omega) hSW (by omega);have HRUN:=yH (hT.trans (Ps.run_head (S:=stk (hs0++[x])) (fun h=>absurd h (by rw[stk_snoc];simp)) (fun _=>hsf)));have HLG:=yH (show lenG wr g=(t :: ts').length from hP.lenG);have HT3:=yH hP1;clear hT hP hfine hP1 hsg;go_wp2_with fail
     refine HDA.mono ?_;rintro e w2 hQ;obtain⟨ht2,hQ⟩:=hQ;clear HDA;have hb2:Below B w w2:=hBW.trans (ht2.below (fun k hk=>by rw[show k=g from hk];exact hB) HT3.out.bsz);have hgq:¬ (g=q):=fun e=>absurd (HT3.out.nd .g .q q (by rw[←e];rfl) rfl) (by simp);have hrun:=HRUN.out;rw[show (stk (hs0++[x])).length=(hs0.length+1) by rw[stk_len];simp] at hrun;cases hh:Ps.headM (hs0.length+1) (t :: ts') with
     | error x =>
      obtain⟨p0,c0⟩:=x;rw[hh] at hQ hrun;obtain⟨⟨st,rfl⟩,hr2⟩:=hQ;have hc:=Ps.headM_code hh;dsimp only at hc;obtain⟨k,s,t2,u,n,p,pl,pm⟩:=st;have hP2:=HT3.out.of_g ht2 hr2 (HT3.out.tr.trn ht2 hbg);obtain⟨v0,v1,v2,v3,v4,v5,v6,v7,v8,hq2⟩:=hP2.qlt;have hq2':H9 w2 q [v0,v1,v2,v3,v4,v5,v6,v7,v8]:=hq2;have z0:=hq2'.cell (i:=0) rfl;have z1:=hq2'.cell (i:=1) rfl;have z2:=hq2'.cell (i:=2) rfl;have z3:=hq2'.cell (i:=3) rfl
      have z4:=hq2'.cell (i:=4) rfl;have z5:=hq2'.cell (i:=5) rfl;have z6:=hq2'.cell (i:=6) rfl;have z7:=hq2'.cell (i:=7) rfl;have z8:=hq2'.cell (i:=8) rfl;have zf0:=hq2'.fr 0;have zf1:=hq2'.fr 1;have zf2:=hq2'.fr 2;have zf3:=hq2'.fr 3;have zf4:=hq2'.fr 4;have zf5:=hq2'.fr 5;have zf6:=hq2'.fr 6;have zf7:=hq2'.fr 7;have zf8:=hq2'.fr 8
      obtain⟨w3,hw3⟩:∃ w3,(((((((((w2.setCell ⟨q,0,none⟩ (.int .i64 (k:Int))).setCell ⟨q,1,none⟩ (.string ⟨s.toArray⟩)).setCell ⟨q,2,none⟩ (.string ⟨t2.toArray⟩)).setCell ⟨q,3,none⟩ (.string ⟨u.toArray⟩)).setCell ⟨q,4,none⟩ (.int .i64 (n:Int))).setCell ⟨q,5,none⟩ (.int .i64 (p:Int))).setCell ⟨q,6,none⟩ (.slice none 0 0)).setCell ⟨q,7,none⟩ (.slice none 0 0)).setCell ⟨q,8,none⟩ (.bool false))=w3:=⟨_,rfl⟩
      have ht3:Trn (only q) w2 w3:=by
       rw[←hw3];exact setN_trn (F:=only q) (show q=q from rfl) [.int .i64 (k:Int),.string ⟨s.toArray⟩,.string ⟨t2.toArray⟩,.string ⟨u.toArray⟩,.int .i64 (n:Int),.int .i64 (p:Int),.slice none 0 0,.slice none 0 0,.bool false] 0 (Trn.refl _ _)
      have hq3:H9 w3 q [.int .i64 (k:Int),.string ⟨s.toArray⟩,.string ⟨t2.toArray⟩,.string ⟨u.toArray⟩,.int .i64 (n:Int),.int .i64 (p:Int),.slice none 0 0,.slice none 0 0,.bool false]:=by
       rw[←hw3];exact hq2'.set (vs:=[.int .i64 (k:Int),.string ⟨s.toArray⟩,.string ⟨t2.toArray⟩,.string ⟨u.toArray⟩,.int .i64 (n:Int),.int .i64 (p:Int),.slice none 0 0,.slice none 0 0,.bool false]) rfl
      have HQ:=yH hq3;have hP3:=hP2.of_q ht3 ⟨_,_,_,_,_,_,_,_,_,hq3⟩;have hqB:B≤q:=hP2.qB;clear hq2;have hr3:=hP3.rb;have c6:=hr3.c6;have cc1:((c0:Int) != 0)=true:=(by rw[bne_iff_ne];omega);have cc2:((c0:Int)==0)=false:=yB;have cc3:((c0:Int)=0)=False:=yF;have HR3:=yH hr3
      have HFIN:=yH (⟨hrun,hc,hb2.trans (ht3.below (fun k hk=>by rw[show k=q from hk];exact hqB) (by have:=hb2.size;have:=hP2.bsz;omega))⟩:_∧_∧_);clear hP2 hP3 hr3 hr2 ht2 ht3 hh hc hq3 hq2' hb2 hrun hBW hSW;unfold stC stCells;go_wp2;rw[jumps_ret];refine bodyPost_ret (v:=.tuple #[]) (by simp[results,Tryz.results38,go_sem]) rfl ?_;refine⟨rfl,HFIN.out.2.2,?_⟩;rw[HFIN.out.1];exact⟨_,_,_,_,HR3.out,HFIN.out.2.1⟩
     | ok x =>
      obtain⟨st,r⟩:=x;rw[hh] at hQ hrun;obtain⟨rfl,lv',hr2,htr2⟩:=hQ;have hpr:=Ps.headM_ok hd8 HENDT.out hh;have hnl:=Ps.headM_nil hh;obtain⟨k,s,t2,u,n,p,pl,pm⟩:=st;dsimp only at hnl hpr hrun;obtain⟨rfl,rfl⟩:=hnl;obtain⟨hpe,hplen,hpk1,hpk2,hp7⟩:=hpr;have hP2:=HT3.out.of_g ht2 hr2 htr2;obtain⟨v0,v1,v2,v3,v4,v5,v6,v7,v8,hq2⟩:=hP2.qlt;have hq2':H9 w2 q [v0,v1,v2,v3,v4,v5,v6,v7,v8]:=hq2;have z0:=hq2'.cell (i:=0) rfl
      have z1:=hq2'.cell (i:=1) rfl;have z2:=hq2'.cell (i:=2) rfl;have z3:=hq2'.cell (i:=3) rfl;have z4:=hq2'.cell (i:=4) rfl;have z5:=hq2'.cell (i:=5) rfl;have z6:=hq2'.cell (i:=6) rfl;have z7:=hq2'.cell (i:=7) rfl;have z8:=hq2'.cell (i:=8) rfl;have zf0:=hq2'.fr 0;have zf1:=hq2'.fr 1;have zf2:=hq2'.fr 2;have zf3:=hq2'.fr 3;have zf4:=hq2'.fr 4;have zf5:=hq2'.fr 5;have zf6:=hq2'.fr 6;have zf7:=hq2'.fr 7;have zf8:=hq2'.fr 8
      obtain⟨w3,hw3⟩:∃ w3,(((((((((w2.setCell ⟨q,0,none⟩ (.int .i64 (k:Int))).setCell ⟨q,1,none⟩ (.string ⟨s.toArray⟩)).setCell ⟨q,2,none⟩ (.string ⟨t2.toArray⟩)).setCell ⟨q,3,none⟩ (.string ⟨u.toArray⟩)).setCell ⟨q,4,none⟩ (.int .i64 (n:Int))).setCell ⟨q,5,none⟩ (.int .i64 (p:Int))).setCell ⟨q,6,none⟩ (.slice none 0 0)).setCell ⟨q,7,none⟩ (.slice none 0 0)).setCell ⟨q,8,none⟩ (.bool false))=w3:=⟨_,rfl⟩
      have ht3:Trn (only q) w2 w3:=by
       rw[←hw3];exact setN_trn (F:=only q) (show q=q from rfl) [.int .i64 (k:Int),.string ⟨s.toArray⟩,.string ⟨t2.toArray⟩,.string ⟨u.toArray⟩,.int .i64 (n:Int),.int .i64 (p:Int),.slice none 0 0,.slice none 0 0,.bool false] 0 (Trn.refl _ _)
      have hq3:H9 w3 q [.int .i64 (k:Int),.string ⟨s.toArray⟩,.string ⟨t2.toArray⟩,.string ⟨u.toArray⟩,.int .i64 (n:Int),.int .i64 (p:Int),.slice none 0 0,.slice none 0 0,.bool false]:=by
       rw[←hw3];exact hq2'.set (vs:=[.int .i64 (k:Int),.string ⟨s.toArray⟩,.string ⟨t2.toArray⟩,.string ⟨u.toArray⟩,.int .i64 (n:Int),.int .i64 (p:Int),.slice none 0 0,.slice none 0 0,.bool false]) rfl
      have HQ:=yH hq3;have hP3:=hP2.of_q ht3 ⟨_,_,_,_,_,_,_,_,_,hq3⟩;have hqB:B≤q:=hP2.qB;clear hq2;have hP:=hP3.hand (x:=⟨⟨k,s,t2,u,n,p,[],[]⟩,.slice none 0 0,.slice none 0 0,false⟩) rfl rfl rfl rfl;have c6:w3.cell? ⟨g,6,none⟩=some (.int .i64 0):=hP.rb.c6;have hb3:Below B w w3:=hb2.trans (ht3.below (fun k hk=>by rw[show k=q from hk];exact hqB) (by have:=hb2.size;have:=hP2.bsz;omega));have hS3:=HSHP.out _ hb3
      have SHx:=yH (fun (wx:World) (hx:SHP wx)=>pshape_any k (by omega) wx hx);have hsuf:=Ps.suffix_shape ⟨k,by omega⟩
      have HSx:=yH (fun wx=>by
       have:=Tryz.strings_HasSuffix ⟨(Ps.shapeS k).toArray⟩ ⟨#[123]⟩ wx (by
        have:=Ps.shapeS_len ⟨k,by omega⟩;show (Ps.shapeS k).length≤_
        simp only at this;omega)
       rw[show Lib.hasSuffix (⟨(Ps.shapeS k).toArray⟩:ByteArray).data.toList (⟨#[123]⟩:ByteArray).data.toList=decide (k=5∨k=6) from hsuf] at this;exact this)
      have y0:=hq3.cell (i:=0) rfl;have HENDS:=yH hpe
      have HFEW:=yH (show cs.length+((hs0.length+1)+1)+r.length≤1000000 by
       have:=HS.out.few;simp only[List.length_append,List.length_cons,List.length_nil] at this hplen;omega)
      have HFEW:=yH (show cs.length+(((hs0++[x]):List HA).length + [(⟨⟨k,s,t2,u,n,p,[],[]⟩,.slice none 0 0,.slice none 0 0,false⟩:HA)].length)+r.length≤1000000 by
       have:=HFEW.out;simp only[List.length_append,List.length_cons,List.length_nil];omega)
      have HLENS:=yH (⟨fun z hz=>by
       rcases List.mem_append.1 hz with hz|hz
       ·exact HS.out.lens.h z (by rw[List.append_nil];exact hz)
       ·rw[List.mem_singleton.1 hz];exact⟨Nat.zero_le _,Nat.zero_le _⟩,HS.out.lens.t⟩:Lens (hs0++[x]) [⟨⟨k,s,t2,u,n,p,[],[]⟩,.slice none 0 0,.slice none 0 0,false⟩] cs top)
      have HD:=yH HS.out.d;have HBASE:=yH hb3;have HMU1:=yH (show 4*r.length+1<4*lenG wr g+1 by rw[HLG.out];omega);have HMU2:=yH (show 4*r.length+2<4*lenG wr g+1 by rw[HLG.out];omega);clear hP2 hP3 hr2 ht2 ht3 hh hq3 hq2' hb2 hBW hSW hpe hplen hsuf hb3 htr2;by_cases h56:k=5∨k=6
      ·rw[if_pos h56] at hrun;rw[decide_eq_true h56] at HSx;have HTG:=yH hrun;have HD7:=yH (hp7 h56);have HP:=yH hP;clear hrun hP hp7 h56 hpk1 hpk2;unfold stC stCells;go_wp2_with fail
       refine(SHx.out _ hS3).mono ?_;rintro e w4 ⟨rfl,rfl⟩;go_wp2_with fail
       refine(HSx.out _).mono ?_;rintro e w4 ⟨rfl,he4⟩;obtain rfl:=he4.symm;go_wp2;go_step3
       refine⟨Or.inr (Or.inr (Or.inr ⟨rfl,FR.of _ _ _ rfl,r,(hs0++[x]),⟨⟨k,s,t2,u,n,p,[],[]⟩,.slice none 0 0,.slice none 0 0,false⟩,cs,top,⟨⟨_,_,_,_,HP.out⟩,HENDS.out,HD.out,HFEW.out,HLENS.out,HBASE.out⟩,HQ.out,by simp only[List.length_append,List.length_cons,List.length_nil];have:=HD7.out;omega,HTG.out⟩)),?_⟩;show 4*lenG w3 g+2<_
       rw[HP.out.lenG];exact HMU2.out
      ·rw[if_neg h56] at hrun;rw[decide_eq_false h56] at HSx;have hrl:(rowOf cs).length=cs.length:=(by unfold rowOf;rw[List.length_map]);rw[hrl] at hrun;have HTG:=yH hrun;have HMU:=HMU1;clear hrun hp7 h56 hpk1 hpk2 hrl;unfold stC stCells;go_wp2_with fail
       refine(SHx.out _ hS3).mono ?_;rintro e w4 ⟨rfl,rfl⟩;go_wp2_with fail
       refine(HSx.out _).mono ?_;rintro e w4 ⟨rfl,he4⟩;obtain rfl:=he4.symm;have PA:=put_any ⟨⟨k,s,t2,u,n,p,[],[]⟩,.slice none 0 0,.slice none 0 0,false⟩ w3 hP (by have:=HD.out;omega) (by have:=HFEW.out;omega) HLENS.out;have y0:=HQ.out.cell (i:=0) rfl;have y1:=HQ.out.cell (i:=1) rfl;have y2:=HQ.out.cell (i:=2) rfl;have y3:=HQ.out.cell (i:=3) rfl;have y4:=HQ.out.cell (i:=4) rfl;have y5:=HQ.out.cell (i:=5) rfl;have y6:=HQ.out.cell (i:=6) rfl
       have y7:=HQ.out.cell (i:=7) rfl;clear HQ;go_wp2_with fail
       refine wp_label ?_;simp only[Exit.then];go_wp2_with fail
       refine PA.mono ?_;rintro e w5 ⟨rfl,⟨sv5,tv5,hs5,top5,hP5,hst5,htop5,hlen5,hlens5⟩,hb5⟩;have HP5:=yH hP5;have HX5:=yH (⟨hst5,htop5,hlen5,hlens5⟩:_∧_∧_∧_);have HB5:=yH hb5;clear hP5 hst5 htop5 hlen5 hlens5 hb5 PA hP;go_wp2;go_step3
       refine⟨Or.inl ⟨rfl,FR.of _ _ _ rfl,_,hs5,_,top5,⟨⟨_,_,_,_,HP5.out⟩,HENDS.out,by rw[HX5.out.2.2.1];exact HD.out,by have:=HFEW.out;rw[List.length_append,List.length_singleton,HX5.out.2.2.1];simp only[List.length_cons,List.length_nil] at this ⊢;omega,HX5.out.2.2.2,HBASE.out.trans HB5.out⟩,?_⟩,?_⟩
       ·rw[HTG.out,Ps.run_put,HX5.out.1,HX5.out.2.1,rowOf_snoc];rfl
       ·show 4*lenG w5 g+1<_
        rw[HP5.out.lenG];exact HMU.out
  ·refine⟨_,rfl,?_⟩;obtain⟨lv,ov,sv',tv,hP⟩:=hSJ.px;have HS:=yH hSJ;have hends:=hSJ.ends;have hft:=hends.1 t (by simp);have hfit:Ps.fitsT [125] t=true:=(by rw[Ps.fitsT_sign rfl hft];exact hsg);have hk4:t.kind≠0:=(by unfold Ps.isSign at hsg;simp at hsg;omega);have hends':=hends.tail hk4;obtain⟨x1,x2⟩:=hP.hl x (by simp);obtain⟨st,xl,xm,els⟩:=x;obtain⟨la,ll,lc,hl1⟩:=x1.form3;obtain⟨ma,ml,mc,hm1⟩:=x2.form3;dsimp only at hl1 hm1
   subst hl1 hm1;obtain⟨k,s,t2,u,n,p,pl,pm⟩:=st;obtain⟨og,oc,rfl,_,_⟩:=hP.form;have hlw:lenG wr g=(t :: ts).length:=hP.lenG;obtain⟨wa,hwa⟩:∃ wa,wr.alloc (.cells #[.string ⟨#[125]⟩] 9)=wa:=⟨_,rfl⟩;have hba:Below wr.heap.size wr wa:=(by rw[←hwa];exact yA);have hna:wa.heap[wr.heap.size]?=some (.cells #[.string ⟨#[125]⟩] 9 (0,0)):=by rw[←hwa];exact heap_alloc_new _ _
   have hrd:Rd wa (.slice (some ⟨wr.heap.size,0,none⟩) 1 1) ([([125]:List UInt8)].map sv):=by
    refine .inr ⟨_,0,1,rfl,yR,by unfold maxLen;omega,fun j v hj=>?_⟩;rw[Nat.zero_add,yC hna,←hj]
    match j with
    | 0=>rfl
    | j+1=>simp
   have hPa:=hP.below hba;have hfew:=HS.out.few;have hd:=HS.out.d;simp only[List.length_append,List.length_cons,List.length_nil] at hfew hd hlw;have TK:=take_any [[125]] (t :: ts) b g md 0 0 (hs.length+1) _ _ _ _ (.slice (some ⟨wr.heap.size,0,none⟩) 1 1) wa hPa.rb hPa.tr hbg hends ⟨_,_,rfl⟩ (by omega) hrd (by simp) (by simp) (by simp) (by have:=hP.rb.lt;simp[Value.ownBlock];omega) (by simp only[List.length_cons];omega)
   rw[show Ps.takeW (hs.length+1) [[125]] (t :: ts) = .ok ts by rw[Ps.takeW,if_pos hfit,if_neg (fun e=>absurd e.1 (by decide))];rfl] at TK;have HENDS:=yH hends';have HPA:=yH hPa;have HTG:=yH hT;have HBA:=yH (HS.out.base.trans (hba.mono hP.bsz));have HMU2:=yH (show 4*ts.length+2<4*lenG wr g+0 by rw[hlw];omega);have HMU1:=yH (show 4*ts.length+1<4*lenG wr g+0 by rw[hlw];omega);have HLN:=yH hlw
   clear hT hP hPa hba hna hrd hSJ x1 x2 hends hends' hfit hft hsg hlw;go_wp2_with fail
   refine TK.mono ?_;rintro e w1 ⟨ht1,rv,lv1,rfl,_,hr1,htr1⟩;have hP1:=HPA.out.of_g ht1 hr1 htr1;have POP:=pop_any ⟨⟨k,s,t2,u,n,p,pl,pm⟩,.slice la ll lc,.slice ma ml mc,els⟩ w1 hP1 (by omega);have HB1:=yH (HBA.out.trans (ht1.below (fun k hk=>by rw[show k=g from hk];exact hB) HPA.out.bsz));clear TK ht1 hr1 htr1 hP1;unfold hagg hCells at POP;go_wp2_with fail
   refine POP.mono ?_;rintro e w2 ⟨rfl,ov2,hP2,_,hb2⟩;have HB2:=yH (HB1.out.trans hb2);clear POP hb2;obtain⟨v0,v1,v2,v3,v4,v5,v6,v7,v8,hq2⟩:=hP2.qlt;have hq2':H9 w2 q [v0,v1,v2,v3,v4,v5,v6,v7,v8]:=hq2;have z0:=hq2'.cell (i:=0) rfl;have z1:=hq2'.cell (i:=1) rfl;have z2:=hq2'.cell (i:=2) rfl;have z3:=hq2'.cell (i:=3) rfl;have z4:=hq2'.cell (i:=4) rfl;have z5:=hq2'.cell (i:=5) rfl;have z6:=hq2'.cell (i:=6) rfl
   have z7:=hq2'.cell (i:=7) rfl;have z8:=hq2'.cell (i:=8) rfl;have zf0:=hq2'.fr 0;have zf1:=hq2'.fr 1;have zf2:=hq2'.fr 2;have zf3:=hq2'.fr 3;have zf4:=hq2'.fr 4;have zf5:=hq2'.fr 5;have zf6:=hq2'.fr 6;have zf7:=hq2'.fr 7;have zf8:=hq2'.fr 8
   obtain⟨w3,hw3⟩:∃ w3,(((((((((w2.setCell ⟨q,0,none⟩ (.int .i64 (k:Int))).setCell ⟨q,1,none⟩ (.string ⟨s.toArray⟩)).setCell ⟨q,2,none⟩ (.string ⟨t2.toArray⟩)).setCell ⟨q,3,none⟩ (.string ⟨u.toArray⟩)).setCell ⟨q,4,none⟩ (.int .i64 (n:Int))).setCell ⟨q,5,none⟩ (.int .i64 (p:Int))).setCell ⟨q,6,none⟩ (.slice la ll lc)).setCell ⟨q,7,none⟩ (.slice ma ml mc)).setCell ⟨q,8,none⟩ (.bool els))=w3:=⟨_,rfl⟩
   have ht3:Trn (only q) w2 w3:=by
    rw[←hw3];exact setN_trn (F:=only q) (show q=q from rfl) [.int .i64 (k:Int),.string ⟨s.toArray⟩,.string ⟨t2.toArray⟩,.string ⟨u.toArray⟩,.int .i64 (n:Int),.int .i64 (p:Int),.slice la ll lc,.slice ma ml mc,.bool els] 0 (Trn.refl _ _)
   have hq3:H9 w3 q [.int .i64 (k:Int),.string ⟨s.toArray⟩,.string ⟨t2.toArray⟩,.string ⟨u.toArray⟩,.int .i64 (n:Int),.int .i64 (p:Int),.slice la ll lc,.slice ma ml mc,.bool els]:=by
    rw[←hw3];exact hq2'.set (vs:=[.int .i64 (k:Int),.string ⟨s.toArray⟩,.string ⟨t2.toArray⟩,.string ⟨u.toArray⟩,.int .i64 (n:Int),.int .i64 (p:Int),.slice la ll lc,.slice ma ml mc,.bool els]) rfl
   have HQ:=yH hq3;have hP3:=hP2.of_q ht3 ⟨_,_,_,_,_,_,_,_,_,hq3⟩;have hqB:B≤q:=hP2.qB;clear hq2;have HP3:=yH hP3;have HB3:=yH (HB2.out.trans (ht3.below (fun k hk=>by rw[show k=q from hk];exact hqB) (by have:=HB2.out.size;have:=hP2.bsz;omega)));have hgq:¬ (g=q):=fun e=>absurd (hP3.nd .g .q q (by rw[←e];rfl) rfl) (by simp);have y0:=hq3.cell (i:=0) rfl;have y8:=hq3.cell (i:=8) rfl
   have HFEW:=yH (show cs.length+(hs.length + [(⟨⟨k,s,t2,u,n,p,pl,pm⟩,.slice la ll lc,.slice ma ml mc,els⟩:HA)].length)+ts.length≤1000000 by simp only[List.length_cons,List.length_nil];omega);have HD:=yH (show hs.length≤8 by omega);have HLENS:=yH (⟨fun z hz=>HS.out.lens.h z (by rw[List.append_nil];exact hz),HS.out.lens.t⟩:Lens hs [⟨⟨k,s,t2,u,n,p,pl,pm⟩,.slice la ll lc,.slice ma ml mc,els⟩] cs top);clear hP2 ht3 hq2' hfew
   by_cases hk5:k=5
   ·have r1:((k:Int) != 5)=false:=(by rw[bne_eq_false_iff_eq];omega);have r2:((k:Int)==5)=true:=beq_iff_eq.2 (by omega);have r3:((k:Int)=5)=True:=yT;have HK5:=yH hk5;clear hk5;cases els with
    | true =>
     clear hP3 hq3;go_wp2;go_step3
     refine⟨Or.inr (Or.inr (Or.inl ⟨rfl,FR.of _ _ _ rfl,ts,hs,⟨⟨k,s,t2,u,n,p,pl,pm⟩,.slice la ll lc,.slice ma ml mc,true⟩,cs,top,⟨⟨_,_,_,_,HP3.out⟩,HENDS.out,HD.out,HFEW.out,HLENS.out,HB3.out⟩,HQ.out,?_⟩)),?_⟩
     ·rw[HTG.out,Ps.fin_put (by rintro⟨_,h,_⟩;cases h)];rw[show (rowOf cs).length=cs.length by unfold rowOf;rw[List.length_map]];rfl
     ·show 4*lenG w3 g+2<_
      rw[HP3.out.lenG];exact HMU2.out
    | false =>
     obtain⟨u1,ts1,rfl,hfu⟩:=HENDS.out.ne;have IS:=is_any Ps.wElse b g md 0 0 _ _ _ _ u1 ts1 w3 hP3.rb hP3.tr;rw[Ps.else_fits hfu] at IS;by_cases hel:Ps.isName Ps.wElse u1=true
     ·rw[hel] at IS;clear hP3 hq3;go_wp2_with fail
      refine IS.mono ?_;rintro e w4 ⟨rfl,hb4⟩;have hP4:=HP3.out.below hb4;have hq4:=HQ.out.same (hb4.block _ HQ.out.lt);have HB4:=yH (HB3.out.trans (hb4.mono HP3.out.bsz));clear IS hb4;obtain⟨wb,hwb⟩:∃ wb,w4.alloc (.cells #[.string ⟨#[101,108,115,101]⟩,.string ⟨#[123]⟩] 9)=wb:=⟨_,rfl⟩;have hbb:Below w4.heap.size w4 wb:=by rw[←hwb];exact yA
      have hnb:wb.heap[w4.heap.size]?=some (.cells #[.string ⟨#[101,108,115,101]⟩,.string ⟨#[123]⟩] 9 (0,0)):=by rw[←hwb];exact heap_alloc_new _ _
      have hrd:Rd wb (.slice (some ⟨w4.heap.size,0,none⟩) 2 2) ([Ps.wElse,[123]].map sv):=by
       refine .inr ⟨_,0,2,rfl,yR,by unfold maxLen;omega,fun j v hj=>?_⟩;rw[Nat.zero_add,yC hnb,←hj]
       match j with
       | 0=>rfl
       | 1=>rfl
       | j+2=>simp
      have hPb:=hP4.below hbb;have hqb:=hq4.same (hbb.block _ hq4.lt);obtain⟨oo2,oc2,hov2⟩:=own_form9 hP4.op;have hfew2:=HFEW.out;simp only[List.length_cons,List.length_nil] at hfew2
      have TK:=take_any [Ps.wElse,[123]] (u1 :: ts1) b g md 0 0 hs.length _ _ _ _ (.slice (some ⟨w4.heap.size,0,none⟩) 2 2) wb hPb.rb hPb.tr hbg HENDS.out ⟨oo2,oc2,hov2⟩ HD.out hrd (by simp[Ps.wElse]) (by simp) (by simp) (by have:=hP4.rb.lt;simp[Value.ownBlock];omega) (by simp only[List.length_cons];omega);rw[Ps.take_else HD.out HENDS.out hel] at TK
      have hfe:=Ps.fin_else (h:=⟨⟨k,s,t2,u,n,p,pl,pm⟩,false⟩) (S:=stk hs) (row:=rowOf cs) (top:=top) (r:=u1 :: ts1) HK5.out rfl hel;rw[stk_len] at hfe;have hTG2:=HTG.out;rw[stk_len] at hTG2;have hTG3:=hTG2.trans hfe;have HPB:=yH hPb;have HQB:=yH hqb;have HBB:=yH (HB4.out.trans (hbb.mono hP4.bsz));clear hPb hqb hP4 hq4 hbb hnb hrd hov2 hTG2 hfe;go_wp2_with fail
      refine TK.mono ?_;rintro e w5 ⟨ht5,hQ5⟩;clear TK;rw[List.tail_cons] at hQ5 hTG3;have hb5:=HBB.out.trans (ht5.below (fun k hk=>by rw[show k=g from hk];exact hB) HPB.out.bsz);cases hbr:Ps.brace hs.length ts1 with
      | error x =>
       obtain⟨p0,c0⟩:=x;rw[hbr] at hQ5 hTG3;obtain⟨rfl,hr5⟩:=hQ5;have hc:=Ps.brace_code hbr;dsimp only at hc;have en:=fun wx=>eql_nil none 0 0 wx;have HF:=yH (⟨hTG3,hc,hb5,hr5⟩:_∧_∧_∧_);clear hTG3 hc hb5 hr5 ht5 hbr;go_wp2;rw[jumps_ret];refine bodyPost_ret (v:=.tuple #[]) (by simp[results,Tryz.results38,go_sem]) rfl ?_;refine⟨rfl,HF.out.2.2.1,?_⟩;rw[HF.out.1];exact⟨_,_,_,_,HF.out.2.2.2,HF.out.2.1⟩
      | ok r =>
       rw[hbr] at hQ5 hTG3;obtain⟨rv5,lv5,rfl,htr5,hr5,htl5⟩:=hQ5;obtain⟨o5,cap5,rfl,_⟩:=htr5;have en:=fun n' wx=>eql_nil (some ⟨b,o5,none⟩) n' cap5 wx;have hP5:=HPB.out.of_g ht5 hr5 htl5;have hq5:H9 w5 q [.int .i64 (k:Int),.string ⟨s.toArray⟩,.string ⟨t2.toArray⟩,.string ⟨u.toArray⟩,.int .i64 (n:Int),.int .i64 (p:Int),.slice la ll lc,.slice ma ml mc,.bool false]:=HQB.out.trn ht5 (fun e=>hgq e.symm);have f8:=hq5.fr 8
       have z8:=hq5.cell (i:=8) rfl;obtain⟨w6,hw6⟩:∃ w6,w5.setCell ⟨q,8,none⟩ (.bool true)=w6:=⟨_,rfl⟩;have ht6:Trn (only q) w5 w6:=by rw[←hw6];exact Trn.setCell (F:=only q) (Trn.refl _ _) (show q=q from rfl) _
       have hq6:H9 w6 q [.int .i64 (k:Int),.string ⟨s.toArray⟩,.string ⟨t2.toArray⟩,.string ⟨u.toArray⟩,.int .i64 (n:Int),.int .i64 (p:Int),.slice la ll lc,.slice ma ml mc,.bool true]:=by
        rw[←hw6];have:=setCell_row (i:=8) (u:=.bool true) hq5;exact this
       have hP:=(hP5.of_q ht6 ⟨_,_,_,_,_,_,_,_,_,hq6⟩).els true;have HQ:=yH hq6;have HBASE:=yH (hb5.trans (ht6.below (fun k hk=>by rw[show k=q from hk];exact hqB) (by have:=hb5.size;have:=hP5.bsz;omega)));have HD7:=yH (Ps.brace_deep hbr);have hrl:=Ps.brace_len hbr;have HTG:=yH hTG3
       have HENDS:=yH (show Ps.Ends r from (Ps.takeW_end (d:=hs.length) (ws:=[Ps.wElse,[123]]) (by simp[Ps.wElse]) HENDS.out (by rw[Ps.take_else HD.out HENDS.out hel];exact hbr)).1);have HFEW:=yH (show cs.length+(hs.length + [(⟨⟨k,s,t2,u,n,p,pl,pm⟩,.slice la ll lc,.slice ma ml mc,true⟩:HA)].length)+r.length≤1000000 by simp only[List.length_cons,List.length_nil];omega)
       have HMU:=yH (show 4*r.length+1<4*lenG wr g+0 by have:=HMU1.out;simp only[List.length_cons] at this;omega)
       have HLENS:=yH (⟨fun z hz=>by
        rcases List.mem_append.1 hz with hz|hz
        ·exact HLENS.out.h z (by simp[hz])
        ·rw[List.mem_singleton.1 hz];exact HLENS.out.h ⟨⟨k,s,t2,u,n,p,pl,pm⟩,.slice la ll lc,.slice ma ml mc,false⟩ (by simp),HLENS.out.t⟩:Lens hs [⟨⟨k,s,t2,u,n,p,pl,pm⟩,.slice la ll lc,.slice ma ml mc,true⟩] cs top)
       clear hTG3 ht5 hbr hr5 htl5 hP5 hq5 ht6 hb5 hq6 hrl hfew2;go_wp2_with fail
       refine wp_label ?_;simp only[Exit.then];go_step;refine wp_seq ?_;have hD:=hP.below (below_drew (Below.refl w6.heap.size w6));have hqD:H9 w6.drew q [.int .i64 (k:Int),.string ⟨s.toArray⟩,.string ⟨t2.toArray⟩,.string ⟨u.toArray⟩,.int .i64 (n:Int),.int .i64 (p:Int),.slice la ll lc,.slice ma ml mc,.bool true]:=HQ.out;have hgq:¬ (g=q):=fun e=>absurd (hP.nd .g .q q (by rw[←e];rfl) rfl) (by simp)
       have hs0:w6.drew.cell? ⟨q,0,none⟩=some (.int .i64 (k:Int))∧w6.drew.cell? ⟨q,1,none⟩=some (.string ⟨s.toArray⟩)∧w6.drew.cell? ⟨q,2,none⟩=some (.string ⟨t2.toArray⟩)∧w6.drew.cell? ⟨q,3,none⟩=some (.string ⟨u.toArray⟩)∧w6.drew.cell? ⟨q,4,none⟩=some (.int .i64 (n:Int))∧w6.drew.cell? ⟨q,5,none⟩=some (.int .i64 (p:Int))∧w6.drew.cell? ⟨q,6,none⟩=some (.slice la ll lc)∧w6.drew.cell? ⟨q,7,none⟩=some (.slice ma ml mc)∧w6.drew.cell? ⟨q,8,none⟩=some (.bool true):=⟨hqD.cell (i:=0) rfl,hqD.cell (i:=1) rfl,hqD.cell (i:=2) rfl,hqD.cell (i:=3) rfl,hqD.cell (i:=4) rfl,hqD.cell (i:=5) rfl,hqD.cell (i:=6) rfl,hqD.cell (i:=7) rfl,hqD.cell (i:=8) rfl⟩
       refine wp_region_held_drew (S:=fun w'=>w'.cell? ⟨q,0,none⟩=some (.int .i64 (k:Int))∧w'.cell? ⟨q,1,none⟩=some (.string ⟨s.toArray⟩)∧w'.cell? ⟨q,2,none⟩=some (.string ⟨t2.toArray⟩)∧w'.cell? ⟨q,3,none⟩=some (.string ⟨u.toArray⟩)∧w'.cell? ⟨q,4,none⟩=some (.int .i64 (n:Int))∧w'.cell? ⟨q,5,none⟩=some (.int .i64 (p:Int))∧w'.cell? ⟨q,6,none⟩=some (.slice la ll lc)∧w'.cell? ⟨q,7,none⟩=some (.slice ma ml mc)∧w'.cell? ⟨q,8,none⟩=some (.bool true)) (by kernel_rfl) hs0 (fun hH=>?_)
       have hbD:Below B w6 w6.drew:=below_drew (Below.refl _ _);clear hP;generalize w6.drew=wd at *;obtain⟨wa,hwa⟩:∃ wa,wd.alloc (.cells #[.int .i64 (k:Int),.string ⟨s.toArray⟩,.string ⟨t2.toArray⟩,.string ⟨u.toArray⟩,.int .i64 (n:Int),.int .i64 (p:Int),.slice la ll lc,.slice ma ml mc,.bool true] 105)=wa:=⟨_,rfl⟩;have hba:Below wd.heap.size wd wa:=by rw[←hwa];exact yA
       have hna:wa.heap[wd.heap.size]?=some (.cells #[.int .i64 (k:Int),.string ⟨s.toArray⟩,.string ⟨t2.toArray⟩,.string ⟨u.toArray⟩,.int .i64 (n:Int),.int .i64 (p:Int),.slice la ll lc,.slice ma ml mc,.bool true] 105 (0,0)):=(by rw[←hwa];exact heap_alloc_new _ _);have hA:=hD.below hba
       have hqA:H9 wa q [.int .i64 (k:Int),.string ⟨s.toArray⟩,.string ⟨t2.toArray⟩,.string ⟨u.toArray⟩,.int .i64 (n:Int),.int .i64 (p:Int),.slice la ll lc,.slice ma ml mc,.bool true]:=hqD.same (hba.block _ hqD.lt)
       have hsA:wa.cell? ⟨q,0,none⟩=some (.int .i64 (k:Int))∧wa.cell? ⟨q,1,none⟩=some (.string ⟨s.toArray⟩)∧wa.cell? ⟨q,2,none⟩=some (.string ⟨t2.toArray⟩)∧wa.cell? ⟨q,3,none⟩=some (.string ⟨u.toArray⟩)∧wa.cell? ⟨q,4,none⟩=some (.int .i64 (n:Int))∧wa.cell? ⟨q,5,none⟩=some (.int .i64 (p:Int))∧wa.cell? ⟨q,6,none⟩=some (.slice la ll lc)∧wa.cell? ⟨q,7,none⟩=some (.slice ma ml mc)∧wa.cell? ⟨q,8,none⟩=some (.bool true):=⟨hqA.cell (i:=0) rfl,hqA.cell (i:=1) rfl,hqA.cell (i:=2) rfl,hqA.cell (i:=3) rfl,hqA.cell (i:=4) rfl,hqA.cell (i:=5) rfl,hqA.cell (i:=6) rfl,hqA.cell (i:=7) rfl,hqA.cell (i:=8) rfl⟩
       have e1:=hD.rb.c1;have e1a:=hA.rb.c1;have HA:=yH hA;have HSA:=yH hsA;have HQA:=yH hqA;have HNA:=yH hna;have HBA:=yH (hbD.trans (hba.mono hD.bsz));clear hA hsA hqA hna hba hD hqD hbD hs0;refine heldT (i:=0) ?_;refine heldT (i:=1) ?_;refine heldT (i:=2) ?_;refine heldT (i:=3) ?_;refine heldT (i:=5) ?_;refine heldTwo (i:=4) (j:=6) rfl rfl (by kernel_rfl) (by rfl) (by rfl) (fun K hK=>?_) (fun K hK=>?_)
       ·go_simp;refine hK.out _ _ (by assumption) ?_;clear hK K;(try simp only[Act.put,zLa,zLb,zLc]);refine heldNext (i:=6) rfl (by kernel_rfl) (by rfl) (fun K hK=>?_);go_simp;refine hK.out _ _ HSA.out ?_;clear hK K;(try simp only[Act.put,zLa,zLb,zLc]);refine heldNext (i:=7) rfl (by kernel_rfl) (by rfl) (fun K hK=>?_)
        refine append_h ⟨⟨k,s,t2,u,n,p,pl,pm⟩,.slice la ll lc,.slice ma ml mc,true⟩ (.tmp 77) (.tmp 79) (by rfl) (by rfl) (HA.out.op) (by rfl) HNA.out rfl rfl (by have:=HD7.out;omega) HA.out.bsz (fun g2 c2 w6 ho hg hgg=>?_);obtain⟨p1,p2⟩:=HA.out.growOp hg ho rfl hgg;have hr6:=HA.out.rb_grown (i:=.o) hg rfl (by simp);have f1:=hr6.c1;have ff:=hr6.fr 1
        have hq6:H9 w6 q [.int .i64 (k:Int),.string ⟨s.toArray⟩,.string ⟨t2.toArray⟩,.string ⟨u.toArray⟩,.int .i64 (n:Int),.int .i64 (p:Int),.slice la ll lc,.slice ma ml mc,.bool true]:=HQA.out.same (hg.block _ HQA.out.lt (fun e=>absurd (HA.out.nd .o .q q e.symm rfl) (by simp)))
        have hs6:w6.cell? ⟨q,0,none⟩=some (.int .i64 (k:Int))∧w6.cell? ⟨q,1,none⟩=some (.string ⟨s.toArray⟩)∧w6.cell? ⟨q,2,none⟩=some (.string ⟨t2.toArray⟩)∧w6.cell? ⟨q,3,none⟩=some (.string ⟨u.toArray⟩)∧w6.cell? ⟨q,4,none⟩=some (.int .i64 (n:Int))∧w6.cell? ⟨q,5,none⟩=some (.int .i64 (p:Int))∧w6.cell? ⟨q,6,none⟩=some (.slice la ll lc)∧w6.cell? ⟨q,7,none⟩=some (.slice ma ml mc)∧w6.cell? ⟨q,8,none⟩=some (.bool true):=⟨hq6.cell (i:=0) rfl,hq6.cell (i:=1) rfl,hq6.cell (i:=2) rfl,hq6.cell (i:=3) rfl,hq6.cell (i:=4) rfl,hq6.cell (i:=5) rfl,hq6.cell (i:=6) rfl,hq6.cell (i:=7) rfl,hq6.cell (i:=8) rfl⟩
        obtain⟨w7,hw7⟩:∃ w7,w6.setCell ⟨g,1,none⟩ (.slice (some ⟨g2,0,none⟩) (hs.length+1) c2)=w7:=⟨_,rfl⟩;rw[hw7] at p1 p2;have hq7:H9 w7 q [.int .i64 (k:Int),.string ⟨s.toArray⟩,.string ⟨t2.toArray⟩,.string ⟨u.toArray⟩,.int .i64 (n:Int),.int .i64 (p:Int),.slice la ll lc,.slice ma ml mc,.bool true]:=hw7 ▸ hq6.same (Below.heap_setCell _ _ _ _ (fun e=>hgq e.symm))
        have hs7:w7.cell? ⟨q,0,none⟩=some (.int .i64 (k:Int))∧w7.cell? ⟨q,1,none⟩=some (.string ⟨s.toArray⟩)∧w7.cell? ⟨q,2,none⟩=some (.string ⟨t2.toArray⟩)∧w7.cell? ⟨q,3,none⟩=some (.string ⟨u.toArray⟩)∧w7.cell? ⟨q,4,none⟩=some (.int .i64 (n:Int))∧w7.cell? ⟨q,5,none⟩=some (.int .i64 (p:Int))∧w7.cell? ⟨q,6,none⟩=some (.slice la ll lc)∧w7.cell? ⟨q,7,none⟩=some (.slice ma ml mc)∧w7.cell? ⟨q,8,none⟩=some (.bool true):=⟨hq7.cell (i:=0) rfl,hq7.cell (i:=1) rfl,hq7.cell (i:=2) rfl,hq7.cell (i:=3) rfl,hq7.cell (i:=4) rfl,hq7.cell (i:=5) rfl,hq7.cell (i:=6) rfl,hq7.cell (i:=7) rfl,hq7.cell (i:=8) rfl⟩
        refine hK.out _ _ hs6 ?_;clear hK K;(try simp only[Act.put,zLa,zLb,zLc]);refine heldT (i:=8) ?_;refine heldT (i:=9) ?_;refine heldNext (i:=10) rfl (by kernel_rfl) (by rfl) (fun K hK=>?_);go_simp;refine hK.out _ _ hs7 ?_;clear hK K;(try simp only[Act.put,zLa,zLb,zLc]);refine wpAnyH_done (by kernel_rfl) ?_ _;have HP7:=yH p1;have HB7:=yH p2;clear p1 p2 hr6 hq6 hq7 hs6 hs7 f1 ff ho hg hgg hw7;simp only[Exit.then];go_wp2;go_step3
        refine⟨Or.inl ⟨rfl,FR.of _ _ _ rfl,_,hs++[⟨⟨k,s,t2,u,n,p,pl,pm⟩,.slice la ll lc,.slice ma ml mc,true⟩],_,_,⟨⟨_,_,_,_,HP7.out⟩,HENDS.out,by rw[List.length_append,List.length_singleton];have:=HD7.out;omega,by have:=HFEW.out;rw[List.length_append,List.length_singleton];simp only[List.length_cons,List.length_nil] at this ⊢;omega,⟨fun z hz=>HLENS.out.h z (by simpa using hz),HLENS.out.t⟩,(HBASE.out.trans HBA.out).trans HB7.out⟩,?_⟩,?_⟩
        ·exact HTG.out.trans (congrArg (fun s=>Ps.run s [] (rowOf cs) top _) (stk_snoc hs ⟨⟨k,s,t2,u,n,p,pl,pm⟩,.slice la ll lc,.slice ma ml mc,true⟩).symm)
        ·show 4*lenG w7 g+1<_
         rw[HP7.out.lenG];exact HMU.out
       ·go_simp;refine hK.out _ _ HSA.out ?_;clear hK K;(try simp only[Act.put,zLa,zLb,zLc]);refine heldNext (i:=4) rfl (by kernel_rfl) (by rfl) (fun K hK=>?_);go_simp;refine hK.out _ _ (by assumption) ?_;clear hK K;(try simp only[Act.put,zLa,zLb,zLc]);refine heldNext (i:=7) rfl (by kernel_rfl) (by rfl) (fun K hK=>?_)
        refine append_h ⟨⟨k,s,t2,u,n,p,pl,pm⟩,.slice la ll lc,.slice ma ml mc,true⟩ (.tmp 77) (.tmp 79) (by rfl) (by rfl) (HA.out.op) (by rfl) HNA.out rfl rfl (by have:=HD7.out;omega) HA.out.bsz (fun g2 c2 w6 ho hg hgg=>?_);obtain⟨p1,p2⟩:=HA.out.growOp hg ho rfl hgg;have hr6:=HA.out.rb_grown (i:=.o) hg rfl (by simp);have f1:=hr6.c1;have ff:=hr6.fr 1
        have hq6:H9 w6 q [.int .i64 (k:Int),.string ⟨s.toArray⟩,.string ⟨t2.toArray⟩,.string ⟨u.toArray⟩,.int .i64 (n:Int),.int .i64 (p:Int),.slice la ll lc,.slice ma ml mc,.bool true]:=HQA.out.same (hg.block _ HQA.out.lt (fun e=>absurd (HA.out.nd .o .q q e.symm rfl) (by simp)))
        have hs6:w6.cell? ⟨q,0,none⟩=some (.int .i64 (k:Int))∧w6.cell? ⟨q,1,none⟩=some (.string ⟨s.toArray⟩)∧w6.cell? ⟨q,2,none⟩=some (.string ⟨t2.toArray⟩)∧w6.cell? ⟨q,3,none⟩=some (.string ⟨u.toArray⟩)∧w6.cell? ⟨q,4,none⟩=some (.int .i64 (n:Int))∧w6.cell? ⟨q,5,none⟩=some (.int .i64 (p:Int))∧w6.cell? ⟨q,6,none⟩=some (.slice la ll lc)∧w6.cell? ⟨q,7,none⟩=some (.slice ma ml mc)∧w6.cell? ⟨q,8,none⟩=some (.bool true):=⟨hq6.cell (i:=0) rfl,hq6.cell (i:=1) rfl,hq6.cell (i:=2) rfl,hq6.cell (i:=3) rfl,hq6.cell (i:=4) rfl,hq6.cell (i:=5) rfl,hq6.cell (i:=6) rfl,hq6.cell (i:=7) rfl,hq6.cell (i:=8) rfl⟩
        obtain⟨w7,hw7⟩:∃ w7,w6.setCell ⟨g,1,none⟩ (.slice (some ⟨g2,0,none⟩) (hs.length+1) c2)=w7:=⟨_,rfl⟩;rw[hw7] at p1 p2;have hq7:H9 w7 q [.int .i64 (k:Int),.string ⟨s.toArray⟩,.string ⟨t2.toArray⟩,.string ⟨u.toArray⟩,.int .i64 (n:Int),.int .i64 (p:Int),.slice la ll lc,.slice ma ml mc,.bool true]:=hw7 ▸ hq6.same (Below.heap_setCell _ _ _ _ (fun e=>hgq e.symm))
        have hs7:w7.cell? ⟨q,0,none⟩=some (.int .i64 (k:Int))∧w7.cell? ⟨q,1,none⟩=some (.string ⟨s.toArray⟩)∧w7.cell? ⟨q,2,none⟩=some (.string ⟨t2.toArray⟩)∧w7.cell? ⟨q,3,none⟩=some (.string ⟨u.toArray⟩)∧w7.cell? ⟨q,4,none⟩=some (.int .i64 (n:Int))∧w7.cell? ⟨q,5,none⟩=some (.int .i64 (p:Int))∧w7.cell? ⟨q,6,none⟩=some (.slice la ll lc)∧w7.cell? ⟨q,7,none⟩=some (.slice ma ml mc)∧w7.cell? ⟨q,8,none⟩=some (.bool true):=⟨hq7.cell (i:=0) rfl,hq7.cell (i:=1) rfl,hq7.cell (i:=2) rfl,hq7.cell (i:=3) rfl,hq7.cell (i:=4) rfl,hq7.cell (i:=5) rfl,hq7.cell (i:=6) rfl,hq7.cell (i:=7) rfl,hq7.cell (i:=8) rfl⟩
        refine hK.out _ _ hs6 ?_;clear hK K;(try simp only[Act.put,zLa,zLb,zLc]);refine heldT (i:=8) ?_;refine heldT (i:=9) ?_;refine heldNext (i:=10) rfl (by kernel_rfl) (by rfl) (fun K hK=>?_);go_simp;refine hK.out _ _ hs7 ?_;clear hK K;(try simp only[Act.put,zLa,zLb,zLc]);refine wpAnyH_done (by kernel_rfl) ?_ _;have HP7:=yH p1;have HB7:=yH p2;clear p1 p2 hr6 hq6 hq7 hs6 hs7 f1 ff ho hg hgg hw7;simp only[Exit.then];go_wp2;go_step3
        refine⟨Or.inl ⟨rfl,FR.of _ _ _ rfl,_,hs++[⟨⟨k,s,t2,u,n,p,pl,pm⟩,.slice la ll lc,.slice ma ml mc,true⟩],_,_,⟨⟨_,_,_,_,HP7.out⟩,HENDS.out,by rw[List.length_append,List.length_singleton];have:=HD7.out;omega,by have:=HFEW.out;rw[List.length_append,List.length_singleton];simp only[List.length_cons,List.length_nil] at this ⊢;omega,⟨fun z hz=>HLENS.out.h z (by simpa using hz),HLENS.out.t⟩,(HBASE.out.trans HBA.out).trans HB7.out⟩,?_⟩,?_⟩
        ·exact HTG.out.trans (congrArg (fun s=>Ps.run s [] (rowOf cs) top _) (stk_snoc hs ⟨⟨k,s,t2,u,n,p,pl,pm⟩,.slice la ll lc,.slice ma ml mc,true⟩).symm)
        ·show 4*lenG w7 g+1<_
         rw[HP7.out.lenG];exact HMU.out
     ·have hef:Ps.isName Ps.wElse u1=false:=(by simpa using hel);rw[hef] at IS;clear hP3 hq3;go_wp2_with fail
      refine IS.mono ?_;rintro e w4 ⟨rfl,hb4⟩;have HP4:=yH (HP3.out.below hb4);have HQ4:=yH (HQ.out.same (hb4.block _ HQ.out.lt));have HB4:=yH (HB3.out.trans (hb4.mono HP3.out.bsz));clear IS hb4;go_wp2;go_step3
      refine⟨Or.inr (Or.inr (Or.inl ⟨rfl,FR.of _ _ _ rfl,u1 :: ts1,hs,⟨⟨k,s,t2,u,n,p,pl,pm⟩,.slice la ll lc,.slice ma ml mc,false⟩,cs,top,⟨⟨_,_,_,_,HP4.out⟩,HENDS.out,HD.out,HFEW.out,HLENS.out,HB4.out⟩,HQ4.out,?_⟩)),?_⟩
      ·rw[HTG.out,Ps.fin_put (by rintro⟨_,_,h⟩;exact hel h)];rw[show (rowOf cs).length=cs.length by unfold rowOf;rw[List.length_map]];rfl
      ·show 4*lenG w4 g+2<_
       rw[HP4.out.lenG];exact HMU2.out
   ·have r1:((k:Int) != 5)=true:=(by rw[bne_iff_ne];omega);have r2:((k:Int)==5)=false:=yB;have r3:((k:Int)=5)=False:=yF;clear hP3 hq3;go_wp2;go_step3
    refine⟨Or.inr (Or.inr (Or.inl ⟨rfl,FR.of _ _ _ rfl,ts,hs,⟨⟨k,s,t2,u,n,p,pl,pm⟩,.slice la ll lc,.slice ma ml mc,els⟩,cs,top,⟨⟨_,_,_,_,HP3.out⟩,HENDS.out,HD.out,HFEW.out,HLENS.out,HB3.out⟩,HQ.out,?_⟩)),?_⟩
    ·rw[HTG.out,Ps.fin_put (by rintro⟨h,_⟩;exact hk5 h)];rw[show (rowOf cs).length=cs.length by unfold rowOf;rw[List.length_map]];rfl
    ·show 4*lenG w3 g+2<_
     rw[HP3.out.lenG];exact HMU2.out
  ·refine⟨_,rfl,?_⟩;obtain⟨lv,ov,sv',tv,hP⟩:=hSJ.px;obtain⟨x1,x2⟩:=hP.hl x (by simp);obtain⟨st,xl,xm,els⟩:=x;obtain⟨la,ll,lc,hl1⟩:=x1.form3;obtain⟨ma,ml,mc,hm1⟩:=x2.form3;dsimp only at hl1 hm1;subst hl1 hm1;obtain⟨k,s,t2,u,n,p,pl,pm⟩:=st;have HQ:Hid (H9 wr q [.int .i64 (k:Int),.string ⟨s.toArray⟩,.string ⟨t2.toArray⟩,.string ⟨u.toArray⟩,.int .i64 (n:Int),.int .i64 (p:Int),.slice la ll lc,.slice ma ml mc,.bool els]):=yH hq
   have HENDS:=yH hSJ.ends;have HFEW:=yH hSJ.few;have HLENS:=yH hSJ.lens;have HD:=yH hSJ.d;have HBASE:=yH hSJ.base;have HTG:=yH hT;clear x1 x2 hq hT hSJ;have HMU:=yH (show 4*ts.length+1<4*lenG wr g+2 by rw[hP.lenG];omega);have PA:=put_any ⟨⟨k,s,t2,u,n,p,pl,pm⟩,.slice la ll lc,.slice ma ml mc,els⟩ wr hP (by have:=HD.out;omega) (by have:=HFEW.out;omega) HLENS.out;have y0:=HQ.out.cell (i:=0) rfl
   have y1:=HQ.out.cell (i:=1) rfl;have y2:=HQ.out.cell (i:=2) rfl;have y3:=HQ.out.cell (i:=3) rfl;have y4:=HQ.out.cell (i:=4) rfl;have y5:=HQ.out.cell (i:=5) rfl;have y6:=HQ.out.cell (i:=6) rfl;have y7:=HQ.out.cell (i:=7) rfl;clear HQ;go_wp2_with fail
   refine PA.mono ?_;rintro e w5 ⟨rfl,⟨sv5,tv5,hs5,top5,hP5,hst5,htop5,hlen5,hlens5⟩,hb5⟩;have HP5:=yH hP5;have HX5:=yH (⟨hst5,htop5,hlen5,hlens5⟩:_∧_∧_∧_);have HB5:=yH hb5;clear hP5 hst5 htop5 hlen5 hlens5 hb5 PA hP;go_wp2;go_step3
   refine⟨Or.inl ⟨rfl,FR.of _ _ _ rfl,_,hs5,_,top5,⟨⟨_,_,_,_,HP5.out⟩,HENDS.out,by rw[HX5.out.2.2.1];exact HD.out,by have:=HFEW.out;rw[List.length_append,List.length_singleton,HX5.out.2.2.1];simp only[List.length_cons,List.length_nil] at this ⊢;omega,HX5.out.2.2.2,HBASE.out.trans HB5.out⟩,?_⟩,?_⟩
   ·rw[HTG.out,Ps.run_put,HX5.out.1,HX5.out.2.1,rowOf_snoc];rfl
   ·show 4*lenG w5 g+1<_
    rw[HP5.out.lenG];exact HMU.out
  ·refine⟨_,rfl,?_⟩;obtain⟨lv,ov,sv',tv,hP⟩:=hSJ.px;obtain⟨x1,x2⟩:=hP.hl x (by simp);obtain⟨st,xl,xm,els⟩:=x;obtain⟨la,ll,lc,hl1⟩:=x1.form3;obtain⟨ma,ml,mc,hm1⟩:=x2.form3;dsimp only at hl1 hm1;subst hl1 hm1;obtain⟨k,s,t2,u,n,p,pl,pm⟩:=st;have HQ:Hid (H9 wr q [.int .i64 (k:Int),.string ⟨s.toArray⟩,.string ⟨t2.toArray⟩,.string ⟨u.toArray⟩,.int .i64 (n:Int),.int .i64 (p:Int),.slice la ll lc,.slice ma ml mc,.bool els]):=yH hq
   have HENDS:=yH hSJ.ends;have HFEW:=yH hSJ.few;have HLENS:=yH hSJ.lens;have HD:=yH hSJ.d;have HBASE:=yH hSJ.base;have HTG:=yH hT;clear x1 x2 hq hT hSJ;have HMU:=yH (show 4*ts.length+1<4*lenG wr g+2 by rw[hP.lenG];omega);have HD7:=yH hd7;clear hd7;refine wp_seq ?_;have hD:=hP.below (below_drew (Below.refl wr.heap.size wr))
   have hqD:H9 wr.drew q [.int .i64 (k:Int),.string ⟨s.toArray⟩,.string ⟨t2.toArray⟩,.string ⟨u.toArray⟩,.int .i64 (n:Int),.int .i64 (p:Int),.slice la ll lc,.slice ma ml mc,.bool els]:=HQ.out;have hgq:¬ (g=q):=fun e=>absurd (hP.nd .g .q q (by rw[←e];rfl) rfl) (by simp)
   have hs0:wr.drew.cell? ⟨q,0,none⟩=some (.int .i64 (k:Int))∧wr.drew.cell? ⟨q,1,none⟩=some (.string ⟨s.toArray⟩)∧wr.drew.cell? ⟨q,2,none⟩=some (.string ⟨t2.toArray⟩)∧wr.drew.cell? ⟨q,3,none⟩=some (.string ⟨u.toArray⟩)∧wr.drew.cell? ⟨q,4,none⟩=some (.int .i64 (n:Int))∧wr.drew.cell? ⟨q,5,none⟩=some (.int .i64 (p:Int))∧wr.drew.cell? ⟨q,6,none⟩=some (.slice la ll lc)∧wr.drew.cell? ⟨q,7,none⟩=some (.slice ma ml mc)∧wr.drew.cell? ⟨q,8,none⟩=some (.bool els):=⟨hqD.cell (i:=0) rfl,hqD.cell (i:=1) rfl,hqD.cell (i:=2) rfl,hqD.cell (i:=3) rfl,hqD.cell (i:=4) rfl,hqD.cell (i:=5) rfl,hqD.cell (i:=6) rfl,hqD.cell (i:=7) rfl,hqD.cell (i:=8) rfl⟩
   refine wp_region_held_drew (S:=fun w'=>w'.cell? ⟨q,0,none⟩=some (.int .i64 (k:Int))∧w'.cell? ⟨q,1,none⟩=some (.string ⟨s.toArray⟩)∧w'.cell? ⟨q,2,none⟩=some (.string ⟨t2.toArray⟩)∧w'.cell? ⟨q,3,none⟩=some (.string ⟨u.toArray⟩)∧w'.cell? ⟨q,4,none⟩=some (.int .i64 (n:Int))∧w'.cell? ⟨q,5,none⟩=some (.int .i64 (p:Int))∧w'.cell? ⟨q,6,none⟩=some (.slice la ll lc)∧w'.cell? ⟨q,7,none⟩=some (.slice ma ml mc)∧w'.cell? ⟨q,8,none⟩=some (.bool els)) (by kernel_rfl) hs0 (fun hH=>?_)
   have hbD:Below B wr wr.drew:=below_drew (Below.refl _ _);clear hP;generalize wr.drew=wd at *;obtain⟨wa,hwa⟩:∃ wa,wd.alloc (.cells #[.int .i64 (k:Int),.string ⟨s.toArray⟩,.string ⟨t2.toArray⟩,.string ⟨u.toArray⟩,.int .i64 (n:Int),.int .i64 (p:Int),.slice la ll lc,.slice ma ml mc,.bool els] 105)=wa:=⟨_,rfl⟩;have hba:Below wd.heap.size wd wa:=by rw[←hwa];exact yA
   have hna:wa.heap[wd.heap.size]?=some (.cells #[.int .i64 (k:Int),.string ⟨s.toArray⟩,.string ⟨t2.toArray⟩,.string ⟨u.toArray⟩,.int .i64 (n:Int),.int .i64 (p:Int),.slice la ll lc,.slice ma ml mc,.bool els] 105 (0,0)):=(by rw[←hwa];exact heap_alloc_new _ _);have hA:=hD.below hba
   have hqA:H9 wa q [.int .i64 (k:Int),.string ⟨s.toArray⟩,.string ⟨t2.toArray⟩,.string ⟨u.toArray⟩,.int .i64 (n:Int),.int .i64 (p:Int),.slice la ll lc,.slice ma ml mc,.bool els]:=hqD.same (hba.block _ hqD.lt)
   have hsA:wa.cell? ⟨q,0,none⟩=some (.int .i64 (k:Int))∧wa.cell? ⟨q,1,none⟩=some (.string ⟨s.toArray⟩)∧wa.cell? ⟨q,2,none⟩=some (.string ⟨t2.toArray⟩)∧wa.cell? ⟨q,3,none⟩=some (.string ⟨u.toArray⟩)∧wa.cell? ⟨q,4,none⟩=some (.int .i64 (n:Int))∧wa.cell? ⟨q,5,none⟩=some (.int .i64 (p:Int))∧wa.cell? ⟨q,6,none⟩=some (.slice la ll lc)∧wa.cell? ⟨q,7,none⟩=some (.slice ma ml mc)∧wa.cell? ⟨q,8,none⟩=some (.bool els):=⟨hqA.cell (i:=0) rfl,hqA.cell (i:=1) rfl,hqA.cell (i:=2) rfl,hqA.cell (i:=3) rfl,hqA.cell (i:=4) rfl,hqA.cell (i:=5) rfl,hqA.cell (i:=6) rfl,hqA.cell (i:=7) rfl,hqA.cell (i:=8) rfl⟩
   have e1:=hD.rb.c1;have e1a:=hA.rb.c1;have HA:=yH hA;have HSA:=yH hsA;have HQA:=yH hqA;have HNA:=yH hna;have HBA:=yH (hbD.trans (hba.mono hD.bsz));clear hA hsA hqA hna hba hD hqD hbD hs0;refine heldT (i:=0) ?_;refine heldT (i:=1) ?_;refine heldT (i:=2) ?_;refine heldT (i:=3) ?_;refine heldT (i:=5) ?_;refine heldTwo (i:=4) (j:=6) rfl rfl (by kernel_rfl) (by rfl) (by rfl) (fun K hK=>?_) (fun K hK=>?_)
   ·go_simp;refine hK.out _ _ (by assumption) ?_;clear hK K;(try dsimp only);refine heldNext (i:=6) rfl (by kernel_rfl) (by rfl) (fun K hK=>?_);go_simp;refine hK.out _ _ HSA.out ?_;clear hK K;(try simp only[Act.put,zLa,zLb,zLc]);refine heldNext (i:=7) rfl (by kernel_rfl) (by rfl) (fun K hK=>?_)
    refine append_h ⟨⟨k,s,t2,u,n,p,pl,pm⟩,.slice la ll lc,.slice ma ml mc,els⟩ (.tmp 77) (.tmp 79) (by rfl) (by rfl) (HA.out.op) (by rfl) HNA.out rfl rfl (by have:=HD7.out;omega) HA.out.bsz (fun g2 c2 w6 ho hg hgg=>?_);obtain⟨p1,p2⟩:=HA.out.growOp hg ho rfl hgg;have hr6:=HA.out.rb_grown (i:=.o) hg rfl (by simp);have f1:=hr6.c1;have ff:=hr6.fr 1
    have hq6:H9 w6 q [.int .i64 (k:Int),.string ⟨s.toArray⟩,.string ⟨t2.toArray⟩,.string ⟨u.toArray⟩,.int .i64 (n:Int),.int .i64 (p:Int),.slice la ll lc,.slice ma ml mc,.bool els]:=HQA.out.same (hg.block _ HQA.out.lt (fun e=>absurd (HA.out.nd .o .q q e.symm rfl) (by simp)))
    have hs6:w6.cell? ⟨q,0,none⟩=some (.int .i64 (k:Int))∧w6.cell? ⟨q,1,none⟩=some (.string ⟨s.toArray⟩)∧w6.cell? ⟨q,2,none⟩=some (.string ⟨t2.toArray⟩)∧w6.cell? ⟨q,3,none⟩=some (.string ⟨u.toArray⟩)∧w6.cell? ⟨q,4,none⟩=some (.int .i64 (n:Int))∧w6.cell? ⟨q,5,none⟩=some (.int .i64 (p:Int))∧w6.cell? ⟨q,6,none⟩=some (.slice la ll lc)∧w6.cell? ⟨q,7,none⟩=some (.slice ma ml mc)∧w6.cell? ⟨q,8,none⟩=some (.bool els):=⟨hq6.cell (i:=0) rfl,hq6.cell (i:=1) rfl,hq6.cell (i:=2) rfl,hq6.cell (i:=3) rfl,hq6.cell (i:=4) rfl,hq6.cell (i:=5) rfl,hq6.cell (i:=6) rfl,hq6.cell (i:=7) rfl,hq6.cell (i:=8) rfl⟩
    obtain⟨w7,hw7⟩:∃ w7,w6.setCell ⟨g,1,none⟩ (.slice (some ⟨g2,0,none⟩) (hs.length+1) c2)=w7:=⟨_,rfl⟩;rw[hw7] at p1 p2;have hq7:H9 w7 q [.int .i64 (k:Int),.string ⟨s.toArray⟩,.string ⟨t2.toArray⟩,.string ⟨u.toArray⟩,.int .i64 (n:Int),.int .i64 (p:Int),.slice la ll lc,.slice ma ml mc,.bool els]:=hw7 ▸ hq6.same (Below.heap_setCell _ _ _ _ (fun e=>hgq e.symm))
    have hs7:w7.cell? ⟨q,0,none⟩=some (.int .i64 (k:Int))∧w7.cell? ⟨q,1,none⟩=some (.string ⟨s.toArray⟩)∧w7.cell? ⟨q,2,none⟩=some (.string ⟨t2.toArray⟩)∧w7.cell? ⟨q,3,none⟩=some (.string ⟨u.toArray⟩)∧w7.cell? ⟨q,4,none⟩=some (.int .i64 (n:Int))∧w7.cell? ⟨q,5,none⟩=some (.int .i64 (p:Int))∧w7.cell? ⟨q,6,none⟩=some (.slice la ll lc)∧w7.cell? ⟨q,7,none⟩=some (.slice ma ml mc)∧w7.cell? ⟨q,8,none⟩=some (.bool els):=⟨hq7.cell (i:=0) rfl,hq7.cell (i:=1) rfl,hq7.cell (i:=2) rfl,hq7.cell (i:=3) rfl,hq7.cell (i:=4) rfl,hq7.cell (i:=5) rfl,hq7.cell (i:=6) rfl,hq7.cell (i:=7) rfl,hq7.cell (i:=8) rfl⟩
    refine hK.out _ _ hs6 ?_;clear hK K;(try simp only[Act.put,zLa,zLb,zLc]);refine heldT (i:=8) ?_;refine heldT (i:=9) ?_;refine heldNext (i:=10) rfl (by kernel_rfl) (by rfl) (fun K hK=>?_);go_simp;refine hK.out _ _ hs7 ?_;clear hK K;(try simp only[Act.put,zLa,zLb,zLc]);refine wpAnyH_done (by kernel_rfl) ?_ _;have HP7:=yH p1;have HB7:=yH p2;clear p1 p2 hr6 hq6 hq7 hs6 hs7 f1 ff ho hg hgg hw7;simp only[Exit.then];go_wp2;go_step3
    refine⟨Or.inl ⟨rfl,FR.of _ _ _ rfl,_,hs++[⟨⟨k,s,t2,u,n,p,pl,pm⟩,.slice la ll lc,.slice ma ml mc,els⟩],_,_,⟨⟨_,_,_,_,HP7.out⟩,HENDS.out,by rw[List.length_append,List.length_singleton];have:=HD7.out;omega,by have:=HFEW.out;rw[List.length_append,List.length_singleton];simp only[List.length_cons,List.length_nil] at this ⊢;omega,⟨fun z hz=>HLENS.out.h z (by simpa using hz),HLENS.out.t⟩,(HBASE.out.trans HBA.out).trans HB7.out⟩,?_⟩,?_⟩
    ·exact HTG.out.trans (congrArg (fun s=>Ps.run s [] (rowOf cs) top _) (stk_snoc hs ⟨⟨k,s,t2,u,n,p,pl,pm⟩,.slice la ll lc,.slice ma ml mc,els⟩).symm)
    ·show 4*lenG w7 g+1<_
     rw[HP7.out.lenG];exact HMU.out
   ·go_simp;refine hK.out _ _ HSA.out ?_;clear hK K;(try dsimp only);refine heldNext (i:=4) rfl (by kernel_rfl) (by rfl) (fun K hK=>?_);go_simp;refine hK.out _ _ (by assumption) ?_;clear hK K;(try simp only[Act.put,zLa,zLb,zLc]);refine heldNext (i:=7) rfl (by kernel_rfl) (by rfl) (fun K hK=>?_)
    refine append_h ⟨⟨k,s,t2,u,n,p,pl,pm⟩,.slice la ll lc,.slice ma ml mc,els⟩ (.tmp 77) (.tmp 79) (by rfl) (by rfl) (HA.out.op) (by rfl) HNA.out rfl rfl (by have:=HD7.out;omega) HA.out.bsz (fun g2 c2 w6 ho hg hgg=>?_);obtain⟨p1,p2⟩:=HA.out.growOp hg ho rfl hgg;have hr6:=HA.out.rb_grown (i:=.o) hg rfl (by simp);have f1:=hr6.c1;have ff:=hr6.fr 1
    have hq6:H9 w6 q [.int .i64 (k:Int),.string ⟨s.toArray⟩,.string ⟨t2.toArray⟩,.string ⟨u.toArray⟩,.int .i64 (n:Int),.int .i64 (p:Int),.slice la ll lc,.slice ma ml mc,.bool els]:=HQA.out.same (hg.block _ HQA.out.lt (fun e=>absurd (HA.out.nd .o .q q e.symm rfl) (by simp)))
    have hs6:w6.cell? ⟨q,0,none⟩=some (.int .i64 (k:Int))∧w6.cell? ⟨q,1,none⟩=some (.string ⟨s.toArray⟩)∧w6.cell? ⟨q,2,none⟩=some (.string ⟨t2.toArray⟩)∧w6.cell? ⟨q,3,none⟩=some (.string ⟨u.toArray⟩)∧w6.cell? ⟨q,4,none⟩=some (.int .i64 (n:Int))∧w6.cell? ⟨q,5,none⟩=some (.int .i64 (p:Int))∧w6.cell? ⟨q,6,none⟩=some (.slice la ll lc)∧w6.cell? ⟨q,7,none⟩=some (.slice ma ml mc)∧w6.cell? ⟨q,8,none⟩=some (.bool els):=⟨hq6.cell (i:=0) rfl,hq6.cell (i:=1) rfl,hq6.cell (i:=2) rfl,hq6.cell (i:=3) rfl,hq6.cell (i:=4) rfl,hq6.cell (i:=5) rfl,hq6.cell (i:=6) rfl,hq6.cell (i:=7) rfl,hq6.cell (i:=8) rfl⟩
    obtain⟨w7,hw7⟩:∃ w7,w6.setCell ⟨g,1,none⟩ (.slice (some ⟨g2,0,none⟩) (hs.length+1) c2)=w7:=⟨_,rfl⟩;rw[hw7] at p1 p2;have hq7:H9 w7 q [.int .i64 (k:Int),.string ⟨s.toArray⟩,.string ⟨t2.toArray⟩,.string ⟨u.toArray⟩,.int .i64 (n:Int),.int .i64 (p:Int),.slice la ll lc,.slice ma ml mc,.bool els]:=hw7 ▸ hq6.same (Below.heap_setCell _ _ _ _ (fun e=>hgq e.symm))
    have hs7:w7.cell? ⟨q,0,none⟩=some (.int .i64 (k:Int))∧w7.cell? ⟨q,1,none⟩=some (.string ⟨s.toArray⟩)∧w7.cell? ⟨q,2,none⟩=some (.string ⟨t2.toArray⟩)∧w7.cell? ⟨q,3,none⟩=some (.string ⟨u.toArray⟩)∧w7.cell? ⟨q,4,none⟩=some (.int .i64 (n:Int))∧w7.cell? ⟨q,5,none⟩=some (.int .i64 (p:Int))∧w7.cell? ⟨q,6,none⟩=some (.slice la ll lc)∧w7.cell? ⟨q,7,none⟩=some (.slice ma ml mc)∧w7.cell? ⟨q,8,none⟩=some (.bool els):=⟨hq7.cell (i:=0) rfl,hq7.cell (i:=1) rfl,hq7.cell (i:=2) rfl,hq7.cell (i:=3) rfl,hq7.cell (i:=4) rfl,hq7.cell (i:=5) rfl,hq7.cell (i:=6) rfl,hq7.cell (i:=7) rfl,hq7.cell (i:=8) rfl⟩
    refine hK.out _ _ hs6 ?_;clear hK K;(try simp only[Act.put,zLa,zLb,zLc]);refine heldT (i:=8) ?_;refine heldT (i:=9) ?_;refine heldNext (i:=10) rfl (by kernel_rfl) (by rfl) (fun K hK=>?_);go_simp;refine hK.out _ _ hs7 ?_;clear hK K;(try simp only[Act.put,zLa,zLb,zLc]);refine wpAnyH_done (by kernel_rfl) ?_ _;have HP7:=yH p1;have HB7:=yH p2;clear p1 p2 hr6 hq6 hq7 hs6 hs7 f1 ff ho hg hgg hw7;simp only[Exit.then];go_wp2;go_step3
    refine⟨Or.inl ⟨rfl,FR.of _ _ _ rfl,_,hs++[⟨⟨k,s,t2,u,n,p,pl,pm⟩,.slice la ll lc,.slice ma ml mc,els⟩],_,_,⟨⟨_,_,_,_,HP7.out⟩,HENDS.out,by rw[List.length_append,List.length_singleton];have:=HD7.out;omega,by have:=HFEW.out;rw[List.length_append,List.length_singleton];simp only[List.length_cons,List.length_nil] at this ⊢;omega,⟨fun z hz=>HLENS.out.h z (by simpa using hz),HLENS.out.t⟩,(HBASE.out.trans HBA.out).trans HB7.out⟩,?_⟩,?_⟩
    ·exact HTG.out.trans (congrArg (fun s=>Ps.run s [] (rowOf cs) top _) (stk_snoc hs ⟨⟨k,s,t2,u,n,p,pl,pm⟩,.slice la ll lc,.slice ma ml mc,els⟩).symm)
    ·show 4*lenG w7 g+1<_
     rw[HP7.out.lenG];exact HMU.out
def PR (B:Nat) (w:World) (sv tv:Value) (row:List Ps.St) (top:List Nat):Prop:=∃ cs:List SA,rowOf cs=row ∧
 (∃ ao cap,sv = .slice ao cs.length cap ∧ ∀ (k:Nat) c,cs[k]?=some c → ∃ g,ao=some ⟨g,0,none⟩∧B≤g ∧ ∀ i u,(stCells c)[i]?=some u→w.cell? ⟨g,k*8+i,none⟩=some u) ∧
 (∀ c ∈ cs,(Rd w c.l (c.st.l.map nv)∧Rd w c.m (c.st.m.map nv))∧(c.l.oneCell'=true∧c.m.oneCell'=true) ∧ ∀ k,c.l.ownBlock=some k∨c.m.ownBlock=some k→B≤k)∧Rd w tv (top.map nv) ∧ ∀ k,tv.ownBlock=some k→B≤k
section
variable {B:Nat} {w w':World} {sv tv:Value} {row:List Ps.St} {top:List Nat}
theorem Rd.blocks {v:Value} {vs:List Value} (h:Rd w v vs) (hb:∀ k,v.ownBlock=some k→k<w.heap.size→w'.heap[k]?=w.heap[k]?):Rd w' v vs:=by
 rcases h with h|⟨b,o,cap,e,g1,g2,g3⟩
 ·exact .inl h
 ·refine .inr ⟨b,o,cap,e,g1,g2,fun j u hj=>?_⟩;have hc:=g3 j u hj;exact(World.cell?_of_block (a:=⟨b,o+j,none⟩) (hb b (by rw[e];rfl) (World.block_lt_of_cell? w _ hc))).trans hc
theorem PR.past (h:PR B w sv tv row top) (hb:∀ k,B≤k→w'.heap[k]?=w.heap[k]?):PR B w' sv tv row top:=by
 obtain⟨cs,h1,⟨ao,cap,h2,h3⟩,h4,h5,h6⟩:=h;refine⟨cs,h1,⟨ao,cap,h2,fun k c hk=>?_⟩,fun c hc=>⟨⟨(h4 c hc).1.1.blocks fun k hk _=>hb k ((h4 c hc).2.2 k (.inl hk)),(h4 c hc).1.2.blocks fun k hk _=>hb k ((h4 c hc).2.2 k (.inr hk))⟩,(h4 c hc).2⟩,h5.blocks fun k hk _=>hb k (h6 k hk),h6⟩;obtain⟨g,e,hg,hc⟩:=h3 k c hk;exact⟨g,e,hg,fun i u hu=>(World.cell?_of_block (a:=⟨g,k*8+i,none⟩) (hb g hg)).trans (hc i u hu)⟩
theorem PR.below (h:PR B w sv tv row top) (hb:Below w.heap.size w w'):PR B w' sv tv row top:=by
 obtain⟨cs,h1,⟨ao,cap,h2,h3⟩,h4,h5,h6⟩:=h;refine⟨cs,h1,⟨ao,cap,h2,fun k c hk=>?_⟩,fun c hc=>⟨⟨(h4 c hc).1.1.below hb,(h4 c hc).1.2.below hb⟩,(h4 c hc).2⟩,h5.below hb,h6⟩;obtain⟨g,e,hg,hc⟩:=h3 k c hk;exact⟨g,e,hg,fun i u hu=>(hb.cell (World.block_lt_of_cell? w _ (hc i u hu))).trans (hc i u hu)⟩
theorem PR.lower {C:Nat} (h:PR B w sv tv row top) (hC:C≤B):PR C w sv tv row top:=by
 obtain⟨cs,h1,⟨ao,cap,h2,h3⟩,h4,h5,h6⟩:=h;refine⟨cs,h1,⟨ao,cap,h2,fun k c hk=>?_⟩,fun c hc=>⟨(h4 c hc).1,(h4 c hc).2.1,fun k hk=>Nat.le_trans hC ((h4 c hc).2.2 k hk)⟩,h5,fun k hk=>Nat.le_trans hC (h6 k hk)⟩;obtain⟨g,e,hg,hc⟩:=h3 k c hk;exact⟨g,e,Nat.le_trans hC hg,hc⟩
end
theorem PX.read {w:World} {B g b q md a f:Nat} {lv ov sv tv:Value} {ts:List Lx.Tok} {cs:List SA} {top:List Nat} (h:PX w B g b q lv ov sv tv md a f ts [] [] cs top):PR B w sv tv (rowOf cs) top:=by
 refine⟨cs,rfl,?_,fun c hc=>⟨⟨(h.cl c hc).1.rd,(h.cl c hc).2.rd⟩,⟨(h.cl c hc).1.one,(h.cl c hc).2.one⟩,fun k hk=>hk.elim (fun e=>((h.cl c hc).1.ap k e).2.1) (fun e=>((h.cl c hc).2.ap k e).2.1)⟩,IR.rd h.tp,fun k hk=>(IR.lt h.tp k hk).1⟩;have hcell:=fun (g' cap:Nat) (he:sv = .slice (some ⟨g',0,none⟩) cs.length cap) (k:Nat) (t:SA) (ht:cs[k]?=some t) (i:Nat) (u:Value) (hu:(stCells t)[i]?=some u)=>own_cellN (he ▸ h.os) (stRow_at cs k t ht i u hu)
 rcases h.os.2 with ⟨e,hn⟩|⟨g',cap,cur,e,hb,hg,_⟩
 ·obtain rfl:cs=[]:=List.length_eq_zero_iff.1 hn;exact⟨_,_,e,fun k t ht=>by cases ht⟩
 ·exact⟨_,cap,e,fun k t ht=>⟨g',rfl,hb,fun i u hu=>hcell g' cap e k t ht i u hu⟩⟩
def PAllP (r:Ps.Res (Nat × List Ps.St × List Nat)) (w:World) (e:Ending) (w':World):Prop:=Below w.heap.size w w'∧match r with
 | .error (p,c)=>e = .returned (.tuple #[.agg #[.int .i64 0,.slice none 0 0,.slice none 0 0],.int .i64 (p:Int),.int .i64 (c:Int)])∧c≠0
 | .ok (md,row,top)=>∃ sv tv,e = .returned (.tuple #[.agg #[.int .i64 (md:Int),sv,tv],.int .i64 0,.int .i64 0])∧PR w.heap.size w' sv tv row top
def H3 (w:World) (q:Nat) (vs:List Value):Prop:=w.heap[q]?=some (.cells vs.toArray 32 (0,0))
theorem H3.set {w:World} {q:Nat} {vs us:List Value} (h:H3 w q us) (hl:us.length=vs.length):H3 (setN w q 0 vs) q vs:=setN_heap vs [] us w h hl
theorem H3.cell {w:World} {q:Nat} {vs:List Value} (h:H3 w q vs) {i:Nat} {u:Value} (hu:vs[i]?=some u):w.cell? ⟨q,i,none⟩=some u:=by
 unfold H3 at h;rw[yC h];simpa using hu
theorem H3.fr {w:World} {q:Nat} {vs:List Value} (h:H3 w q vs) (i:Nat):w.frozen? ⟨q,i,none⟩=false:=by unfold H3 at h;simp[World.frozen?,h]
theorem H3.lt {w:World} {q:Nat} {vs:List Value} (h:H3 w q vs):q<w.heap.size:=(yD h).1
theorem H3.below {w w':World} {B q:Nat} {vs:List Value} (h:H3 w q vs) (hb:Below B w w') (hq:q<B):H3 w' q vs:=(hb.block _ hq).trans h
theorem below_setN {B:Nat} {a:World} (q:Nat):∀ (vs:List Value) (i:Nat) {w:World},B≤q→Below B a w→Below B a (setN w q i vs)
 | [],_,_,_,h=>h
 | v :: vs,i,_,hq,h=>below_setN q vs (i+1) hq (h.setCell (p:=⟨q,i,none⟩) hq v)
theorem pall_any (l:List UInt8) (hl:l.length≤1048576) (w:World) (hS:SHP w) :
  Calls Tryz.prog 23 #[.string ⟨l.toArray⟩] w fun e w'=>PAllP (Ps.all l) w e w':=by
 have hg0:0<w.heap.size:=World.block_lt_of_cell? w _ (hS 0 (by decide));obtain⟨T,hT⟩:∃ T,w.alloc (.cells #[.int .i64 0,.slice none 0 0,.slice none 0 0] 32)=T:=⟨_,rfl⟩;have hbT:Below w.heap.size w T:=(by rw[←hT];exact yA);have hz:H3 T w.heap.size [.int .i64 0,.slice none 0 0,.slice none 0 0]:=(by rw[←hT];exact heap_alloc_new _ _);have hTs:T.heap.size=w.heap.size+1:=(by rw[←hT];simp);have LA:=all_any l hl T
 have hall:=Ps.all_of (l:=l);have HZ:=yH hz;have HBT:=yH hbT;have HSH:=yH (hS.below hbT);obtain⟨B,hB⟩:∃ B,T.heap.size=B:=⟨_,rfl⟩;clear hz hbT hS hl;go_enter Tryz.func23,Tryz.ntmps23;go_wp2_with fail
 refine LA.mono ?_;rintro e w2 hP;obtain⟨hb2,hP⟩:=hP;rw[hB] at hb2 hP;have hs2:=hb2.size;have hz2:=HZ.out.below hb2 (by omega);clear LA;cases hx:Lx.all l with
 | error x =>
  obtain⟨p,f⟩:=x;rw[hx] at hP hall;obtain rfl:=hP;obtain⟨hf0,_⟩:=Lx.all_err hx;have f1:((f:Int) != 0)=true:=(by rw[bne_iff_ne];omega);have f2:((f:Int)==0)=false:=yB;have f3:((f:Int)=0)=False:=yF;have HA:=yH (⟨hall,hf0⟩:_∧_);have zc0:=hz2.cell (i:=0) rfl;have zc1:=hz2.cell (i:=1) rfl;have zc2:=hz2.cell (i:=2) rfl;have zf0:=hz2.fr 0;have zf1:=hz2.fr 1;have zf2:=hz2.fr 2
  have HSET:=yH (hz2.set (vs:=[.int .i64 0,.slice none 0 0,.slice none 0 0]) rfl);have HBL:=yH (below_setN w.heap.size [.int .i64 0,.slice none 0 0,.slice none 0 0] 0 yR (HBT.out.trans (hb2.mono (by omega))));clear hall hf0 hz2 hx;go_wp2;change bodyPost _ _ _ _ _ (setN w2 w.heap.size 0 [.int .i64 0,.slice none 0 0,.slice none 0 0]);have hset:=HSET.out;have hbl:=HBL.out
  generalize setN w2 w.heap.size 0 [.int .i64 0,.slice none 0 0,.slice none 0 0]=W at hset hbl ⊢;have r0:=hset.cell (i:=0) rfl;have r1:=hset.cell (i:=1) rfl;have r2:=hset.cell (i:=2) rfl;refine bodyPost_ret (v:=.tuple #[.agg #[.int .i64 0,.slice none 0 0,.slice none 0 0],.int .i64 (p:Int),.int .i64 (f:Int)]) (by simp[results,Tryz.results23,go_sem,r0,r1,r2]) rfl ?_;unfold PAllP;rw[HA.out.1];exact⟨hbl,rfl,HA.out.2⟩
 | ok ts =>
  rw[hx] at hP hall;obtain⟨v,rfl,ho⟩:=hP;have hends:=Ps.all_ends hx;have hfew:=Ps.all_few hx;obtain⟨b,hb,hblt,hvb,htr⟩:=TR.of_own ho (by obtain⟨t,r,e,_⟩:=hends.ne;rw[e];simp);obtain⟨o,cap,rfl,hcp,hcp2,hcl⟩:=id htr;obtain⟨w3,hw3⟩:∃ w3,w2.alloc (.cells #[.slice (some ⟨b,o,none⟩) ts.length cap,.slice none 0 0,.int .i64 0,.slice none 0 0,.slice none 0 0,.int .i64 0,.int .i64 0] 75)=w3:=⟨_,rfl⟩
  have hb3:Below w2.heap.size w2 w3:=(by rw[←hw3];exact yA);have hr3:RB w3 w2.heap.size (.slice (some ⟨b,o,none⟩) ts.length cap) (.slice none 0 0) 0 (.slice none 0 0) (.slice none 0 0) 0 0:=(by rw[←hw3];exact heap_alloc_new _ _);have htr3:=htr.below hb3;obtain⟨g,hg⟩:∃ g,w2.heap.size=g:=⟨_,rfl⟩;rw[hg] at hr3;have hs3:w3.heap.size=g+1:=by rw[←hw3];simp[hg]
  obtain⟨w4,hw4⟩:∃ w4,w3.alloc (.cells #[.string ⟨#[109,111,100,101]⟩,.string ⟨#[109]⟩,.string ⟨#[59]⟩] 9)=w4:=⟨_,rfl⟩;have hb4:Below w3.heap.size w3 w4:=(by rw[←hw4];exact yA);have hn4:w4.heap[w3.heap.size]?=some (.cells #[.string ⟨#[109,111,100,101]⟩,.string ⟨#[109]⟩,.string ⟨#[59]⟩] 9 (0,0)):=by rw[←hw4];exact heap_alloc_new _ _
  have hrd:Rd w4 (.slice (some ⟨w3.heap.size,0,none⟩) 3 3) ([Ps.wMode,[109],[59]].map sv):=by
   refine .inr ⟨_,0,3,rfl,yR,by unfold maxLen;omega,fun j v hj=>?_⟩;rw[Nat.zero_add,yC hn4,←hj]
   match j with
   | 0=>rfl
   | 1=>rfl
   | 2=>rfl
   | j+3=>simp
  have hbg:b≠g:=(by omega);have hBw:Below w.heap.size w w4:=((HBT.out.trans (hb2.mono (by omega))).trans (hb3.mono (by omega))).trans (hb4.mono (by omega));have hBB:Below B T w4:=(hb2.trans (hb3.mono (by omega))).trans (hb4.mono (by omega))
  have TK:=take_any [Ps.wMode,[109],[59]] ts b g 0 0 0 0 _ _ _ _ (.slice (some ⟨w3.heap.size,0,none⟩) 3 3) w4 (hr3.below hb4) (htr3.below hb4) hbg hends ⟨_,_,rfl⟩ (by omega) hrd (by simp[Ps.wMode]) (by simp) (by simp) (by simp[Value.ownBlock];omega) (by omega);have hts:=Ps.take_script (d:=0) hends;have HSB:=yH hBB;have HSW:=yH hBw;have HEN:=yH hends;clear hcl hcp hcp2 htr htr3 hb3 hb4 hr3 hrd hn4 ho hx hBB hBw hends;have HG:=yH hg
  have HS3:=yH hs3;have hgB:B≤g:=(by omega);have HW3:=yH hw3;clear hg hs3 hw3;go_upto_region 5 with fail
  rw[HW3.out,HG.out];go_wp2_with fail
  refine TK.mono ?_;rintro e w5 ⟨ht5,hQ5⟩;clear TK;have hBg:B≤g:=hgB;have hB5:Below B T w5:=HSB.out.trans (ht5.below (fun k hk=>by rw[show k=g from hk];exact hBg) (by have:=HSB.out.size;omega));cases htk:Ps.takeW 0 [Ps.wMode,[109],[59]] ts with
  | error x =>
   obtain⟨p,c⟩:=x;rw[htk] at hQ5;obtain⟨rfl,hr5⟩:=hQ5;obtain⟨hh,hc⟩:=hts.1 _ htk;dsimp only at hc;subst hc;rw[Ps.prog_run,hh] at hall;have en:=fun wx=>neq_nil none 0 0 wx;have HA:=yH (⟨hall,by decide⟩:_∧(20:Nat)≠0);have HBE:=yH hB5;have hr5:RB w5 g (.slice (some ⟨b,o,none⟩) ts.length cap) (.slice none 0 0) 0 (.slice none 0 0) (.slice none 0 0) p 20:=hr5;have HR5:=yH hr5;clear hall hr5 ht5 htk hh hts hB5;have c6:=HR5.out.c6
   have c5:=HR5.out.c5;have hzE:=HZ.out.below HBE.out (by omega);have zc0:=hzE.cell (i:=0) rfl;have zc1:=hzE.cell (i:=1) rfl;have zc2:=hzE.cell (i:=2) rfl;have zf0:=hzE.fr 0;have zf1:=hzE.fr 1;have zf2:=hzE.fr 2;have HSET:=yH (hzE.set (vs:=[.int .i64 0,.slice none 0 0,.slice none 0 0]) rfl);have HBL:=yH (below_setN w.heap.size [.int .i64 0,.slice none 0 0,.slice none 0 0] 0 yR (HBT.out.trans (HBE.out.mono (by omega))))
   have hgz:w.heap.size≠g:=(by omega);have hs5E:(setN w5 w.heap.size 0 [.int .i64 0,.slice none 0 0,.slice none 0 0]).cell? ⟨g,5,none⟩=some (.int .i64 (p:Int))∧(setN w5 w.heap.size 0 [.int .i64 0,.slice none 0 0,.slice none 0 0]).cell? ⟨g,6,none⟩=some (.int .i64 20):=⟨(World.cell?_of_block (a:=⟨g,5,none⟩) (setN_other (fun e=>hgz e.symm) _ _)).trans c5,(World.cell?_of_block (a:=⟨g,6,none⟩) (setN_other (fun e=>hgz e.symm) _ _)).trans c6⟩
   have hs0:w5.drew.cell? ⟨g,5,none⟩=some (.int .i64 (p:Int))∧w5.drew.cell? ⟨g,6,none⟩=some (.int .i64 20):=⟨c5,c6⟩;clear hzE;go_wp2;refine wp_region_held_drew (S:=fun w'=>w'.cell? ⟨g,5,none⟩=some (.int .i64 (p:Int))∧w'.cell? ⟨g,6,none⟩=some (.int .i64 20)) (by kernel_rfl) hs0 (fun hH=>?_);have zd0:w5.drew.cell? ⟨w.heap.size,0,none⟩=some _:=zc0;have zd1:w5.drew.cell? ⟨w.heap.size,1,none⟩=some _:=zc1
   have zd2:w5.drew.cell? ⟨w.heap.size,2,none⟩=some _:=zc2;have ze0:w5.drew.frozen? ⟨w.heap.size,0,none⟩=false:=zf0;have ze1:w5.drew.frozen? ⟨w.heap.size,1,none⟩=false:=zf1;have ze2:w5.drew.frozen? ⟨w.heap.size,2,none⟩=false:=zf2
   have HSETD:Hid (H3 (setN w5.drew w.heap.size 0 [.int .i64 0,.slice none 0 0,.slice none 0 0]) w.heap.size [.int .i64 0,.slice none 0 0,.slice none 0 0]):=yH (H3.set (us:=[.int .i64 0,.slice none 0 0,.slice none 0 0]) (HZ.out.below (show Below B T w5.drew from ⟨HBE.out.os,HBE.out.tape,HBE.out.output,HBE.out.size,HBE.out.block⟩) (by omega)) rfl)
   have HBLD:=yH (below_setN w.heap.size [.int .i64 0,.slice none 0 0,.slice none 0 0] 0 yR (show Below w.heap.size w w5.drew from (HBT.out.trans (Below.mono (show Below B T w5.drew from ⟨HBE.out.os,HBE.out.tape,HBE.out.output,HBE.out.size,HBE.out.block⟩) (by omega)))))
   have hs5D:(setN w5.drew w.heap.size 0 [.int .i64 0,.slice none 0 0,.slice none 0 0]).cell? ⟨g,5,none⟩=some (.int .i64 (p:Int))∧(setN w5.drew w.heap.size 0 [.int .i64 0,.slice none 0 0,.slice none 0 0]).cell? ⟨g,6,none⟩=some (.int .i64 20):=⟨(World.cell?_of_block (a:=⟨g,5,none⟩) (setN_other (fun e=>hgz e.symm) _ _)).trans hs0.1,(World.cell?_of_block (a:=⟨g,6,none⟩) (setN_other (fun e=>hgz e.symm) _ _)).trans hs0.2⟩;generalize w5.drew=wd at *
   refine heldT (i:=0) ?_;refine heldT (i:=1) ?_;refine heldT (i:=2) ?_;refine heldT (i:=3) ?_;refine heldT (i:=4) ?_;refine heldNext (i:=5) rfl (by kernel_rfl) (by rfl) (fun K hK=>?_);go_simp;refine hK.out _ (setN wd w.heap.size 0 [.int .i64 0,.slice none 0 0,.slice none 0 0]) hs5D ?_;clear hK K;(try simp only[Act.put,zLa,zLb,zLc]);refine heldT (i:=6) ?_;refine heldT (i:=7) ?_;refine wpAnyH_done (by kernel_rfl) ?_ _
   skip
   simp only[Exit.then];go_wp2;have hset:=HSETD.out;have hbl:=HBLD.out;generalize setN wd w.heap.size 0 [.int .i64 0,.slice none 0 0,.slice none 0 0]=W at hset hbl ⊢;have r0:=hset.cell (i:=0) rfl;have r1:=hset.cell (i:=1) rfl;have r2:=hset.cell (i:=2) rfl;refine bodyPost_ret (v:=.tuple #[.agg #[.int .i64 0,.slice none 0 0,.slice none 0 0],.int .i64 (p:Int),.int .i64 20]) (by simp[results,Tryz.results23,go_sem,r0,r1,r2]) rfl ?_;unfold PAllP;rw[HA.out.1]
   exact⟨hbl,rfl,HA.out.2⟩
  | ok r =>
   rw[htk] at hQ5;obtain⟨rv,lv5,rfl,htr5,hr5,htl5⟩:=hQ5;obtain⟨t0,t1,t2,hte,hh,her⟩:=hts.2 _ htk;rw[Ps.prog_run,hh] at hall;dsimp only at hall;obtain⟨o5,cap5,rfl,_,_,hc5⟩:=htr5;have hl3:(ts.take [Ps.wMode,[109],[59]].length).length=3:=(by rw[hte];rfl);obtain⟨x0,x1,x2⟩:=hc5 1 t1 (by rw[hte];rfl);rw[hl3,Nat.one_mul] at *;have en:=fun wx=>neq_nil (some ⟨b,o5,none⟩) 3 cap5 wx;have PM:=yH (fun wx=>pmode_any t1.text wx)
   obtain⟨md,hmd⟩:∃ md,Ps.mode t1.text=md:=⟨_,rfl⟩;rw[hmd] at hall PM;obtain⟨w6,hw6⟩:∃ w6,w5.setCell ⟨g,2,none⟩ (.int .i64 (md:Int))=w6:=⟨_,rfl⟩;have c2:=hr5.c2;have cf2:=hr5.fr 2;have hr6:RB w6 g lv5 (.slice none 0 0) md (.slice none 0 0) (.slice none 0 0) 0 0:=(by rw[←hw6];exact hr5.set2 md);have ht6:Trn (only g) w5 w6:=(by rw[←hw6];exact Trn.setCell (F:=only g) (Trn.refl _ _) (show g=g from rfl) _);have htr6:=htl5.trn ht6 hbg
   have hB6:Below B T w6:=hB5.trans (ht6.below (fun k hk=>by rw[show k=g from hk];exact hBg) (by have:=hB5.size;omega));have hS6:SHP w6:=fun i hi=>(hB6.cell (p:=⟨0,i,none⟩) (show 0<B by omega)).trans (HSH.out i hi);have SM:=statements_any (B:=B) w6 hr6 htr6 her hbg hBg hb hS6 (by omega) (by have:=congrArg List.length hte;simp only[List.length_cons] at this;omega);have HB6:=yH hB6;have HALL:=yH hall
   clear hall hc5 hl3 hr5 hr6 ht6 htr6 hB6 hS6 htl5 hte hh her hts htk hmd ht5 x0 x2 hB5;go_wp2_with fail
   refine(PM.out _).mono ?_;rintro e w7 ⟨rfl,he7⟩;obtain rfl:=he7;go_wp2_with fail
   refine SM.mono ?_;rintro e w8 ⟨rfl,hb8,hq8⟩;have HBE:=yH (HB6.out.trans hb8);clear SM hb8;cases hrun:Ps.run [] [] [] [] r with
   | error x =>
    obtain⟨p,c⟩:=x;rw[hrun] at hq8;obtain⟨lvE,ovE,svE,tvE,hrE,hcE⟩:=hq8;have hall:=HALL.out;rw[hrun] at hall;rcases hcE with rfl|rfl
    ·have HA:=yH (⟨hall,by decide⟩:_∧(20:Nat)≠0);have HRE:Hid (RB w8 g lvE ovE md svE tvE p 20):=yH hrE;clear hall hrE hrun;have c6:=HRE.out.c6;have c5:=HRE.out.c5;have hzE:=HZ.out.below HBE.out (by omega);have zc0:=hzE.cell (i:=0) rfl;have zc1:=hzE.cell (i:=1) rfl;have zc2:=hzE.cell (i:=2) rfl;have zf0:=hzE.fr 0;have zf1:=hzE.fr 1;have zf2:=hzE.fr 2;have HSET:=yH (hzE.set (vs:=[.int .i64 0,.slice none 0 0,.slice none 0 0]) rfl)
     have HBL:=yH (below_setN w.heap.size [.int .i64 0,.slice none 0 0,.slice none 0 0] 0 yR (HBT.out.trans (HBE.out.mono (by omega))));have hgz:w.heap.size≠g:=by omega
     have hs5E:(setN w8 w.heap.size 0 [.int .i64 0,.slice none 0 0,.slice none 0 0]).cell? ⟨g,5,none⟩=some (.int .i64 (p:Int))∧(setN w8 w.heap.size 0 [.int .i64 0,.slice none 0 0,.slice none 0 0]).cell? ⟨g,6,none⟩=some (.int .i64 20):=⟨(World.cell?_of_block (a:=⟨g,5,none⟩) (setN_other (fun e=>hgz e.symm) _ _)).trans c5,(World.cell?_of_block (a:=⟨g,6,none⟩) (setN_other (fun e=>hgz e.symm) _ _)).trans c6⟩
     have hs0:w8.drew.cell? ⟨g,5,none⟩=some (.int .i64 (p:Int))∧w8.drew.cell? ⟨g,6,none⟩=some (.int .i64 20):=⟨c5,c6⟩;clear hzE;go_wp2;refine wp_region_held_drew (S:=fun w'=>w'.cell? ⟨g,5,none⟩=some (.int .i64 (p:Int))∧w'.cell? ⟨g,6,none⟩=some (.int .i64 20)) (by kernel_rfl) hs0 (fun hH=>?_);have zd0:w8.drew.cell? ⟨w.heap.size,0,none⟩=some _:=zc0;have zd1:w8.drew.cell? ⟨w.heap.size,1,none⟩=some _:=zc1
     have zd2:w8.drew.cell? ⟨w.heap.size,2,none⟩=some _:=zc2;have ze0:w8.drew.frozen? ⟨w.heap.size,0,none⟩=false:=zf0;have ze1:w8.drew.frozen? ⟨w.heap.size,1,none⟩=false:=zf1;have ze2:w8.drew.frozen? ⟨w.heap.size,2,none⟩=false:=zf2
     have HSETD:Hid (H3 (setN w8.drew w.heap.size 0 [.int .i64 0,.slice none 0 0,.slice none 0 0]) w.heap.size [.int .i64 0,.slice none 0 0,.slice none 0 0]):=yH (H3.set (us:=[.int .i64 0,.slice none 0 0,.slice none 0 0]) (HZ.out.below (show Below B T w8.drew from ⟨HBE.out.os,HBE.out.tape,HBE.out.output,HBE.out.size,HBE.out.block⟩) (by omega)) rfl)
     have HBLD:=yH (below_setN w.heap.size [.int .i64 0,.slice none 0 0,.slice none 0 0] 0 yR (show Below w.heap.size w w8.drew from (HBT.out.trans (Below.mono (show Below B T w8.drew from ⟨HBE.out.os,HBE.out.tape,HBE.out.output,HBE.out.size,HBE.out.block⟩) (by omega)))))
     have hs5D:(setN w8.drew w.heap.size 0 [.int .i64 0,.slice none 0 0,.slice none 0 0]).cell? ⟨g,5,none⟩=some (.int .i64 (p:Int))∧(setN w8.drew w.heap.size 0 [.int .i64 0,.slice none 0 0,.slice none 0 0]).cell? ⟨g,6,none⟩=some (.int .i64 20):=⟨(World.cell?_of_block (a:=⟨g,5,none⟩) (setN_other (fun e=>hgz e.symm) _ _)).trans hs0.1,(World.cell?_of_block (a:=⟨g,6,none⟩) (setN_other (fun e=>hgz e.symm) _ _)).trans hs0.2⟩;generalize w8.drew=wd at *
     refine heldT (i:=0) ?_;refine heldT (i:=1) ?_;refine heldT (i:=2) ?_;refine heldT (i:=3) ?_;refine heldT (i:=4) ?_;refine heldNext (i:=5) rfl (by kernel_rfl) (by rfl) (fun K hK=>?_);go_simp;refine hK.out _ (setN wd w.heap.size 0 [.int .i64 0,.slice none 0 0,.slice none 0 0]) hs5D ?_;clear hK K;(try simp only[Act.put,zLa,zLb,zLc]);refine heldT (i:=6) ?_;refine heldT (i:=7) ?_;refine wpAnyH_done (by kernel_rfl) ?_ _
     skip
     simp only[Exit.then];go_wp2;have hset:=HSETD.out;have hbl:=HBLD.out;generalize setN wd w.heap.size 0 [.int .i64 0,.slice none 0 0,.slice none 0 0]=W at hset hbl ⊢;have r0:=hset.cell (i:=0) rfl;have r1:=hset.cell (i:=1) rfl;have r2:=hset.cell (i:=2) rfl;refine bodyPost_ret (v:=.tuple #[.agg #[.int .i64 0,.slice none 0 0,.slice none 0 0],.int .i64 (p:Int),.int .i64 20]) (by simp[results,Tryz.results23,go_sem,r0,r1,r2]) rfl ?_;unfold PAllP;rw[HA.out.1]
     exact⟨hbl,rfl,HA.out.2⟩
    ·have HA:=yH (⟨hall,by decide⟩:_∧(21:Nat)≠0);have HRE:Hid (RB w8 g lvE ovE md svE tvE p 21):=yH hrE;clear hall hrE hrun;have c6:=HRE.out.c6;have c5:=HRE.out.c5;have hzE:=HZ.out.below HBE.out (by omega);have zc0:=hzE.cell (i:=0) rfl;have zc1:=hzE.cell (i:=1) rfl;have zc2:=hzE.cell (i:=2) rfl;have zf0:=hzE.fr 0;have zf1:=hzE.fr 1;have zf2:=hzE.fr 2;have HSET:=yH (hzE.set (vs:=[.int .i64 0,.slice none 0 0,.slice none 0 0]) rfl)
     have HBL:=yH (below_setN w.heap.size [.int .i64 0,.slice none 0 0,.slice none 0 0] 0 yR (HBT.out.trans (HBE.out.mono (by omega))));have hgz:w.heap.size≠g:=by omega
     have hs5E:(setN w8 w.heap.size 0 [.int .i64 0,.slice none 0 0,.slice none 0 0]).cell? ⟨g,5,none⟩=some (.int .i64 (p:Int))∧(setN w8 w.heap.size 0 [.int .i64 0,.slice none 0 0,.slice none 0 0]).cell? ⟨g,6,none⟩=some (.int .i64 21):=⟨(World.cell?_of_block (a:=⟨g,5,none⟩) (setN_other (fun e=>hgz e.symm) _ _)).trans c5,(World.cell?_of_block (a:=⟨g,6,none⟩) (setN_other (fun e=>hgz e.symm) _ _)).trans c6⟩
     have hs0:w8.drew.cell? ⟨g,5,none⟩=some (.int .i64 (p:Int))∧w8.drew.cell? ⟨g,6,none⟩=some (.int .i64 21):=⟨c5,c6⟩;clear hzE;go_wp2;refine wp_region_held_drew (S:=fun w'=>w'.cell? ⟨g,5,none⟩=some (.int .i64 (p:Int))∧w'.cell? ⟨g,6,none⟩=some (.int .i64 21)) (by kernel_rfl) hs0 (fun hH=>?_);have zd0:w8.drew.cell? ⟨w.heap.size,0,none⟩=some _:=zc0;have zd1:w8.drew.cell? ⟨w.heap.size,1,none⟩=some _:=zc1
     have zd2:w8.drew.cell? ⟨w.heap.size,2,none⟩=some _:=zc2;have ze0:w8.drew.frozen? ⟨w.heap.size,0,none⟩=false:=zf0;have ze1:w8.drew.frozen? ⟨w.heap.size,1,none⟩=false:=zf1;have ze2:w8.drew.frozen? ⟨w.heap.size,2,none⟩=false:=zf2
     have HSETD:Hid (H3 (setN w8.drew w.heap.size 0 [.int .i64 0,.slice none 0 0,.slice none 0 0]) w.heap.size [.int .i64 0,.slice none 0 0,.slice none 0 0]):=yH (H3.set (us:=[.int .i64 0,.slice none 0 0,.slice none 0 0]) (HZ.out.below (show Below B T w8.drew from ⟨HBE.out.os,HBE.out.tape,HBE.out.output,HBE.out.size,HBE.out.block⟩) (by omega)) rfl)
     have HBLD:=yH (below_setN w.heap.size [.int .i64 0,.slice none 0 0,.slice none 0 0] 0 yR (show Below w.heap.size w w8.drew from (HBT.out.trans (Below.mono (show Below B T w8.drew from ⟨HBE.out.os,HBE.out.tape,HBE.out.output,HBE.out.size,HBE.out.block⟩) (by omega)))))
     have hs5D:(setN w8.drew w.heap.size 0 [.int .i64 0,.slice none 0 0,.slice none 0 0]).cell? ⟨g,5,none⟩=some (.int .i64 (p:Int))∧(setN w8.drew w.heap.size 0 [.int .i64 0,.slice none 0 0,.slice none 0 0]).cell? ⟨g,6,none⟩=some (.int .i64 21):=⟨(World.cell?_of_block (a:=⟨g,5,none⟩) (setN_other (fun e=>hgz e.symm) _ _)).trans hs0.1,(World.cell?_of_block (a:=⟨g,6,none⟩) (setN_other (fun e=>hgz e.symm) _ _)).trans hs0.2⟩;generalize w8.drew=wd at *
     refine heldT (i:=0) ?_;refine heldT (i:=1) ?_;refine heldT (i:=2) ?_;refine heldT (i:=3) ?_;refine heldT (i:=4) ?_;refine heldNext (i:=5) rfl (by kernel_rfl) (by rfl) (fun K hK=>?_);go_simp;refine hK.out _ (setN wd w.heap.size 0 [.int .i64 0,.slice none 0 0,.slice none 0 0]) hs5D ?_;clear hK K;(try simp only[Act.put,zLa,zLb,zLc]);refine heldT (i:=6) ?_;refine heldT (i:=7) ?_;refine wpAnyH_done (by kernel_rfl) ?_ _
     skip
     simp only[Exit.then];go_wp2;have hset:=HSETD.out;have hbl:=HBLD.out;generalize setN wd w.heap.size 0 [.int .i64 0,.slice none 0 0,.slice none 0 0]=W at hset hbl ⊢;have r0:=hset.cell (i:=0) rfl;have r1:=hset.cell (i:=1) rfl;have r2:=hset.cell (i:=2) rfl;refine bodyPost_ret (v:=.tuple #[.agg #[.int .i64 0,.slice none 0 0,.slice none 0 0],.int .i64 (p:Int),.int .i64 21]) (by simp[results,Tryz.results23,go_sem,r0,r1,r2]) rfl ?_;unfold PAllP;rw[HA.out.1]
     exact⟨hbl,rfl,HA.out.2⟩
   | ok x =>
    obtain⟨row,top⟩:=x;rw[hrun] at hq8;obtain⟨b8,q8,lv8,ov8,sv8,tv8,ts8,cs8,hP8,hrow⟩:=hq8;obtain⟨so,sc,hsv⟩:=own_form9 hP8.os;obtain⟨tvo,tvc,htv⟩:=IR.len hP8.tp;subst hsv htv;have c6:w8.cell? ⟨g,6,none⟩=some (.int .i64 0):=hP8.rb.c6;have c2:=hP8.rb.c2;have c3:=hP8.rb.c3;have c4:=hP8.rb.c4;have hrd8:=hP8.read;rw[hrow] at hrd8;have hlen:row.length=cs8.length:=(by rw[←hrow];unfold rowOf;rw[List.length_map]);have hall:=HALL.out
    rw[hrun] at hall;dsimp only at hall;rw[hlen] at hall;generalize cs8.length=N8 at *;generalize top.length=M8 at *;have hzE:=HZ.out.below HBE.out (by omega);have zc0:=hzE.cell (i:=0) rfl;have zc1:=hzE.cell (i:=1) rfl;have zc2:=hzE.cell (i:=2) rfl;have zf0:=hzE.fr 0;have zf1:=hzE.fr 1;have zf2:=hzE.fr 2;by_cases hbig:100<N8
    ·have b1:(100:Int)<(N8:Int):=(by omega);rw[if_pos hbig] at hall;have HA:=yH hall;have HSET:=yH (hzE.set (vs:=[.int .i64 0,.slice none 0 0,.slice none 0 0]) rfl);have HBL:=yH (below_setN w.heap.size [.int .i64 0,.slice none 0 0,.slice none 0 0] 0 yR (HBT.out.trans (HBE.out.mono (by omega))));clear hzE hall hrd8 hP8 hrow hlen hbig hrun;go_wp2;change bodyPost _ _ _ _ _ (setN w8 w.heap.size 0 [.int .i64 0,.slice none 0 0,.slice none 0 0])
     have hset:=HSET.out;have hbl:=HBL.out;generalize setN w8 w.heap.size 0 [.int .i64 0,.slice none 0 0,.slice none 0 0]=W at hset hbl ⊢;have r0:=hset.cell (i:=0) rfl;have r1:=hset.cell (i:=1) rfl;have r2:=hset.cell (i:=2) rfl;refine bodyPost_ret (v:=.tuple #[.agg #[.int .i64 0,.slice none 0 0,.slice none 0 0],.int .i64 0,.int .i64 4]) (by simp[results,Tryz.results23,go_sem,r0,r1,r2]) rfl ?_;unfold PAllP;rw[HA.out];exact⟨hbl,rfl,by decide⟩
    ·have b1:((100:Int)<(N8:Int))=False:=yF;rw[if_neg hbig] at hall;have HA:=yH hall;have hrd9:PR B (setN w8 w.heap.size 0 [.int .i64 (md:Int),.slice so N8 sc,.slice tvo M8 tvc]) (.slice so N8 sc) (.slice tvo M8 tvc) row top:=hrd8.past (fun k hk=>setN_other (show k≠w.heap.size by omega) _ _);have HRD:=yH hrd9;have HSET:=yH (hzE.set (vs:=[.int .i64 (md:Int),.slice so N8 sc,.slice tvo M8 tvc]) rfl)
     have HBL:=yH (below_setN w.heap.size [.int .i64 (md:Int),.slice so N8 sc,.slice tvo M8 tvc] 0 yR (HBT.out.trans (HBE.out.mono (by omega))));clear hzE hall hrd8 hrd9 hP8 hrow hlen hbig hrun;go_wp2;change bodyPost _ _ _ _ _ (setN w8 w.heap.size 0 [.int .i64 (md:Int),.slice so N8 sc,.slice tvo M8 tvc]);have hset:=HSET.out;have hbl:=HBL.out;have hpr:=HRD.out
     generalize setN w8 w.heap.size 0 [.int .i64 (md:Int),.slice so N8 sc,.slice tvo M8 tvc]=W at hset hbl hpr ⊢;have r0:=hset.cell (i:=0) rfl;have r1:=hset.cell (i:=1) rfl;have r2:=hset.cell (i:=2) rfl;refine bodyPost_ret (v:=.tuple #[.agg #[.int .i64 (md:Int),.slice so N8 sc,.slice tvo M8 tvc],.int .i64 0,.int .i64 0]) (by simp[results,Tryz.results23,go_sem,r0,r1,r2]) rfl ?_;unfold PAllP;rw[HA.out];exact⟨hbl,_,_,rfl,hpr.lower (by omega)⟩
end Go.Proofs.YtodlhhfcjkjapaaGreatDoor
