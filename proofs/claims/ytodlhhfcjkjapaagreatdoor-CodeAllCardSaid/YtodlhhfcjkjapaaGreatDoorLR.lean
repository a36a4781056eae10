import Derived.Test.YtodlhhfcjkjapaaGreatDoorBS
import Derived.Test.YtodlhhfcjkjapaaGreatDoorIT
import Derived.Test.YtodlhhfcjkjapaaGreatDoorBA
set_option maxRecDepth 200000
set_option maxHeartbeats 8000000
namespace Go.Proofs.YtodlhhfcjkjapaaGreatDoor
open Go.RowKit
theorem ldigit_any (c:UInt8) (w:World):Calls Tryz.prog 101 #[.int .u8 (c.toNat:Int)] w fun e w'=>e = .returned (.bool (Ln.digit c))∧w'=w:=by
 by_cases h1:(48:Int)≤(c.toNat:Int)
 ·by_cases h2:(c.toNat:Int)≤57
  ·have hv:Ln.digit c=true:=Ln.digit_iff.2 ⟨by omega,by omega⟩;rw[hv];clear hv;go_enter Tryz.func101,Tryz.ntmps101;go_wp2;go_ret;exact⟨rfl,rfl⟩
  ·have hv:Ln.digit c=false:=(by rw[Bool.eq_false_iff];intro h;rw[Ln.digit_iff] at h;omega);have h3:((c.toNat:Int)≤57)=False:=eq_false h2;rw[hv];clear hv h2;go_enter Tryz.func101,Tryz.ntmps101;go_wp2;go_ret;exact⟨rfl,rfl⟩
 ·have hv:Ln.digit c=false:=(by rw[Bool.eq_false_iff];intro h;rw[Ln.digit_iff] at h;omega);have h3:((48:Int)≤(c.toNat:Int))=False:=eq_false h1;rw[hv];clear hv h1;go_enter Tryz.func101,Tryz.ntmps101;go_wp2;go_ret;exact⟨rfl,rfl⟩
theorem split_len':∀ (l p:List UInt8),p ∈ Ln.split l→p.length≤l.length
 | [],p,h=>by
  have:p=[]:=(by simpa [Ln.split] using h);rw[this];exact yR
 | c :: r,p,h=>by
  by_cases hc:c=44
  ·subst hc;rw[Ln.split_comma] at h;rcases List.mem_cons.1 h with rfl|h
   ·simp
   ·exact Nat.le_succ_of_le (split_len' r p h)
  ·obtain⟨q,ps,h1,h2⟩:=Ln.split_other hc r;rw[h2] at h;rcases List.mem_cons.1 h with rfl|h
   ·have:=split_len' r q (by rw[h1];exact List.mem_cons_self ..);simpa using this
   ·exact Nat.le_succ_of_le (split_len' r p (by rw[h1];exact List.mem_cons_of_mem _ h))
structure Sp (s:List UInt8) (i f:Nat) (done:List (List UInt8)):Prop where
 le:i≤s.length+1
 fle:f≤i
 dl:done.length≤i
 at_:i≤s.length→Ln.At s i f done
 end_:i=s.length+1→Ln.split s=done
theorem Sp.start (s:List UInt8):Sp s 0 0 []:=⟨by omega,yR,yR,fun _=>Ln.at_start s,fun h=>by omega⟩
theorem Sp.comma {s:List UInt8} {i f:Nat} {done:List (List UInt8)} (h:Sp s i f done) (hi:i<s.length) (hc:s.getD i 0=44):Sp s (i+1) (i+1) (done++[(s.take i).drop f]) :=
 ⟨by omega,yR,by simp;exact h.dl,fun _=>Ln.at_comma (h.at_ (by omega)) (by rw[←hc,List.getD_eq_getElem?_getD,List.getElem?_eq_getElem hi];rfl),fun e=>by omega⟩
theorem Sp.other {s:List UInt8} {i f:Nat} {done:List (List UInt8)} (h:Sp s i f done) (hi:i<s.length) (hc:s.getD i 0≠44):Sp s (i+1) f done :=
 ⟨by omega,by have:=h.fle;omega,by have:=h.dl;omega,fun _=>Ln.at_other (h.at_ (by omega)) (by rw[List.getD_eq_getElem?_getD,List.getElem?_eq_getElem hi];rfl) hc,fun e=>by omega⟩
theorem Sp.last {s:List UInt8} {f:Nat} {done:List (List UInt8)} (h:Sp s s.length f done):Sp s (s.length+1) (s.length+1) (done++[(s.take s.length).drop f]) :=
 ⟨yR,yR,by simp;exact h.dl,fun e=>by omega,fun _=>by rw[List.take_length];exact Ln.at_end (h.at_ yR) yR⟩
theorem rsplit_any (s:List UInt8) (hs:s.length≤1000000) (w:World) :
  Calls Tryz.prog 80 #[.string (ba s)] w fun e w'=>∃ g cap,e = .returned (.slice (some ⟨g,0,none⟩) (Ln.split s).length cap)∧(∀ j u,((Ln.split s).map sv)[j]?=some u→w'.cell? ⟨g,j,none⟩=some u)∧Below w.heap.size w w'∧(Ln.split s).length≤cap∧(Ln.split s).length≤1000001:=by
 have hz:(ba s).size=s.length:=rfl;obtain⟨L,hL⟩:∃ L,L=s.length:=⟨_,rfl⟩;rw[←hL] at hz;have hLs:L≤1000000:=(by omega);go_enter Tryz.func80,Tryz.ntmps80;go_wp2;go_loopw [3,4,5] (fun s3 s4 s5 wr=>∃ i f done,s5 = .int .i64 ((i:Nat):Int)∧s4 = .int .i64 ((f:Nat):Int)∧Sp s i f done∧wr.ownsRow w.heap.size 9 1 s3 done.length (done.map sv)∧Below w.heap.size w wr) (fun _ _ s5 _=>L+2-(intOf s5).toNat)
 case atStart =>
  exact⟨0,0,[],rfl,rfl,Sp.start s,World.ownsRow_made (base:=w.heap.size) w #[] 0 yR (Nat.zero_le _) rfl,(Below.refl _ w).alloc yR _⟩
 case round =>
  obtain⟨i,f,done,rfl,rfl,hsp,hown,hb⟩:=hrel;have h1:=hsp.le;have h2:=hsp.fle;have h3:=hsp.dl;rw[←hL] at h1;have HSP:=yH hsp;have HB:=yH hb;have HL:=yH hL;have hBs:=hb.size;clear hsp hb hL;by_cases hend:i=L+1
  ·have hle:((i:Int)≤(L:Int))=False:=yF;have hsplit:=HSP.out.end_ (by rw[hend,HL.out]);obtain⟨g,cap,rfl,_,hcap,_,hcell⟩:=own_pos hown (by rw[←hsplit];exact List.length_pos_iff.2 (Ln.split_ne s));have HO:=yH (And.intro hcell (And.intro hcap h3));have HI:=yH (show i≤1000001 by omega);rw[←hsplit] at HO ⊢;clear hend hown hcell hcap hsplit h1 h2 h3;go_wp2;go_ret
   exact⟨g,cap,rfl,HO.out.1,HB.out,HO.out.2.1,Nat.le_trans HO.out.2.2 HI.out⟩
  ·have hle:((i:Int)≤(L:Int))=True:=yT;have hi1:IntKind.i64.wrap ((i:Int)+1)=(i:Int)+1:=(by rw[IntKind.wrap_i64];omega);have hfi:(f:Int)≤(i:Int):=(by omega);have hil:(i:Int)≤(L:Int):=(by omega);have hx:(ba s).extract f i=⟨((s.take i).drop f).toArray⟩:=(by rw[ba,ba_extract]);have HEnd:=yH hend;have HOWN:=yH hown;have HN:=yH (show done.length≤2097152 by omega)
   have HH:=yH (And.intro h1 (And.intro h2 h3));clear hend hown h1 h2 h3;by_cases hlast:i=L
   ·have e1:((i:Int)==(L:Int))=true:=beq_iff_eq.2 (by omega);have HLast:=yH hlast;clear hlast;go_wp2_with (at_builtin;refine append_str rfl (.tmp 23) (.tmp 28) rfl rfl HOWN.out rfl rfl ?ca ?cb ?cc ?_)
    case ca=>rfl
    case cb=>exact HN.out
    case cc=>exact hBs
    intro v' w' hown hgrow;have HB':=yH (HB.out.grown hgrow HB.out.size (fun j hj=>(HOWN.out.lt j hj).1));have HO':=yH hown;clear hown hgrow;go_wp2;go_roundw
    case rel =>
     have hl:=HLast.out;have hl2:=HL.out;have hsp':=HSP.out;subst hl hl2;exact⟨_,_,_,by push_cast;rfl,by push_cast;rfl,hsp'.last,by have:=HO'.out;simpa [sv] using this,HB'.out⟩
    case measure=>have:=HH.out;have:=HLast.out;simp[intOf];omega
   ·have e1:((i:Int)==(L:Int))=false:=yB;have e2:((i:Int)=(L:Int))=False:=yF;have hlt:(i:Int)<(L:Int):=(by omega);have hltn:i<s.length:=(by rw[←HL.out];omega);obtain⟨x,hxx⟩:∃ x,x=s.getD i 0:=⟨_,rfl⟩;have hidx:∀ h:i<(ba s).size,(ba s)[i]'h=x:=fun h=>by rw[byte_at,ba_list];exact hxx.symm
    have HX:=yH hxx;have HLt:=yH hltn;clear hlast hltn hxx;by_cases h44:x=44
    ·subst h44;go_wp2_with (at_builtin;refine append_str rfl (.tmp 23) (.tmp 28) rfl rfl HOWN.out rfl rfl ?ca ?cb ?cc ?_)
     case ca=>rfl
     case cb=>exact HN.out
     case cc=>exact hBs
     intro v' w' hown hgrow;have HB':=yH (HB.out.grown hgrow HB.out.size (fun j hj=>(HOWN.out.lt j hj).1));have HO':=yH hown;clear hown hgrow;go_wp2;go_roundw
     case rel=>exact⟨_,_,_,by push_cast;rfl,by push_cast;rfl,HSP.out.comma HLt.out HX.out.symm,by have:=HO'.out;simpa [sv] using this,HB'.out⟩
     case measure=>have:=HH.out;simp[intOf];omega
    ·have k44:(x.toNat:Int)≠44:=fun e=>h44 (UInt8.toNat_inj.1 (by show x.toNat=44;omega));have k1:((x.toNat:Int)==44)=false:=yB k44;have k2:((x.toNat:Int)=44)=False:=eq_false k44;have HNE:=yH h44;clear h44 k44;go_wp2;go_roundw
     case rel=>exact⟨_,_,_,by push_cast;rfl,rfl,HSP.out.other HLt.out (by rw[←HX.out];exact HNE.out),HOWN.out,HB.out⟩
     case measure=>have:=HH.out;simp[intOf];omega
theorem rpattern_two (l:List UInt8) (w:World) :
  Calls Tryz.prog 81 #[.int .i64 2,.string (ba l)] w fun e w'=>e = .returned (.bool (Ln.pattern 2 l))∧w'=w:=by
 have hc:∀ c:UInt8,((ba l).toList==[c])=decide (l=[c]):=fun c=>by
  rw[Lib.toList_data,ba_list,Bool.eq_iff_iff];simp
 have e1:=hc 43;have e2:=hc 45;have e3:=hc 62
 have hp:Ln.pattern 2 l=(decide (l=[43]) || decide (l=[45]) || decide (l=[62])):=by
  unfold Ln.pattern;rw[if_pos rfl,Bool.eq_iff_iff];simp
 rw[hp];clear hp hc;generalize ba l=S at e1 e2 e3;generalize decide (l=[43])=b1 at e1;generalize decide (l=[45])=b2 at e2;generalize decide (l=[62])=b3 at e3;cases b1
 ·cases b2
  ·cases b3
   iterate 2
    ·go_enter Tryz.func81,Tryz.ntmps81;go_wp2;go_ret;exact⟨rfl,rfl⟩
  ·go_enter Tryz.func81,Tryz.ntmps81;go_wp2;go_ret;exact⟨rfl,rfl⟩
 ·go_enter Tryz.func81,Tryz.ntmps81;go_wp2;go_ret;exact⟨rfl,rfl⟩
theorem rpattern_no (proto:Int) (h1:proto≠1) (h2:proto≠2) (h3:proto≠3) (l:List UInt8) (w:World) :
  Calls Tryz.prog 81 #[.int .i64 proto,.string (ba l)] w fun e w'=>e = .returned (.bool false)∧w'=w:=by
 have e1:(proto==1)=false:=(by simpa using h1);have e2:(proto==2)=false:=(by simpa using h2);have e3:(proto==3)=false:=(by simpa using h3);have f1:(proto=1)=False:=eq_false h1;have f2:(proto=2)=False:=eq_false h2;have f3:(proto=3)=False:=eq_false h3;clear h1 h2 h3;go_enter Tryz.func81,Tryz.ntmps81;go_wp2;go_ret;exact⟨rfl,rfl⟩
theorem rpattern_num (proto:Int) (hp:proto=1∨proto=3) (l:List UInt8) (hl:l.length≤16777216) (w:World) :
  Calls Tryz.prog 81 #[.int .i64 proto,.string (ba l)] w fun e w'=>e = .returned (.bool (Ln.pattern 1 l))∧w'=w:=by
 cases l with
 | nil =>
  have hz:(ba ([]:List UInt8)).size=0:=rfl;rcases hp with rfl|rfl
  all_goals
   go_enter Tryz.func81,Tryz.ntmps81;go_wp2;go_ret;exact⟨rfl,rfl⟩
 | cons a r =>
  have hpo:Ln.pattern 1 (a :: r)=(Ln.first a && r.all Ln.digit && decide (r.length≤2)):=rfl
  have hl:r.length+1≤16777216:=hl;obtain⟨q,hq⟩:∃ q,q=a :: r:=⟨_,rfl⟩;have hz:(ba q).size=r.length+1:=(by rw[hq];rfl);have x0:∀ h,(ba q)[0]'h=a:=fun h=>by rw[byte_at,ba_list,hq];rfl
  have hlt1:((r.length:Int)+1<1)=False:=yF;rw[←hq] at hpo ⊢;by_cases h3:(3:Int)<(r.length:Int)+1
  ·have hv:Ln.pattern 1 q=false:=(by rw[hpo,decide_eq_false (show ¬ r.length≤2 by omega),Bool.and_false]);rw[hv];clear hv hpo hq;rcases hp with rfl|rfl
   all_goals
    go_enter Tryz.func81,Tryz.ntmps81;go_wp2;go_ret;exact⟨rfl,rfl⟩
  have h3f:((3:Int)<(r.length:Int)+1)=False:=eq_false h3;by_cases f1:(a.toNat:Int)<49
  ·have hv:Ln.pattern 1 q=false:=(by rw[hpo,show Ln.first a=false by rw[Bool.eq_false_iff];intro h;rw[Ln.first_iff] at h;omega];rfl);rw[hv];clear hv hpo hq h3;rcases hp with rfl|rfl
   all_goals
    go_enter Tryz.func81,Tryz.ntmps81;go_wp2;go_ret;exact⟨rfl,rfl⟩
  by_cases f2:(53:Int)<(a.toNat:Int)
  ·have hv:Ln.pattern 1 q=false:=(by rw[hpo,show Ln.first a=false by rw[Bool.eq_false_iff];intro h;rw[Ln.first_iff] at h;omega];rfl);rw[hv];clear hv hpo hq h3;rcases hp with rfl|rfl
   all_goals
    go_enter Tryz.func81,Tryz.ntmps81;go_wp2;go_ret;exact⟨rfl,rfl⟩
  have hf:Ln.first a=true:=Ln.first_iff.2 ⟨by omega,by omega⟩
  have hv:Ln.pattern 1 q=q.all Ln.digit:=by
   rw[hpo,hf,decide_eq_true (show r.length≤2 by omega),hq,List.all_cons,Ln.first_digit hf,Bool.and_true]
  have hqn:q.length=r.length+1:=(by rw[hq];rfl);rw[hv];obtain⟨L,hL⟩:∃ L,L=q.length:=⟨_,rfl⟩;clear hz;have hz:(ba q).size=L:=(by rw[hL];rfl);have hL3:L≤3:=(by omega);have hL1:1≤L:=(by omega);have g1:((L:Int)<1)=False:=yF;have g2:((3:Int)<(L:Int))=False:=yF;have HL:=yH hL;clear hv hpo hq h3 hf hqn hL hl h3f hlt1;rcases hp with rfl|rfl
  all_goals
   go_enter Tryz.func81,Tryz.ntmps81;go_wp2;go_loopw [5] (fun s5 wr=>∃ i:Nat,s5 = .int .i64 (i:Int)∧i≤L∧wr=w∧(q.take i).all Ln.digit=true) (fun s5 _=>L-(intOf s5).toNat)
   case atStart=>exact⟨0,rfl,Nat.zero_le _,rfl,rfl⟩
   case round =>
    obtain⟨i,rfl,hi,rfl,hall⟩:=hrel;have HA:=yH hall;clear hall;by_cases he:i=L
    ·have hlt:((i:Int)<(L:Int))=False:=yF;have HE:=yH he;clear he;go_wp2;go_ret;have:=HA.out;rw[HE.out,HL.out,List.take_length] at this;exact⟨by rw[this];rfl,rfl⟩
    ·have hlt:(i:Int)<(L:Int):=(by omega);have hlt2:i<q.length:=(by rw[←HL.out];omega);obtain⟨x,hxx⟩:∃ x,x=q[i]:=⟨_,rfl⟩;have hidx:∀ h:i<(ba q).size,(ba q)[i]'h=x:=fun h=>hxx.symm;have hD:=ldigit_any x wr
     have hstep:(q.take (i+1)).all Ln.digit=Ln.digit x:=by
      rw[List.take_succ_eq_append_getElem hlt2,List.all_append,HA.out,←hxx];simp
     have hno:Ln.digit x=false→q.all Ln.digit=false:=fun h=>by
      rw[List.all_eq_false];exact⟨x,by rw[hxx];exact List.getElem_mem hlt2,by rw[h];simp⟩
     have HI:=yH (show i+1≤L by omega);have HS:=yH (And.intro hstep hno);clear he hlt2 hxx hstep hno;cases hd:Ln.digit x
     ·rw[hd] at hD;have HD:=yH hd;clear hd;go_wp2_with (go_at_call 101;refine hD.mono ?_;rintro e w' ⟨rfl,hw⟩;rw[hw])
      go_ret;exact⟨by rw[HS.out.2 HD.out];rfl,rfl⟩
     ·rw[hd] at hD;have HD:=yH hd;clear hd;go_wp2_with (go_at_call 101;refine hD.mono ?_;rintro e w' ⟨rfl,hw⟩;rw[hw])
      go_roundw
      case rel=>exact⟨i+1,by push_cast;rfl,HI.out,trivial,by rw[HS.out.1];exact HD.out⟩
      case measure=>have:=HI.out;simp[intOf];omega
theorem rpattern_any (proto:Int) (l:List UInt8) (hl:l.length≤16777216) (w:World) :
  Calls Tryz.prog 81 #[.int .i64 proto,.string (ba l)] w fun e w'=>e = .returned (.bool (Ln.pattern proto l))∧w'=w:=by
 by_cases h2:proto=2
 ·subst h2;exact rpattern_two l w
 ·by_cases h13:proto=1∨proto=3
  ·have:Ln.pattern proto l=Ln.pattern 1 l:=(by rcases h13 with rfl|rfl <;> rfl);rw[this];exact rpattern_num proto h13 l hl w
  ·have:Ln.pattern proto l=false:=(by unfold Ln.pattern;rw[if_neg h2,if_neg h13]);rw[this];exact rpattern_no proto (fun e=>h13 (.inl e)) h2 (fun e=>h13 (.inr e)) l w
theorem part_at {s:List UInt8} {i:Nat} (h:i<(Ln.split s).length):((Ln.split s).map sv)[i]?=some (.string (ba ((Ln.split s).getD i []))):=by
 rw[List.getElem?_map,List.getElem?_eq_getElem h,List.getD_eq_getElem?_getD,List.getElem?_eq_getElem h];rfl
theorem part_len {s:List UInt8} {i:Nat} (h:i<(Ln.split s).length):((Ln.split s).getD i []).length≤s.length:=by
 rw[List.getD_eq_getElem?_getD,List.getElem?_eq_getElem h];exact split_len' s _ (List.getElem_mem h)
theorem part_all {s:List UInt8} {i:Nat} (h:i<(Ln.split s).length) (p:List UInt8→Bool) (ha:((Ln.split s).take i).all p=true):((Ln.split s).take (i+1)).all p=p ((Ln.split s).getD i []):=by
 rw[List.take_succ_eq_append_getElem h,List.all_append,ha,List.getD_eq_getElem?_getD,List.getElem?_eq_getElem h];simp
theorem part_no {s:List UInt8} {i:Nat} (h:i<(Ln.split s).length) (p:List UInt8→Bool) (ha:p ((Ln.split s).getD i [])=false):(Ln.split s).all p=false:=by
 rw[List.all_eq_false];refine⟨_,List.getElem_mem h,?_⟩;rw[List.getD_eq_getElem?_getD,List.getElem?_eq_getElem h] at ha;simpa using ha
theorem rcodes_any (proto:Int) (s:List UInt8) (hs:s.length≤1000000) (w:World) :
  Calls Tryz.prog 50 #[.int .i64 proto,.string (ba s)] w fun e w'=>e = .returned (.bool (Ln.codes proto s))∧Below w.heap.size w w':=by
 have hS:=rsplit_any s hs w;have hP:=fun l hl=>rpattern_any proto l hl;unfold Ln.codes;have HA:=yH (fun i h=>@part_at s i h);have HL:=yH (fun i h=>@part_len s i h);have HT:=yH (fun i h=>@part_all s i h (Ln.pattern proto));have HN:=yH (fun i h=>@part_no s i h (Ln.pattern proto));have HI:=yH (show ((Ln.split s).take (Ln.split s).length).all (Ln.pattern proto)=(Ln.split s).all (Ln.pattern proto) by rw[List.take_length])
 generalize hps:Ln.split s=ps at hS HA HL HT HN HI ⊢;obtain⟨n,hn⟩:∃ n,n=ps.length:=⟨_,rfl⟩;rw[←hn] at hS HA HL HT HN HI;go_enter Tryz.func50,Tryz.ntmps50;clear hps hn;go_wp2_with (go_at_call 80;refine hS.mono ?_;rintro e w1 ⟨g,cap,rfl,hcell,hb,hcap,hmax⟩;clear hS)
 have HC:=yH hcell;have HB:=yH hb;have HM:=yH hmax;clear hcell hb;go_loopw [6,7] (fun s6 _ wr=>∃ i:Nat,s6 = .int .i64 (i:Int)∧i≤n∧wr=w1∧(ps.take i).all (Ln.pattern proto)=true) (fun s6 _ _=>n-(intOf s6).toNat)
 case atStart=>exact⟨0,rfl,Nat.zero_le _,rfl,rfl⟩
 case round =>
  obtain⟨i,rfl,hi,rfl,hall⟩:=hrel;have HALL:=yH hall;clear hall;by_cases he:i=n
  ·have hlt:((i:Int)<(n:Int))=False:=yF;have HE:=yH he;clear he;go_wp2;go_ret;have:=HALL.out;rw[HE.out,HI.out] at this;exact⟨by rw[this];rfl,HB.out⟩
  ·have hlt:(i:Int)<(n:Int):=(by omega);have hin:i<n:=(by omega);have hc:=HC.out i _ (HA.out i hin);have hD:=hP _ (Nat.le_trans (HL.out i hin) (by omega)) wr;have h1:=HT.out i hin HALL.out;have h2:=HN.out i hin;have HS:=yH (And.intro h1 h2);have hi1:i≤1000001:=(by omega);generalize ps.getD i []=x at hc hD HS;clear he h1 h2 hP;cases hd:Ln.pattern proto x
   ·rw[hd] at hD;have HD:=yH hd;clear hd;go_wp2_with (go_at_call 81;refine hD.mono ?_;rintro e w' ⟨rfl,hw⟩;rw[hw])
    go_ret;exact⟨by rw[HS.out.2 HD.out];rfl,HB.out⟩
   ·rw[hd] at hD;have HD:=yH hd;clear hd;go_wp2_with (go_at_call 81;refine hD.mono ?_;rintro e w' ⟨rfl,hw⟩;rw[hw])
    go_roundw
    case rel=>exact⟨i+1,by push_cast;rfl,hin,trivial,by rw[HS.out.1];exact HD.out⟩
    case measure=>simp[intOf];omega
end Go.Proofs.YtodlhhfcjkjapaaGreatDoor
