import Derived.Test.YtodlhhfcjkjapaaGreatDoorPF
import Derived.Test.YtodlhhfcjkjapaaGreatDoorTT
import Derived.Test.YtodlhhfcjkjapaaGreatDoorPJ
set_option maxRecDepth 200000
set_option maxHeartbeats 8000000
namespace Go.Proofs.YtodlhhfcjkjapaaGreatDoor
open Go.RowKit
def RB (w:World) (g:Nat) (lv ov:Value) (md:Nat) (sv tv:Value) (a f:Nat):Prop :=
 w.heap[g]?=some (.cells #[lv,ov,.int .i64 (md:Int),sv,tv,.int .i64 (a:Int),.int .i64 (f:Int)] 75 (0,0))
section
variable {w w':World} {g md a f:Nat} {lv ov sv tv:Value} {F:Nat→Prop}
theorem RB.c0 (h:RB w g lv ov md sv tv a f):w.cell? ⟨g,0,none⟩=some lv:=by unfold RB at h;simp[World.cell?,h]
theorem RB.c1 (h:RB w g lv ov md sv tv a f):w.cell? ⟨g,1,none⟩=some ov:=by unfold RB at h;simp[World.cell?,h]
theorem RB.c2 (h:RB w g lv ov md sv tv a f):w.cell? ⟨g,2,none⟩=some (.int .i64 (md:Int)):=by unfold RB at h;simp[World.cell?,h]
theorem RB.c3 (h:RB w g lv ov md sv tv a f):w.cell? ⟨g,3,none⟩=some sv:=by unfold RB at h;simp[World.cell?,h]
theorem RB.c4 (h:RB w g lv ov md sv tv a f):w.cell? ⟨g,4,none⟩=some tv:=by unfold RB at h;simp[World.cell?,h]
theorem RB.c5 (h:RB w g lv ov md sv tv a f):w.cell? ⟨g,5,none⟩=some (.int .i64 (a:Int)):=by unfold RB at h;simp[World.cell?,h]
theorem RB.c6 (h:RB w g lv ov md sv tv a f):w.cell? ⟨g,6,none⟩=some (.int .i64 (f:Int)):=by unfold RB at h;simp[World.cell?,h]
theorem RB.fr (h:RB w g lv ov md sv tv a f) (i:Nat):w.frozen? ⟨g,i,none⟩=false:=by unfold RB at h;simp[World.frozen?,h]
theorem RB.lt (h:RB w g lv ov md sv tv a f):g<w.heap.size:=(yD h).1
theorem RB.same (h:RB w g lv ov md sv tv a f) (e:w'.heap[g]?=w.heap[g]?):RB w' g lv ov md sv tv a f:=e.trans h
theorem RB.below (h:RB w g lv ov md sv tv a f) (hb:Below w.heap.size w w'):RB w' g lv ov md sv tv a f:=h.same (hb.block _ h.lt)
theorem RB.trn (h:RB w g lv ov md sv tv a f) (ht:Trn F w w') (hF:¬ F g):RB w' g lv ov md sv tv a f:=h.same (ht.block _ h.lt hF)
theorem RB.set0 (h:RB w g lv ov md sv tv a f) (u:Value):RB (w.setCell ⟨g,0,none⟩ u) g u ov md sv tv a f:=by unfold RB at *;rw[setCell_row h];rfl
theorem RB.set1 (h:RB w g lv ov md sv tv a f) (u:Value):RB (w.setCell ⟨g,1,none⟩ u) g lv u md sv tv a f:=by unfold RB at *;rw[setCell_row h];rfl
theorem RB.set2 (h:RB w g lv ov md sv tv a f) (n:Nat):RB (w.setCell ⟨g,2,none⟩ (.int .i64 (n:Int))) g lv ov n sv tv a f:=by unfold RB at *;rw[setCell_row h];rfl
theorem RB.set3 (h:RB w g lv ov md sv tv a f) (u:Value):RB (w.setCell ⟨g,3,none⟩ u) g lv ov md u tv a f:=by unfold RB at *;rw[setCell_row h];rfl
theorem RB.set4 (h:RB w g lv ov md sv tv a f) (u:Value):RB (w.setCell ⟨g,4,none⟩ u) g lv ov md sv u a f:=by unfold RB at *;rw[setCell_row h];rfl
theorem RB.set5 (h:RB w g lv ov md sv tv a f) (n:Nat):RB (w.setCell ⟨g,5,none⟩ (.int .i64 (n:Int))) g lv ov md sv tv n f:=by unfold RB at *;rw[setCell_row h];rfl
theorem RB.set6 (h:RB w g lv ov md sv tv a f) (n:Nat):RB (w.setCell ⟨g,6,none⟩ (.int .i64 (n:Int))) g lv ov md sv tv a n:=by unfold RB at *;rw[setCell_row h];rfl
end
def TR (w:World) (b:Nat) (v:Value) (ts:List Lx.Tok):Prop:=∃ o cap,v = .slice (some ⟨b,o,none⟩) ts.length cap∧ts.length≤cap∧cap≤maxLen ∧
 ∀ k t,ts[k]?=some t→w.cell? ⟨b,o+k*3,none⟩=some (.int .i64 (t.kind:Int))∧w.cell? ⟨b,o+k*3+1,none⟩=some (.string ⟨t.text.toArray⟩)∧w.cell? ⟨b,o+k*3+2,none⟩=some (.int .i64 (t.place:Int))
section
variable {w w':World} {b:Nat} {v:Value} {ts:List Lx.Tok} {F:Nat→Prop}
theorem TR.trn (h:TR w b v ts) (ht:Trn F w w') (hF:¬ F b):TR w' b v ts:=by
 obtain⟨o,cap,h1,h2,h3,h4⟩:=h;have hc:∀ i u,w.cell? ⟨b,i,none⟩=some u→w'.cell? ⟨b,i,none⟩=some u:=fun i u hu=>(World.cell?_of_block (ht.block b (World.block_lt_of_cell? w _ hu) hF)).trans hu;exact⟨o,cap,h1,h2,h3,fun k t hk=>⟨hc _ _ (h4 k t hk).1,hc _ _ (h4 k t hk).2.1,hc _ _ (h4 k t hk).2.2⟩⟩
theorem TR.below (h:TR w b v ts) (hb:Below w.heap.size w w'):TR w' b v ts:=h.trn (F:=fun _=>False) (Trn.of_below hb) id
theorem TR.of_own {B:Nat} {e:TypeId} (h:TO w B e v ts) (hn:ts≠[]):∃ b,B≤b∧b<w.heap.size∧v.ownBlock=some b∧TR w b v ts:=by
 rcases h.2 with ⟨rfl,hn'⟩|⟨g,cap,cur,rfl,hB,hg,h2,h3,h4,h5⟩
 ·exact absurd (List.length_eq_zero_iff.1 hn') hn
 ·obtain⟨ao,cap',e1,hc⟩:=TO.form h;refine⟨g,hB,(yD hg).1,rfl,0,cap,rfl,h2,h3,fun k t hk=>?_⟩;obtain⟨g',e2,c0,c1,c2⟩:=hc k t hk;simp only[Value.slice.injEq] at e1;obtain⟨e1,_,_⟩:=e1;rw[e2] at e1;cases e1
  rw[Nat.zero_add];exact⟨c0,c1,c2⟩
theorem TR.lt (h:TR w b v ts) (hn:ts≠[]):b<w.heap.size:=by
 obtain⟨o,cap,_,_,_,h4⟩:=h;cases ts with
 | nil=>exact absurd rfl hn
 | cons t ts=>exact World.block_lt_of_cell? w _ (h4 0 t rfl).1
end
abbrev only (g:Nat):Nat→Prop:=fun k=>k=g
theorem wrong_any (k:Nat) (t:List UInt8) (p c:Nat) (g md a f:Nat) (lv ov sv tv:Value) (w:World) (h:RB w g lv ov md sv tv a f) :
  Calls Tryz.prog 59 #[.pointer (some ⟨g,0,none⟩),tkv k t p,.int .i64 (c:Int)] w fun e w'=>e = .returned (.tuple #[])∧RB w' g lv ov md sv tv p c∧Trn (only g) w w':=by
 unfold tkv;have hx:∀ o,((w.alloc o).frozen? ⟨g,5,none⟩=false)∧((w.alloc o).frozen? ⟨g,6,none⟩=false):=fun o=>⟨(h.same (Below.heap_alloc _ _ _ h.lt)).fr 5,(h.same (Below.heap_alloc _ _ _ h.lt)).fr 6⟩;have hy:∀ o,RB (((w.alloc o).setCell ⟨g,5,none⟩ (.int .i64 (p:Int))).setCell ⟨g,6,none⟩ (.int .i64 (c:Int))) g lv ov md sv tv p c:=fun o=>((h.same (Below.heap_alloc _ _ _ h.lt)).set5 p).set6 c
 have ht:∀ o,Trn (only g) w (((w.alloc o).setCell ⟨g,5,none⟩ (.int .i64 (p:Int))).setCell ⟨g,6,none⟩ (.int .i64 (c:Int))):=fun o=>Trn.setCell (F:=only g) (Trn.setCell (F:=only g) ((Trn.refl (only g) w).alloc o) (show g=g from rfl) _) (show g=g from rfl) _;have h5:∀ o,∃ u,(w.alloc o).cell? ⟨g,5,none⟩=some u:=fun o=>⟨_,(h.same (Below.heap_alloc _ _ _ h.lt)).c5⟩
 have c5:∀ o,(w.alloc o).cell? ⟨g,5,none⟩=some (.int .i64 (a:Int)):=fun o=>(h.same (Below.heap_alloc _ _ _ h.lt)).c5;have c6:∀ o,(w.alloc o).cell? ⟨g,6,none⟩=some (.int .i64 (f:Int)):=fun o=>(h.same (Below.heap_alloc _ _ _ h.lt)).c6;have f5:=fun o=>(hx o).1;have f6:=fun o=>(hx o).2;have HY:=yH hy;have HT:=yH ht;clear hx hy ht h5 h;go_enter Tryz.func59,Tryz.ntmps59;go_wp2;go_end0
 exact⟨rfl,HY.out _,HT.out _⟩
theorem is_any (wd:List UInt8) (b g md a f:Nat) (lv ov sv tv:Value) (t:Lx.Tok) (ts:List Lx.Tok) (w:World) (h:RB w g lv ov md sv tv a f) (ht:TR w b lv (t :: ts)) :
  Calls Tryz.prog 60 #[.pointer (some ⟨g,0,none⟩),.string ⟨wd.toArray⟩] w fun e w'=>e = .returned (.bool (Ps.fitsT wd t))∧Below w.heap.size w w':=by
 obtain⟨o,cap,rfl,hc,_,hcell⟩:=ht;obtain⟨k0,k1,k2⟩:=hcell 0 t rfl;rw[Nat.zero_mul,Nat.add_zero] at k0 k1 k2;have hp:(0:Int)<((t :: ts).length:Int):=(by simp only[List.length_cons];omega);have hp2:0<(t :: ts).length:=(by simp);have c0:=h.c0;generalize (t :: ts).length=L at hp hp2 c0;have FA:=fits_any t.kind t.text t.place wd w;unfold tkv at FA;clear hcell h;go_enter Tryz.func60,Tryz.ntmps60;go_wp2_with fail
 refine FA.mono ?_;rintro e w1 ⟨rfl,hb⟩;go_wp2;go_ret;exact⟨rfl,hb⟩
def TakeQ (r:Ps.Res (List Lx.Tok)) (us:List Lx.Tok) (b g md a f:Nat) (lv ov sv tv:Value) (w:World) (e:Ending) (w':World):Prop:=Trn (only g) w w'∧match r with
 | .error (p,c)=>e = .returned (.slice none 0 0)∧RB w' g lv ov md sv tv p c
 | .ok r=>∃ rv lv',e = .returned rv∧TR w' b rv us∧RB w' g lv' ov md sv tv a f∧TR w' b lv' r
structure TKS (w wr:World) (ws:List (List UInt8)) (ts:List Lx.Tok) (d i:Nat):Prop where
 below:Below w.heap.size w wr
 eq:Ps.takeW d ws ts=Ps.takeW d (ws.drop i) (ts.drop i)
 ends:Ps.Ends (ts.drop i)
 hi:i≤ws.length
theorem TR.cut {w:World} {b m:Nat} {o cap:Nat} {ts:List Lx.Tok} (h:TR w b (.slice (some ⟨b,o,none⟩) ts.length cap) ts) (hm:m<ts.length) :
  TR w b (.slice (some ⟨b,o,none⟩) m cap) (ts.take m)∧TR w b (.slice (some ⟨b,o+m*3,none⟩) (ts.length-m) (cap-m)) (ts.drop m)∧ts.length≤cap∧cap≤maxLen:=by
 obtain⟨o',cap',e,h2,h3,h4⟩:=h;simp only[Value.slice.injEq,Option.some.injEq,Addr.mk.injEq,true_and,and_true] at e;obtain⟨rfl,rfl⟩:=e;refine⟨⟨o,cap,by rw[List.length_take,Nat.min_eq_left (by omega)],by rw[List.length_take];omega,h3,fun k t hk=>h4 k t ?_⟩,⟨o+m*3,cap-m,by rw[List.length_drop],by rw[List.length_drop];omega,by omega,fun k t hk=>?_⟩,h2,h3⟩
 ·rw[List.getElem?_take] at hk;split at hk
  ·exact hk
  ·cases hk
 ·rw[List.getElem?_drop] at hk;have:=h4 _ t hk;rw[show o+m*3+k*3=o+(m+k)*3 by omega];exact this
theorem take_any (ws:List (List UInt8)) (ts:List Lx.Tok) (b g md a f d:Nat) (lv ov sv' tv wv:Value) (w:World) (h:RB w g lv ov md sv' tv a f) (ht:TR w b lv ts) (hbg:b≠g) (he:Ps.Ends ts)
  (hov:∃ ao cap,ov = .slice ao d cap) (hd:d≤8) (hw:Rd w wv (ws.map sv)) (hne:∀ x ∈ ws,x≠[]) (hw0:ws≠[]) (hwl:ws.length≤1048576) (hwg:wv.ownBlock≠some g) (htl:ts.length≤1048576) :
  Calls Tryz.prog 36 #[.pointer (some ⟨g,0,none⟩),wv] w fun e w'=>TakeQ (Ps.takeW d ws ts) (ts.take ws.length) b g md a f lv ov sv' tv w e w':=by
 obtain⟨ao,ocap,rfl⟩:=hov;have ht0:=ht;obtain⟨o,cap,rfl,hcap,hcap2,hcell⟩:=ht;obtain⟨wo,wc,rfl,hwc,_,hwx⟩:=hw.formV;rw[List.length_map] at hwc hwx ⊢;obtain⟨b',o',rfl,hwc2,hwx⟩:=hwx (List.length_pos_iff.2 hw0);have hst:TKS w w ws ts d 0:=⟨Below.refl _ _,by simp,by simpa using he,Nat.zero_le _⟩;have HST:=yH hst;obtain⟨L,hL⟩:∃ L,ws.length=L:=⟨_,rfl⟩;obtain⟨M,hM⟩:∃ M,ts.length=M:=⟨_,rfl⟩;rw[hM] at h;have HH:=yH h
 have HT:=yH ht0;have HW:=yH hwx;have HC:=yH hcell;have HNE:=yH hne;have hc0:=h.c0;have hlt:=h.lt;rw[hL] at hwc hwl ⊢;rw[hM] at hcap htl ⊢;have HL:=yH hL;have HM:=yH hM;clear hst h ht0 hw hwx hcell hne he hc0 hwg;go_enter Tryz.func36,Tryz.ntmps36;go_wp2;go_loopw [5,6,7,11,23,31] (fun s5 s6 s7 s11 s23 s31 wr=>∃ (i:Nat),s11 = .int .i64 i∧Hid (TKS w wr ws ts d i)) (fun s5 s6 s7 s11 s23 s31 _=>L-(intOf s11).toNat)
 case atStart=>exact⟨0,rfl,HST⟩
 case round =>
  obtain⟨i,rfl,HR⟩:=hrel;clear HST;have hiL:=HR.out.hi;rw[HL.out] at hiL;by_cases hlt2:i<L
  ·obtain⟨wd,hwd⟩:∃ wd,ws[i]?=some wd:=⟨_,List.getElem?_eq_getElem (by rw[HL.out];exact hlt2)⟩;obtain⟨t,rest,hdr,hfine⟩:=HR.out.ends.ne
   have hti:ts[i]?=some t:=by
    have:=congrArg (·[0]?) hdr;simpa using this
   have hiM:i<M:=(by rw[←HM.out];exact(yE hti).1);have hce:=(HT.out.below HR.out.below);obtain⟨o2,cap2,e2,_,_,hce⟩:=hce;simp only[Value.slice.injEq,Option.some.injEq,Addr.mk.injEq,true_and,and_true] at e2;obtain⟨rfl,rfl⟩:=e2;obtain⟨k0,k1,k2⟩:=hce i t hti
   have kw:wr.cell? ⟨b',o'+i,none⟩=some (.string ⟨wd.toArray⟩):=by
    have:=HW.out i (sv wd) (by rw[List.getElem?_map,hwd];rfl);exact(HR.out.below.cell (World.block_lt_of_cell? w _ this)).trans this
   have kg:=(HH.out.below HR.out.below).c0;have kg1:=(HH.out.below HR.out.below).c1;have FA:=yH (fun wx=>fits_any t.kind t.text t.place wd wx);have HB:=yH HR.out.below;have HRB:=yH (HH.out.below HR.out.below);have hfit:=Ps.fitsT_end (w:=wd) (t:=t) (HNE.out wd (List.mem_of_getElem? hwd));have heq:=HR.out.eq
   rw[hdr,List.drop_eq_getElem_cons (by rw[HL.out];exact hlt2),show ws[i]'(by rw[HL.out];exact hlt2)=wd from Option.some.inj ((List.getElem?_eq_getElem _).symm.trans hwd),Ps.takeW] at heq;have HE:=yH heq;have HEN:=yH HR.out.ends;rw[hdr] at HEN;obtain⟨T,hT⟩:∃ T,wr.alloc (.cells #[.int .i64 (t.kind:Int),.string ⟨t.text.toArray⟩,.int .i64 (t.place:Int)] 65)=T:=⟨_,rfl⟩;have HTk:=Tk3.new wr t.kind t.text t.place;rw[hT] at HTk
   have hTb:Below w.heap.size w T:=(by rw[←hT];exact HB.out.alloc HB.out.size _);have HDR:=yH hdr;clear hce HR hdr;have t0:=HTk.c0;have t1:=HTk.c1;have t2:=HTk.c2;have HTK:=yH HTk;have HTB:=yH hTb;clear HTk hTb;by_cases hf:Ps.fitsT wd t=true
   ·rw[if_pos hf] at HE;rw[hf] at FA;have hk0:=hfit hf hfine;have hen:=HEN.out.tail hk0
    have hrest:rest=ts.drop (i+1):=by
     rw[←List.drop_drop,HDR.out];rfl
    clear hfit hf;unfold tkv at FA;by_cases hbr:wd=[123]
    ·have e1:(wd==[123])=true:=beq_iff_eq.2 hbr;have e2:(wd=[123])=True:=eq_true hbr;by_cases hd8:d=8
     ·subst hd8;rw[if_pos ⟨hbr,rfl⟩] at HE;clear hbr;have WR:=fun w1 (hr:RB w1 g (.slice (some ⟨b,o,none⟩) M cap) (.slice ao 8 ocap) md sv' tv a f)=>wrong_any t.kind t.text t.place 21 g md a f _ _ _ _ w1 hr;unfold tkv at WR;go_wp2_with fail
      refine(FA.out _).mono ?_;rintro e w1 ⟨rfl,hb1⟩;have tk1:=HTK.out.below hb1;have q0:=tk1.c0;have q1:=tk1.c1;have q2:=tk1.c2;have hr1:=HH.out.below (HTB.out.trans (hb1.mono HTB.out.size));have qg:=hr1.c1;clear tk1 t0 t1 t2;go_wp2_with fail
      refine(WR _ hr1).mono ?_;rintro e w2 ⟨rfl,hr2,ht2⟩;go_wp2;go_ret;rw[HE.out];exact⟨(Trn.of_below (HTB.out.trans (hb1.mono HTB.out.size))).then ht2,rfl,hr2⟩
     ·have d1:((d:Int)==8)=false:=yB;have d2:((d:Int)=8)=False:=yF;rw[if_neg (fun x=>hd8 x.2),hrest] at HE;rw[hrest] at hen;have HNX:=yH (fun (w1:World) (hb:Below w.heap.size w w1)=>(⟨hb,HE.out,hen,by rw[HL.out];omega⟩:TKS w w1 ws ts d (i+1)));clear hbr hd8 hen hrest;go_wp2_with fail
      refine(FA.out _).mono ?_;rintro e w1 ⟨rfl,hb1⟩;have HB1:=yH (HTB.out.trans (hb1.mono HTB.out.size));have kg1:=(HH.out.below HB1.out).c1;clear hb1;go_wp2;go_roundw
      case rel=>exact⟨i+1,by first|rfl|go_num,yH (HNX.out w1 HB1.out)⟩
      case measure=>simp[intOf];omega
    ·have e1:(wd==[123])=false:=yB hbr;have e2:(wd=[123])=False:=eq_false hbr;rw[if_neg (fun x=>hbr x.1),hrest] at HE;rw[hrest] at hen;have HNX:=yH (fun (w1:World) (hb:Below w.heap.size w w1)=>(⟨hb,HE.out,hen,by rw[HL.out];omega⟩:TKS w w1 ws ts d (i+1)));clear hbr hen hrest;go_wp2_with fail
     refine(FA.out _).mono ?_;rintro e w1 ⟨rfl,hb1⟩;have HB1:=yH (HTB.out.trans (hb1.mono HTB.out.size));have kg1:=(HH.out.below HB1.out).c1;clear hb1;go_wp2;go_roundw
     case rel=>exact⟨i+1,by first|rfl|go_num,yH (HNX.out w1 HB1.out)⟩
     case measure=>simp[intOf];omega
   ·rw[if_neg hf] at HE;have hf':Ps.fitsT wd t=false:=(by simpa using hf);rw[hf'] at FA;clear hfit hf hf';unfold tkv at FA;have WR:=fun w1 (hr:RB w1 g (.slice (some ⟨b,o,none⟩) M cap) (.slice ao d ocap) md sv' tv a f)=>wrong_any t.kind t.text t.place 20 g md a f _ _ _ _ w1 hr;unfold tkv at WR;go_wp2_with fail
    refine(FA.out _).mono ?_;rintro e w1 ⟨rfl,hb1⟩;have tk1:=HTK.out.below hb1;have q0:=tk1.c0;have q1:=tk1.c1;have q2:=tk1.c2;have hr1:=HH.out.below (HTB.out.trans (hb1.mono HTB.out.size));clear tk1 t0 t1 t2;go_wp2_with fail
    refine(WR _ hr1).mono ?_;rintro e w2 ⟨rfl,hr2,ht2⟩;go_wp2;go_ret;rw[HE.out];exact⟨(Trn.of_below (HTB.out.trans (hb1.mono HTB.out.size))).then ht2,rfl,hr2⟩
  ·have hiL2:i=L:=(by omega);subst hiL2;have heq:=HR.out.eq;have hen:=HR.out.ends;rw[List.drop_of_length_le (by rw[HL.out];exact yR),Ps.takeW] at heq
   have hiM:i<M:=by
    obtain⟨t,rest,e,_⟩:=hen.ne;have:=congrArg List.length e;rw[List.length_drop,HM.out] at this;simp at this;omega
   have hcut:=HT.out;rw[←HM.out] at hiM;have hcut:=(hcut.cut hiM);rw[HM.out] at hcut hiM;have HCUT:=yH hcut;have HE:=yH heq;have HB:=yH HR.out.below;have HRB:=yH (HH.out.below HB.out);have kg:=HRB.out.c0;have kf:=HRB.out.fr 0;have l1:(cap=i)=False:=yF;have l2:(i:Int)≤(cap:Int):=(by omega);have l3:(i:Int)≤(M:Int):=(by omega);have l4:(i:Int)<(M:Int):=(by omega);clear hcut heq hen HR;go_wp2;go_ret
   rw[HE.out];have hbel:=HB.out;have ht1:Trn (only g) w (wr.setCell ⟨g,0,none⟩ (.slice (some ⟨b,o+i*3,none⟩) (M-i) (cap-i))):=Trn.setCell (F:=only g) (Trn.of_below hbel) (show g=g from rfl) _;exact⟨ht1,_,_,rfl,HCUT.out.1.trn ht1 hbg,HRB.out.set0 _,HCUT.out.2.1.trn ht1 hbg⟩
end Go.Proofs.YtodlhhfcjkjapaaGreatDoor
