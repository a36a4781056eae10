import Derived.Test.YtodlhhfcjkjapaaGreatDoorPX
import Derived.Test.YtodlhhfcjkjapaaGreatDoorPK
import Derived.Test.YtodlhhfcjkjapaaGreatDoorPV
import Derived.Test.YtodlhhfcjkjapaaGreatDoorPT
set_option maxRecDepth 200000
set_option maxHeartbeats 8000000
namespace Go.Proofs.YtodlhhfcjkjapaaGreatDoor
open Go.RowKit
abbrev FRO (ac:Act) (g d k q:Nat):Prop:=∃ f:Nat→Value,ac = { tmps:=#[.pointer (some ⟨g,0,none⟩),.int .i64 (d:Int),f 2,f 3,.int .i64 0,.int .i64 (k:Int),.pointer (some ⟨q,0,none⟩),f 7,f 8,f 9,f 10,f 11,f 12,f 13,f 14,f 15,f 16,f 17,f 18,f 19,f 20,f 21,f 22,f 23,f 24,f 25,f 26,f 27,f 28,f 29,f 30,f 31,f 32,f 33,f 34,f 35,f 36,f 37,f 38,f 39,f 40,f 41,f 42,f 43,f 44,f 45,f 46,f 47,f 48,f 49,f 50,f 51,f 52,f 53,f 54,f 55,f 56,f 57,f 58,f 59,f 60,f 61,f 62,f 63,f 64,f 65,f 66,f 67,f 68,f 69,f 70,f 71,f 72,f 73,f 74,f 75,f 76,f 77,f 78,f 79,f 80,f 81,f 82,f 83,f 84,f 85,f 86,f 87,f 88,f 89,f 90,f 91,f 92,f 93,f 94,f 95,f 96,f 97,f 98,f 99,f 100,f 101,f 102,f 103,f 104,f 105,f 106,f 107,f 108,f 109,f 110,f 111,f 112,f 113,f 114,f 115,f 116],defers:=[] }
theorem FRO.of (a:Act) (g d k q:Nat) (h:a = { tmps:=#[.pointer (some ⟨g,0,none⟩),.int .i64 (d:Int),yG a 2,yG a 3,.int .i64 0,.int .i64 (k:Int),.pointer (some ⟨q,0,none⟩),yG a 7,yG a 8,yG a 9,yG a 10,yG a 11,yG a 12,yG a 13,yG a 14,yG a 15,yG a 16,yG a 17,yG a 18,yG a 19,yG a 20,yG a 21,yG a 22,yG a 23,yG a 24,yG a 25,yG a 26,yG a 27,yG a 28,yG a 29,yG a 30,yG a 31,yG a 32,yG a 33,yG a 34,yG a 35,yG a 36,yG a 37,yG a 38,yG a 39,yG a 40,yG a 41,yG a 42,yG a 43,yG a 44,yG a 45,yG a 46,yG a 47,yG a 48,yG a 49,yG a 50,yG a 51,yG a 52,yG a 53,yG a 54,yG a 55,yG a 56,yG a 57,yG a 58,yG a 59,yG a 60,yG a 61,yG a 62,yG a 63,yG a 64,yG a 65,yG a 66,yG a 67,yG a 68,yG a 69,yG a 70,yG a 71,yG a 72,yG a 73,yG a 74,yG a 75,yG a 76,yG a 77,yG a 78,yG a 79,yG a 80,yG a 81,yG a 82,yG a 83,yG a 84,yG a 85,yG a 86,yG a 87,yG a 88,yG a 89,yG a 90,yG a 91,yG a 92,yG a 93,yG a 94,yG a 95,yG a 96,yG a 97,yG a 98,yG a 99,yG a 100,yG a 101,yG a 102,yG a 103,yG a 104,yG a 105,yG a 106,yG a 107,yG a 108,yG a 109,yG a 110,yG a 111,yG a 112,yG a 113,yG a 114,yG a 115,yG a 116],defers:=[] }):FRO a g d k q:=⟨fun i=>a.tmps.getD i undef,h⟩
theorem rd3 (w:World) (t:TypeId):Rd (w.alloc (.cells #[.string ⟨#[]⟩,.string ⟨#[]⟩,.string ⟨#[]⟩] t)) (.slice (some ⟨w.heap.size,0,none⟩) 3 3) ([[],[],[]].map sv):=by
 refine .inr ⟨_,0,3,rfl,yR,by unfold maxLen;omega,fun j u hj=>?_⟩;rw[Nat.zero_add,yC (heap_alloc_new _ _),←hj]
 match j with
 | 0=>rfl
 | 1=>rfl
 | 2=>rfl
 | j+3=>simp
theorem texts3 (ws:List (List UInt8)) (j:Nat) (hj:j<3):(ws.map sv++[[],[],[]].map sv)[j]?=some (.string ⟨(ws.getD j []).toArray⟩):=by
 rw[←List.map_append,List.getElem?_map]
 have h:(ws++[[],[],[]])[j]?=some (ws.getD j []):=by
  rcases Nat.lt_or_ge j ws.length with h|h
  ·rw[List.getElem?_append_left h,List.getD_eq_getElem?_getD,List.getElem?_eq_getElem h];rfl
  ·rw[List.getElem?_append_right h,List.getD_eq_getElem?_getD,List.getElem?_eq_none h]
   match j-ws.length,(by omega:j-ws.length<3) with
   | 0,_=>rfl
   | 1,_=>rfl
   | 2,_=>rfl
 rw[h];rfl
theorem one_of (F:Nat) (IH:∀ F',F'<F→BlockC F'):OneC F:=by
 intro d w B g b o cap a f0 L rv cs hd h hdone;obtain⟨fl,rfl⟩:=Ps.one_f hdone;obtain⟨t,ht⟩:=h.tok
 have hdt:L.drop a=t :: L.drop (a+1):=by
  obtain⟨h1,rfl⟩:=yE ht;exact List.drop_eq_getElem_cons h1
 rw[hdt] at hdone ⊢;have KD:=rkind_any h t ht;obtain⟨K0,hK0⟩:∃ K0,(if t.kind=1 then Ps.kindOf t.text else 0:Nat)=K0:=⟨_,rfl⟩;rw[hK0] at KD;have HH:=yH h;have HT:=yH ht;have HDT:=yH hdt;have HIH:Hid (BlockC fl):=yH (show BlockC fl from @IH fl (Nat.lt_succ_self _));have HDN:=yH hdone;have HK0:=yH hK0;obtain⟨TT,hTT⟩:∃ T,Ps.one (fl+1) d (rowS cs) (t :: L.drop (a+1))=T:=⟨_,rfl⟩;rw[hTT];have HTT:=yH hTT
 clear h ht hdt hdone IH hK0 hTT;go_enter Tryz.func32,Tryz.ntmps32;go_wp2_with fail
 refine KD.mono ?_;rintro e w1 ⟨rfl,hb1⟩;have HR1:=yH (HH.out.below hb1);have HB1:=yH hb1;clear hb1 KD;obtain⟨tk,tx,p⟩:=t;obtain⟨q0,q1,q2⟩:=HR1.out.cells HT.out;dsimp only at q0 q1 q2;obtain⟨N,hN⟩:∃ N,L.length=N:=⟨_,rfl⟩;have al:(a:Int)<(N:Int):=(by have:=HH.out.al;omega);have al2:a<N:=(by have:=HH.out.al;omega);have ha63:a≤401:=by have:=HH.out.al;have:=HH.out.most;omega
 have g0:w1.cell? ⟨g,0,none⟩=some (.slice (some ⟨b,o,none⟩) N cap):=(by rw[←hN];exact HR1.out.rx.c0);have hs0:(w1.drew.cell? ⟨g,0,none⟩=some (.slice (some ⟨b,o,none⟩) N cap)∧w1.drew.cell? ⟨g,1,none⟩=some (.int .i64 (a:Int)))∧w1.drew.cell? ⟨b,o+a*3+2,none⟩=some (.int .i64 (p:Int)):=⟨⟨g0,HR1.out.rx.c1⟩,q2⟩
 have HSA:Hid (∀ o',((w1.drew.alloc o').cell? ⟨g,0,none⟩=some (.slice (some ⟨b,o,none⟩) N cap)∧(w1.drew.alloc o').cell? ⟨g,1,none⟩=some (.int .i64 (a:Int)))∧(w1.drew.alloc o').cell? ⟨b,o+a*3+2,none⟩=some (.int .i64 (p:Int))):=yH fun o'=>by
  have kp:∀ k i v,w1.cell? ⟨k,i,none⟩=some v→(w1.drew.alloc o').cell? ⟨k,i,none⟩=some v:=fun k i v hv=>(World.cell?_of_block (w:=w1.drew) (a:=⟨k,i,none⟩) (Below.heap_alloc _ _ _ (World.block_lt_of_cell? w1 _ hv))).trans hv;exact⟨⟨kp _ _ _ g0,kp _ _ _ HR1.out.rx.c1⟩,kp _ _ _ q2⟩
 obtain⟨q,hq⟩:∃ q,w1.heap.size=q:=⟨_,rfl⟩;obtain⟨w2,hw2⟩:∃ w2,(w1.alloc (.cells #[.int .i64 (K0:Int),.string ⟨#[]⟩,.string ⟨#[]⟩,.string ⟨#[]⟩,.int .i64 0,.int .i64 (p:Int),.slice none 0 0,.slice none 0 0] 41)).drew=w2:=⟨_,rfl⟩;have hb2:Below w1.heap.size w1 w2:=by rw[←hw2];exact(yA).drew
 have hn2:QS w2 q [.int .i64 (K0:Int),.string ⟨#[]⟩,.string ⟨#[]⟩,.string ⟨#[]⟩,.int .i64 0,.int .i64 (p:Int),.slice none 0 0,.slice none 0 0]:=(by rw[←hw2,←hq];exact heap_alloc_new w1 _);have HR2:=yH (HR1.out.below hb2);have HB2:=yH (HB1.out.trans (hb2.mono HB1.out.size));have HQ2:=yH hn2;have HW2:=yH hw2;have hqw:w.heap.size≤q:=(by rw[←hq];exact HB1.out.size);have HQ:=yH hq;have HN:=yH hN
 clear q0 q1 q2 g0 hb2 hn2 hw2 hq hN;go_wp2_with fail
 refine wp_region_held_drew (S:=fun w'=>(w'.cell? ⟨g,0,none⟩=some (.slice (some ⟨b,o,none⟩) N cap)∧w'.cell? ⟨g,1,none⟩=some (.int .i64 (a:Int)))∧w'.cell? ⟨b,o+a*3+2,none⟩=some (.int .i64 (p:Int))) (by kernel_rfl) hs0 (fun hH=>?_);refine heldT (i:=0) ?_;refine heldT (i:=1) ?_;refine heldT (i:=2) ?_;refine heldT (i:=3) ?_;refine heldT (i:=4) ?_;refine heldT (i:=5) ?_;refine heldT (i:=6) ?_;refine heldT (i:=7) ?_;refine heldT (i:=8) ?_
 refine heldT (i:=9) ?_;refine heldT (i:=10) ?_;refine heldT (i:=11) ?_;refine heldT (i:=12) ?_;refine heldNext (i:=13) rfl (by kernel_rfl) (by rfl) (fun K hK=>?_);go_simp;refine hK.out _ _ (HSA.out _) ?_;clear hK K;(try simp only[Act.put,zLa,zLb,zLc]);refine heldNext (i:=14) rfl (by kernel_rfl) (by rfl) (fun K hK=>?_);go_simp;refine hK.out _ _ (HSA.out _) ?_;clear hK K;(try simp only[Act.put,zLa,zLb,zLc]);refine wpAnyH_done (by kernel_rfl) ?_ _
 skip
 rw[HW2.out,HQ.out];by_cases hk:tk=1∧Ps.kindOf tx≠0
 ·obtain⟨k,hkk⟩:∃ k,Ps.kindOf tx=k:=⟨_,rfl⟩;obtain rfl:K0=k:=(by rw[←HK0.out,if_pos hk.1];exact hkk);have hk1:1≤K0:=(by have:=hk.2;omega);have hk17:K0≤17:=(by rw[←hkk];exact(Ps.kindOf_le hk.2).2);have z1:((K0:Int)==0)=false:=yB;have z2:((K0:Int)=0)=False:=yF;have z3:(K0=0)=False:=yF;have hmore:=HR2.out.more HT.out (by show tk≠0;have:=hk.1;omega)
  have HK:=yH (⟨hk,hkk⟩:_∧_);obtain⟨w3,hw3⟩:∃ w3,w2.setCell ⟨g,1,none⟩ (.int .i64 ((a:Int)+1))=w3:=⟨_,rfl⟩
  have hr3:RS w3 B g b o cap L (a+1) rv cs 0 f0:=by
   rw[←hw3];exact HR2.out.turned (Trn.setCell (F:=only g) (g:=g) (Trn.refl _ w2) rfl _) (HR2.out.rx.set1 (a+1)) hmore (Nat.le_succ _)
  have ht3:Trn (only g) w w3:=(by rw[←hw3];exact Trn.setCell (F:=only g) (g:=g) (Trn.of_below HB2.out) rfl _);have hgq:g≠q:=fun e=>by have:=HH.out.rx.lt;omega
  have hq3:QS w3 q _:=HQ2.out.same (by rw[←hw3];exact Below.heap_setCell _ _ _ _ (fun e=>hgq e.symm));have r1:=HR2.out.rx.c1;have rf1:=HR2.out.rx.fr 1;have WD:=yH (rwords_c K0 hk1 hk17 hr3);have HR3:=yH hr3;have HT3:=yH ht3;have HQ3:=yH hq3;clear hk hkk hmore hr3 ht3 hq3 HSA hH hs0;go_wp2_with fail
  refine WD.out.mono ?_;rintro e w4 ⟨ao,oc,n,a4,e4,f4,ws,rfl,ho4,hr4,ht4,haa4,hwl4,hwe4⟩;obtain⟨NL,hNL⟩:∃ NL,ws.length+3=NL:=⟨_,rfl⟩;have hq3lt:=HQ3.out.lt;have ht04:=HT3.out.then ht4;have hq4:QS w4 q [.int .i64 (K0:Int),.string ⟨#[]⟩,.string ⟨#[]⟩,.string ⟨#[]⟩,.int .i64 0,.int .i64 (p:Int),.slice none 0 0,.slice none 0 0]:=HQ3.out.same (ht4.block q hq3lt (fun e=>hgq e.symm))
  obtain⟨w5,hw5⟩:∃ w5,w4.setCell ⟨q,4,none⟩ (.int .i64 (n:Int))=w5:=⟨_,rfl⟩;have hq5:QS w5 q [.int .i64 (K0:Int),.string ⟨#[]⟩,.string ⟨#[]⟩,.string ⟨#[]⟩,.int .i64 (n:Int),.int .i64 (p:Int),.slice none 0 0,.slice none 0 0]:=(by rw[←hw5];exact hq4.set 4 _);have ht5:Trn (only g) w w5:=by rw[←hw5];exact ht04.newSet hqw _
  have hx5:RX w5 g (.slice (some ⟨b,o,none⟩) L.length cap) rv a4 e4 f4:=hr4.rx.same (by rw[←hw5];exact Below.heap_setCell _ _ _ _ hgq);have hs54:w5.heap.size=w4.heap.size:=by rw[←hw5];simp[World.setCell]
  have ho5:w5.ownsRow w3.heap.size 9 1 (.slice ao ws.length oc) ws.length (ws.map sv):=by
   rw[←hw5];exact(Trn.setCell (F:=fun k=>k=q) (Trn.refl _ w4) (g:=q) rfl _).own ho4 (fun k hk e=>by have:=(ho4.lt k hk).1;omega)
  have q44:=hq4.fr 4;have c44:=hq4.cell 4 rfl;have hal:Below w5.heap.size w5 (w5.alloc (.cells #[.string ⟨#[]⟩,.string ⟨#[]⟩,.string ⟨#[]⟩] 9)):=yA;have HO6:=yH (own_below ho5 hal);have HRD6:=yH (rd3 w5 9);have HSZ6:=yH (show w3.heap.size≤(w5.alloc (.cells #[.string ⟨#[]⟩,.string ⟨#[]⟩,.string ⟨#[]⟩] 9)).heap.size by have:=ht4.size;simp;omega);have hwl:=hwl4;have HQ5:=yH hq5;have HX5:=yH hx5
  have HT5:=yH ht5;have HR4:=yH hr4;have HT4:=yH ht4
  have HL1:=yH (show Ps.L1 fl d K0 p e4 f4 (rowS cs) ws n (L.drop a4) TT by
   have hd1:=HDN.out;rw[←HTT.out];have:=Ps.L1.of (t:=⟨tk,tx,p⟩) HK.out.1 hd1 (e:=e4) (fr:=f4) (n:=n) (ws:=ws) (r:=L.drop a4) (by show Ps.WEnd e4 f4 ws n (L.drop a4) (Ps.words (Ps.shape (Ps.kindOf tx)) (L.drop (a+1)));rw[HK.out.2];exact hwe4);dsimp only at this;rw[HK.out.2] at this;exact this)
  have hgq1:(g=q)=False:=eq_false hgq;clear HDN HTT HK;have HNL:=yH hNL;have HAA4:=yH haa4;have HAL:=yH hal;have HS54:=yH hs54;have H45:=yH (show w3.heap.size≤w5.heap.size by have:=ht4.size;omega);clear hr4 ht4 hq4 hq5 ht5 hx5 hs54 ho5 ho4 hal hwe4 hNL haa4 ht04 WD;obtain⟨M,hM⟩:∃ M,ws.length=M:=⟨_,rfl⟩;have HM:=yH hM;rw[hM] at hwl4 hwl ⊢;rw[hM] at HO6;clear hM
  go_wp2_with (at_builtin;refine append_strs rfl (.tmp 44) (.tmp 45) rfl rfl HO6.out ([[],[],[]].map sv) HRD6.out ?cz ?cn HSZ6.out ?_)
  case cz=>intro u hu;simp[sv] at hu;subst hu;rfl
  case cn=>simp;omega
  intro v6 w6 ho6 hg6;have hlen6:M+3=NL:=(by rw[←HNL.out,HM.out]);rw[hlen6] at ho6;have hNLp:0<NL:=(by have:=HNL.out;omega);obtain⟨gw,c6,rfl,hgw,_,_,hc6⟩:=own_pos ho6 hNLp;have hrow:∀ k,(Value.slice ao M oc).ownBlock=some k→w3.heap.size≤k:=fun k hk=>(HO6.out.lt k hk).1
  have hblk:∀ k,k<w3.heap.size→w6.heap[k]?=w5.heap[k]?:=fun k hk=>(hg6.block k (by have:=H45.out;simp;omega) (fun e=>by have:=hrow k e.symm;omega)).trans (Below.heap_alloc _ _ _ (by have:=H45.out;omega));have hq6:=HQ5.out.same (hblk q hq3lt);have hglt:g<w3.heap.size:=HR3.out.rx.lt;have hx6:=HX5.out.same (hblk g hglt);have ht6:Trn (only g) w w6:=(HT5.out.then (Trn.of_below HAL.out)).then' hg6 (fun k hk=>Nat.le_trans HT3.out.size (hrow k hk))
  have hget:∀ j,j<3→w6.cell? ⟨gw,j,none⟩=some (.string ⟨(ws.getD j []).toArray⟩):=fun j hj=>hc6 j _ (texts3 ws j hj);have hgwq:gw≠q:=fun e=>by omega
  have i0:(0:Int)<(NL:Int):=(by omega);have i1:(1:Int)<(NL:Int):=(by have:=HNL.out;omega);have i2:(2:Int)<(NL:Int):=(by have:=HNL.out;omega);have j1:1<NL:=(by omega);have j2:2<NL:=(by omega);obtain⟨X0,hX0⟩:∃ X,ws.getD 0 []=X:=⟨_,rfl⟩;obtain⟨X1,hX1⟩:∃ X,ws.getD 1 []=X:=⟨_,rfl⟩;obtain⟨X2,hX2⟩:∃ X,ws.getD 2 []=X:=⟨_,rfl⟩;have HX012:=yH (⟨hX0,hX1,hX2⟩:_∧_∧_)
  have hget3:w6.cell? ⟨gw,0,none⟩=some (.string ⟨X0.toArray⟩)∧w6.cell? ⟨gw,1,none⟩=some (.string ⟨X1.toArray⟩)∧w6.cell? ⟨gw,2,none⟩=some (.string ⟨X2.toArray⟩):=⟨hX0 ▸ hget 0 (by decide),hX1 ▸ hget 1 (by decide),hX2 ▸ hget 2 (by decide)⟩;clear hX0 hX1 hX2;have HQ6:=yH hq6;have HX6:=yH hx6;have HT6:=yH ht6;have HGET:=yH hget3;clear ho6 hg6 hlen6 hgw hc6 hrow hblk hq6 hglt hx6 ht6 hget hget3 HO6 HRD6 HSZ6 q44 c44 hw5
  have hgwq1:(gw=q)=False:=eq_false hgwq;clear hgwq hgq;refine' by_oneB (Exists.intro _ (And.intro (fun key=>?ways) ?rest))
  case ways =>
   by_cases h2:K0=2
   ·have y1:((K0:Int)==2)=true:=beq_iff_eq.2 (by omega);have y2:((K0:Int)=2)=True:=yT;have y3:(K0=2)=True:=eq_true h2;obtain⟨w7,hw7⟩:∃ x,w6.setCell ⟨q,1,none⟩ (.string ⟨X0.toArray⟩)=x:=⟨_,rfl⟩;have hq_w7:QS w7 q [.int .i64 (K0:Int),.string ⟨X0.toArray⟩,.string ⟨#[]⟩,.string ⟨#[]⟩,.int .i64 (n:Int),.int .i64 (p:Int),.slice none 0 0,.slice none 0 0]:=by rw[←hw7];exact(HQ6.out).set 1 _
    have ht_w7:Trn (only g) w w7:=(by rw[←hw7];exact(HT6.out).newSet hqw _);have hx_w7:RX w7 g (.slice (some ⟨b,o,none⟩) L.length cap) rv a4 e4 f4:=(HX6.out).same (by rw[←hw7];exact Below.heap_setCell _ _ _ _ (of_eq_false hgq1))
    have hg_w7:w7.cell? ⟨gw,0,none⟩=some (.string ⟨X0.toArray⟩)∧w7.cell? ⟨gw,1,none⟩=some (.string ⟨X1.toArray⟩)∧w7.cell? ⟨gw,2,none⟩=some (.string ⟨X2.toArray⟩):=by
     have kk:∀ i v,w6.cell? ⟨gw,i,none⟩=some v→w7.cell? ⟨gw,i,none⟩=some v:=fun i v hv=>(World.cell?_of_block (by rw[←hw7];exact Below.heap_setCell _ _ _ _ (of_eq_false hgwq1))).trans hv;have gg:=HGET.out;exact⟨kk _ _ gg.1,kk _ _ gg.2.1,kk _ _ gg.2.2⟩
    have fr_w6:=(HQ6.out).fr 1;have ce_w6:=(HQ6.out).cell 1 rfl;have ge_w6:=(HGET.out).1;obtain⟨w8,hw8⟩:∃ x,w7.setCell ⟨q,2,none⟩ (.string ⟨X1.toArray⟩)=x:=⟨_,rfl⟩;have hq_w8:QS w8 q [.int .i64 (K0:Int),.string ⟨X0.toArray⟩,.string ⟨X1.toArray⟩,.string ⟨#[]⟩,.int .i64 (n:Int),.int .i64 (p:Int),.slice none 0 0,.slice none 0 0]:=(by rw[←hw8];exact(hq_w7).set 2 _);have ht_w8:Trn (only g) w w8:=by rw[←hw8];exact(ht_w7).newSet hqw _
    have hx_w8:RX w8 g (.slice (some ⟨b,o,none⟩) L.length cap) rv a4 e4 f4:=(hx_w7).same (by rw[←hw8];exact Below.heap_setCell _ _ _ _ (of_eq_false hgq1))
    have hg_w8:w8.cell? ⟨gw,0,none⟩=some (.string ⟨X0.toArray⟩)∧w8.cell? ⟨gw,1,none⟩=some (.string ⟨X1.toArray⟩)∧w8.cell? ⟨gw,2,none⟩=some (.string ⟨X2.toArray⟩):=by
     have kk:∀ i v,w7.cell? ⟨gw,i,none⟩=some v→w8.cell? ⟨gw,i,none⟩=some v:=fun i v hv=>(World.cell?_of_block (by rw[←hw8];exact Below.heap_setCell _ _ _ _ (of_eq_false hgwq1))).trans hv;have gg:=hg_w7;exact⟨kk _ _ gg.1,kk _ _ gg.2.1,kk _ _ gg.2.2⟩
    have fr_w7:=(hq_w7).fr 2;have ce_w7:=(hq_w7).cell 2 rfl;have ge_w7:=(hg_w7).2.1;obtain⟨w9,hw9⟩:∃ x,w8.setCell ⟨q,3,none⟩ (.string ⟨X2.toArray⟩)=x:=⟨_,rfl⟩;have hq_w9:QS w9 q [.int .i64 (K0:Int),.string ⟨X0.toArray⟩,.string ⟨X1.toArray⟩,.string ⟨X2.toArray⟩,.int .i64 (n:Int),.int .i64 (p:Int),.slice none 0 0,.slice none 0 0]:=(by rw[←hw9];exact(hq_w8).set 3 _);have ht_w9:Trn (only g) w w9:=by rw[←hw9];exact(ht_w8).newSet hqw _
    have hx_w9:RX w9 g (.slice (some ⟨b,o,none⟩) L.length cap) rv a4 e4 f4:=(hx_w8).same (by rw[←hw9];exact Below.heap_setCell _ _ _ _ (of_eq_false hgq1))
    have hg_w9:w9.cell? ⟨gw,0,none⟩=some (.string ⟨X0.toArray⟩)∧w9.cell? ⟨gw,1,none⟩=some (.string ⟨X1.toArray⟩)∧w9.cell? ⟨gw,2,none⟩=some (.string ⟨X2.toArray⟩):=by
     have kk:∀ i v,w8.cell? ⟨gw,i,none⟩=some v→w9.cell? ⟨gw,i,none⟩=some v:=fun i v hv=>(World.cell?_of_block (by rw[←hw9];exact Below.heap_setCell _ _ _ _ (of_eq_false hgwq1))).trans hv;have gg:=hg_w8;exact⟨kk _ _ gg.1,kk _ _ gg.2.1,kk _ _ gg.2.2⟩
    have fr_w8:=(hq_w8).fr 3;have ce_w8:=(hq_w8).cell 3 rfl;have ge_w8:=(hg_w8).2.2;obtain⟨w10,hw10⟩:∃ x,w9.setCell ⟨q,1,none⟩ (.string ⟨#[]⟩)=x:=⟨_,rfl⟩;have hq_w10:QS w10 q [.int .i64 (K0:Int),.string ⟨#[]⟩,.string ⟨X1.toArray⟩,.string ⟨X2.toArray⟩,.int .i64 (n:Int),.int .i64 (p:Int),.slice none 0 0,.slice none 0 0]:=(by rw[←hw10];exact(hq_w9).set 1 _);have ht_w10:Trn (only g) w w10:=by rw[←hw10];exact(ht_w9).newSet hqw _
    have hx_w10:RX w10 g (.slice (some ⟨b,o,none⟩) L.length cap) rv a4 e4 f4:=(hx_w9).same (by rw[←hw10];exact Below.heap_setCell _ _ _ _ (of_eq_false hgq1))
    have hg_w10:w10.cell? ⟨gw,0,none⟩=some (.string ⟨X0.toArray⟩)∧w10.cell? ⟨gw,1,none⟩=some (.string ⟨X1.toArray⟩)∧w10.cell? ⟨gw,2,none⟩=some (.string ⟨X2.toArray⟩):=by
     have kk:∀ i v,w9.cell? ⟨gw,i,none⟩=some v→w10.cell? ⟨gw,i,none⟩=some v:=fun i v hv=>(World.cell?_of_block (by rw[←hw10];exact Below.heap_setCell _ _ _ _ (of_eq_false hgwq1))).trans hv;have gg:=hg_w9;exact⟨kk _ _ gg.1,kk _ _ gg.2.1,kk _ _ gg.2.2⟩
    have fr_w9:=(hq_w9).fr 1;have ce_w9:=(hq_w9).cell 1 rfl;obtain⟨w11,hw11⟩:∃ x,w10.setCell ⟨q,2,none⟩ (.string ⟨X0.toArray⟩)=x:=⟨_,rfl⟩;have hq_w11:QS w11 q [.int .i64 (K0:Int),.string ⟨#[]⟩,.string ⟨X0.toArray⟩,.string ⟨X2.toArray⟩,.int .i64 (n:Int),.int .i64 (p:Int),.slice none 0 0,.slice none 0 0]:=(by rw[←hw11];exact(hq_w10).set 2 _);have ht_w11:Trn (only g) w w11:=by rw[←hw11];exact(ht_w10).newSet hqw _
    have hx_w11:RX w11 g (.slice (some ⟨b,o,none⟩) L.length cap) rv a4 e4 f4:=(hx_w10).same (by rw[←hw11];exact Below.heap_setCell _ _ _ _ (of_eq_false hgq1))
    have hg_w11:w11.cell? ⟨gw,0,none⟩=some (.string ⟨X0.toArray⟩)∧w11.cell? ⟨gw,1,none⟩=some (.string ⟨X1.toArray⟩)∧w11.cell? ⟨gw,2,none⟩=some (.string ⟨X2.toArray⟩):=by
     have kk:∀ i v,w10.cell? ⟨gw,i,none⟩=some v→w11.cell? ⟨gw,i,none⟩=some v:=fun i v hv=>(World.cell?_of_block (by rw[←hw11];exact Below.heap_setCell _ _ _ _ (of_eq_false hgwq1))).trans hv;have gg:=hg_w10;exact⟨kk _ _ gg.1,kk _ _ gg.2.1,kk _ _ gg.2.2⟩
    have fr_w10:=(hq_w10).fr 2;have ce_w10:=(hq_w10).cell 2 rfl;have ge_w10:=(hg_w10).1;have HQL:=yH hq_w11;have HTL:=yH ht_w11;have HXL:=yH hx_w11;clear hq_w7 ht_w7 hx_w7 hg_w7 hq_w8 ht_w8 hx_w8 hg_w8 hq_w9 ht_w9 hx_w9 hg_w9 hq_w10 ht_w10 hx_w10 hg_w10 hq_w11 ht_w11 hx_w11 hg_w11
    have hmk:stCells ⟨Ps.mk K0 p ws n [] [],.slice none 0 0,.slice none 0 0⟩=[.int .i64 (K0:Int),.string ⟨#[]⟩,.string ⟨X0.toArray⟩,.string ⟨X2.toArray⟩,.int .i64 (n:Int),.int .i64 (p:Int),.slice none 0 0,.slice none 0 0]:=(by unfold Ps.mk;rw[if_pos h2,HX012.out.1,HX012.out.2.2];rfl);have HMK:=yH hmk;clear h2 hmk;go_upto_region 16 with fail
    rename_i K1 hK1 KK hKK
    refine(show ∀ ac wx,FRO ac g d K0 q→Trn (only g) w wx→RX wx g (.slice (some ⟨b,o,none⟩) L.length cap) rv a4 e4 f4→QS wx q (stCells ⟨Ps.mk K0 p ws n [] [],.slice none 0 0,.slice none 0 0⟩)→Code.wp _ _ _ ac wx from ?main) _ _ ?fr HTL.out HXL.out ?qs
    case fr=>exact FRO.of _ _ _ _ _ rfl
    case qs=>rw[HMK.out];exact HQL.out
    case main =>
     revert hKK;revert KK;revert hK1;revert K1;exact key.out
   ·have y1:((K0:Int)==2)=false:=yB;have y2:((K0:Int)=2)=False:=yF;have y3:(K0=2)=False:=eq_false h2;obtain⟨w7,hw7⟩:∃ x,w6.setCell ⟨q,1,none⟩ (.string ⟨X0.toArray⟩)=x:=⟨_,rfl⟩;have hq_w7:QS w7 q [.int .i64 (K0:Int),.string ⟨X0.toArray⟩,.string ⟨#[]⟩,.string ⟨#[]⟩,.int .i64 (n:Int),.int .i64 (p:Int),.slice none 0 0,.slice none 0 0]:=by rw[←hw7];exact(HQ6.out).set 1 _
    have ht_w7:Trn (only g) w w7:=(by rw[←hw7];exact(HT6.out).newSet hqw _);have hx_w7:RX w7 g (.slice (some ⟨b,o,none⟩) L.length cap) rv a4 e4 f4:=(HX6.out).same (by rw[←hw7];exact Below.heap_setCell _ _ _ _ (of_eq_false hgq1))
    have hg_w7:w7.cell? ⟨gw,0,none⟩=some (.string ⟨X0.toArray⟩)∧w7.cell? ⟨gw,1,none⟩=some (.string ⟨X1.toArray⟩)∧w7.cell? ⟨gw,2,none⟩=some (.string ⟨X2.toArray⟩):=by
     have kk:∀ i v,w6.cell? ⟨gw,i,none⟩=some v→w7.cell? ⟨gw,i,none⟩=some v:=fun i v hv=>(World.cell?_of_block (by rw[←hw7];exact Below.heap_setCell _ _ _ _ (of_eq_false hgwq1))).trans hv;have gg:=HGET.out;exact⟨kk _ _ gg.1,kk _ _ gg.2.1,kk _ _ gg.2.2⟩
    have fr_w6:=(HQ6.out).fr 1;have ce_w6:=(HQ6.out).cell 1 rfl;have ge_w6:=(HGET.out).1;obtain⟨w8,hw8⟩:∃ x,w7.setCell ⟨q,2,none⟩ (.string ⟨X1.toArray⟩)=x:=⟨_,rfl⟩;have hq_w8:QS w8 q [.int .i64 (K0:Int),.string ⟨X0.toArray⟩,.string ⟨X1.toArray⟩,.string ⟨#[]⟩,.int .i64 (n:Int),.int .i64 (p:Int),.slice none 0 0,.slice none 0 0]:=(by rw[←hw8];exact(hq_w7).set 2 _);have ht_w8:Trn (only g) w w8:=by rw[←hw8];exact(ht_w7).newSet hqw _
    have hx_w8:RX w8 g (.slice (some ⟨b,o,none⟩) L.length cap) rv a4 e4 f4:=(hx_w7).same (by rw[←hw8];exact Below.heap_setCell _ _ _ _ (of_eq_false hgq1))
    have hg_w8:w8.cell? ⟨gw,0,none⟩=some (.string ⟨X0.toArray⟩)∧w8.cell? ⟨gw,1,none⟩=some (.string ⟨X1.toArray⟩)∧w8.cell? ⟨gw,2,none⟩=some (.string ⟨X2.toArray⟩):=by
     have kk:∀ i v,w7.cell? ⟨gw,i,none⟩=some v→w8.cell? ⟨gw,i,none⟩=some v:=fun i v hv=>(World.cell?_of_block (by rw[←hw8];exact Below.heap_setCell _ _ _ _ (of_eq_false hgwq1))).trans hv;have gg:=hg_w7;exact⟨kk _ _ gg.1,kk _ _ gg.2.1,kk _ _ gg.2.2⟩
    have fr_w7:=(hq_w7).fr 2;have ce_w7:=(hq_w7).cell 2 rfl;have ge_w7:=(hg_w7).2.1;obtain⟨w9,hw9⟩:∃ x,w8.setCell ⟨q,3,none⟩ (.string ⟨X2.toArray⟩)=x:=⟨_,rfl⟩;have hq_w9:QS w9 q [.int .i64 (K0:Int),.string ⟨X0.toArray⟩,.string ⟨X1.toArray⟩,.string ⟨X2.toArray⟩,.int .i64 (n:Int),.int .i64 (p:Int),.slice none 0 0,.slice none 0 0]:=(by rw[←hw9];exact(hq_w8).set 3 _);have ht_w9:Trn (only g) w w9:=by rw[←hw9];exact(ht_w8).newSet hqw _
    have hx_w9:RX w9 g (.slice (some ⟨b,o,none⟩) L.length cap) rv a4 e4 f4:=(hx_w8).same (by rw[←hw9];exact Below.heap_setCell _ _ _ _ (of_eq_false hgq1))
    have hg_w9:w9.cell? ⟨gw,0,none⟩=some (.string ⟨X0.toArray⟩)∧w9.cell? ⟨gw,1,none⟩=some (.string ⟨X1.toArray⟩)∧w9.cell? ⟨gw,2,none⟩=some (.string ⟨X2.toArray⟩):=by
     have kk:∀ i v,w8.cell? ⟨gw,i,none⟩=some v→w9.cell? ⟨gw,i,none⟩=some v:=fun i v hv=>(World.cell?_of_block (by rw[←hw9];exact Below.heap_setCell _ _ _ _ (of_eq_false hgwq1))).trans hv;have gg:=hg_w8;exact⟨kk _ _ gg.1,kk _ _ gg.2.1,kk _ _ gg.2.2⟩
    have fr_w8:=(hq_w8).fr 3;have ce_w8:=(hq_w8).cell 3 rfl;have ge_w8:=(hg_w8).2.2;have HQL:=yH hq_w9;have HTL:=yH ht_w9;have HXL:=yH hx_w9;clear hq_w7 ht_w7 hx_w7 hg_w7 hq_w8 ht_w8 hx_w8 hg_w8 hq_w9 ht_w9 hx_w9 hg_w9
    have hmk:stCells ⟨Ps.mk K0 p ws n [] [],.slice none 0 0,.slice none 0 0⟩=[.int .i64 (K0:Int),.string ⟨X0.toArray⟩,.string ⟨X1.toArray⟩,.string ⟨X2.toArray⟩,.int .i64 (n:Int),.int .i64 (p:Int),.slice none 0 0,.slice none 0 0]:=(by unfold Ps.mk;rw[if_neg h2,HX012.out.1,HX012.out.2.1,HX012.out.2.2];rfl);have HMK:=yH hmk;clear h2 hmk;go_upto_region 16 with fail
    rename_i K1 hK1 KK hKK
    refine(show ∀ ac wx,FRO ac g d K0 q→Trn (only g) w wx→RX wx g (.slice (some ⟨b,o,none⟩) L.length cap) rv a4 e4 f4→QS wx q (stCells ⟨Ps.mk K0 p ws n [] [],.slice none 0 0,.slice none 0 0⟩)→Code.wp _ _ _ ac wx from ?main) _ _ ?fr HTL.out HXL.out ?qs
    case fr=>exact FRO.of _ _ _ _ _ rfl
    case qs=>rw[HMK.out];exact HQL.out
    case main =>
     revert hKK;revert KK;revert hK1;revert K1;exact key.out
  case rest =>
   intro K1 hK1 KK hKK ac wx hfr ht hx hq;obtain⟨fr,rfl⟩:=hfr;obtain⟨S0,T0,U0,hcells⟩:=mk_cells K0 p n ws;rw[hcells] at hq;have hrs:=HH.out.turned ht hx HR4.out.al (Nat.le_trans (Nat.le_succ _) HAA4.out)
   have hlow:∀ k,(rv.ownBlock=some k ∨ ∃ c ∈ cs,c.l.ownBlock=some k∨c.m.ownBlock=some k)→k<w.heap.size:=fun k hk=>by
    rcases hk with hk|⟨c,hc,hk|hk⟩
    ·exact(HH.out.os.lt k hk).2
    ·exact((HH.out.os.l c hc).ap k hk).2.2
    ·exact((HH.out.os.m c hc).ap k hk).2.2
   have host:OST w wx B g b o cap q L rv rv cs cs a4 e4 f4 (.int .i64 (K0:Int)) (.string ⟨S0.toArray⟩) (.string ⟨T0.toArray⟩) (.string ⟨U0.toArray⟩) (.int .i64 (n:Int)) (.int .i64 (p:Int)) (.slice none 0 0) (.slice none 0 0) [] [] :=
    ⟨hrs,ht.more fun k hk=>.inl hk,Nw.refl _ _,NC.refl _ _,In.nil _ _ _,In.nil _ _ _,fun k hk=>by simp[Value.ownBlock] at hk,hq,fun e=>by have:=hlow q (.inl e);omega,fun c hc=>⟨fun e=>by have:=hlow q (.inr ⟨c,hc,.inl e⟩);omega,fun e=>by have:=hlow q (.inr ⟨c,hc,.inr e⟩);omega⟩,hqw,HH.out.sz⟩
   have HO0:=yH host;have HCE:=yH hcells;have r3:=hx.c3;have hcnt:cs.length+1+a≤cs.length+a4:=(by have:=HAA4.out;omega);have hlt4:a<a4:=(by have:=HAA4.out;omega);have HCN:=yH (⟨hcnt,hlt4⟩:_∧_);clear ht hx hq hrs hlow host hcells hcnt hlt4 HQ6 HX6 HT6 HGET HQ5 HX5 HT5 HX012 i0 i1 i2 j1 j2;refine' by_oneB (Exists.intro _ (And.intro (fun key=>?ways) ?rest))
   case ways =>
    by_cases h56:K0=5∨K0=6
    ·obtain⟨T1,hask,hcont⟩:=HL1.out.ask h56;have BC:=HIH.out hd HO0.out.rs hask;have HBC:=yH BC;have HCT:=yH hcont;clear hask hcont BC;by_cases n5:K0=5
     ·have c1:((K0:Int)==5)=true:=beq_iff_eq.2 (by omega);have c2:((K0:Int)=5)=True:=yT;have c3:(K0=5)=True:=eq_true n5;have N5:=yH n5;clear h56 n5;go_wp2_with fail
      refine HBC.out.mono ?_;rintro e w10 ⟨lo,lc,xs,rv5,cs5,a5,e5,f5,rfl,hr5,hin5,hnew5,ht5,hnw5,hnc5,haa5,hcnt5,hend5⟩;have hs10:=HO0.out.called hr5 ht5 hnw5 hnc5;have hnq:∀ k,(Value.slice lo xs.length lc).ownBlock=some k→q<k:=fun k hk=>Nat.lt_of_lt_of_le HO0.out.qs.lt (hnew5 k hk);obtain⟨w11,hw11⟩:∃ x,w10.setCell ⟨q,6,none⟩ (.slice lo xs.length lc)=x:=⟨_,rfl⟩;have hs11:=hs10.set6 hin5 hnq;rw[hw11] at hs11;have fr6:=hs10.qs.fr 6
      have ce6:=hs10.qs.cell 6 rfl;have r3b:=hs11.rs.rx.c3;have hcnt:cs5.length+1+a≤cs.length+a5:=(by have:=HCN.out.1;omega);have hlt5:a<a5:=(by have:=HCN.out.2;omega);have HS11:=yH hs11;have HCN5:=yH (⟨hcnt,hlt5⟩:_∧_);have HCT5:=yH (HCT.out e5 f5 xs _ _ hend5);clear hr5 hin5 hnew5 ht5 hnw5 hnc5 haa5 hcnt5 hend5 hs10 hnq hs11 hcnt hlt5 HBC HCT;have n5:=N5.out;by_cases he:e5=0
      ·have y1:((e5:Int)==0)=true:=beq_iff_eq.2 (by omega);have y2:((e5:Int)=0)=True:=yT;have y3:(e5=0)=True:=eq_true he;obtain⟨t5,htk5⟩:=HS11.out.rs.tok
       have hdt5:L.drop a5=t5 :: L.drop (a5+1):=by
        obtain⟨h1,h2⟩:=yE htk5;rw[←h2];exact List.drop_eq_getElem_cons h1
       have IS5:=ris_any 1 Ps.wElse HS11.out.rs t5 htk5;have helse:Ps.elseNext (L.drop a5)=(t5.kind==1 && t5.text==Ps.wElse):=(by rw[hdt5];rfl);rcases Bool.eq_false_or_eq_true (t5.kind==1 && t5.text==Ps.wElse) with hs|hs
       ·rw[hs] at helse IS5;obtain⟨T2,hask2,hlf2⟩:=HCT5.out.2 he n5 helse f5;have hk5:t5.kind=1:=(by simp at hs;exact hs.1);have hmore5:=HS11.out.rs.more htk5 (by omega);rw[hdt5] at hask2;have HASK2:=yH hask2;have HLF2:=yH hlf2;have HIS5:=yH IS5;have HMORE5:=yH hmore5;have he50:e5=0:=he;subst he50;clear he n5 HCT5 hask2 hlf2 hs helse hk5 hmore5 htk5 hdt5 IS5;go_wp2_with fail
        refine HIS5.out.mono ?_;rintro e w12 ⟨rfl,hb12⟩;have hs12:=HS11.out.small (HS11.out.rs.below hb12) (Trn.of_below hb12);obtain⟨w13,hw13⟩:∃ x,w12.setCell ⟨g,1,none⟩ (.int .i64 ((a5:Int)+1))=x:=⟨_,rfl⟩;have ht13:Trn (only g) w12 w13:=by rw[←hw13];exact Trn.setCell (F:=only g) (g:=g) (Trn.refl _ w12) rfl _
        have hr13:RS w13 B g b o cap L (a5+1) rv5 cs5 0 f5:=hs12.rs.turned ht13 (by rw[←hw13];exact hs12.rs.rx.set1 (a5+1)) HMORE5.out (Nat.le_succ _);have hs13:=hs12.small hr13 ht13;have r1c:=hs12.rs.rx.c1;have rfc:=hs12.rs.rx.fr 1;have ha401:a5≤401:=(by have:=hs12.rs.al;have:=hs12.rs.most;omega);have BC2:=HIH.out hd hr13 HASK2.out;have HBC2:=yH BC2;have HS13:=yH hs13;clear hb12 hs12 ht13 hr13 hs13 BC2;go_wp2_with fail
        refine HBC2.out.mono ?_;rintro e w14 ⟨mo,mc,ys,rv6,cs6,a6,e6,f6,rfl,hr6,hin6,hnew6,ht6,hnw6,hnc6,haa6,hcnt6,hend6⟩;have hs14:=HS13.out.called hr6 ht6 hnw6 hnc6;have hnq6:∀ k,(Value.slice mo ys.length mc).ownBlock=some k→q<k:=fun k hk=>Nat.lt_of_lt_of_le HS13.out.qs.lt (hnew6 k hk);obtain⟨w15,hw15⟩:∃ x,w14.setCell ⟨q,7,none⟩ (.slice mo ys.length mc)=x:=⟨_,rfl⟩;have hs15:=hs14.set7 hin6 hnq6;rw[hw15] at hs15;have fr7:=hs14.qs.fr 7
        have ce7:=hs14.qs.cell 7 rfl;have hcnt7:cs6.length+1+a≤cs.length+a6:=(by have:=HCN5.out.1;omega);have hlt7:a<a6:=(by have:=HCN5.out.2;omega);have HS15:=yH hs15;have HCN7:=yH (⟨hcnt7,hlt7⟩:_∧_);have HLF7:=yH (HLF2.out _ _ _ _ _ hend6);clear hr6 hin6 hnew6 ht6 hnw6 hnc6 haa6 hcnt6 hend6 hs14 hnq6 hs15 hcnt7 hlt7 HBC2;go_upto_region 22 with fail
        rename_i K22 hK22
        refine(show ∀ (rv':Value) (cs':List SA) (a' e' f':Nat) (xs ys:List Nat) (lo mo:Option Addr) (lc mc:Nat) ac wy,FRO ac g d K0 q→OST w wy B g b o cap q L rv rv' cs cs' a' e' f' (.int .i64 (K0:Int)) (.string ⟨S0.toArray⟩) (.string ⟨T0.toArray⟩) (.string ⟨U0.toArray⟩) (.int .i64 (n:Int)) (.int .i64 (p:Int)) (.slice lo xs.length lc) (.slice mo ys.length mc) xs ys→a<a'→cs'.length+1+a≤cs.length+a'→Ps.LF e' f' (Ps.mk K0 p ws n xs ys) (rowS cs') (L.drop a') TT→Code.wp _ _ _ ac wy from ?main) rv6 cs6 a6 e6 f6 xs ys lo mo lc mc _ _ ?fr HS15.out HCN7.out.2 HCN7.out.1 HLF7.out
        case fr=>exact FRO.of _ _ _ _ _ rfl
        case main =>
         revert hK22;revert K22;exact key.out
       ·rw[hs] at helse IS5;have HLF:=yH (HCT5.out.1 (fun h=>by have h3:=h.2.2;rw[helse] at h3;cases h3));have HIS5:=yH IS5;clear he n5 HCT5 hs helse htk5 hdt5 IS5;go_wp2_with fail
        refine HIS5.out.mono ?_;rintro e w12 ⟨rfl,hb12⟩;have HS12:=yH (HS11.out.small (HS11.out.rs.below hb12) (Trn.of_below hb12));clear hb12;go_upto_region 22 with fail
        rename_i K22 hK22
        refine(show ∀ (rv':Value) (cs':List SA) (a' e' f':Nat) (xs ys:List Nat) (lo mo:Option Addr) (lc mc:Nat) ac wy,FRO ac g d K0 q→OST w wy B g b o cap q L rv rv' cs cs' a' e' f' (.int .i64 (K0:Int)) (.string ⟨S0.toArray⟩) (.string ⟨T0.toArray⟩) (.string ⟨U0.toArray⟩) (.int .i64 (n:Int)) (.int .i64 (p:Int)) (.slice lo xs.length lc) (.slice mo ys.length mc) xs ys→a<a'→cs'.length+1+a≤cs.length+a'→Ps.LF e' f' (Ps.mk K0 p ws n xs ys) (rowS cs') (L.drop a') TT→Code.wp _ _ _ ac wy from ?main) rv5 cs5 a5 e5 f5 xs [] lo none lc 0 _ _ ?fr HS12.out HCN5.out.2 HCN5.out.1 HLF.out
        case fr=>exact FRO.of _ _ _ _ _ rfl
        case main =>
         revert hK22;revert K22;exact key.out
      ·have y1:((e5:Int)==0)=false:=yB;have y2:((e5:Int)=0)=False:=yF;have y3:(e5=0)=False:=eq_false he;have HLF:=yH (HCT5.out.1 (fun h=>he h.1));clear he HCT5 n5;go_upto_region 22 with fail
       rename_i K22 hK22
       refine(show ∀ (rv':Value) (cs':List SA) (a' e' f':Nat) (xs ys:List Nat) (lo mo:Option Addr) (lc mc:Nat) ac wy,FRO ac g d K0 q→OST w wy B g b o cap q L rv rv' cs cs' a' e' f' (.int .i64 (K0:Int)) (.string ⟨S0.toArray⟩) (.string ⟨T0.toArray⟩) (.string ⟨U0.toArray⟩) (.int .i64 (n:Int)) (.int .i64 (p:Int)) (.slice lo xs.length lc) (.slice mo ys.length mc) xs ys→a<a'→cs'.length+1+a≤cs.length+a'→Ps.LF e' f' (Ps.mk K0 p ws n xs ys) (rowS cs') (L.drop a') TT→Code.wp _ _ _ ac wy from ?main) rv5 cs5 a5 e5 f5 xs [] lo none lc 0 _ _ ?fr HS11.out HCN5.out.2 HCN5.out.1 HLF.out
       case fr=>exact FRO.of _ _ _ _ _ rfl
       case main =>
        revert hK22;revert K22;exact key.out
     ·have c1:((K0:Int)==5)=false:=yB;have c2:((K0:Int)=5)=False:=yF;have c3:(K0=5)=False:=eq_false n5;have c4:((K0:Int)==6)=true:=beq_iff_eq.2 (by omega);have c5:((K0:Int)=6)=True:=yT;have c6:(K0=6)=True:=yT;clear h56;go_wp2_with fail
      refine HBC.out.mono ?_;rintro e w10 ⟨lo,lc,xs,rv5,cs5,a5,e5,f5,rfl,hr5,hin5,hnew5,ht5,hnw5,hnc5,haa5,hcnt5,hend5⟩;have hs10:=HO0.out.called hr5 ht5 hnw5 hnc5;have hnq:∀ k,(Value.slice lo xs.length lc).ownBlock=some k→q<k:=fun k hk=>Nat.lt_of_lt_of_le HO0.out.qs.lt (hnew5 k hk);obtain⟨w11,hw11⟩:∃ x,w10.setCell ⟨q,6,none⟩ (.slice lo xs.length lc)=x:=⟨_,rfl⟩;have hs11:=hs10.set6 hin5 hnq;rw[hw11] at hs11;have fr6:=hs10.qs.fr 6
      have ce6:=hs10.qs.cell 6 rfl;have r3b:=hs11.rs.rx.c3;have hcnt:cs5.length+1+a≤cs.length+a5:=(by have:=HCN.out.1;omega);have hlt5:a<a5:=(by have:=HCN.out.2;omega);have HS11:=yH hs11;have HCN5:=yH (⟨hcnt,hlt5⟩:_∧_);have HCT5:=yH (HCT.out e5 f5 xs _ _ hend5);clear hr5 hin5 hnew5 ht5 hnw5 hnc5 haa5 hcnt5 hend5 hs10 hnq hs11 hcnt hlt5 HBC HCT;by_cases he:e5=0
      ·have y1:((e5:Int)==0)=true:=beq_iff_eq.2 (by omega);have y2:((e5:Int)=0)=True:=yT;have y3:(e5=0)=True:=eq_true he;have HLF:=yH (HCT5.out.1 (fun h=>by have:=h.2.1;omega));clear he HCT5 n5;go_upto_region 22 with fail
       rename_i K22 hK22
       refine(show ∀ (rv':Value) (cs':List SA) (a' e' f':Nat) (xs ys:List Nat) (lo mo:Option Addr) (lc mc:Nat) ac wy,FRO ac g d K0 q→OST w wy B g b o cap q L rv rv' cs cs' a' e' f' (.int .i64 (K0:Int)) (.string ⟨S0.toArray⟩) (.string ⟨T0.toArray⟩) (.string ⟨U0.toArray⟩) (.int .i64 (n:Int)) (.int .i64 (p:Int)) (.slice lo xs.length lc) (.slice mo ys.length mc) xs ys→a<a'→cs'.length+1+a≤cs.length+a'→Ps.LF e' f' (Ps.mk K0 p ws n xs ys) (rowS cs') (L.drop a') TT→Code.wp _ _ _ ac wy from ?main) rv5 cs5 a5 e5 f5 xs [] lo none lc 0 _ _ ?fr HS11.out HCN5.out.2 HCN5.out.1 HLF.out
       case fr=>exact FRO.of _ _ _ _ _ rfl
       case main =>
        revert hK22;revert K22;exact key.out
      ·have y1:((e5:Int)==0)=false:=yB;have y2:((e5:Int)=0)=False:=yF;have y3:(e5=0)=False:=eq_false he;have HLF:=yH (HCT5.out.1 (fun h=>he h.1));clear he HCT5 n5;go_upto_region 22 with fail
       rename_i K22 hK22
       refine(show ∀ (rv':Value) (cs':List SA) (a' e' f':Nat) (xs ys:List Nat) (lo mo:Option Addr) (lc mc:Nat) ac wy,FRO ac g d K0 q→OST w wy B g b o cap q L rv rv' cs cs' a' e' f' (.int .i64 (K0:Int)) (.string ⟨S0.toArray⟩) (.string ⟨T0.toArray⟩) (.string ⟨U0.toArray⟩) (.int .i64 (n:Int)) (.int .i64 (p:Int)) (.slice lo xs.length lc) (.slice mo ys.length mc) xs ys→a<a'→cs'.length+1+a≤cs.length+a'→Ps.LF e' f' (Ps.mk K0 p ws n xs ys) (rowS cs') (L.drop a') TT→Code.wp _ _ _ ac wy from ?main) rv5 cs5 a5 e5 f5 xs [] lo none lc 0 _ _ ?fr HS11.out HCN5.out.2 HCN5.out.1 HLF.out
       case fr=>exact FRO.of _ _ _ _ _ rfl
       case main =>
        revert hK22;revert K22;exact key.out
    ·have c1:((K0:Int)==5)=false:=yB;have c2:((K0:Int)=5)=False:=yF;have c3:(K0=5)=False:=yF;have c4:((K0:Int)==6)=false:=yB;have c5:((K0:Int)=6)=False:=yF;have c6:(K0=6)=False:=yF;have HLF:=yH (HL1.out.plain h56);clear h56;by_cases he:e4=0
     ·have y1:((e4:Int)==0)=true:=beq_iff_eq.2 (by omega);have y2:((e4:Int)=0)=True:=yT;have y3:(e4=0)=True:=eq_true he;clear he;go_upto_region 22 with fail
      rename_i K22 hK22
      refine(show ∀ (rv':Value) (cs':List SA) (a' e' f':Nat) (xs ys:List Nat) (lo mo:Option Addr) (lc mc:Nat) ac wy,FRO ac g d K0 q→OST w wy B g b o cap q L rv rv' cs cs' a' e' f' (.int .i64 (K0:Int)) (.string ⟨S0.toArray⟩) (.string ⟨T0.toArray⟩) (.string ⟨U0.toArray⟩) (.int .i64 (n:Int)) (.int .i64 (p:Int)) (.slice lo xs.length lc) (.slice mo ys.length mc) xs ys→a<a'→cs'.length+1+a≤cs.length+a'→Ps.LF e' f' (Ps.mk K0 p ws n xs ys) (rowS cs') (L.drop a') TT→Code.wp _ _ _ ac wy from ?main) rv cs a4 e4 f4 [] [] none none 0 0 _ _ ?fr HO0.out HCN.out.2 HCN.out.1 HLF.out
      case fr=>exact FRO.of _ _ _ _ _ rfl
      case main =>
       revert hK22;revert K22;exact key.out
     ·have y1:((e4:Int)==0)=false:=yB;have y2:((e4:Int)=0)=False:=yF;have y3:(e4=0)=False:=eq_false he;clear he;go_upto_region 22 with fail
      rename_i K22 hK22
      refine(show ∀ (rv':Value) (cs':List SA) (a' e' f':Nat) (xs ys:List Nat) (lo mo:Option Addr) (lc mc:Nat) ac wy,FRO ac g d K0 q→OST w wy B g b o cap q L rv rv' cs cs' a' e' f' (.int .i64 (K0:Int)) (.string ⟨S0.toArray⟩) (.string ⟨T0.toArray⟩) (.string ⟨U0.toArray⟩) (.int .i64 (n:Int)) (.int .i64 (p:Int)) (.slice lo xs.length lc) (.slice mo ys.length mc) xs ys→a<a'→cs'.length+1+a≤cs.length+a'→Ps.LF e' f' (Ps.mk K0 p ws n xs ys) (rowS cs') (L.drop a') TT→Code.wp _ _ _ ac wy from ?main) rv cs a4 e4 f4 [] [] none none 0 0 _ _ ?fr HO0.out HCN.out.2 HCN.out.1 HLF.out
      case fr=>exact FRO.of _ _ _ _ _ rfl
      case main =>
       revert hK22;revert K22;exact key.out
   case rest =>
    intro K22 hK22 rv' cs' a' e' f' xs ys lo mo lc mc ac wy hfr hst hlt hcnt hlf;obtain⟨fr2,rfl⟩:=hfr;obtain⟨ro,rc,hform,_⟩:=hst.rs.os.form;subst hform;have hD:Below wy.heap.size wy wy.drew:=⟨rfl,rfl,rfl,yR,fun _ _=>rfl⟩;have hrD:=hst.rs.below hD;have hqD:QS wy.drew q _:=hst.qs
    have hs0:wy.drew.cell? ⟨q,0,none⟩=some (.int .i64 (K0:Int))∧wy.drew.cell? ⟨q,1,none⟩=some (.string ⟨S0.toArray⟩)∧wy.drew.cell? ⟨q,2,none⟩=some (.string ⟨T0.toArray⟩)∧wy.drew.cell? ⟨q,3,none⟩=some (.string ⟨U0.toArray⟩)∧wy.drew.cell? ⟨q,4,none⟩=some (.int .i64 (n:Int))∧wy.drew.cell? ⟨q,5,none⟩=some (.int .i64 (p:Int))∧wy.drew.cell? ⟨q,6,none⟩=some (.slice lo xs.length lc)∧wy.drew.cell? ⟨q,7,none⟩=some (.slice mo ys.length mc):=⟨(hst.qs).cell 0 rfl,(hst.qs).cell 1 rfl,(hst.qs).cell 2 rfl,(hst.qs).cell 3 rfl,(hst.qs).cell 4 rfl,(hst.qs).cell 5 rfl,(hst.qs).cell 6 rfl,(hst.qs).cell 7 rfl⟩
    have hE:stCells ⟨Ps.mk K0 p ws n xs ys,.slice lo xs.length lc,.slice mo ys.length mc⟩=[.int .i64 (K0:Int),.string ⟨S0.toArray⟩,.string ⟨T0.toArray⟩,.string ⟨U0.toArray⟩,.int .i64 (n:Int),.int .i64 (p:Int),.slice lo xs.length lc,.slice mo ys.length mc]:=HCE.out xs ys _ _;obtain⟨wd,hwd⟩:∃ wd,wy.drew=wd:=⟨_,rfl⟩;rw[hwd] at hD hrD hqD hs0
    obtain⟨wa,hwa⟩:∃ wa,wd.alloc (.cells #[.int .i64 (K0:Int),.string ⟨S0.toArray⟩,.string ⟨T0.toArray⟩,.string ⟨U0.toArray⟩,.int .i64 (n:Int),.int .i64 (p:Int),.slice lo xs.length lc,.slice mo ys.length mc] 41)=wa:=⟨_,rfl⟩;have hba:Below wd.heap.size wd wa:=(by rw[←hwa];exact yA);have hbya:Below wy.heap.size wy wa:=hD.trans (hba.mono hD.size)
    have hna:wa.heap[wd.heap.size]?=some (.cells (stCells ⟨Ps.mk K0 p ws n xs ys,.slice lo xs.length lc,.slice mo ys.length mc⟩).toArray 41 (0,0)):=(by rw[hE,←hwa];exact heap_alloc_new _ _);have hra:=hst.rs.below hbya;have hqa:QS wa q _:=hst.qs.same (hbya.block q hst.qs.lt)
    have hsA:wa.cell? ⟨q,0,none⟩=some (.int .i64 (K0:Int))∧wa.cell? ⟨q,1,none⟩=some (.string ⟨S0.toArray⟩)∧wa.cell? ⟨q,2,none⟩=some (.string ⟨T0.toArray⟩)∧wa.cell? ⟨q,3,none⟩=some (.string ⟨U0.toArray⟩)∧wa.cell? ⟨q,4,none⟩=some (.int .i64 (n:Int))∧wa.cell? ⟨q,5,none⟩=some (.int .i64 (p:Int))∧wa.cell? ⟨q,6,none⟩=some (.slice lo xs.length lc)∧wa.cell? ⟨q,7,none⟩=some (.slice mo ys.length mc):=⟨(hqa).cell 0 rfl,(hqa).cell 1 rfl,(hqa).cell 2 rfl,(hqa).cell 3 rfl,(hqa).cell 4 rfl,(hqa).cell 5 rfl,(hqa).cell 6 rfl,(hqa).cell 7 rfl⟩
    have hil:In wa B (.slice ro cs'.length rc) (.slice lo xs.length lc) xs:=hst.il.below hbya;have him:In wa B (.slice ro cs'.length rc) (.slice mo ys.length mc) ys:=hst.im.below hbya;have e2:=hrD.rx.c2;have e2a:=hra.rx.c2;have hmk:=Ps.mk_kind K0 p ws n xs ys
    have hfin:(∀ w3,Trn (rdF g (.slice ro cs'.length rc)) wa w3→Trn (rdF g rv) w w3)∧(∀ g2 c2,(Value.slice ro cs'.length rc).ownBlock=some g2∨g2=wa.heap.size→Nw rv (.slice (some ⟨g2,0,none⟩) (cs'.length+1) c2) w.heap.size)∧NC cs (cs'++[⟨Ps.mk K0 p ws n xs ys,.slice lo xs.length lc,.slice mo ys.length mc⟩]) w.heap.size∧a≤a'∧(e'=0→a<a')∧(cs'++[(⟨Ps.mk K0 p ws n xs ys,.slice lo xs.length lc,.slice mo ys.length mc⟩:SA)]).length+a≤cs.length+a'∧Ps.OEnd e' f' cs'.length (rowS (cs'++[⟨Ps.mk K0 p ws n xs ys,.slice lo xs.length lc,.slice mo ys.length mc⟩])) (L.drop a') TT:=by
     refine⟨fun w3 h3=>rdF_trans (hst.trn.then (Trn.of_below hbya)) hst.nw h3,fun g2 c2 h2 k hk=>?_,fun c hc=>?_,Nat.le_of_lt hlt,fun _=>hlt,by rw[List.length_append];exact hcnt,?_⟩
     ·have hk2:g2=k:=(by simpa [Value.ownBlock] using hk);rcases h2 with h2|h2
      ·exact hst.nw k (by rw[←hk2];exact h2)
      ·exact .inr (by have:=hst.trn.size;have:=hbya.size;omega)
     ·rcases List.mem_append.1 hc with hc|hc
      ·exact hst.nc c hc
      ·rw[List.mem_singleton.1 hc];exact .inr (fun k hk=>Nat.le_trans hst.qw (Nat.le_of_lt (hst.nb k hk)))
     ·have:=hlf.fin;rw[show (rowS cs').length=cs'.length by simp[rowS]] at this;rw[show rowS (cs'++[⟨Ps.mk K0 p ws n xs ys,.slice lo xs.length lc,.slice mo ys.length mc⟩])=rowS cs'++[Ps.mk K0 p ws n xs ys] by simp[rowS]];exact this
    have HFIN:=yH hfin;have HOS:=yH hra.os;have HRA:=yH hra;have HNA:=yH hna;have HIL:=yH (show In wa B (.slice ro cs'.length rc) (.slice lo xs.length lc) (Ps.mk K0 p ws n xs ys).l by rw[hmk.2.1];exact hil);have HIM:=yH (show In wa B (.slice ro cs'.length rc) (.slice mo ys.length mc) (Ps.mk K0 p ws n xs ys).m by rw[hmk.2.2];exact him);have hf1:cs'.length+1≤a':=(by have:=HH.out.few;omega);have HF1:=yH hf1
    have HCB:=yH (show cs'.length≤1048576 by have:=hst.rs.al;have:=hst.rs.most;omega);have HBA:=yH hra.sz;have HQA:=yH hqa;have HSA:=yH hsA;have HFQ:=yH hst.farr;have HQG:=yH (show (q=g)=False from eq_false (fun e=>by have:=hst.rs.gB;have:=hst.qw;have:=hst.bw;omega));have hCb:cs'.length≤401:=by have:=hst.rs.al;have:=hst.rs.most;omega
    clear hst hlt hcnt hlf hD hrD hqD hE hba hbya hna hra hqa hsA hil him hmk hfin hf1 r3
    refine wp_region_held_drew (S:=fun w'=>w'.cell? ⟨q,0,none⟩=some (.int .i64 (K0:Int))∧w'.cell? ⟨q,1,none⟩=some (.string ⟨S0.toArray⟩)∧w'.cell? ⟨q,2,none⟩=some (.string ⟨T0.toArray⟩)∧w'.cell? ⟨q,3,none⟩=some (.string ⟨U0.toArray⟩)∧w'.cell? ⟨q,4,none⟩=some (.int .i64 (n:Int))∧w'.cell? ⟨q,5,none⟩=some (.int .i64 (p:Int))∧w'.cell? ⟨q,6,none⟩=some (.slice lo xs.length lc)∧w'.cell? ⟨q,7,none⟩=some (.slice mo ys.length mc)) (by kernel_rfl) (by rw[hwd];exact hs0) (fun hH=>?_)
    rw[hwd];refine heldT (i:=0) ?_;refine heldT (i:=1) ?_;refine heldT (i:=2) ?_;refine heldT (i:=3) ?_;refine heldT (i:=5) ?_;refine heldTwo (i:=4) (j:=6) rfl rfl (by kernel_rfl) (by rfl) (by rfl) (fun K hK=>?_) (fun K hK=>?_)
    ·go_simp;refine hK.out _ _ (by assumption) ?_;clear hK K;(try simp only[Act.put,zLa,zLb,zLc]);refine heldNext (i:=6) rfl (by kernel_rfl) (by rfl) (fun K hK=>?_);go_simp;refine hK.out _ _ HSA.out ?_;clear hK K;(try simp only[Act.put,zLa,zLb,zLc]);refine heldNext (i:=7) rfl (by kernel_rfl) (by rfl) (fun K hK=>?_)
     refine append_stR ⟨Ps.mk K0 p ws n xs ys,.slice lo xs.length lc,.slice mo ys.length mc⟩ (.tmp 105) (.tmp 107) (by rfl) (by rfl) HOS.out (by rfl) HNA.out HIL.out HIM.out HCB.out HBA.out (fun g2 c2 w2 ho hg hgg=>?_);obtain⟨hx2,hr3,ht3⟩:=HRA.out.put ho hg HF1.out;have hq2:QS w2 q _:=HQA.out.same (hg.block q HQA.out.lt (fun e=>HFQ.out e.symm));have f2:=hx2.c2;have ff:=hx2.fr 2
     have hs2:w2.cell? ⟨q,0,none⟩=some (.int .i64 (K0:Int))∧w2.cell? ⟨q,1,none⟩=some (.string ⟨S0.toArray⟩)∧w2.cell? ⟨q,2,none⟩=some (.string ⟨T0.toArray⟩)∧w2.cell? ⟨q,3,none⟩=some (.string ⟨U0.toArray⟩)∧w2.cell? ⟨q,4,none⟩=some (.int .i64 (n:Int))∧w2.cell? ⟨q,5,none⟩=some (.int .i64 (p:Int))∧w2.cell? ⟨q,6,none⟩=some (.slice lo xs.length lc)∧w2.cell? ⟨q,7,none⟩=some (.slice mo ys.length mc):=⟨(hq2).cell 0 rfl,(hq2).cell 1 rfl,(hq2).cell 2 rfl,(hq2).cell 3 rfl,(hq2).cell 4 rfl,(hq2).cell 5 rfl,(hq2).cell 6 rfl,(hq2).cell 7 rfl⟩
     obtain⟨w3,hw3⟩:∃ w3,w2.setCell ⟨g,2,none⟩ (.slice (some ⟨g2,0,none⟩) (cs'.length+1) c2)=w3:=⟨_,rfl⟩;rw[hw3] at hr3 ht3;have hq3:QS w3 q _:=hq2.same (by rw[←hw3];exact Below.heap_setCell _ _ _ _ (of_eq_false HQG.out))
     have hs3:w3.cell? ⟨q,0,none⟩=some (.int .i64 (K0:Int))∧w3.cell? ⟨q,1,none⟩=some (.string ⟨S0.toArray⟩)∧w3.cell? ⟨q,2,none⟩=some (.string ⟨T0.toArray⟩)∧w3.cell? ⟨q,3,none⟩=some (.string ⟨U0.toArray⟩)∧w3.cell? ⟨q,4,none⟩=some (.int .i64 (n:Int))∧w3.cell? ⟨q,5,none⟩=some (.int .i64 (p:Int))∧w3.cell? ⟨q,6,none⟩=some (.slice lo xs.length lc)∧w3.cell? ⟨q,7,none⟩=some (.slice mo ys.length mc):=⟨(hq3).cell 0 rfl,(hq3).cell 1 rfl,(hq3).cell 2 rfl,(hq3).cell 3 rfl,(hq3).cell 4 rfl,(hq3).cell 5 rfl,(hq3).cell 6 rfl,(hq3).cell 7 rfl⟩
     clear hq2 hq3;refine hK.out _ _ hs2 ?_;clear hK K;(try simp only[Act.put,zLa,zLb,zLc]);refine heldT (i:=8) ?_;refine heldT (i:=9) ?_;refine heldNext (i:=10) rfl (by kernel_rfl) (by rfl) (fun K hK=>?_);go_simp;refine hK.out _ _ hs3 ?_;clear hK K;(try simp only[Act.put,zLa,zLb,zLc]);refine wpAnyH_done (by kernel_rfl) ?_ _;have h3c:=hr3.rx.c2;have HR3:=yH hr3;have HT3:=yH ht3;have HO3:=yH (⟨ho,hg,hgg⟩:_∧_∧_)
     clear hr3 ht3 ho hg hgg hx2 hs2 hs3 hw3;go_wp2;go_ret;exact⟨cs'.length,_,cs'++[⟨Ps.mk K0 p ws n xs ys,.slice lo xs.length lc,.slice mo ys.length mc⟩],a',e',f',by first|rfl|(congr 2;omega),HR3.out,HFIN.out.1 _ HT3.out,HFIN.out.2.1 _ _ HO3.out.2.2,HFIN.out.2.2.1,HFIN.out.2.2.2.1,HFIN.out.2.2.2.2.1,HFIN.out.2.2.2.2.2.1,HFIN.out.2.2.2.2.2.2⟩
    ·go_simp;refine hK.out _ _ HSA.out ?_;clear hK K;(try simp only[Act.put,zLa,zLb,zLc]);refine heldNext (i:=4) rfl (by kernel_rfl) (by rfl) (fun K hK=>?_);go_simp;refine hK.out _ _ (by assumption) ?_;clear hK K;(try simp only[Act.put,zLa,zLb,zLc]);refine heldNext (i:=7) rfl (by kernel_rfl) (by rfl) (fun K hK=>?_)
     refine append_stR ⟨Ps.mk K0 p ws n xs ys,.slice lo xs.length lc,.slice mo ys.length mc⟩ (.tmp 105) (.tmp 107) (by rfl) (by rfl) HOS.out (by rfl) HNA.out HIL.out HIM.out HCB.out HBA.out (fun g2 c2 w2 ho hg hgg=>?_);obtain⟨hx2,hr3,ht3⟩:=HRA.out.put ho hg HF1.out;have hq2:QS w2 q _:=HQA.out.same (hg.block q HQA.out.lt (fun e=>HFQ.out e.symm));have f2:=hx2.c2;have ff:=hx2.fr 2
     have hs2:w2.cell? ⟨q,0,none⟩=some (.int .i64 (K0:Int))∧w2.cell? ⟨q,1,none⟩=some (.string ⟨S0.toArray⟩)∧w2.cell? ⟨q,2,none⟩=some (.string ⟨T0.toArray⟩)∧w2.cell? ⟨q,3,none⟩=some (.string ⟨U0.toArray⟩)∧w2.cell? ⟨q,4,none⟩=some (.int .i64 (n:Int))∧w2.cell? ⟨q,5,none⟩=some (.int .i64 (p:Int))∧w2.cell? ⟨q,6,none⟩=some (.slice lo xs.length lc)∧w2.cell? ⟨q,7,none⟩=some (.slice mo ys.length mc):=⟨(hq2).cell 0 rfl,(hq2).cell 1 rfl,(hq2).cell 2 rfl,(hq2).cell 3 rfl,(hq2).cell 4 rfl,(hq2).cell 5 rfl,(hq2).cell 6 rfl,(hq2).cell 7 rfl⟩
     obtain⟨w3,hw3⟩:∃ w3,w2.setCell ⟨g,2,none⟩ (.slice (some ⟨g2,0,none⟩) (cs'.length+1) c2)=w3:=⟨_,rfl⟩;rw[hw3] at hr3 ht3;have hq3:QS w3 q _:=hq2.same (by rw[←hw3];exact Below.heap_setCell _ _ _ _ (of_eq_false HQG.out))
     have hs3:w3.cell? ⟨q,0,none⟩=some (.int .i64 (K0:Int))∧w3.cell? ⟨q,1,none⟩=some (.string ⟨S0.toArray⟩)∧w3.cell? ⟨q,2,none⟩=some (.string ⟨T0.toArray⟩)∧w3.cell? ⟨q,3,none⟩=some (.string ⟨U0.toArray⟩)∧w3.cell? ⟨q,4,none⟩=some (.int .i64 (n:Int))∧w3.cell? ⟨q,5,none⟩=some (.int .i64 (p:Int))∧w3.cell? ⟨q,6,none⟩=some (.slice lo xs.length lc)∧w3.cell? ⟨q,7,none⟩=some (.slice mo ys.length mc):=⟨(hq3).cell 0 rfl,(hq3).cell 1 rfl,(hq3).cell 2 rfl,(hq3).cell 3 rfl,(hq3).cell 4 rfl,(hq3).cell 5 rfl,(hq3).cell 6 rfl,(hq3).cell 7 rfl⟩
     clear hq2 hq3;refine hK.out _ _ hs2 ?_;clear hK K;(try simp only[Act.put,zLa,zLb,zLc]);refine heldT (i:=8) ?_;refine heldT (i:=9) ?_;refine heldNext (i:=10) rfl (by kernel_rfl) (by rfl) (fun K hK=>?_);go_simp;refine hK.out _ _ hs3 ?_;clear hK K;(try simp only[Act.put,zLa,zLb,zLc]);refine wpAnyH_done (by kernel_rfl) ?_ _;have h3c:=hr3.rx.c2;have HR3:=yH hr3;have HT3:=yH ht3;have HO3:=yH (⟨ho,hg,hgg⟩:_∧_∧_)
     clear hr3 ht3 ho hg hgg hx2 hs2 hs3 hw3;go_wp2;go_ret;exact⟨cs'.length,_,cs'++[⟨Ps.mk K0 p ws n xs ys,.slice lo xs.length lc,.slice mo ys.length mc⟩],a',e',f',by first|rfl|(congr 2;omega),HR3.out,HFIN.out.1 _ HT3.out,HFIN.out.2.1 _ _ HO3.out.2.2,HFIN.out.2.2.1,HFIN.out.2.2.2.1,HFIN.out.2.2.2.2.1,HFIN.out.2.2.2.2.2.1,HFIN.out.2.2.2.2.2.2⟩
 ·have hK00:K0=0:=by
   rw[←HK0.out];split
   ·next h1=>exact Classical.byContradiction fun h2=>hk ⟨h1,h2⟩
   ·rfl
  subst hK00;have FA:=rfail_u 20 HR2.out _ HT.out;have HKN:=yH hk;clear hk HSA hH hs0;go_wp2_with fail
  refine FA.mono ?_;rintro e w3 ⟨e3,f3,rfl,hr3,ht3,hfu⟩
  have hfin:e3=20∧f3=p:=by
   rcases hfu with ⟨_,h2,h3⟩|⟨h1,_⟩
   ·exact⟨h2,h3⟩
   ·exact absurd rfl h1
  obtain⟨rfl,rfl⟩:=hfin;have HR3:=yH hr3;have HT3:=yH ht3;clear hr3 ht3 hfu FA;go_wp2;go_ret;exact⟨0,rv,cs,a,20,f3,rfl,HR3.out,((Trn.of_below HB2.out).then HT3.out).more (fun k hk=>.inl hk),Nw.refl _ _,NC.refl _ _,yR,(fun h=>absurd h (by decide)),yR,.inr ⟨by decide,by rw[←HTT.out];exact Ps.one_no HKN.out⟩⟩
theorem bothC:∀ F,BlockC F∧OneC F:=fun F=>Nat.strongRecOn F fun F ih=>⟨block_of F (fun F' h=>(ih F' h).2),one_of F (fun F' h=>(ih F' h).1)⟩
theorem oneC (F:Nat):OneC F:=(bothC F).2
abbrev FRA (ac:Act) (q0 g q:Nat):Prop:=∃ f:Nat→Value,ac = { tmps:=#[f 0,f 1,.pointer (some ⟨q0,0,none⟩),f 3,f 4,f 5,f 6,f 7,.pointer (some ⟨g,0,none⟩),f 9,.pointer (some ⟨q,0,none⟩),f 11,f 12,f 13,f 14,f 15,f 16,f 17,f 18,f 19,f 20,f 21,f 22,f 23,f 24,f 25,f 26,f 27,f 28,f 29,f 30,f 31,f 32,f 33,f 34,f 35,f 36,f 37,f 38,f 39,f 40,f 41,f 42,f 43,f 44,f 45,f 46,f 47,f 48,f 49,f 50,f 51,f 52,f 53,f 54,f 55,f 56,f 57,f 58,f 59,f 60,f 61,f 62,f 63,f 64,f 65,f 66,f 67,f 68,f 69,f 70,f 71,f 72,f 73,f 74,f 75,f 76,f 77,f 78,f 79,f 80,f 81,f 82,f 83,f 84,f 85,f 86,f 87,f 88,f 89,f 90,f 91,f 92,f 93,f 94,f 95,f 96,f 97,f 98,f 99,f 100,f 101,f 102,f 103,f 104,f 105,f 106,f 107,f 108,f 109,f 110,f 111,f 112,f 113,f 114,f 115,f 116,f 117,f 118,f 119,f 120,f 121,f 122,f 123,f 124,f 125,f 126,f 127],defers:=[] }
theorem FRA.of (a:Act) (q0 g q:Nat) (h:a = { tmps:=#[yG a 0,yG a 1,.pointer (some ⟨q0,0,none⟩),yG a 3,yG a 4,yG a 5,yG a 6,yG a 7,.pointer (some ⟨g,0,none⟩),yG a 9,.pointer (some ⟨q,0,none⟩),yG a 11,yG a 12,yG a 13,yG a 14,yG a 15,yG a 16,yG a 17,yG a 18,yG a 19,yG a 20,yG a 21,yG a 22,yG a 23,yG a 24,yG a 25,yG a 26,yG a 27,yG a 28,yG a 29,yG a 30,yG a 31,yG a 32,yG a 33,yG a 34,yG a 35,yG a 36,yG a 37,yG a 38,yG a 39,yG a 40,yG a 41,yG a 42,yG a 43,yG a 44,yG a 45,yG a 46,yG a 47,yG a 48,yG a 49,yG a 50,yG a 51,yG a 52,yG a 53,yG a 54,yG a 55,yG a 56,yG a 57,yG a 58,yG a 59,yG a 60,yG a 61,yG a 62,yG a 63,yG a 64,yG a 65,yG a 66,yG a 67,yG a 68,yG a 69,yG a 70,yG a 71,yG a 72,yG a 73,yG a 74,yG a 75,yG a 76,yG a 77,yG a 78,yG a 79,yG a 80,yG a 81,yG a 82,yG a 83,yG a 84,yG a 85,yG a 86,yG a 87,yG a 88,yG a 89,yG a 90,yG a 91,yG a 92,yG a 93,yG a 94,yG a 95,yG a 96,yG a 97,yG a 98,yG a 99,yG a 100,yG a 101,yG a 102,yG a 103,yG a 104,yG a 105,yG a 106,yG a 107,yG a 108,yG a 109,yG a 110,yG a 111,yG a 112,yG a 113,yG a 114,yG a 115,yG a 116,yG a 117,yG a 118,yG a 119,yG a 120,yG a 121,yG a 122,yG a 123,yG a 124,yG a 125,yG a 126,yG a 127],defers:=[] }):FRA a q0 g q:=⟨fun i=>a.tmps.getD i undef,h⟩
namespace Ps
open Lx (Tok)
def HLink (md e f:Nat) (ts:List Tok) (T:PRes):Prop:=(e=0 ∧ ∃ t1 t2 r,ts=t1 :: t2 :: r∧t1.kind=1∧(isSign 59 t2=true → ∀ f,TLink (fuel r.length) md 0 f [] [] r T)∧(isSign 59 t2=false→T = .error (t2.place,20)))∨(e≠0∧T = .error (f,e))
def SLk (md e f:Nat) (ts:List Tok) (T:PRes):Prop:=(e=0 ∧ ∃ t2 r,ts=t2 :: r∧(isSign 59 t2=true → ∀ f,TLink (fuel r.length) md 0 f [] [] r T)∧(isSign 59 t2=false→T = .error (t2.place,20)))∨(e≠0∧T = .error (f,e))
theorem drop_at {L:List Tok} {a:Nat} {t:Tok} (ht:L[a]?=some t):L.drop a=t :: L.drop (a+1):=by
 obtain⟨h1,rfl⟩:=yE ht;exact List.drop_eq_getElem_cons h1
theorem hl_no {L:List Tok} {t0 t1:Tok} {TT:PRes} (h0:L.drop 0=t0 :: L.drop 1) (ht:L[1]?=some t1) (hn:isName wMode t0=true) (hT:prog L=TT) (h:¬ (t1.kind=1∧mode t1.text≠0)):TT = .error (t1.place,20):=by
 rw[←hT,←List.drop_zero (l:=L),h0,drop_at ht];exact prog_no1 hn h
theorem hl_yes {L:List Tok} {t0 t1:Tok} {TT:PRes} (h0:L.drop 0=t0 :: L.drop 1) (ht:L[1]?=some t1) (hn:isName wMode t0=true) (hT:prog L=TT) (h:t1.kind=1∧mode t1.text≠0) (hl:2<L.length) (f:Nat):HLink (mode t1.text) 0 f (L.drop 1) TT:=by
 have e2:=List.drop_eq_getElem_cons hl;have e1:=drop_at ht;rw[e2] at e1;refine .inl ⟨rfl,t1,L[2],L.drop 3,e1,h.1,fun hs f=>?_,fun hs=>?_⟩
 ·rw[←hT];have:=prog_yes (t0:=t0) (t1:=t1) (t2:=L[2]) (r:=L.drop 3) hn h hs f;rw[←e1,←h0,List.drop_zero] at this;exact this
 ·rw[←hT];have:=prog_no2 (t0:=t0) (t1:=t1) (t2:=L[2]) (r:=L.drop 3) hn h hs;rw[←e1,←h0,List.drop_zero] at this;exact this
end Ps
theorem hl_take {md e f a a' e' f':Nat} {x:List UInt8} {L:List Lx.Tok} {t:Lx.Tok} {T:Ps.PRes} (h:Ps.HLink md e f (L.drop a) T) (ht:L[a]?=some t) (hu:TKU e f 1 a t x a' e' f'):Ps.SLk md e' f' (L.drop a') T:=by
 rcases h with ⟨h0,t1,t2,r,e1,hk,h1,h2⟩|⟨h0,h1⟩
 ·rw[Ps.drop_at ht] at e1;injection e1 with e1 e2
  subst e1;rcases hu with ⟨_,_,_,h3,h4⟩|⟨_,h3,_⟩|⟨h3,_⟩
  ·rw[h3];exact .inl ⟨h4,t2,r,e2,h1,h2⟩
  ·exact absurd hk h3
  ·exact absurd h0 h3
 ·rcases hu with ⟨h3,_⟩|⟨h3,_⟩|⟨_,_,_,h3,h4⟩
  ·exact absurd h3 h0
  ·exact absurd h3 h0
  ·rw[h3,h4];exact .inr ⟨h0,h1⟩
theorem sl_sign {md e f a a' e' f':Nat} {L:List Lx.Tok} {t:Lx.Tok} {T:Ps.PRes} (h:Ps.SLk md e f (L.drop a) T) (ht:L[a]?=some t) (hu:SGU e f [59] a t a' e' f'):∃ F,Ps.TLink F md e' f' [] [] (L.drop a') T:=by
 rcases h with ⟨h0,t2,r,e1,h1,h2⟩|⟨h0,h1⟩
 ·rw[Ps.drop_at ht] at e1;injection e1 with e1 e2
  subst e1;rcases hu with ⟨_,h3,h4,h5⟩|⟨_,h3,h4,h5,h6⟩|⟨h3,_⟩
  ·rw[h4,h5,e2];exact⟨_,h1 h3 f'⟩
  ·rw[h5,h6];exact⟨0,.inr ⟨by decide,h2 h3⟩⟩
  ·exact absurd h0 h3
 ·rcases hu with ⟨h3,_⟩|⟨h3,_⟩|⟨_,_,h3,h4⟩
  ·exact absurd h3 h0
  ·exact absurd h3 h0
  ·rw[h3,h4];exact⟨0,.inr ⟨h0,h1⟩⟩
theorem H3.same {w w':World} {q:Nat} {vs:List Value} (h:H3 w q vs) (hw:w'.heap[q]?=w.heap[q]?):H3 w' q vs:=hw.trans h
theorem H3.set1 {w:World} {q:Nat} {vs:List Value} (h:H3 w q vs) (i:Nat) (u:Value):H3 (w.setCell ⟨q,i,none⟩ u) q (vs.set i u):=by
 unfold H3 at *;rw[setCell_row h,List.setIfInBounds_toArray]
theorem RS.start {w w3:World} {b o cap g B:Nat} {ts:List Lx.Tok} (htr:TR w b (.slice (some ⟨b,o,none⟩) ts.length cap) ts) (hw:w.alloc (.cells #[.slice (some ⟨b,o,none⟩) ts.length cap,.int .i64 0,.slice none 0 0,.int .i64 0,.int .i64 0] 60)=w3) (he:Ps.Ends ts) (hn:0<ts.length) (hm:ts.length≤401) (hg:w.heap.size=g) (hB:g+1=B) (hb:b<g):RS w3 B g b o cap ts 0 (.slice none 0 0) [] 0 0:=by
 have hb3:Below w.heap.size w w3:=(by rw[←hw];exact yA);refine⟨by rw[←hw,←hg];exact heap_alloc_new _ _,htr.below hb3,⟨World.ownsRow_nil _ _ _ _,fun c hc=>(by cases hc),fun c hc=>(by cases hc)⟩,he,hn,by omega,by omega,by omega,by rw[←hw];simp;omega,yR,hm⟩
theorem RS.past {w w':World} {B g b o cap a e f q:Nat} {L:List Lx.Tok} {rv:Value} {cs:List SA} (h:RS w B g b o cap L a rv cs e f) (ht:Trn (fun k=>k=q) w w') (hg:g≠q) (hb:b≠q) (hr:rv.ownBlock≠some q) (hc:∀ c ∈ cs,c.l.ownBlock≠some q∧c.m.ownBlock≠some q):RS w' B g b o cap L a rv cs e f:=by
 have far:∀ (u:Value) (xs:List Nat),In w B rv u xs→u.ownBlock≠some q→In w' B rv u xs:=fun u xs hu hne=>hu.trn ht (fun k hk e=>hne (by rw[hk];exact congrArg some e)) (fun k hk=>(hu.ap k hk).1)
 exact⟨h.rx.same (ht.block g h.rx.lt hg),h.tr.trn ht hb,
  ⟨by
   refine⟨h.os.own.1,?_⟩;rcases h.os.own.2 with hn|⟨b2,cp,cur,e2,hb,hh,r⟩
   ·exact .inl hn
   ·refine .inr ⟨b2,cp,cur,e2,hb,?_,r⟩;rw[ht.block b2 (yD hh).1 (fun e=>hr (by rw[e2,←e];rfl))];exact hh,fun c hc1=>far _ _ (h.os.l c hc1) (hc c hc1).1,fun c hc1=>far _ _ (h.os.m c hc1) (hc c hc1).2⟩,
  h.ends,h.al,h.gB,h.bB,h.ne,Nat.le_trans h.sz ht.size,h.few,h.most⟩
structure AST (T wr:World) (B0 B g b o cap q:Nat) (L:List Lx.Tok) (rv tv:Value) (top:List Nat) (cs:List SA) (a e f md:Nat):Prop where
 rs:RS wr B g b o cap L a rv cs e f
 bel:Below B0 T wr
 hp:H3 wr q [.int .i64 (md:Int),.slice none 0 0,tv]
 tp:IR wr B 3 tv top
 apr:∀ k,tv.ownBlock=some k→rv.ownBlock≠some k
 apc:∀ c ∈ cs,∀ k,c.l.ownBlock=some k∨c.m.ownBlock=some k→tv.ownBlock≠some k
 apq:∀ k,tv.ownBlock=some k→q<k
 farr:rv.ownBlock≠some q
 farc:∀ c ∈ cs,c.l.ownBlock≠some q∧c.m.ownBlock≠some q
 Bq:B≤q
 most:top.length≤a+1
 ok:e=0→top.length≤a
 b0:B0≤g
section
variable {T wr w2:World} {B0 B g b o cap q a e f a2 e2 f2 md:Nat} {L:List Lx.Tok} {rv rv2 tv:Value} {top:List Nat} {cs cs2:List SA}
theorem AST.start (hr:RS wr B g b o cap L a (.slice none 0 0) [] e f) (hb:Below B0 T wr) (hp:H3 wr q [.int .i64 (md:Int),.slice none 0 0,.slice none 0 0]) (hq:B≤q) (hg:B0≤g):AST T wr B0 B g b o cap q L (.slice none 0 0) (.slice none 0 0) [] [] a e f md :=
 ⟨hr,hb,hp,World.ownsRow_nil _ _ _ _,(fun k hk=>by simp[Value.ownBlock] at hk),(fun c hc=>by cases hc),(fun k hk=>by simp[Value.ownBlock] at hk),(by simp[Value.ownBlock]),(fun c hc=>by cases hc),hq,(by simp),(by simp),hg⟩
theorem AST.below (h:AST T wr B0 B g b o cap q L rv tv top cs a e f md) (hb:Below wr.heap.size wr w2):AST T w2 B0 B g b o cap q L rv tv top cs a e f md :=
 ⟨h.rs.below hb,h.bel.trans (hb.mono (by have:=h.rs.sz;have:=h.rs.gB;have:=h.b0;omega)),h.hp.below hb h.hp.lt,own_below h.tp hb,h.apr,h.apc,h.apq,h.farr,h.farc,h.Bq,h.most,h.ok,h.b0⟩
theorem AST.oned (h:AST T wr B0 B g b o cap q L rv tv top cs a e f md) (hr:RS w2 B g b o cap L a2 rv2 cs2 e2 f2) (ht:Trn (rdF g rv) wr w2) (hn:Nw rv rv2 wr.heap.size) (hc:NC cs cs2 wr.heap.size) (haa:a≤a2) (he:e=0):AST T w2 B0 B g b o cap q L rv2 tv top cs2 a2 e2 f2 md:=by
 have hb0:=h.b0;have hgB:=h.rs.gB;have hsz:=h.rs.sz;have hBq:=h.Bq;have hqlt:=h.hp.lt;have hok:=h.ok he
 exact {
  rs:=hr
  bel:=h.bel.trans (ht.below (fun k hk=>by
   rcases hk with e|e
   ·omega
   ·have:=(h.rs.os.lt k e).1;omega) (by omega))
  hp:=h.hp.same (ht.block q hqlt (fun e=>by
   rcases e with e|e
   ·omega
   ·exact h.farr e))
  tp:=ht.own h.tp (fun k hk e=>by
   rcases e with e|e
   ·have:=(IR.lt h.tp k hk).1;omega
   ·exact h.apr k hk e)
  apr:=fun k hk e=>by
   rcases hn k e with e|e
   ·exact h.apr k hk e
   ·have:=(IR.lt h.tp k hk).2;omega
  apc:=fun c hc2 k hk e=>by
   rcases hc c hc2 with h1|h1
   ·exact h.apc c h1 k hk e
   ·have:=(IR.lt h.tp k e).2;have:=h1 k hk;omega
  apq:=h.apq
  farr:=fun e=>by
   rcases hn q e with e|e
   ·exact h.farr e
   ·omega
  farc:=fun c hc2=>by
   rcases hc c hc2 with h1|h1
   ·exact h.farc c h1
   ·exact⟨fun e=>by have:=h1 q (.inl e);omega,fun e=>by have:=h1 q (.inr e);omega⟩
  Bq:=hBq
  most:=by omega
  ok:=fun _=>by omega
  b0:=hb0 }
theorem AST.pushed {w3:World} {ob:Obj} (h:AST T wr B0 B g b o cap q L rv tv top cs a e f md) (hg:(wr.alloc ob).grownBy w3 tv.ownBlock):H3 w3 q [.int .i64 (md:Int),.slice none 0 0,tv]:=by
 have hb:Below wr.heap.size wr (wr.alloc ob):=yA;refine(h.hp.below hb h.hp.lt).same (hg.block q (by have:=h.hp.lt;have:=hb.size;omega) (fun e=>by have:=h.apq q e.symm;omega))
theorem AST.push {w3:World} {i g2 c2:Nat} {ob:Obj} (h:AST T wr B0 B g b o cap q L rv tv top cs a e f md) (ho:IR w3 B 3 (.slice (some ⟨g2,0,none⟩) (top.length+1) c2) (top++[i])) (hg:(wr.alloc ob).grownBy w3 tv.ownBlock) (hgg:tv.ownBlock=some g2∨g2=(wr.alloc ob).heap.size) (h1:top.length+1≤a+1) (h2:e=0→top.length+1≤a):AST T (w3.setCell ⟨q,2,none⟩ (.slice (some ⟨g2,0,none⟩) (top.length+1) c2)) B0 B g b o cap q L rv (.slice (some ⟨g2,0,none⟩) (top.length+1) c2) (top++[i]) cs a e f md:=by
 have hb:Below wr.heap.size wr (wr.alloc ob):=yA;have hBw:∀ k,tv.ownBlock=some k→B≤k∧k<wr.heap.size:=IR.lt h.tp;have hb0:=h.b0;have hgB:=h.rs.gB;have hsz:=h.rs.sz;have hBq:=h.Bq;have hqlt:=h.hp.lt;have hbs:=hb.size
 have hg2q:q<g2:=by
  rcases hgg with e|e
  ·exact h.apq _ e
  ·omega
 have hs3:RS w3 B g b o cap L a rv cs e f:=(h.rs.below hb).grown hg (fun k hk=>(hBw k hk).1) (by
   cases hv:rv.ownBlock with
   | none=>exact .inl rfl
   | some k=>exact .inr (fun e=>h.apr k e.symm hv)) (fun c hc k hk e=>h.apc c hc k hk e.symm)
 have ht4:Trn (fun k=>k=q) w3 (w3.setCell ⟨q,2,none⟩ (.slice (some ⟨g2,0,none⟩) (top.length+1) c2)):=Trn.setCell (F:=fun k=>k=q) (g:=q) (Trn.refl _ w3) rfl _;have hb3:Below B0 T w3:=(h.bel.trans (hb.mono (by omega))).trans ⟨hg.os,hg.tape,hg.output,hg.size,fun k hk=>hg.block k (by omega) (fun e=>by have:=(hBw k e.symm).1;omega)⟩;have hs3z:=hs3.sz
 exact {
  rs:=hs3.past ht4 (by omega) (by have:=h.rs.bB;omega) h.farr h.farc
  bel:=hb3.trans (ht4.below (fun k hk=>by rw[show k=q from hk];omega) (by omega))
  hp:=(h.pushed hg).set1 2 _
  tp:=ht4.own ho (fun k hk e=>by
   obtain rfl:g2=k:=(by simpa [Value.ownBlock] using hk);exact absurd (show g2=q from e) (by omega))
  apr:=fun k hk e=>by
   obtain rfl:g2=k:=(by simpa [Value.ownBlock] using hk);rcases hgg with hgg|hgg
   ·exact h.apr _ hgg e
   ·have:=(h.rs.os.lt _ e).2;omega
  apc:=fun c hc k hk e=>by
   obtain rfl:g2=k:=(by simpa [Value.ownBlock] using e);rcases hgg with hgg|hgg
   ·exact h.apc c hc _ hk hgg
   ·have h3:g2<wr.heap.size:=hk.elim (fun e=>((h.rs.os.l c hc).ap _ e).2.2) (fun e=>((h.rs.os.m c hc).ap _ e).2.2);omega
  apq:=fun k hk=>by
   obtain rfl:g2=k:=(by simpa [Value.ownBlock] using hk);exact hg2q
  farr:=h.farr
  farc:=h.farc
  Bq:=hBq
  most:=by rw[List.length_append];exact h1
  ok:=fun h0=>by rw[List.length_append];exact h2 h0
  b0:=hb0 }
end
theorem read_of {wr:World} {B:Nat} {rv tv:Value} {top:List Nat} {cs:List SA} (os:OS wr B 41 rv cs) (tp:IR wr B 3 tv top):PR B wr rv tv (rowS cs) top:=by
 refine⟨cs,rfl,?_,fun c hc=>⟨⟨(os.l c hc).rd,(os.m c hc).rd⟩,⟨(os.l c hc).one,(os.m c hc).one⟩,fun k hk=>hk.elim (fun e=>((os.l c hc).ap k e).2.1) (fun e=>((os.m c hc).ap k e).2.1)⟩,IR.rd tp,fun k hk=>(IR.lt tp k hk).1⟩;have hcell:=fun (g' cap:Nat) (he:rv = .slice (some ⟨g',0,none⟩) cs.length cap) (k:Nat) (t:SA) (ht:cs[k]?=some t) (i:Nat) (u:Value) (hu:(stCells t)[i]?=some u)=>own_cellN (he ▸ os.own) (stRow_at cs k t ht i u hu)
 rcases os.own.2 with ⟨e,hn⟩|⟨g',cap,cur,e,hb,hg,_⟩
 ·obtain rfl:cs=[]:=List.length_eq_zero_iff.1 hn;exact⟨_,_,e,fun k t ht=>by cases ht⟩
 ·exact⟨_,cap,e,fun k t ht=>⟨g',rfl,hb,fun i u hu=>hcell g' cap e k t ht i u hu⟩⟩
theorem append_int2 {o:Oper} {a:Act} {K:Act→World→Prop} {Q:Exit→Act→World→Prop} {w:World} {B b:Nat} {v:Value} {xs:List Nat} (n:Nat)
  (s x:Operand) (ho:o.op = .call { callee:=.builtin .append,args:=#[s,x],argTypes:=#[30,30] })
  (hs:a.eval s=v) (h:IR w B 3 v xs) (hx:a.eval x = .slice (some ⟨b,0,none⟩) 1 1) (hb:w.heap[b]?=some (.cells #[.int .i64 (n:Int)] 3 (0,0)))
  (hn:xs.length≤1048576) (hB:B≤w.heap.size)
  (h':∀ g cap w',IR w' B 3 (.slice (some ⟨g,0,none⟩) (xs.length+1) cap) (xs++[n])→w.grownBy w' v.ownBlock→(v.ownBlock=some g∨g=w.heap.size)→K (a.put o.dst (.slice (some ⟨g,0,none⟩) (xs.length+1) cap)) w'):o.wp Tryz.prog a w K Q:=by
 obtain⟨i0,hi,hz0,hz1,hz2⟩:=info_parts int_infoB;exact wp_append_nv n Tryz.underlying30 hi hz0 hz1 hz2 s x ho hs h hx hb hn hB h'
theorem rpall_any (l:List UInt8) (hl:l.length≤1048576) (w:World) :
  Calls Tryz.prog 18 #[.string ⟨l.toArray⟩] w fun e w'=>PAllP (Ps.all l) w e w':=by
 obtain⟨T,hT⟩:∃ T,w.alloc (.cells #[.int .i64 0,.slice none 0 0,.slice none 0 0] 32)=T:=⟨_,rfl⟩;have hbT:Below w.heap.size w T:=(by rw[←hT];exact yA);have hz:H3 T w.heap.size [.int .i64 0,.slice none 0 0,.slice none 0 0]:=(by rw[←hT];exact heap_alloc_new _ _);have hTs:T.heap.size=w.heap.size+1:=(by rw[←hT];simp);have LA:=rall_any l hl T;have hall:=Ps.all_of (l:=l);have HZ:=yH hz;have HBT:=yH hbT
 obtain⟨B0,hB0⟩:∃ B0,T.heap.size=B0:=⟨_,rfl⟩;clear hz hbT hl;go_enter Tryz.func18,Tryz.ntmps18;go_wp2_with fail
 refine LA.mono ?_;rintro e w2 hP;obtain⟨hb2,hP⟩:=hP;rw[hB0] at hb2 hP;have hs2:=hb2.size;have hz2:=HZ.out.below hb2 (by omega);clear LA;cases hx:Lx.all l with
 | error x =>
  obtain⟨p,f⟩:=x;rw[hx] at hP hall;obtain rfl:=hP;obtain⟨hf0,_⟩:=Lx.all_err hx;have f1:((f:Int) != 0)=true:=(by rw[bne_iff_ne];omega);have f2:((f:Int)==0)=false:=yB;have f3:((f:Int)=0)=False:=yF;have HA:=yH (⟨hall,hf0⟩:_∧_);have zc0:=hz2.cell (i:=0) rfl;have zc1:=hz2.cell (i:=1) rfl;have zc2:=hz2.cell (i:=2) rfl;have zf0:=hz2.fr 0;have zf1:=hz2.fr 1;have zf2:=hz2.fr 2
  have HSET:=yH (hz2.set (vs:=[.int .i64 0,.slice none 0 0,.slice none 0 0]) rfl);have HBL:=yH (below_setN w.heap.size [.int .i64 0,.slice none 0 0,.slice none 0 0] 0 yR (HBT.out.trans (hb2.mono (by omega))));clear hall hf0 hz2 hx;go_wp2;change bodyPost _ _ _ _ _ (setN w2 w.heap.size 0 [.int .i64 0,.slice none 0 0,.slice none 0 0]);have hset:=HSET.out;have hbl:=HBL.out
  generalize setN w2 w.heap.size 0 [.int .i64 0,.slice none 0 0,.slice none 0 0]=W at hset hbl ⊢;have r0:=hset.cell (i:=0) rfl;have r1:=hset.cell (i:=1) rfl;have r2:=hset.cell (i:=2) rfl;refine bodyPost_ret (v:=.tuple #[.agg #[.int .i64 0,.slice none 0 0,.slice none 0 0],.int .i64 (p:Int),.int .i64 (f:Int)]) (by simp[results,Tryz.results18,go_sem,r0,r1,r2]) rfl ?_;unfold PAllP;rw[HA.out.1];exact⟨hbl,rfl,HA.out.2⟩
 | ok L =>
  rw[hx] at hP hall;obtain⟨v,rfl,ho⟩:=hP;have hends:=Ps.all_ends hx;have hfew:=Ps.all_few hx;obtain⟨t0,r0,hL0,_⟩:=id hends.ne;have hn:0<L.length:=(by rw[hL0];simp);obtain⟨b,hb,hblt,hvb,htr⟩:=TR.of_own ho (by intro e;rw[e] at hn;simp at hn);obtain⟨o,cap,rfl,hcp,hcp2,hcl⟩:=id htr;obtain⟨g,hg⟩:∃ g,w2.heap.size=g:=⟨_,rfl⟩;obtain⟨B,hBg⟩:∃ B,g+1=B:=⟨_,rfl⟩
  obtain⟨w3,hw3⟩:∃ w3,w2.alloc (.cells #[.slice (some ⟨b,o,none⟩) L.length cap,.int .i64 0,.slice none 0 0,.int .i64 0,.int .i64 0] 60)=w3:=⟨_,rfl⟩;have hr3:=RS.start htr hw3 hends hn (by omega) hg hBg (by omega);have hb3:Below w2.heap.size w2 w3:=(by rw[←hw3];exact yA);have HR3:=yH hr3;have HB3:=yH (show Below B0 T w3 from hb2.trans (hb3.mono (by omega)));have hB0B:B0≤B:=(by omega);have hB0g:B0≤g:=by omega
  have ht0:L[0]?=some t0:=(by rw[hL0];rfl);have HT0:=yH ht0;have HE:=yH hends;have IS:=ris_any 1 Ps.wMode hr3 t0 ht0;have HW3:=yH hw3;have HG:=yH hg;have HS0:=yH (⟨hTs,hB0⟩:_∧_);have hqB0:w.heap.size<B0:=(by omega);obtain⟨TT,hTT⟩:∃ TT,Ps.prog L=TT:=⟨_,rfl⟩;have HTT:=yH hTT;have HALL:=yH (hall.trans hTT);have hdr:L.drop 0=t0 :: L.drop 1:=(by rw[hL0];rfl);have HDR:=yH hdr
  clear hends hr3 hb3 ht0 hw3 hg hTT hall hcl hcp hcp2 htr ho hvb hb hblt hfew hx hs2 hz2 hL0 hdr hT hTs hB0 hb2 hn;go_upto_region 5 with fail
  rw[HW3.out,HG.out];go_wp2_with fail
  refine IS.mono ?_;rintro e w4 ⟨rfl,hb4⟩;have HR4:=yH (HR3.out.below hb4);have HB4:=yH (HB3.out.trans (hb4.mono (Nat.le_trans hB0B HR3.out.sz)));clear hb4 IS HG HW3 HR3 HB3;refine' by_oneB (Exists.intro _ (And.intro (fun key=>?ways) ?rest))
  case ways =>
   rcases Bool.eq_false_or_eq_true (t0.kind==1 && t0.text==Ps.wMode) with hs|hs
   ·have hnm:Ps.isName Ps.wMode t0=true:=hs
    have hk1:t0.kind=1:=by
     have:=hs;rw[Bool.and_eq_true] at this;exact beq_iff_eq.1 this.1
    rw[hs];have TK:=rtake_u 1 (by decide) HR4.out t0 HT0.out;have HNM:=yH (⟨hnm,hk1⟩:_∧_);clear hnm hk1 hs;go_wp2_with fail
    refine TK.mono ?_;rintro e w5 ⟨x5,a5,e5,f5,rfl,hr5,ht5,hu5⟩
    have h5:a5=1∧e5=0:=by
     rcases hu5 with ⟨_,_,_,h1,h2⟩|⟨_,h1,_⟩|⟨h1,_⟩
     ·exact⟨h1,h2⟩
     ·exact absurd HNM.out.2 h1
     ·exact absurd rfl h1
    have HE5:=yH h5.2;have HA5:=yH h5.1;have hr5':RS w5 B g b o cap L a5 (.slice none 0 0) [] 0 f5:=(by have h9:=hr5;rw[h5.2] at h9;exact h9);have HR5:=yH hr5';have HB5:=yH (HB4.out.trans (ht5.below (fun k hk=>by rw[show k=g from hk];exact hB0g) (Nat.le_trans hB0B HR4.out.sz)));clear hr5 ht5 hu5 h5 hr5' TK;obtain⟨q,hq⟩:∃ q,w5.heap.size=q:=⟨_,rfl⟩
    obtain⟨w6,hw6⟩:∃ x,w5.alloc (.cells #[.int .i64 0,.slice none 0 0,.slice none 0 0] 32)=x:=⟨_,rfl⟩;have hbw6:Below w5.heap.size w5 w6:=(by rw[←hw6];exact yA);have hpw6:H3 w6 q [.int .i64 0,.slice none 0 0,.slice none 0 0]:=(by rw[←hw6,←hq];exact heap_alloc_new _ _);have HR6:=yH (HR5.out.below hbw6);have HB6:=yH (HB5.out.trans (hbw6.mono (Nat.le_trans hB0B HR5.out.sz)));have HP6:=yH hpw6
    have hqB:B≤q:=(by rw[←hq];exact HR5.out.sz);have HW6:=yH hw6;have HQ6:=yH hq;clear hbw6 hpw6 hw6 hq;have r3:(w5.alloc (.cells #[.int .i64 0,.slice none 0 0,.slice none 0 0] 32)).cell? ⟨g,3,none⟩=some (.int .i64 0):=(by rw[HW6.out];exact HR6.out.rx.c3);go_upto_region 11 with fail
    rw[HW6.out,HQ6.out];obtain⟨t1,ht1⟩:=HR6.out.tok;obtain⟨tk,tx,p⟩:=t1;obtain⟨q0,q1,q2⟩:=HR6.out.cells ht1;dsimp only at q0 q1 q2;obtain⟨N,hN⟩:∃ N,L.length=N:=⟨_,rfl⟩;have al:(a5:Int)<(N:Int):=(by have:=HR6.out.al;omega);have al2:a5<N:=(by have:=HR6.out.al;omega);have g0:w6.cell? ⟨g,0,none⟩=some (.slice (some ⟨b,o,none⟩) N cap):=(by rw[←hN];exact HR6.out.rx.c0);have g1:=HR6.out.rx.c1
    have hs0:(w6.drew.cell? ⟨g,0,none⟩=some (.slice (some ⟨b,o,none⟩) N cap)∧w6.drew.cell? ⟨g,1,none⟩=some (.int .i64 (a5:Int)))∧w6.drew.cell? ⟨b,o+a5*3+1,none⟩=some (.string ⟨tx.toArray⟩):=⟨⟨g0,g1⟩,q1⟩;have hpc:w6.drew.cell? ⟨q,0,none⟩=some (.int .i64 0):=HP6.out.cell (i:=0) rfl;have hpf:w6.drew.frozen? ⟨q,0,none⟩=false:=HP6.out.fr 0;obtain⟨md,hmd⟩:∃ md,Ps.mode tx=md:=⟨_,rfl⟩;have PM:=yH (fun wx=>rmode_any tx wx)
    rw[hmd] at PM;have hgq:g≠q:=(by omega);have hbq:b≠q:=(by have:=HR6.out.bB;omega);have kp:∀ k i v,k≠q→w6.cell? ⟨k,i,none⟩=some v→(w6.drew.setCell ⟨q,0,none⟩ (.int .i64 (md:Int))).cell? ⟨k,i,none⟩=some v:=fun k i v hk hv=>(World.cell?_of_block (a:=⟨k,i,none⟩) (Below.heap_setCell _ _ _ _ hk)).trans hv
    have hsE:((w6.drew.setCell ⟨q,0,none⟩ (.int .i64 (md:Int))).cell? ⟨g,0,none⟩=some (.slice (some ⟨b,o,none⟩) N cap)∧(w6.drew.setCell ⟨q,0,none⟩ (.int .i64 (md:Int))).cell? ⟨g,1,none⟩=some (.int .i64 (a5:Int)))∧(w6.drew.setCell ⟨q,0,none⟩ (.int .i64 (md:Int))).cell? ⟨b,o+a5*3+1,none⟩=some (.string ⟨tx.toArray⟩):=⟨⟨kp _ _ _ hgq g0,kp _ _ _ hgq g1⟩,kp _ _ _ hbq q1⟩
    have hb7:Trn (fun k=>k=q) w6 (w6.drew.setCell ⟨q,0,none⟩ (.int .i64 (md:Int))):=Trn.setCell (F:=fun k=>k=q) (g:=q) (Trn.of_below ((Below.refl _ _).drew)) rfl _
    have hp7:H3 (w6.drew.setCell ⟨q,0,none⟩ (.int .i64 (md:Int))) q [.int .i64 (md:Int),.slice none 0 0,.slice none 0 0]:=by
     have h:=HP6.out;unfold H3 at h ⊢;rw[setCell_row (w:=w6.drew) h,List.setIfInBounds_toArray];rfl
    have kE:(w6.drew.setCell ⟨q,0,none⟩ (.int .i64 (md:Int))).cell? ⟨b,o+a5*3,none⟩=some (.int .i64 (tk:Int)):=kp _ _ _ hbq q0;have hr7:RS (w6.drew.setCell ⟨q,0,none⟩ (.int .i64 (md:Int))) B g b o cap L a5 (.slice none 0 0) [] 0 f5:=HR6.out.past hb7 (fun e=>hgq e) (fun e=>hbq e) (by simp[Value.ownBlock]) (fun c hc=>by cases hc);have HR7:=yH hr7;have HP7:=yH hp7
    have HB7:=yH (HB6.out.trans (hb7.below (fun k hk=>by rw[show k=q from hk];exact Nat.le_trans hB0B hqB) (Nat.le_trans hB0B HR6.out.sz)));have HT1:=yH ht1;have HMD:=yH hmd;have HN:=yH hN;clear ht1 hmd q0 q1 q2 g0 g1 kp hb7 hp7 hr7 hN HW6 HQ6 r3;go_wp2_with fail
    refine wp_region_held_drew (S:=fun w'=>(w'.cell? ⟨g,0,none⟩=some (.slice (some ⟨b,o,none⟩) N cap)∧w'.cell? ⟨g,1,none⟩=some (.int .i64 (a5:Int)))∧w'.cell? ⟨b,o+a5*3+1,none⟩=some (.string ⟨tx.toArray⟩)) (by kernel_rfl) hs0 (fun hH=>?_);generalize w6.drew=wd at *;refine heldT (i:=0) ?_;refine heldT (i:=1) ?_;refine heldT (i:=2) ?_;refine heldT (i:=3) ?_;refine heldT (i:=4) ?_;refine heldT (i:=5) ?_;refine heldT (i:=6) ?_
    refine heldT (i:=7) ?_;refine heldT (i:=8) ?_;refine heldT (i:=9) ?_;refine heldT (i:=10) ?_;refine heldNext (i:=11) rfl (by kernel_rfl) (by rfl) (fun K hK=>?_);go_simp;go_at_call 30;refine(PM.out _).mono ?_;rintro e wz ⟨rfl,hwz⟩;obtain rfl:=hwz;first|(refine hK.out _ _ (by assumption) ?_)|(go_wp2_with fail;refine hK.out _ _ (by assumption) ?_);clear hK K
    (try simp only[Act.put,zLa,zLb,zLc]);refine heldT (i:=12) ?_;refine heldNext (i:=13) rfl (by kernel_rfl) (by rfl) (fun K hK=>?_);go_simp;refine hK.out _ (wd.setCell ⟨q,0,none⟩ (.int .i64 (md:Int))) hsE ?_;clear hK K;(try simp only[Act.put,zLa,zLb,zLc]);refine wpAnyH_done (by kernel_rfl) ?_ _
    skip
    generalize wd.setCell ⟨q,0,none⟩ (.int .i64 (md:Int))=wE at *;have p0:∀ q',(wE.drewN q').cell? ⟨g,0,none⟩=some (.slice (some ⟨b,o,none⟩) N cap):=fun _=>hsE.1.1;have p1:∀ q',(wE.drewN q').cell? ⟨g,1,none⟩=some (.int .i64 (a5:Int)):=fun _=>hsE.1.2;have k0:∀ q',(wE.drewN q').cell? ⟨b,o+a5*3,none⟩=some (.int .i64 (tk:Int)):=fun _=>kE;have hpE:wE.cell? ⟨q,0,none⟩=some (.int .i64 (md:Int)):=HP7.out.cell (i:=0) rfl
    have m0:∀ q',(wE.drewN q').cell? ⟨q,0,none⟩=some (.int .i64 (md:Int)):=fun _=>hpE
    have HNO:=yH (show ¬ (tk=1∧md≠0)→TT = .error (p,20) by
     have ht:=HT1.out;rw[HA5.out] at ht;rw[←HMD.out];exact Ps.hl_no HDR.out ht HNM.out.1 HTT.out)
    have HYES:=yH (show tk=1∧md≠0→Ps.HLink md 0 f5 (L.drop a5) TT by
     intro h;have ht:=HT1.out;have hl:=HR7.out.more ht (by show tk≠0;omega);rw[HA5.out] at ht hl ⊢;rw[←HMD.out] at h ⊢;exact Ps.hl_yes (t1:=⟨tk,tx,p⟩) HDR.out ht HNM.out.1 HTT.out h hl f5)
    clear hsE kE hpE hs0 hpc hpf hH;simp only[Exit.then];by_cases hk:tk=1
    ·have f1:((tk:Int)==1)=true:=beq_iff_eq.2 (by omega);have f2:((tk:Int)=1)=True:=yT;have f3:(tk=1)=True:=eq_true hk;have f4:((tk:Int) != 1)=false:=(by rw[bne,f1];rfl);by_cases hm:md=0
     ·have m1:((md:Int)==0)=true:=beq_iff_eq.2 (by omega);have m2:((md:Int)=0)=True:=yT;have m3:(md=0)=True:=eq_true hm;have HTE:=yH (HNO.out (fun h=>h.2 hm));clear hk hm;go_wp2;go_quiet (fail)
      have hbN:Below wE.heap.size wE (wE.drewN nq):=⟨rfl,rfl,rfl,yR,fun _ _=>rfl⟩;have HR8:=yH (HR7.out.below hbN);have HP8:=yH (HP7.out.below hbN HP7.out.lt);have HB8:=yH (HB7.out.trans (hbN.mono (Nat.le_trans hB0B HR7.out.sz)));clear p0 p1 k0 m0 hbN;generalize wE.drewN nq=wF at *;have FA:=rfail_u 20 HR8.out ⟨tk,tx,p⟩ HT1.out;go_wp2_with fail
      refine FA.mono ?_;rintro e w9 ⟨e9,f9,rfl,hr9,ht9,hu9⟩
      have h9:e9=20∧f9=p:=by
       rcases hu9 with ⟨_,h1,h2⟩|⟨h1,_⟩
       ·exact⟨h1,h2⟩
       ·exact absurd rfl h1
      have HR9:=yH hr9;have HP9:=yH (HP8.out.same (ht9.block q HP8.out.lt (fun e=>hgq e.symm)));have HB9:=yH (HB8.out.trans (ht9.below (fun k hk=>by rw[show k=g from hk];exact hB0g) (Nat.le_trans hB0B HR8.out.sz)));have HH9:=yH h9;clear hr9 ht9 hu9 h9 FA;go_upto_region 14 with fail
      rename_i KK hKK
      refine(show ∀ (a1 e1 f1 mdx qx:Nat) ac wx,FRA ac w.heap.size g qx→RS wx B g b o cap L a1 (.slice none 0 0) [] e1 f1→Below B0 T wx→H3 wx qx [.int .i64 (mdx:Int),.slice none 0 0,.slice none 0 0]→B≤qx→Ps.HLink mdx e1 f1 (L.drop a1) TT→Code.wp _ _ _ ac wx from ?main) a5 e9 f9 md q _ _ ?fr HR9.out HB9.out HP9.out hqB (.inr ⟨by rw[HH9.out.1];decide,by rw[HH9.out.1,HH9.out.2];exact HTE.out⟩)
      case fr=>exact FRA.of _ _ _ _ rfl
      case main =>
       revert hKK;revert KK;exact key.out
     ·have m1:((md:Int)==0)=false:=yB;have m2:((md:Int)=0)=False:=yF;have m3:(md=0)=False:=eq_false hm;have HTE:=yH (HYES.out ⟨hk,hm⟩);clear hk hm;go_wp2;go_quiet (fail)
      have hbN:Below wE.heap.size wE (wE.drewN nq):=⟨rfl,rfl,rfl,yR,fun _ _=>rfl⟩;have HR8:=yH (HR7.out.below hbN);have HP8:=yH (HP7.out.below hbN HP7.out.lt);have HB8:=yH (HB7.out.trans (hbN.mono (Nat.le_trans hB0B HR7.out.sz)));clear p0 p1 k0 m0 hbN;generalize wE.drewN nq=wF at *;go_upto_region 14 with fail
      rename_i KK hKK
      refine(show ∀ (a1 e1 f1 mdx qx:Nat) ac wx,FRA ac w.heap.size g qx→RS wx B g b o cap L a1 (.slice none 0 0) [] e1 f1→Below B0 T wx→H3 wx qx [.int .i64 (mdx:Int),.slice none 0 0,.slice none 0 0]→B≤qx→Ps.HLink mdx e1 f1 (L.drop a1) TT→Code.wp _ _ _ ac wx from ?main) a5 0 f5 md q _ _ ?fr HR8.out HB8.out HP8.out hqB HTE.out
      case fr=>exact FRA.of _ _ _ _ rfl
      case main =>
       revert hKK;revert KK;exact key.out
    ·have f1:((tk:Int)==1)=false:=yB;have f2:((tk:Int)=1)=False:=yF;have f3:(tk=1)=False:=eq_false hk;have f4:((tk:Int) != 1)=true:=(by rw[bne,f1];rfl);have HTE:=yH (HNO.out (fun h=>hk h.1));clear hk;go_wp2;go_quiet (fail)
     have hbN:Below wE.heap.size wE (wE.drewN nq):=⟨rfl,rfl,rfl,yR,fun _ _=>rfl⟩;have HR8:=yH (HR7.out.below hbN);have HP8:=yH (HP7.out.below hbN HP7.out.lt);have HB8:=yH (HB7.out.trans (hbN.mono (Nat.le_trans hB0B HR7.out.sz)));clear p0 p1 k0 m0 hbN;generalize wE.drewN nq=wF at *;have FA:=rfail_u 20 HR8.out ⟨tk,tx,p⟩ HT1.out;go_wp2_with fail
     refine FA.mono ?_;rintro e w9 ⟨e9,f9,rfl,hr9,ht9,hu9⟩
     have h9:e9=20∧f9=p:=by
      rcases hu9 with ⟨_,h1,h2⟩|⟨h1,_⟩
      ·exact⟨h1,h2⟩
      ·exact absurd rfl h1
     have HR9:=yH hr9;have HP9:=yH (HP8.out.same (ht9.block q HP8.out.lt (fun e=>hgq e.symm)));have HB9:=yH (HB8.out.trans (ht9.below (fun k hk=>by rw[show k=g from hk];exact hB0g) (Nat.le_trans hB0B HR8.out.sz)));have HH9:=yH h9;clear hr9 ht9 hu9 h9 FA;go_upto_region 14 with fail
     rename_i KK hKK
     refine(show ∀ (a1 e1 f1 mdx qx:Nat) ac wx,FRA ac w.heap.size g qx→RS wx B g b o cap L a1 (.slice none 0 0) [] e1 f1→Below B0 T wx→H3 wx qx [.int .i64 (mdx:Int),.slice none 0 0,.slice none 0 0]→B≤qx→Ps.HLink mdx e1 f1 (L.drop a1) TT→Code.wp _ _ _ ac wx from ?main) a5 e9 f9 md q _ _ ?fr HR9.out HB9.out HP9.out hqB (.inr ⟨by rw[HH9.out.1];decide,by rw[HH9.out.1,HH9.out.2];exact HTE.out⟩)
     case fr=>exact FRA.of _ _ _ _ rfl
     case main =>
      revert hKK;revert KK;exact key.out
   ·have hnm:Ps.isName Ps.wMode t0=false:=hs;rw[hs];have FA:=rfail_u 20 HR4.out t0 HT0.out;have HNM:=yH hnm;clear hnm hs;go_wp2_with fail
    refine FA.mono ?_;rintro e w5 ⟨e5,f5,rfl,hr5,ht5,hu5⟩
    have h5:e5=20∧f5=t0.place:=by
     rcases hu5 with ⟨_,h1,h2⟩|⟨h1,_⟩
     ·exact⟨h1,h2⟩
     ·exact absurd rfl h1
    have HR5:=yH hr5;have HB5:=yH (HB4.out.trans (ht5.below (fun k hk=>by rw[show k=g from hk];exact hB0g) (Nat.le_trans hB0B HR4.out.sz)));have HH5:=yH h5;have TK:=rtake_u 1 (by decide) HR5.out t0 HT0.out;clear hr5 ht5 hu5 h5 FA;go_wp2_with fail
    refine TK.mono ?_;rintro e w6 ⟨x6,a6,e6,f6,rfl,hr6,ht6,hu6⟩
    have h6:e6=20∧f6=t0.place:=by
     have h5:=HH5.out;rcases hu6 with ⟨h1,_⟩|⟨h1,_⟩|⟨_,_,_,h3,h4⟩
     ·omega
     ·omega
     ·exact⟨h3.trans h5.1,h4.trans h5.2⟩
    have HR7:=yH hr6;have HB7:=yH (HB5.out.trans (ht6.below (fun k hk=>by rw[show k=g from hk];exact hB0g) (Nat.le_trans hB0B HR5.out.sz)));have HH6:=yH h6;have e1:((e6:Int)==0)=false:=yB;have e2:((e6:Int)=0)=False:=yF;have e3:(e6=0)=False:=yF;clear hr6 ht6 hu6 h6 TK;obtain⟨q,hq⟩:∃ q,w6.heap.size=q:=⟨_,rfl⟩
    obtain⟨w8,hw8⟩:∃ x,w6.alloc (.cells #[.int .i64 0,.slice none 0 0,.slice none 0 0] 32)=x:=⟨_,rfl⟩;have hbw8:Below w6.heap.size w6 w8:=(by rw[←hw8];exact yA);have hpw8:H3 w8 q [.int .i64 0,.slice none 0 0,.slice none 0 0]:=(by rw[←hw8,←hq];exact heap_alloc_new _ _);have HR8:=yH (HR7.out.below hbw8);have HB8:=yH (HB7.out.trans (hbw8.mono (Nat.le_trans hB0B HR7.out.sz)));have HP8:=yH hpw8
    have hqB:B≤q:=(by rw[←hq];exact HR7.out.sz);have HW8:=yH hw8;have HQ8:=yH hq;clear hbw8 hpw8 hw8 hq;have r3:(w6.alloc (.cells #[.int .i64 0,.slice none 0 0,.slice none 0 0] 32)).cell? ⟨g,3,none⟩=some (.int .i64 (e6:Int)):=(by rw[HW8.out];exact HR8.out.rx.c3);go_upto_region 14 with fail
    rw[HW8.out,HQ8.out];rename_i KK hKK
    refine(show ∀ (a1 e1 f1 mdx qx:Nat) ac wx,FRA ac w.heap.size g qx→RS wx B g b o cap L a1 (.slice none 0 0) [] e1 f1→Below B0 T wx→H3 wx qx [.int .i64 (mdx:Int),.slice none 0 0,.slice none 0 0]→B≤qx→Ps.HLink mdx e1 f1 (L.drop a1) TT→Code.wp _ _ _ ac wx from ?main) a6 e6 f6 0 q _ _ ?fr HR8.out HB8.out HP8.out hqB (.inr ⟨by rw[HH6.out.1];decide,by rw[←HTT.out,←List.drop_zero (l:=L),HDR.out,HH6.out.1,HH6.out.2];exact Ps.prog_no0 HNM.out⟩)
    case fr=>exact FRA.of _ _ _ _ rfl
    case main =>
     revert hKK;revert KK;exact key.out
  case rest =>
   intro KK hKK a1 e1 f1 md q ac wx hfr hr hb hp hq hhl;obtain⟨f,rfl⟩:=hfr;obtain⟨t1,ht1⟩:=hr.tok;have TK:=rtake_u 1 (by decide) hr t1 ht1;have HR:=yH hr;have HB:=yH hb;have HP:=yH hp;have HT1:=yH ht1;have HHL:=yH hhl;have hgq:g≠q:=(by omega);clear hr hb hp ht1 hhl HR4 HB4;go_wp2_with fail
   refine TK.mono ?_;rintro e w5 ⟨x5,a5,e5,f5,rfl,hr5,ht5,hu5⟩;have HSL:=yH (hl_take HHL.out HT1.out hu5);have HR5:=yH hr5;have HP5:=yH (HP.out.same (ht5.block q HP.out.lt (fun e=>hgq e.symm)));have HB5:=yH (HB.out.trans (ht5.below (fun k hk=>by rw[show k=g from hk];exact hB0g) (Nat.le_trans hB0B HR.out.sz)));obtain⟨t2,ht2⟩:=hr5.tok;have SG:=rsign_u [59] hr5 t2 ht2;have HT2:=yH ht2;clear hr5 ht5 hu5 ht2 TK;go_wp2_with fail
   refine SG.mono ?_;rintro e w6 ⟨a6,e6,f6,rfl,hr6,ht6,hu6⟩;obtain⟨F6,hF6⟩:=sl_sign HSL.out HT2.out hu6;have HTL:=yH hF6;have HP6:=yH (HP5.out.same (ht6.block q HP5.out.lt (fun e=>hgq e.symm)));have HS6:=yH (AST.start hr6 (HB5.out.trans (ht6.below (fun k hk=>by rw[show k=g from hk];exact hB0g) (Nat.le_trans hB0B HR5.out.sz))) HP6.out hq hB0g);clear hr6 ht6 hu6 hF6 SG HP6 HT2 HT1 HP5 HB5 HSL HR5 HR HB HP HHL;go_wp2
   go_loopw [93] (fun _ wr=>∃ (a' e' f' F':Nat) (rv' tv':Value) (top:List Nat) (cs':List SA),Hid (AST T wr B0 B g b o cap q L rv' tv' top cs' a' e' f' md)∧Hid (Ps.TLink F' md e' f' top (rowS cs') (L.drop a') TT)) (fun _ wr=>lenR wr g)
   case atStart=>exact⟨a6,e6,f6,F6,_,_,[],[],HS6,HTL⟩
   case round =>
    obtain⟨a',e',f',F',rv',tv',top,cs',HS,HM⟩:=hrel;clear HS6 HTL;obtain⟨tao,tc,hform⟩:=HS.out.tp.form;subst hform;obtain⟨t,ht⟩:=HS.out.rs.tok;have HT:=yH ht;obtain⟨tk,tx,p⟩:=t;obtain⟨q0,q1,q2⟩:=HS.out.rs.cells ht;dsimp only at q0 q1 q2;obtain⟨N,hN⟩:∃ N,L.length=N:=⟨_,rfl⟩;have al:(a':Int)<(N:Int):=(by have:=HS.out.rs.al;omega);have al2:a'<N:=by have:=HS.out.rs.al;omega
    have g0:wr.cell? ⟨g,0,none⟩=some (.slice (some ⟨b,o,none⟩) N cap):=(by rw[←hN];exact HS.out.rs.rx.c0);have g1:=HS.out.rs.rx.c1;have g3:=HS.out.rs.rx.c3;have p0:∀ q',(wr.drewN q').cell? ⟨g,0,none⟩=some (.slice (some ⟨b,o,none⟩) N cap):=fun _=>g0;have p1:∀ q',(wr.drewN q').cell? ⟨g,1,none⟩=some (.int .i64 (a':Int)):=fun _=>g1;have p3:∀ q',(wr.drewN q').cell? ⟨g,3,none⟩=some (.int .i64 (e':Int)):=fun _=>g3
    have k0:∀ q',(wr.drewN q').cell? ⟨b,o+a'*3,none⟩=some (.int .i64 (tk:Int)):=fun _=>q0;have hdt:=Ps.drop_at ht;have HDT:=yH hdt;clear ht hdt q0 q1 q2 g0 g1 g3 hN;by_cases he:e'=0
    ·have z1:((e':Int)==0)=true:=beq_iff_eq.2 (by omega);have z2:((e':Int)=0)=True:=yT;have z3:(e'=0)=True:=eq_true he;by_cases hk:tk=0
     ·have f1:((tk:Int)==0)=true:=beq_iff_eq.2 (by omega);have f2:((tk:Int)=0)=True:=yT;have f3:(tk=0)=True:=eq_true hk;have f4:((tk:Int) != 0)=false:=by rw[bne,f1];rfl
      have hT:TT=if 100<(rowS cs').length then .error (0,4) else .ok (md,rowS cs',top):=by
       have hm:=HM.out;rw[HDT.out] at hm;exact hm.close he hk
      have HDN:=yH hT;have z4:((e':Int) != 0)=false:=(by rw[bne,z1];rfl);clear hk he hT;go_wp2;go_quiet (fail)
      have hbN:Below wr.heap.size wr (wr.drewN nq):=⟨rfl,rfl,rfl,yR,fun _ _=>rfl⟩;have HS7:=yH (HS.out.below hbN);clear p0 p1 p3 k0 hbN;generalize wr.drewN nq=wF at *;simp only[Exit.then];obtain⟨so,sc,hsv⟩:=own_form9 HS7.out.rs.os.own;subst hsv;obtain⟨N8,hN8⟩:∃ n,cs'.length=n:=⟨_,rfl⟩;obtain⟨M8,hM8⟩:∃ n,top.length=n:=⟨_,rfl⟩;have hlen:(rowS cs').length=N8:=(by rw[←hN8];simp[rowS]);have hall:=HDN.out;rw[hlen] at hall
      rw[hN8,hM8] at HS7;have c3:=HS7.out.rs.rx.c3;have c2:=HS7.out.rs.rx.c2;have hzE:=HZ.out.below HS7.out.bel hqB0;have HBE:=yH HS7.out.bel;by_cases hbig:100<N8
      ·have b1:((100:Int)<(N8:Int))=True:=yT;rw[if_pos hbig] at hall;have HA:=yH hall;have zc0:=hzE.cell (i:=0) rfl;have zc1:=hzE.cell (i:=1) rfl;have zc2:=hzE.cell (i:=2) rfl;have zf0:=hzE.fr 0;have zf1:=hzE.fr 1;have zf2:=hzE.fr 2;have HSET:=yH (hzE.set (vs:=[.int .i64 0,.slice none 0 0,.slice none 0 0]) rfl)
       have HBL:=yH (below_setN w.heap.size [.int .i64 0,.slice none 0 0,.slice none 0 0] 0 yR (HBT.out.trans (HBE.out.mono (by omega))));clear hzE hall hbig HS hN8 hM8 hlen;go_wp2;change bodyPost _ _ _ _ _ (setN wF w.heap.size 0 [.int .i64 0,.slice none 0 0,.slice none 0 0]);have hset:=HSET.out;have hbl:=HBL.out;generalize setN wF w.heap.size 0 [.int .i64 0,.slice none 0 0,.slice none 0 0]=W at hset hbl ⊢;have r0:=hset.cell (i:=0) rfl
       have r1:=hset.cell (i:=1) rfl;have r2:=hset.cell (i:=2) rfl;refine bodyPost_ret (v:=.tuple #[.agg #[.int .i64 0,.slice none 0 0,.slice none 0 0],.int .i64 0,.int .i64 4]) (by simp[results,Tryz.results18,go_sem,r0,r1,r2]) rfl ?_;unfold PAllP;rw[HALL.out,HA.out];exact⟨hbl,rfl,by decide⟩
      ·have b1:((100:Int)<(N8:Int))=False:=yF;rw[if_neg hbig] at hall;have HA:=yH hall;obtain⟨wG,hwG⟩:∃ x,wF.setCell ⟨q,1,none⟩ (.slice so N8 sc)=x:=⟨_,rfl⟩;have ht:Trn (fun k=>k=q) wF wG:=(by rw[←hwG];exact Trn.setCell (F:=fun k=>k=q) (g:=q) (Trn.refl _ wF) rfl _);have hpG:H3 wG q [.int .i64 (md:Int),.slice so N8 sc,.slice tao M8 tc]:=by rw[←hwG];exact HS7.out.hp.set1 1 _
       have hprG:PR B wG (.slice so N8 sc) (.slice tao M8 tc) (rowS cs') top:=read_of (HS7.out.rs.past ht (by have:=HS7.out.Bq;omega) (by have:=HS7.out.rs.bB;have:=HS7.out.Bq;omega) HS7.out.farr HS7.out.farc).os (ht.own HS7.out.tp (fun k hk e=>by have:=HS7.out.apq k hk;have:k=q:=e;omega));have hBG:Below B0 T wG:=HS7.out.bel.trans (ht.below (fun k hk=>by rw[show k=q from hk];have:=HS7.out.Bq;omega) (by have:=HS7.out.rs.sz;omega))
       have hzG:=HZ.out.below hBG hqB0;have zc0:=hzG.cell (i:=0) rfl;have zc1:=hzG.cell (i:=1) rfl;have zc2:=hzG.cell (i:=2) rfl;have zf0:=hzG.fr 0;have zf1:=hzG.fr 1;have zf2:=hzG.fr 2;have pc1:=HS7.out.hp.cell (i:=1) rfl;have pf1:=HS7.out.hp.fr 1;have qc0:=hpG.cell (i:=0) rfl;have qc1:=hpG.cell (i:=1) rfl;have qc2:=hpG.cell (i:=2) rfl;have HSET:=yH (hzG.set (vs:=[.int .i64 (md:Int),.slice so N8 sc,.slice tao M8 tc]) rfl)
       have HBL:=yH (below_setN w.heap.size [.int .i64 (md:Int),.slice so N8 sc,.slice tao M8 tc] 0 yR (HBT.out.trans (hBG.mono (by omega))));have hrd9:PR B (setN wG w.heap.size 0 [.int .i64 (md:Int),.slice so N8 sc,.slice tao M8 tc]) (.slice so N8 sc) (.slice tao M8 tc) (rowS cs') top:=hprG.past (fun k hk=>setN_other (show k≠w.heap.size by omega) _ _);have HRD:=yH hrd9;clear hzE hall hbig HS hN8 hM8 hlen ht hpG hprG hBG hzG hrd9;go_wp2
       change bodyPost _ _ _ _ _ (setN wG w.heap.size 0 [.int .i64 (md:Int),.slice so N8 sc,.slice tao M8 tc]);have hset:=HSET.out;have hbl:=HBL.out;have hpr:=HRD.out;generalize setN wG w.heap.size 0 [.int .i64 (md:Int),.slice so N8 sc,.slice tao M8 tc]=W at hset hbl hpr ⊢;have r0:=hset.cell (i:=0) rfl;have r1:=hset.cell (i:=1) rfl;have r2:=hset.cell (i:=2) rfl
       refine bodyPost_ret (v:=.tuple #[.agg #[.int .i64 (md:Int),.slice so N8 sc,.slice tao M8 tc],.int .i64 0,.int .i64 0]) (by simp[results,Tryz.results18,go_sem,r0,r1,r2]) rfl ?_;unfold PAllP;rw[HALL.out,HA.out];exact⟨hbl,_,_,rfl,hpr.lower (by omega)⟩
     ·have f1:((tk:Int)==0)=false:=yB;have f2:((tk:Int)=0)=False:=yF;have f3:(tk=0)=False:=eq_false hk;have f4:((tk:Int) != 0)=true:=(by rw[bne,f1];rfl);subst he;have hm:=HM.out;rw[HDT.out] at hm;obtain⟨F2,hF2,hdone,hlink⟩:=hm.more rfl hk;rw[←HDT.out] at hdone hlink;have HDONE:=yH hdone;have HLINK:=yH hlink;have hlen:=HS.out.rs.rx.lenR0;have hal7:=HS.out.rs.al
      have hm7:=HS.out.rs.most;clear hk hm hdone hlink;go_wp2;go_quiet (fail)
      have hbN:Below wr.heap.size wr (wr.drewN nq):=⟨rfl,rfl,rfl,yR,fun _ _=>rfl⟩;have HSa:=yH (HS.out.below hbN);clear p0 p1 p3 k0 hbN;generalize wr.drewN nq=wF at *;simp only[Exit.then];go_wp2;refine wp_region_held_drew (S:=fun _=>True) (by kernel_rfl) trivial (fun hH=>?_);have HSd:=yH (HSa.out.below ((Below.refl _ _).drew));generalize wF.drew=wd at *
      have l0:wd.cell? ⟨q,2,none⟩=some (.slice tao top.length tc):=HSd.out.hp.cell (i:=2) rfl;have ONE:=oneC F2 (d:=0) (by omega) HSd.out.rs HDONE.out;have ONE':Calls Tryz.prog 32 #[.pointer (some ⟨g,0,none⟩),.int .i64 0] wd _:=ONE;have HONE:=yH ONE';clear ONE ONE'
      refine heldTake (i:=0) (v:=?_) rfl (by kernel_rfl) (by kernel_rfl) (fun _ _ _ h=>h) (by rfl) trivial (fun w hSw=>?_) ?_;rotate_left;focus ((try dsimp only at hSw);go_simp;try with_reducible rfl)
      (try simp only[Act.put,zLa,zLb,zLc]);refine heldTake (i:=2) (v:=?_) rfl (by kernel_rfl) (by kernel_rfl) (fun _ _ _ h=>h) (by rfl) trivial (fun w hSw=>?_) ?_;rotate_left;focus ((try dsimp only at hSw);go_simp;try with_reducible rfl)
      (try simp only[Act.put,zLa,zLb,zLc]);refine heldTwo (i:=1) (j:=3) rfl rfl (by kernel_rfl) (by rfl) (by rfl) (fun K hK=>?_) (fun K hK=>?_)
      ·go_simp;refine hK.out _ _ trivial ?_;clear hK K;(try simp only[Act.put,zLa,zLb,zLc]);refine heldNext (i:=3) rfl (by kernel_rfl) (by rfl) (fun K hK=>?_);go_simp;go_at_call 32;refine HONE.out.mono ?_;rintro e w7 ⟨i,rv7,cs7,a7,e7,f7,rfl,hr7,ht7,hn7,hc7,haa7,hlt7,hf7,hend7⟩;have hs7:=HSd.out.oned hr7 ht7 hn7 hc7 haa7 rfl;have hml7:=HLINK.out _ _ _ _ _ hend7;have l7:w7.cell? ⟨q,2,none⟩=some (.slice tao top.length tc):=hs7.hp.cell (i:=2) rfl
       have HML7:=yH hml7;have h1:top.length+1≤a7+1:=(by have:=HSd.out.ok rfl;omega);have h2:e7=0→top.length+1≤a7:=fun h0=>by have:=HSd.out.ok rfl;have:=hlt7 h0;omega
       have HS7:=yH hs7;have H12:=yH (⟨h1,h2⟩:_∧_);have HLT7:=yH hlt7;clear hr7 ht7 hn7 hc7 hf7 hend7 hs7 hml7 h1 h2 hlt7;first|(refine hK.out _ _ trivial ?_)|(go_wp2_with fail;refine hK.out _ _ trivial ?_)
       clear hK K;(try simp only[Act.put,zLa,zLb,zLc]);refine heldNext (i:=4) rfl (by kernel_rfl) (by rfl) (fun K hK=>?_);have hown7:IR (w7.alloc (.cells #[.int .i64 (i:Int)] 3)) B 3 (.slice tao top.length tc) top:=(own_below HS7.out.tp (yA));have HO7:=yH hown7;have hnl:top.length≤1048576:=(by have:=HS7.out.most;have:=HS7.out.rs.al;have:=HS7.out.rs.most;omega);have HNL:=yH hnl
       have HNEW:=yH (heap_alloc_new w7 (.cells #[.int .i64 (i:Int)] 3));have HSZ:=yH (show B≤(w7.alloc (.cells #[.int .i64 (i:Int)] 3)).heap.size by have:=HS7.out.rs.sz;simp;omega);have l8:(w7.alloc (.cells #[.int .i64 (i:Int)] 3)).cell? ⟨q,2,none⟩=some (.slice tao top.length tc):=(HS7.out.hp.below (yA) HS7.out.hp.lt).cell (i:=2) rfl;clear hown7 hnl;go_simp;refine hK.out _ _ trivial ?_;clear hK K
       (try simp only[Act.put,zLa,zLb,zLc]);refine heldNext (i:=5) rfl (by kernel_rfl) (by rfl) (fun K hK=>?_);refine append_int2 i (.tmp 95) (.tmp 98) rfl rfl HO7.out rfl HNEW.out HNL.out HSZ.out (fun g8 c8 w8 ho8 hg8 hgg8=>?_);have hs8:=HS7.out.push ho8 hg8 (hgg8.imp id (fun e=>e.trans (by simp))) H12.out.1 H12.out.2;have s8:=HS7.out.pushed hg8;have sc8:w8.cell? ⟨q,2,none⟩=some (.slice tao top.length tc):=s8.cell (i:=2) rfl
       have sf8:w8.frozen? ⟨q,2,none⟩=false:=s8.fr 2;have HS8:=yH hs8;clear ho8 hg8 hgg8 hs8 s8;refine hK.out _ _ trivial ?_;clear hK K;(try simp only[Act.put,zLa,zLb,zLc]);refine heldTake (i:=6) (v:=?_) rfl (by kernel_rfl) (by kernel_rfl) (fun _ _ _ h=>h) (by rfl) trivial (fun w hSw=>?_) ?_;rotate_left;focus ((try dsimp only at hSw);go_simp;try with_reducible rfl)
       (try simp only[Act.put,zLa,zLb,zLc]);refine heldNext (i:=7) rfl (by kernel_rfl) (by rfl) (fun K hK=>?_);go_simp;refine hK.out _ _ trivial ?_;clear hK K;(try simp only[Act.put,zLa,zLb,zLc]);refine wpAnyH_done (by kernel_rfl) ?_ _;(try simp only[Exit.then]);go_wp2;go_roundw
       case rel=>exact⟨a7,e7,f7,F2,rv7,_,top++[i],cs7,HS8,HML7⟩
       case measure =>
        show lenR _ g<lenR _ g
        rw[hlen];by_cases h0:e7=0
        ·subst h0;rw[HS8.out.rs.rx.lenR0];have:=HLT7.out rfl;omega
        ·rw[HS8.out.rs.rx.lenRe h0];omega
      ·go_simp;go_at_call 32;refine HONE.out.mono ?_;rintro e w7 ⟨i,rv7,cs7,a7,e7,f7,rfl,hr7,ht7,hn7,hc7,haa7,hlt7,hf7,hend7⟩;have hs7:=HSd.out.oned hr7 ht7 hn7 hc7 haa7 rfl;have hml7:=HLINK.out _ _ _ _ _ hend7;have l7:w7.cell? ⟨q,2,none⟩=some (.slice tao top.length tc):=hs7.hp.cell (i:=2) rfl;have HML7:=yH hml7;have h1:top.length+1≤a7+1:=by have:=HSd.out.ok rfl;omega
       have h2:e7=0→top.length+1≤a7:=fun h0=>by have:=HSd.out.ok rfl;have:=hlt7 h0;omega
       have HS7:=yH hs7;have H12:=yH (⟨h1,h2⟩:_∧_);have HLT7:=yH hlt7;clear hr7 ht7 hn7 hc7 hf7 hend7 hs7 hml7 h1 h2 hlt7;first|(refine hK.out _ _ trivial ?_)|(go_wp2_with fail;refine hK.out _ _ trivial ?_)
       clear hK K;(try simp only[Act.put,zLa,zLb,zLc]);refine heldTwo (i:=1) (j:=4) rfl rfl (by kernel_rfl) (by rfl) (by rfl) (fun K hK=>?_) (fun K hK=>?_)
       ·go_simp;refine hK.out _ _ trivial ?_;clear hK K;(try simp only[Act.put,zLa,zLb,zLc]);refine heldNext (i:=4) rfl (by kernel_rfl) (by rfl) (fun K hK=>?_);have hown7:IR (w7.alloc (.cells #[.int .i64 (i:Int)] 3)) B 3 (.slice tao top.length tc) top:=(own_below HS7.out.tp (yA));have HO7:=yH hown7;have hnl:top.length≤1048576:=by have:=HS7.out.most;have:=HS7.out.rs.al;have:=HS7.out.rs.most;omega
        have HNL:=yH hnl;have HNEW:=yH (heap_alloc_new w7 (.cells #[.int .i64 (i:Int)] 3));have HSZ:=yH (show B≤(w7.alloc (.cells #[.int .i64 (i:Int)] 3)).heap.size by have:=HS7.out.rs.sz;simp;omega);have l8:(w7.alloc (.cells #[.int .i64 (i:Int)] 3)).cell? ⟨q,2,none⟩=some (.slice tao top.length tc):=(HS7.out.hp.below (yA) HS7.out.hp.lt).cell (i:=2) rfl;clear hown7 hnl
        go_simp;refine hK.out _ _ trivial ?_;clear hK K;(try simp only[Act.put,zLa,zLb,zLc]);refine heldNext (i:=5) rfl (by kernel_rfl) (by rfl) (fun K hK=>?_);refine append_int2 i (.tmp 95) (.tmp 98) rfl rfl HO7.out rfl HNEW.out HNL.out HSZ.out (fun g8 c8 w8 ho8 hg8 hgg8=>?_);have hs8:=HS7.out.push ho8 hg8 (hgg8.imp id (fun e=>e.trans (by simp))) H12.out.1 H12.out.2;have s8:=HS7.out.pushed hg8
        have sc8:w8.cell? ⟨q,2,none⟩=some (.slice tao top.length tc):=s8.cell (i:=2) rfl;have sf8:w8.frozen? ⟨q,2,none⟩=false:=s8.fr 2;have HS8:=yH hs8;clear ho8 hg8 hgg8 hs8 s8;refine hK.out _ _ trivial ?_;clear hK K;(try simp only[Act.put,zLa,zLb,zLc]);refine heldTake (i:=6) (v:=?_) rfl (by kernel_rfl) (by kernel_rfl) (fun _ _ _ h=>h) (by rfl) trivial (fun w hSw=>?_) ?_;rotate_left;focus ((try dsimp only at hSw);go_simp;try with_reducible rfl)
        (try simp only[Act.put,zLa,zLb,zLc]);refine heldNext (i:=7) rfl (by kernel_rfl) (by rfl) (fun K hK=>?_);go_simp;refine hK.out _ _ trivial ?_;clear hK K;(try simp only[Act.put,zLa,zLb,zLc]);refine wpAnyH_done (by kernel_rfl) ?_ _;(try simp only[Exit.then]);go_wp2;go_roundw
        case rel=>exact⟨a7,e7,f7,F2,rv7,_,top++[i],cs7,HS8,HML7⟩
        case measure =>
         show lenR _ g<lenR _ g
         rw[hlen];by_cases h0:e7=0
         ·subst h0;rw[HS8.out.rs.rx.lenR0];have:=HLT7.out rfl;omega
         ·rw[HS8.out.rs.rx.lenRe h0];omega
       ·have hown7:IR (w7.alloc (.cells #[.int .i64 (i:Int)] 3)) B 3 (.slice tao top.length tc) top:=(own_below HS7.out.tp (yA));have HO7:=yH hown7;have hnl:top.length≤1048576:=(by have:=HS7.out.most;have:=HS7.out.rs.al;have:=HS7.out.rs.most;omega);have HNL:=yH hnl;have HNEW:=yH (heap_alloc_new w7 (.cells #[.int .i64 (i:Int)] 3))
        have HSZ:=yH (show B≤(w7.alloc (.cells #[.int .i64 (i:Int)] 3)).heap.size by have:=HS7.out.rs.sz;simp;omega);have l8:(w7.alloc (.cells #[.int .i64 (i:Int)] 3)).cell? ⟨q,2,none⟩=some (.slice tao top.length tc):=(HS7.out.hp.below (yA) HS7.out.hp.lt).cell (i:=2) rfl;clear hown7 hnl;go_simp;refine hK.out _ _ trivial ?_;clear hK K;try simp only[Act.put,zLa,zLb,zLc]
        refine heldNext (i:=1) rfl (by kernel_rfl) (by rfl) (fun K hK=>?_);go_simp;refine hK.out _ _ trivial ?_;clear hK K;(try simp only[Act.put,zLa,zLb,zLc]);refine heldNext (i:=5) rfl (by kernel_rfl) (by rfl) (fun K hK=>?_);refine append_int2 i (.tmp 95) (.tmp 98) rfl rfl HO7.out rfl HNEW.out HNL.out HSZ.out (fun g8 c8 w8 ho8 hg8 hgg8=>?_);have hs8:=HS7.out.push ho8 hg8 (hgg8.imp id (fun e=>e.trans (by simp))) H12.out.1 H12.out.2;have s8:=HS7.out.pushed hg8
        have sc8:w8.cell? ⟨q,2,none⟩=some (.slice tao top.length tc):=s8.cell (i:=2) rfl;have sf8:w8.frozen? ⟨q,2,none⟩=false:=s8.fr 2;have HS8:=yH hs8;clear ho8 hg8 hgg8 hs8 s8;refine hK.out _ _ trivial ?_;clear hK K;(try simp only[Act.put,zLa,zLb,zLc]);refine heldTake (i:=6) (v:=?_) rfl (by kernel_rfl) (by kernel_rfl) (fun _ _ _ h=>h) (by rfl) trivial (fun w hSw=>?_) ?_;rotate_left;focus ((try dsimp only at hSw);go_simp;try with_reducible rfl)
        (try simp only[Act.put,zLa,zLb,zLc]);refine heldNext (i:=7) rfl (by kernel_rfl) (by rfl) (fun K hK=>?_);go_simp;refine hK.out _ _ trivial ?_;clear hK K;(try simp only[Act.put,zLa,zLb,zLc]);refine wpAnyH_done (by kernel_rfl) ?_ _;(try simp only[Exit.then]);go_wp2;go_roundw
        case rel=>exact⟨a7,e7,f7,F2,rv7,_,top++[i],cs7,HS8,HML7⟩
        case measure =>
         show lenR _ g<lenR _ g
         rw[hlen];by_cases h0:e7=0
         ·subst h0;rw[HS8.out.rs.rx.lenR0];have:=HLT7.out rfl;omega
         ·rw[HS8.out.rs.rx.lenRe h0];omega
    ·have z1:((e':Int)==0)=false:=yB;have z2:((e':Int)=0)=False:=yF;have z3:(e'=0)=False:=eq_false he;have z4:((e':Int) != 0)=true:=(by rw[bne,z1];rfl);have HTE:=yH (⟨he,HM.out.err he⟩:_∧_);clear he;go_wp2;go_quiet (fail)
     have hbN:Below wr.heap.size wr (wr.drewN nq):=⟨rfl,rfl,rfl,yR,fun _ _=>rfl⟩;have HS7:=yH (HS.out.below hbN);clear p0 p1 p3 k0 hbN;generalize wr.drewN nq=wF at *;simp only[Exit.then];clear HS;have c3:=HS7.out.rs.rx.c3;have c4:=HS7.out.rs.rx.c4;have hzE:=HZ.out.below HS7.out.bel hqB0;have zc0:=hzE.cell (i:=0) rfl;have zc1:=hzE.cell (i:=1) rfl;have zc2:=hzE.cell (i:=2) rfl;have zf0:=hzE.fr 0;have zf1:=hzE.fr 1;have zf2:=hzE.fr 2
     have HBE:=yH (HS7.out.bel);have hgz:w.heap.size≠g:=(by omega);have hs0:wF.drew.cell? ⟨g,4,none⟩=some (.int .i64 (f':Int))∧wF.drew.cell? ⟨g,3,none⟩=some (.int .i64 (e':Int)):=⟨c4,c3⟩;clear hzE;go_wp2;refine wp_region_held_drew (S:=fun w'=>w'.cell? ⟨g,4,none⟩=some (.int .i64 (f':Int))∧w'.cell? ⟨g,3,none⟩=some (.int .i64 (e':Int))) (by kernel_rfl) hs0 (fun hH=>?_);have zd0:wF.drew.cell? ⟨w.heap.size,0,none⟩=some _:=zc0
     have zd1:wF.drew.cell? ⟨w.heap.size,1,none⟩=some _:=zc1;have zd2:wF.drew.cell? ⟨w.heap.size,2,none⟩=some _:=zc2;have ze0:wF.drew.frozen? ⟨w.heap.size,0,none⟩=false:=zf0;have ze1:wF.drew.frozen? ⟨w.heap.size,1,none⟩=false:=zf1;have ze2:wF.drew.frozen? ⟨w.heap.size,2,none⟩=false:=zf2
     have HSETD:Hid (H3 (setN wF.drew w.heap.size 0 [.int .i64 0,.slice none 0 0,.slice none 0 0]) w.heap.size [.int .i64 0,.slice none 0 0,.slice none 0 0]):=yH (H3.set (us:=[.int .i64 0,.slice none 0 0,.slice none 0 0]) (HZ.out.below (show Below B0 T wF.drew from ⟨HBE.out.os,HBE.out.tape,HBE.out.output,HBE.out.size,HBE.out.block⟩) hqB0) rfl)
     have HBLD:=yH (below_setN w.heap.size [.int .i64 0,.slice none 0 0,.slice none 0 0] 0 yR (show Below w.heap.size w wF.drew from (HBT.out.trans (Below.mono (show Below B0 T wF.drew from ⟨HBE.out.os,HBE.out.tape,HBE.out.output,HBE.out.size,HBE.out.block⟩) (by omega)))))
     have hs5D:(setN wF.drew w.heap.size 0 [.int .i64 0,.slice none 0 0,.slice none 0 0]).cell? ⟨g,4,none⟩=some (.int .i64 (f':Int))∧(setN wF.drew w.heap.size 0 [.int .i64 0,.slice none 0 0,.slice none 0 0]).cell? ⟨g,3,none⟩=some (.int .i64 (e':Int)):=⟨(World.cell?_of_block (a:=⟨g,4,none⟩) (setN_other (fun e=>hgz e.symm) _ _)).trans hs0.1,(World.cell?_of_block (a:=⟨g,3,none⟩) (setN_other (fun e=>hgz e.symm) _ _)).trans hs0.2⟩;generalize wF.drew=wd at *
     refine heldT (i:=0) ?_;refine heldT (i:=1) ?_;refine heldT (i:=2) ?_;refine heldT (i:=3) ?_;refine heldT (i:=4) ?_;refine heldT (i:=5) ?_;refine heldT (i:=6) ?_;refine heldT (i:=7) ?_;refine heldT (i:=8) ?_;refine heldNext (i:=9) rfl (by kernel_rfl) (by rfl) (fun K hK=>?_);go_simp;refine hK.out _ (setN wd w.heap.size 0 [.int .i64 0,.slice none 0 0,.slice none 0 0]) hs5D ?_;clear hK K;(try simp only[Act.put,zLa,zLb,zLc]);refine heldT (i:=10) ?_
     refine heldT (i:=11) ?_;refine wpAnyH_done (by kernel_rfl) ?_ _
     skip
     simp only[Exit.then];go_wp2;have hset:=HSETD.out;have hbl:=HBLD.out;generalize setN wd w.heap.size 0 [.int .i64 0,.slice none 0 0,.slice none 0 0]=W at hset hbl ⊢;have r0:=hset.cell (i:=0) rfl;have r1:=hset.cell (i:=1) rfl;have r2:=hset.cell (i:=2) rfl;refine bodyPost_ret (v:=.tuple #[.agg #[.int .i64 0,.slice none 0 0,.slice none 0 0],.int .i64 (f':Int),.int .i64 (e':Int)]) (by simp[results,Tryz.results18,go_sem,r0,r1,r2]) rfl ?_;unfold PAllP
     rw[HALL.out,HTE.out.2];exact⟨hbl,rfl,HTE.out.1⟩
end Go.Proofs.YtodlhhfcjkjapaaGreatDoor
