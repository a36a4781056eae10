import Derived.Test.YtodlhhfcjkjapaaGreatDoorPF
import Derived.Test.YtodlhhfcjkjapaaGreatDoorPJ
import Derived.Test.YtodlhhfcjkjapaaGreatDoorWB
import Derived.Test.YtodlhhfcjkjapaaGreatDoorPS
import Derived.Test.YtodlhhfcjkjapaaGreatDoorPE
import Derived.Test.YtodlhhfcjkjapaaGreatDoorPC
import Derived.Test.YtodlhhfcjkjapaaGreatDoorNumber
import Derived.Deep.CutRange
import Derived.Laws.Cover3
set_option maxRecDepth 200000
set_option maxHeartbeats 8000000
namespace Go.Proofs.YtodlhhfcjkjapaaGreatDoor
open Go.RowKit
theorem pwords_any (k:Nat) (h1:1≤k) (h2:k≤17) (w:World):Calls Tryz.prog 91 #[.string ⟨(Ps.shapeS k).toArray⟩] w fun e w' =>
  ∃ g n cap,e = .returned (.slice (some ⟨g,0,none⟩) n cap)∧n=(Ps.tailW k).length+1∧w.heap.size≤g∧Rd w' (.slice (some ⟨g,0,none⟩) n cap) ((Ps.fw k :: Ps.tailW k).map sv)∧w'.cell? ⟨g,0,none⟩=some (.string ⟨(Ps.fw k).toArray⟩)∧Below w.heap.size w w':=by
 have hl:=Ps.shapeS_len ⟨k,by omega⟩;refine(words_any ⟨(Ps.shapeS k).toArray⟩ w (by show (Ps.shapeS k).length≤_;simp only at hl;omega)).mono ?_;rintro e w' ⟨v,rfl,ho,hb⟩;rw[show (⟨(Ps.shapeS k).toArray⟩:ByteArray).data.toList=Ps.shapeS k from rfl,Ps.words_of h1 h2] at ho;obtain⟨g,cap,rfl,hg,_,_,hc⟩:=own_pos ho (by simp);exact⟨g,_,cap,rfl,rfl,hg,Rd.of_own ho,hc 0 _ rfl,hb⟩
theorem below_drewK {B:Nat} {a w:World} (h:Below B a w):Below B a w.drew:=⟨h.os,h.tape,h.output,h.size,h.block⟩
theorem kindOf_any (k:Nat) (t:List UInt8) (p:Nat) (w:World) (hS:SHP w) (hf:Ps.Fine ⟨k,t,p⟩):Calls Tryz.prog 90 #[tkv k t p] w fun e w'=>e = .returned (.int .i64 ((if k=1 then Ps.kindOf t else 0:Nat):Int))∧Below w.heap.size w w':=by
 obtain⟨R,hR⟩:∃ R,(if k=1 then Ps.kindOf t else 0:Nat)=R:=⟨_,rfl⟩;rw[hR];have HR:=yH hR;have HF:=yH hf;have HSH:=yH hS;clear hR hS hf;unfold tkv;obtain⟨T,hT⟩:∃ T,w.alloc (.cells #[.int .i64 (k:Int),.string ⟨t.toArray⟩,.int .i64 (p:Int)] 65)=T:=⟨_,rfl⟩;have hTk:=Tk3.new w k t p;rw[hT] at hTk;have hbT:Below w.heap.size w T:=by rw[←hT];exact yA
 have HTK:=yH (fun (w':World) (hb:Below T.heap.size T w')=>hTk.below hb);have HBT:=yH hbT;clear hTk hbT;go_enter Tryz.func90,Tryz.ntmps90;go_wp2;go_loopw [3] (fun s3 wr=>∃ j:Nat,1≤j∧j≤18∧s3 = .int .i64 (j:Int)∧Hid (Below T.heap.size T wr)∧Hid (R=if k=1 then Ps.kindIn t j (Ps.firsts.drop (j-1)) else 0)) (fun s3 _=>18-(intOf s3).toNat)
 case atStart=>exact⟨1,by omega,by omega,rfl,yH (Below.refl _ _),yH HR.out.symm⟩
 case round =>
  obtain⟨j,hj1,hj2,rfl,HB,HQ⟩:=hrel;by_cases hlt:j≤17
  ·have HBD:=yH (below_drewK HB.out);have hd:=HTK.out _ HBD.out;have hs0:wr.drew.cell? ⟨w.heap.size,0,none⟩=some (.int .i64 (k:Int))∧wr.drew.cell? ⟨w.heap.size,1,none⟩=some (.string ⟨t.toArray⟩)∧wr.drew.cell? ⟨w.heap.size,2,none⟩=some (.int .i64 (p:Int)):=⟨hd.c0,hd.c1,hd.c2⟩;have PW:=yH (fun wx=>pwords_any j hj1 hlt wx);have FA:=yH (fun wx=>fits_any k t p (Ps.fw j) wx);unfold tkv at FA;rw[Ps.fitsT_fw hj1 hlt HF.out] at FA;have hq:=HQ.out
   rw[Ps.kind_from t j hj1 hlt] at hq;have hj3:(j:Int)≤17:=(by omega);have hj4:1≤j:=hj1;go_wp2_with fail
   refine wp_region_held_drew (S:=fun w'=>w'.cell? ⟨w.heap.size,0,none⟩=some (.int .i64 (k:Int))∧w'.cell? ⟨w.heap.size,1,none⟩=some (.string ⟨t.toArray⟩)∧w'.cell? ⟨w.heap.size,2,none⟩=some (.int .i64 (p:Int))) (by kernel_rfl) hs0 (fun hH=>?_);generalize wr.drew=wd at *;have hSD:SHP wd:=((HSH.out.below HBT.out).below HBD.out);have PS:=yH (fun (wx:World) (h:SHP wx)=>pshape_any j (by omega) wx h);refine heldT (i:=0) ?_;refine heldT (i:=1) ?_
   refine heldNext (i:=2) rfl (by kernel_rfl) (by rfl) (fun K hK=>?_);go_simp;go_at_call 63;refine(PS.out _ (by assumption)).mono ?_;rintro e w1 ⟨rfl,rfl⟩;first|(refine hK.out _ _ (by assumption) ?_)|(go_wp2_with fail;refine hK.out _ _ (by assumption) ?_);clear hK K
   (try simp only[Act.put,zLa,zLb,zLc]);refine heldNext (i:=3) rfl (by kernel_rfl) (by rfl) (fun K hK=>?_);go_simp;go_at_call 91;refine(PW.out _).mono ?_;rintro e w2 ⟨gw,nw,cw,rfl,hnw,hgw,hrw,hcw,hbw⟩;have k2:=HTK.out w2 (HBD.out.trans (hbw.mono HBD.out.size))
   have s2:w2.cell? ⟨w.heap.size,0,none⟩=some (.int .i64 (k:Int))∧w2.cell? ⟨w.heap.size,1,none⟩=some (.string ⟨t.toArray⟩)∧w2.cell? ⟨w.heap.size,2,none⟩=some (.int .i64 (p:Int)):=⟨k2.c0,k2.c1,k2.c2⟩;first|(refine hK.out _ _ s2 ?_)|(go_wp2_with fail;refine hK.out _ _ s2 ?_)
   clear hK K;refine heldMore (S':=fun w'=>(w'.cell? ⟨w.heap.size,0,none⟩=some (.int .i64 (k:Int))∧w'.cell? ⟨w.heap.size,1,none⟩=some (.string ⟨t.toArray⟩)∧w'.cell? ⟨w.heap.size,2,none⟩=some (.int .i64 (p:Int)))∧w'.cell? ⟨gw,0,none⟩=some (.string ⟨(Ps.fw j).toArray⟩)) (fun _ h=>h.1) ?_;have s3:=And.intro s2 hcw;have hn0:(0:Int)<(nw:Int):=(by omega);have hn1:0<nw:=(by omega);have HBW:=yH (HBD.out.trans (hbw.mono HBD.out.size))
   clear hrw hbw hnw hgw k2 s2 hcw;(try simp only[Act.put,zLa,zLb,zLc]);refine heldT (i:=4) ?_;refine heldT (i:=5) ?_;refine heldNext (i:=6) rfl (by kernel_rfl) (by rfl) (fun K hK=>?_);go_simp;go_at_call 58;refine(FA.out _).mono ?_;rintro e w3 ⟨rfl,hb3⟩;have HB3:=yH (HBW.out.trans (hb3.mono HBW.out.size));have k3:=HTK.out w3 HB3.out;have c3:w3.cell? ⟨gw,0,none⟩=some (.string ⟨(Ps.fw j).toArray⟩):=(hb3.cell (World.block_lt_of_cell? _ _ s3.2)).trans s3.2
   have s4:(w3.cell? ⟨w.heap.size,0,none⟩=some (.int .i64 (k:Int))∧w3.cell? ⟨w.heap.size,1,none⟩=some (.string ⟨t.toArray⟩)∧w3.cell? ⟨w.heap.size,2,none⟩=some (.int .i64 (p:Int)))∧w3.cell? ⟨gw,0,none⟩=some (.string ⟨(Ps.fw j).toArray⟩):=⟨⟨k3.c0,k3.c1,k3.c2⟩,c3⟩;first|(refine hK.out _ _ s4 ?_)|(go_wp2_with fail;refine hK.out _ _ s4 ?_)
   clear hK K hb3 s3 k3 c3;(try simp only[Act.put,zLa,zLb,zLc]);refine wpAnyH_done (by kernel_rfl) ?_ _
   skip
   by_cases hn:Ps.isName (Ps.fw j) ⟨k,t,p⟩=true
   ·rw[hn]
    have hv:R=j:=by
     unfold Ps.isName at hn;simp only[Bool.and_eq_true,beq_iff_eq] at hn;rw[hq,if_pos hn.1,if_pos hn.2]
    subst hv;clear hq hn;go_wp2;go_ret;exact⟨rfl,HBT.out.trans (HB3.out.mono HBT.out.size)⟩
   ·have hn':Ps.isName (Ps.fw j) ⟨k,t,p⟩=false:=(by simpa using hn);rw[hn']
    have hv:R=if k=1 then Ps.kindIn t (j+1) (Ps.firsts.drop (j+1-1)) else 0:=by
     rw[hq];by_cases hk:k=1
     ·rw[if_pos hk,if_pos hk,if_neg (fun e=>hn (by unfold Ps.isName;simp[hk,e]))];rfl
     ·rw[if_neg hk,if_neg hk]
    have HV:=yH hv;clear hq hn hn' hv;go_wp2;go_roundw
    case rel=>exact⟨j+1,by omega,by omega,by first|rfl|go_num,HB3,HV⟩
    case measure=>simp[intOf];omega
  ·obtain rfl:j=18:=(by omega);have hv:R=0:=(by rw[HQ.out];split <;> rfl);subst hv;go_wp2;go_ret;exact⟨rfl,HBT.out.trans (HB.out.mono HBT.out.size)⟩
def H8 (w:World) (q:Nat) (vs:List Value):Prop:=w.heap[q]?=some (.cells vs.toArray 41 (0,0))
theorem H8.set {w:World} {q:Nat} {vs us:List Value} (h:H8 w q us) (hl:us.length=vs.length):H8 (setN w q 0 vs) q vs:=setN_heap vs [] us w h hl
theorem H8.one {w:World} {q i:Nat} {us:List Value} (h:H8 w q us) (u:Value):H8 (w.setCell ⟨q,i,none⟩ u) q (us.set i u):=by
 unfold H8 at *;rw[setCell_row h,List.setIfInBounds_toArray]
theorem H8.cell {w:World} {q:Nat} {vs:List Value} (h:H8 w q vs) {i:Nat} {u:Value} (hu:vs[i]?=some u):w.cell? ⟨q,i,none⟩=some u:=by
 unfold H8 at h;rw[yC h];simpa using hu
theorem H8.fr {w:World} {q:Nat} {vs:List Value} (h:H8 w q vs) (i:Nat):w.frozen? ⟨q,i,none⟩=false:=by unfold H8 at h;simp[World.frozen?,h]
theorem H8.lt {w:World} {q:Nat} {vs:List Value} (h:H8 w q vs):q<w.heap.size:=(yD h).1
theorem H8.same {w w':World} {q:Nat} {vs:List Value} (h:H8 w q vs) (e:w'.heap[q]?=w.heap[q]?):H8 w' q vs:=e.trans h
theorem H8.below {w w':World} {q:Nat} {vs:List Value} (h:H8 w q vs) (hb:Below w.heap.size w w'):H8 w' q vs:=h.same (hb.block _ h.lt)
theorem H8.trn {F:Nat→Prop} {w w':World} {q:Nat} {vs:List Value} (h:H8 w q vs) (ht:Trn F w w') (hF:¬ F q):H8 w' q vs:=h.same (ht.block _ h.lt hF)
def stC (st:Ps.St):List Value:=stCells ⟨st,.slice none 0 0,.slice none 0 0⟩
def fl (R:Nat) (pre:List (List UInt8)) (n p:Nat):List Value:=[.int .i64 (R:Int),.string ⟨(pre.getD 0 []).toArray⟩,.string ⟨(pre.getD 1 []).toArray⟩,.string ⟨(pre.getD 2 []).toArray⟩,.int .i64 (n:Int),.int .i64 (p:Int),.slice none 0 0,.slice none 0 0]
theorem fl_set {R n p:Nat} {pre:List (List UInt8)} (h:pre.length<3) (x:List UInt8):(fl R pre n p).set (pre.length+1) (.string ⟨x.toArray⟩)=fl R (pre++[x]) n p:=by
 match pre,h with
 | [],_=>rfl
 | [a],_=>rfl
 | [a,b],_=>rfl
 | a :: b :: c :: d,h=>exact absurd h (by simp)
theorem fl_num (R n n' p:Nat) (pre:List (List UInt8)):(fl R pre n p).set 4 (.int .i64 (n':Int))=fl R pre n' p:=rfl
structure HSt (w4 wr:World) (q R p i:Nat) (c:List Lx.Tok) (pre:List (List UInt8)) (n:Nat):Prop where
 trn:Trn (only q) w4 wr
 q8:H8 wr q (fl R pre n p)
 pre:pre=List.replicate (Ps.skipK R) []++Ps.texts (c.take i)
 n:n=Ps.lastN (c.take i) 0
 hi:i≤c.length
def HeadQ (r:Ps.Res (Ps.St × List Lx.Tok)) (b g md a f:Nat) (ov sv tv:Value) (lv:Value) (w:World) (e:Ending) (w':World):Prop:=Trn (only g) w w'∧match r with
 | .error (p,c)=>(∃ st,e = .returned (.agg (stC st).toArray))∧RB w' g lv ov md sv tv p c
 | .ok (st,r)=>e = .returned (.agg (stC st).toArray) ∧ ∃ lv',RB w' g lv' ov md sv tv a f∧TR w' b lv' r
theorem below_drewH {B:Nat} {a w:World} (h:Below B a w):Below B a w.drew:=⟨h.os,h.tape,h.output,h.size,h.block⟩
theorem eql_nil (a:Option Addr) (l c:Nat) (w:World):(binOp .eql 55 (.slice a l c) (.slice none 0 0)).run Tryz.prog w = .ok (.bool a.isNone) w:=by
 simp only[binOp];simp[run_equal_slice_nil w _ _ a l c Tryz.underlying55]
theorem neq_nil (a:Option Addr) (l c:Nat) (w:World):(binOp .neq 55 (.slice a l c) (.slice none 0 0)).run Tryz.prog w = .ok (.bool (!a.isNone)) w:=run_neq_slice_nil w _ _ a l c Tryz.underlying55
theorem head_any (t:Lx.Tok) (ts:List Lx.Tok) (b g md a f d:Nat) (lv ov sv' tv:Value) (w:World) (h:RB w g lv ov md sv' tv a f) (ht:TR w b lv (t :: ts)) (hbg:b≠g) (he:Ps.Ends (t :: ts))
  (hov:∃ ao cap,ov = .slice ao d cap) (hd:d≤8) (htl:(t :: ts).length≤1048576) (hS:SHP w) (_:0≠g) :
  Calls Tryz.prog 61 #[.pointer (some ⟨g,0,none⟩)] w fun e w'=>HeadQ (Ps.headM d (t :: ts)) b g md a f ov sv' tv lv w e w':=by
 have ht0:=ht;have hfine:=he.1 t (by simp);obtain⟨o,cap,rfl,hcap,hcap2,hcell⟩:=ht;obtain⟨c0,c1,c2⟩:=hcell 0 t rfl;rw[Nat.zero_mul,Nat.add_zero] at c0 c1 c2;obtain⟨L,hL⟩:∃ L,(t :: ts).length=L:=⟨_,rfl⟩;have hL0:0<L:=(by rw[←hL];simp);have hL1:(0:Int)<(L:Int):=(by omega);rw[hL] at h hcap htl;have HL:=yH hL;have HT:=yH ht0;have HH:=yH h;have HE:=yH he;have HOV:=yH hov;have HSH:=yH hS;have HF:=yH hfine
 have hgl:=h.lt;obtain⟨R,hR⟩:∃ R,(if t.kind=1 then Ps.kindOf t.text else 0:Nat)=R:=⟨_,rfl⟩;obtain⟨T,hT⟩:∃ T,w.alloc (.cells #[.int .i64 0,.string ⟨#[]⟩,.string ⟨#[]⟩,.string ⟨#[]⟩,.int .i64 0,.int .i64 0,.slice none 0 0,.slice none 0 0] 41)=T:=⟨_,rfl⟩;have hz:H8 T w.heap.size [.int .i64 0,.string ⟨#[]⟩,.string ⟨#[]⟩,.string ⟨#[]⟩,.int .i64 0,.int .i64 0,.slice none 0 0,.slice none 0 0]:=by rw[←hT];exact heap_alloc_new _ _
 have hbT:Below w.heap.size w T:=(by rw[←hT];exact yA);have hTs:T.heap.size=w.heap.size+1:=by rw[←hT];simp
 have KO:=yH (fun (wx:World) (hx:SHP wx)=>by
  have:=kindOf_any t.kind t.text t.place wx hx HF.out;rw[hR] at this;unfold tkv at this;exact this)
 have HR:=yH hR;have HZ:=yH hz;have HBT:=yH hbT
 have hcT:T.cell? ⟨g,0,none⟩=some (.slice (some ⟨b,o,none⟩) L cap)∧T.cell? ⟨b,o,none⟩=some (.int .i64 (t.kind:Int))∧T.cell? ⟨b,o+1,none⟩=some (.string ⟨t.text.toArray⟩)∧T.cell? ⟨b,o+2,none⟩=some (.int .i64 (t.place:Int)):=⟨(h.below hbT).c0,(hbT.cell (World.block_lt_of_cell? w _ c0)).trans c0,(hbT.cell (World.block_lt_of_cell? w _ c1)).trans c1,(hbT.cell (World.block_lt_of_cell? w _ c2)).trans c2⟩;have HCT:=yH hcT
 clear hR hz hbT hcell c0 c1 c2 h ht0 he hov hS hfine hL hcT;go_enter Tryz.func61,Tryz.ntmps61;go_upto_region 1 with fail
 go_cut [3] from 8 to 23 (fun s3 wx=>∃ q,s3 = .pointer (some ⟨q,0,none⟩)∧w.heap.size<q∧H8 wx q [.int .i64 (R:Int),.string ⟨#[]⟩,.string ⟨#[]⟩,.string ⟨#[]⟩,.int .i64 0,.int .i64 (t.place:Int),.slice none 0 0,.slice none 0 0]∧H8 wx w.heap.size [.int .i64 0,.string ⟨#[]⟩,.string ⟨#[]⟩,.string ⟨#[]⟩,.int .i64 0,.int .i64 0,.slice none 0 0,.slice none 0 0]∧Below w.heap.size w wx)
 case first =>
  have hs0:T.drew.cell? ⟨g,0,none⟩=some (.slice (some ⟨b,o,none⟩) L cap)∧T.drew.cell? ⟨b,o,none⟩=some (.int .i64 (t.kind:Int))∧T.drew.cell? ⟨b,o+1,none⟩=some (.string ⟨t.text.toArray⟩)∧T.drew.cell? ⟨b,o+2,none⟩=some (.int .i64 (t.place:Int)):=HCT.out;have hbD:Below T.heap.size T T.drew:=below_drewH (Below.refl _ _)
  refine wp_region_held_drew (S:=fun w'=>w'.cell? ⟨g,0,none⟩=some (.slice (some ⟨b,o,none⟩) L cap)∧w'.cell? ⟨b,o,none⟩=some (.int .i64 (t.kind:Int))∧w'.cell? ⟨b,o+1,none⟩=some (.string ⟨t.text.toArray⟩)∧w'.cell? ⟨b,o+2,none⟩=some (.int .i64 (t.place:Int))) (by kernel_rfl) hs0 (fun hH=>?_);generalize T.drew=wd at *;have hSD:SHP wd:=(HSH.out.below HBT.out).below hbD;have hzD:=HZ.out.below hbD;have HZD:=yH hzD
  have HBD:=yH (HBT.out.trans (hbD.mono HBT.out.size));have hsz:=hbD.size;obtain⟨wa,hwa⟩:∃ wa,wd.alloc (.cells #[.int .i64 0,.string ⟨#[]⟩,.string ⟨#[]⟩,.string ⟨#[]⟩,.int .i64 0,.int .i64 0,.slice none 0 0,.slice none 0 0] 41)=wa:=⟨_,rfl⟩;have hba:Below wd.heap.size wd wa:=by rw[←hwa];exact yA
  have hna:H8 wa wd.heap.size [.int .i64 0,.string ⟨#[]⟩,.string ⟨#[]⟩,.string ⟨#[]⟩,.int .i64 0,.int .i64 0,.slice none 0 0,.slice none 0 0]:=by rw[←hwa];exact heap_alloc_new _ _
  have CT:=yH (fun (wx wy:World) (hx:wx.cell? ⟨g,0,none⟩=some (.slice (some ⟨b,o,none⟩) L cap)∧wx.cell? ⟨b,o,none⟩=some (.int .i64 (t.kind:Int))∧wx.cell? ⟨b,o+1,none⟩=some (.string ⟨t.text.toArray⟩)∧wx.cell? ⟨b,o+2,none⟩=some (.int .i64 (t.place:Int))) (hb:Below wx.heap.size wx wy)=>(⟨(hb.cell (World.block_lt_of_cell? wx _ hx.1)).trans hx.1,(hb.cell (World.block_lt_of_cell? wx _ hx.2.1)).trans hx.2.1,(hb.cell (World.block_lt_of_cell? wx _ hx.2.2.1)).trans hx.2.2.1,(hb.cell (World.block_lt_of_cell? wx _ hx.2.2.2)).trans hx.2.2.2⟩:wy.cell? ⟨g,0,none⟩=some (.slice (some ⟨b,o,none⟩) L cap)∧wy.cell? ⟨b,o,none⟩=some (.int .i64 (t.kind:Int))∧wy.cell? ⟨b,o+1,none⟩=some (.string ⟨t.text.toArray⟩)∧wy.cell? ⟨b,o+2,none⟩=some (.int .i64 (t.place:Int))))
  have hsA:wa.cell? ⟨g,0,none⟩=some (.slice (some ⟨b,o,none⟩) L cap)∧wa.cell? ⟨b,o,none⟩=some (.int .i64 (t.kind:Int))∧wa.cell? ⟨b,o+1,none⟩=some (.string ⟨t.text.toArray⟩)∧wa.cell? ⟨b,o+2,none⟩=some (.int .i64 (t.place:Int)):=CT.out _ _ hs0 hba;have hSA:SHP wa:=hSD.below hba;have HBA:=yH hba;have HNA:=yH hna;clear hbD hzD hba hna;refine heldT (i:=0) ?_;refine heldT (i:=1) ?_;refine heldT (i:=2) ?_;refine heldT (i:=3) ?_
  refine heldT (i:=4) ?_;refine heldT (i:=5) ?_;refine heldT (i:=7) ?_;refine heldT (i:=8) ?_;refine heldT (i:=9) ?_;refine heldT (i:=10) ?_;refine heldT (i:=11) ?_;refine heldT (i:=12) ?_;refine heldT (i:=13) ?_;refine heldTwo (i:=6) (j:=15) rfl rfl (by kernel_rfl) (by rfl) (by rfl) (fun K hK=>?_) (fun K hK=>?_)
  ·go_simp;go_at_call 90;refine(KO.out _ (by assumption)).mono ?_;rintro e w2 ⟨rfl,hb2⟩;have s2:w2.cell? ⟨g,0,none⟩=some (.slice (some ⟨b,o,none⟩) L cap)∧w2.cell? ⟨b,o,none⟩=some (.int .i64 (t.kind:Int))∧w2.cell? ⟨b,o+1,none⟩=some (.string ⟨t.text.toArray⟩)∧w2.cell? ⟨b,o+2,none⟩=some (.int .i64 (t.place:Int)):=CT.out _ _ (by assumption) hb2;first|(refine hK.out _ _ s2 ?_)|(go_wp2_with fail;refine hK.out _ _ s2 ?_)
   clear hK K;(try simp only[Act.put,zLa,zLb,zLc]);refine heldT (i:=14) ?_;refine heldNext (i:=15) rfl (by kernel_rfl) (by rfl) (fun K hK=>?_);go_simp;obtain⟨w3,hw3⟩:∃ w3,w2.alloc (.cells #[.int .i64 0,.string ⟨#[]⟩,.string ⟨#[]⟩,.string ⟨#[]⟩,.int .i64 0,.int .i64 0,.slice none 0 0,.slice none 0 0] 41)=w3:=⟨_,rfl⟩;have hb3:Below w2.heap.size w2 w3:=by rw[←hw3];exact yA
   have s3:w3.cell? ⟨g,0,none⟩=some (.slice (some ⟨b,o,none⟩) L cap)∧w3.cell? ⟨b,o,none⟩=some (.int .i64 (t.kind:Int))∧w3.cell? ⟨b,o+1,none⟩=some (.string ⟨t.text.toArray⟩)∧w3.cell? ⟨b,o+2,none⟩=some (.int .i64 (t.place:Int)):=CT.out _ _ s2 hb3;have hn3:H8 w3 w2.heap.size [.int .i64 0,.string ⟨#[]⟩,.string ⟨#[]⟩,.string ⟨#[]⟩,.int .i64 0,.int .i64 0,.slice none 0 0,.slice none 0 0]:=by rw[←hw3];exact heap_alloc_new _ _
   first|(refine hK.out _ _ s3 ?_)|(rw[hw3];refine hK.out _ _ s3 ?_)
   clear hK K;(try simp only[Act.put,zLa,zLb,zLc]);refine heldNext (i:=16) rfl (by kernel_rfl) (by rfl) (fun K hK=>?_);have hn:H8 w3 w2.heap.size [.int .i64 0,.string ⟨#[]⟩,.string ⟨#[]⟩,.string ⟨#[]⟩,.int .i64 0,.int .i64 0,.slice none 0 0,.slice none 0 0]:=hn3;have hbw:Below w.heap.size w w3:=(HBD.out.trans (hb2.mono HBD.out.size)).trans (hb3.mono (by have:=HBD.out.size;have:=hb2.size;omega));have hq1:w.heap.size<w2.heap.size:=by have:=hb2.size;omega
   have z0:=hn.cell (i:=0) rfl;have z1:=hn.cell (i:=1) rfl;have z2:=hn.cell (i:=2) rfl;have z3:=hn.cell (i:=3) rfl;have z4:=hn.cell (i:=4) rfl;have z5:=hn.cell (i:=5) rfl;have z6:=hn.cell (i:=6) rfl;have z7:=hn.cell (i:=7) rfl;have f0:=hn.fr 0;have f1:=hn.fr 1;have f2:=hn.fr 2;have f3:=hn.fr 3;have f4:=hn.fr 4;have f5:=hn.fr 5;have f6:=hn.fr 6;have f7:=hn.fr 7
   have hst:=hn.set (vs:=[.int .i64 (R:Int),.string ⟨#[]⟩,.string ⟨#[]⟩,.string ⟨#[]⟩,.int .i64 0,.int .i64 (t.place:Int),.slice none 0 0,.slice none 0 0]) rfl;have hTr:Trn (only w2.heap.size) w3 (setN w3 w2.heap.size 0 [.int .i64 (R:Int),.string ⟨#[]⟩,.string ⟨#[]⟩,.string ⟨#[]⟩,.int .i64 0,.int .i64 (t.place:Int),.slice none 0 0,.slice none 0 0]):=setN_trn (F:=only w2.heap.size) (show w2.heap.size=w2.heap.size from rfl) _ _ (Trn.refl _ _)
   have hbl:b<w.heap.size:=HT.out.lt (by simp);have hcc:∀ (k i:Nat) u,k≠w2.heap.size→w3.cell? ⟨k,i,none⟩=some u→(setN w3 w2.heap.size 0 [.int .i64 (R:Int),.string ⟨#[]⟩,.string ⟨#[]⟩,.string ⟨#[]⟩,.int .i64 0,.int .i64 (t.place:Int),.slice none 0 0,.slice none 0 0]).cell? ⟨k,i,none⟩=some u:=fun k i u hk hu=>(World.cell?_of_block (a:=⟨k,i,none⟩) (setN_other hk _ _)).trans hu
   have s4:(setN w3 w2.heap.size 0 [.int .i64 (R:Int),.string ⟨#[]⟩,.string ⟨#[]⟩,.string ⟨#[]⟩,.int .i64 0,.int .i64 (t.place:Int),.slice none 0 0,.slice none 0 0]).cell? ⟨g,0,none⟩=some (.slice (some ⟨b,o,none⟩) L cap)∧(setN w3 w2.heap.size 0 [.int .i64 (R:Int),.string ⟨#[]⟩,.string ⟨#[]⟩,.string ⟨#[]⟩,.int .i64 0,.int .i64 (t.place:Int),.slice none 0 0,.slice none 0 0]).cell? ⟨b,o,none⟩=some (.int .i64 (t.kind:Int))∧(setN w3 w2.heap.size 0 [.int .i64 (R:Int),.string ⟨#[]⟩,.string ⟨#[]⟩,.string ⟨#[]⟩,.int .i64 0,.int .i64 (t.place:Int),.slice none 0 0,.slice none 0 0]).cell? ⟨b,o+1,none⟩=some (.string ⟨t.text.toArray⟩)∧(setN w3 w2.heap.size 0 [.int .i64 (R:Int),.string ⟨#[]⟩,.string ⟨#[]⟩,.string ⟨#[]⟩,.int .i64 0,.int .i64 (t.place:Int),.slice none 0 0,.slice none 0 0]).cell? ⟨b,o+2,none⟩=some (.int .i64 (t.place:Int)):=⟨hcc _ _ _ (by omega) s3.1,hcc _ _ _ (by omega) s3.2.1,hcc _ _ _ (by omega) s3.2.2.1,hcc _ _ _ (by omega) s3.2.2.2⟩
   have hzz:=(HZD.out.below (hb2.trans (hb3.mono hb2.size))).trn hTr (show ¬ (w.heap.size=w2.heap.size) by omega);have hbe:Below w.heap.size w (setN w3 w2.heap.size 0 [.int .i64 (R:Int),.string ⟨#[]⟩,.string ⟨#[]⟩,.string ⟨#[]⟩,.int .i64 0,.int .i64 (t.place:Int),.slice none 0 0,.slice none 0 0]):=hbw.trans ⟨hTr.os,hTr.tape,hTr.output,by have:=hTr.size;have:=hbw.size;omega,fun k hk=>hTr.block k (by have:=hbw.size;omega) (show ¬ (k=w2.heap.size) by omega)⟩
   clear hcc hTr hbl;go_simp;refine hK.out _ _ s4 ?_;clear hK K;clear z0 z1 z2 z3 z4 z5 z6 z7 f0 f1 f2 f3 f4 f5 f6 f7;(try simp only[Act.put,zLa,zLb,zLc]);refine wpAnyH_done (by kernel_rfl) ?_ _;simp only[Exit.then];go_step;go_meet;exact⟨_,rfl,hq1,hst,hzz,hbe⟩
  ·go_simp;refine hK.out _ _ (by assumption) ?_;clear hK K;(try simp only[Act.put,zLa,zLb,zLc]);refine heldNext (i:=6) rfl (by kernel_rfl) (by rfl) (fun K hK=>?_);go_simp;go_at_call 90;refine(KO.out _ (by assumption)).mono ?_;rintro e w2 ⟨rfl,hb2⟩
   have s2:w2.cell? ⟨g,0,none⟩=some (.slice (some ⟨b,o,none⟩) L cap)∧w2.cell? ⟨b,o,none⟩=some (.int .i64 (t.kind:Int))∧w2.cell? ⟨b,o+1,none⟩=some (.string ⟨t.text.toArray⟩)∧w2.cell? ⟨b,o+2,none⟩=some (.int .i64 (t.place:Int)):=CT.out _ _ (by assumption) hb2;first|(refine hK.out _ _ s2 ?_)|(go_wp2_with fail;refine hK.out _ _ s2 ?_)
   clear hK K;(try simp only[Act.put,zLa,zLb,zLc]);refine heldT (i:=14) ?_;refine heldNext (i:=16) rfl (by kernel_rfl) (by rfl) (fun K hK=>?_);have s3:=s2;have hn:H8 w2 wd.heap.size [.int .i64 0,.string ⟨#[]⟩,.string ⟨#[]⟩,.string ⟨#[]⟩,.int .i64 0,.int .i64 0,.slice none 0 0,.slice none 0 0]:=HNA.out.below hb2;have hbw:Below w.heap.size w w2:=(HBD.out.trans (HBA.out.mono HBD.out.size)).trans (hb2.mono (by have:=HBD.out.size;have:=HBA.out.size;omega))
   have hq1:w.heap.size<wd.heap.size:=(by have:=hb2.size;omega);have z0:=hn.cell (i:=0) rfl;have z1:=hn.cell (i:=1) rfl;have z2:=hn.cell (i:=2) rfl;have z3:=hn.cell (i:=3) rfl;have z4:=hn.cell (i:=4) rfl;have z5:=hn.cell (i:=5) rfl;have z6:=hn.cell (i:=6) rfl;have z7:=hn.cell (i:=7) rfl;have f0:=hn.fr 0;have f1:=hn.fr 1;have f2:=hn.fr 2;have f3:=hn.fr 3;have f4:=hn.fr 4;have f5:=hn.fr 5;have f6:=hn.fr 6;have f7:=hn.fr 7
   have hst:=hn.set (vs:=[.int .i64 (R:Int),.string ⟨#[]⟩,.string ⟨#[]⟩,.string ⟨#[]⟩,.int .i64 0,.int .i64 (t.place:Int),.slice none 0 0,.slice none 0 0]) rfl;have hTr:Trn (only wd.heap.size) w2 (setN w2 wd.heap.size 0 [.int .i64 (R:Int),.string ⟨#[]⟩,.string ⟨#[]⟩,.string ⟨#[]⟩,.int .i64 0,.int .i64 (t.place:Int),.slice none 0 0,.slice none 0 0]):=setN_trn (F:=only wd.heap.size) (show wd.heap.size=wd.heap.size from rfl) _ _ (Trn.refl _ _)
   have hbl:b<w.heap.size:=HT.out.lt (by simp);have hcc:∀ (k i:Nat) u,k≠wd.heap.size→w2.cell? ⟨k,i,none⟩=some u→(setN w2 wd.heap.size 0 [.int .i64 (R:Int),.string ⟨#[]⟩,.string ⟨#[]⟩,.string ⟨#[]⟩,.int .i64 0,.int .i64 (t.place:Int),.slice none 0 0,.slice none 0 0]).cell? ⟨k,i,none⟩=some u:=fun k i u hk hu=>(World.cell?_of_block (a:=⟨k,i,none⟩) (setN_other hk _ _)).trans hu
   have s4:(setN w2 wd.heap.size 0 [.int .i64 (R:Int),.string ⟨#[]⟩,.string ⟨#[]⟩,.string ⟨#[]⟩,.int .i64 0,.int .i64 (t.place:Int),.slice none 0 0,.slice none 0 0]).cell? ⟨g,0,none⟩=some (.slice (some ⟨b,o,none⟩) L cap)∧(setN w2 wd.heap.size 0 [.int .i64 (R:Int),.string ⟨#[]⟩,.string ⟨#[]⟩,.string ⟨#[]⟩,.int .i64 0,.int .i64 (t.place:Int),.slice none 0 0,.slice none 0 0]).cell? ⟨b,o,none⟩=some (.int .i64 (t.kind:Int))∧(setN w2 wd.heap.size 0 [.int .i64 (R:Int),.string ⟨#[]⟩,.string ⟨#[]⟩,.string ⟨#[]⟩,.int .i64 0,.int .i64 (t.place:Int),.slice none 0 0,.slice none 0 0]).cell? ⟨b,o+1,none⟩=some (.string ⟨t.text.toArray⟩)∧(setN w2 wd.heap.size 0 [.int .i64 (R:Int),.string ⟨#[]⟩,.string ⟨#[]⟩,.string ⟨#[]⟩,.int .i64 0,.int .i64 (t.place:Int),.slice none 0 0,.slice none 0 0]).cell? ⟨b,o+2,none⟩=some (.int .i64 (t.place:Int)):=⟨hcc _ _ _ (by omega) s3.1,hcc _ _ _ (by omega) s3.2.1,hcc _ _ _ (by omega) s3.2.2.1,hcc _ _ _ (by omega) s3.2.2.2⟩
   have hzz:=(HZD.out.below (HBA.out.trans (hb2.mono HBA.out.size))).trn hTr (show ¬ (w.heap.size=wd.heap.size) by omega)
   have hbe:Below w.heap.size w (setN w2 wd.heap.size 0 [.int .i64 (R:Int),.string ⟨#[]⟩,.string ⟨#[]⟩,.string ⟨#[]⟩,.int .i64 0,.int .i64 (t.place:Int),.slice none 0 0,.slice none 0 0]):=hbw.trans ⟨hTr.os,hTr.tape,hTr.output,by have:=hTr.size;have:=hbw.size;omega,fun k hk=>hTr.block k (by have:=hbw.size;omega) (show ¬ (k=wd.heap.size) by omega)⟩;clear hcc hTr hbl;go_simp;refine hK.out _ _ s4 ?_;clear hK K;clear z0 z1 z2 z3 z4 z5 z6 z7 f0 f1 f2 f3 f4 f5 f6 f7
   (try simp only[Act.put,zLa,zLb,zLc]);refine wpAnyH_done (by kernel_rfl) ?_ _;simp only[Exit.then];go_step;go_meet;exact⟨_,rfl,hq1,hst,hzz,hbe⟩
 case rest =>
  obtain⟨q,rfl,hq,hq8,hz8,hb⟩:=hcut;clear KO HZ HBT HCT hT hTs;have HB:=yH hb;have HQ8:=yH hq8;have HZ8:=yH hz8;have hqR:=hq8.cell (i:=0) rfl;have hgc:=(HH.out.below hb).c0;have htr:=HT.out.below hb;have HTC:=yH htr;obtain⟨o2,cap2,e2,_,_,hcell⟩:=htr;simp only[Value.slice.injEq,Option.some.injEq,Addr.mk.injEq,true_and,and_true] at e2;obtain⟨_,rfl,rfl⟩:=e2;obtain⟨c0,c1,c2⟩:=hcell 0 t rfl
  rw[Nat.zero_mul,Nat.add_zero] at c0 c1 c2;have hbl:b<w.heap.size:=HT.out.lt (by simp);clear hcell hb hq8 hz8;by_cases hR0:R=0
  ·subst hR0
   have hM:Ps.headM d (t :: ts) = .error (t.place,20):=by
    rw[Ps.headM,if_neg];rintro⟨h1,h2⟩;have:=HR.out;rw[if_pos h1] at this;exact h2 this
   have HM:=yH hM;have WR:=fun w1 (hr:RB w1 g (.slice (some ⟨b,o,none⟩) L cap) ov md sv' tv a f)=>wrong_any t.kind t.text t.place 20 g md a f _ _ _ _ w1 hr;unfold tkv at WR;have hr1:=HH.out.below HB.out;clear hM;go_wp2_with fail
   refine(WR _ hr1).mono ?_;rintro e w2 ⟨rfl,hr2,ht2⟩;have hy:=HQ8.out.trn ht2 (show ¬ (q=g) by omega);have hz:=HZ8.out.trn ht2 (show ¬ (w.heap.size=g) by omega);have y0:=hy.cell (i:=0) rfl;have y1:=hy.cell (i:=1) rfl;have y2:=hy.cell (i:=2) rfl;have y3:=hy.cell (i:=3) rfl;have y4:=hy.cell (i:=4) rfl;have y5:=hy.cell (i:=5) rfl;have y6:=hy.cell (i:=6) rfl;have y7:=hy.cell (i:=7) rfl;have z0:=hz.cell (i:=0) rfl;have z1:=hz.cell (i:=1) rfl
   have z2:=hz.cell (i:=2) rfl;have z3:=hz.cell (i:=3) rfl;have z4:=hz.cell (i:=4) rfl;have z5:=hz.cell (i:=5) rfl;have z6:=hz.cell (i:=6) rfl;have z7:=hz.cell (i:=7) rfl;have zf0:=hz.fr 0;have zf1:=hz.fr 1;have zf2:=hz.fr 2;have zf3:=hz.fr 3;have zf4:=hz.fr 4;have zf5:=hz.fr 5;have zf6:=hz.fr 6;have zf7:=hz.fr 7
   have hset:=hz.set (vs:=[.int .i64 ((0:Nat):Int),.string ⟨#[]⟩,.string ⟨#[]⟩,.string ⟨#[]⟩,.int .i64 0,.int .i64 (t.place:Int),.slice none 0 0,.slice none 0 0]) rfl
   have hTr:Trn (fun k=>k=g∨w.heap.size≤k) w (setN w2 w.heap.size 0 [.int .i64 ((0:Nat):Int),.string ⟨#[]⟩,.string ⟨#[]⟩,.string ⟨#[]⟩,.int .i64 0,.int .i64 (t.place:Int),.slice none 0 0,.slice none 0 0]):=setN_trn (.inr yR) _ _ (((Trn.of_below HB.out).then ht2).more (fun k hk=>.inl hk))
   have hrr:=hr2.same (w':=setN w2 w.heap.size 0 [.int .i64 ((0:Nat):Int),.string ⟨#[]⟩,.string ⟨#[]⟩,.string ⟨#[]⟩,.int .i64 0,.int .i64 (t.place:Int),.slice none 0 0,.slice none 0 0]) (setN_other (by omega) _ _);have HSET:=yH hset;have HTR:=yH hTr;have HRR:=yH hrr;clear hset hTr hrr hy hz hr1 hr2 ht2 WR hqR hgc;go_wp2
   change bodyPost _ _ _ _ _ (setN w2 w.heap.size 0 [.int .i64 ((0:Nat):Int),.string ⟨#[]⟩,.string ⟨#[]⟩,.string ⟨#[]⟩,.int .i64 0,.int .i64 (t.place:Int),.slice none 0 0,.slice none 0 0]);have hset:=HSET.out;have hTr:=HTR.out;have hrr:=HRR.out;generalize setN w2 w.heap.size 0 [.int .i64 ((0:Nat):Int),.string ⟨#[]⟩,.string ⟨#[]⟩,.string ⟨#[]⟩,.int .i64 0,.int .i64 (t.place:Int),.slice none 0 0,.slice none 0 0]=W at hset hTr hrr ⊢
   have r0:=hset.cell (i:=0) rfl;have r1:=hset.cell (i:=1) rfl;have r2:=hset.cell (i:=2) rfl;have r3:=hset.cell (i:=3) rfl;have r4:=hset.cell (i:=4) rfl;have r5:=hset.cell (i:=5) rfl;have r6:=hset.cell (i:=6) rfl;have r7:=hset.cell (i:=7) rfl
   refine bodyPost_ret (v:=.agg #[.int .i64 ((0:Nat):Int),.string ⟨#[]⟩,.string ⟨#[]⟩,.string ⟨#[]⟩,.int .i64 0,.int .i64 (t.place:Int),.slice none 0 0,.slice none 0 0]) (by simp[results,Tryz.results61,go_sem,r0,r1,r2,r3,r4,r5,r6,r7]) rfl ?_;unfold HeadQ;rw[HM.out,show ts.length+1=L from HL.out]
   exact⟨⟨hTr.os,hTr.tape,hTr.output,hTr.size,fun j hj hF=>hTr.block j hj (fun e=>e.elim hF (fun e=>by omega))⟩,⟨⟨0,[],[],[],0,t.place,[],[]⟩,rfl⟩,hrr⟩
  ·have hk1:t.kind=1:=by
    have:=HR.out;by_cases h1:t.kind=1
    ·exact h1
    ·rw[if_neg h1] at this;exact absurd this.symm hR0
   have hkR:Ps.kindOf t.text=R:=(by have:=HR.out;rw[if_pos hk1] at this;exact this);have hle:=Ps.kindOf_le (x:=t.text) (by rw[hkR];exact hR0);rw[hkR] at hle
   have hnm:Ps.isName (Ps.fw R) t=true:=by
    unfold Ps.isName;rw[hk1,Ps.fw_of hkR hR0];simp
   have hfx:Ps.takeW d (Ps.fw R :: Ps.tailW R) (t :: ts)=Ps.takeW d (Ps.tailW R) ts:=by
    obtain⟨x,y,z,e,_⟩:=Ps.fits_fw ⟨R,by omega⟩ hle.1;rw[Ps.takeW,Ps.fitsT_fw hle.1 hle.2 HF.out,if_pos hnm,if_neg (fun h=>by rw[show Ps.fw R=x :: y :: z from e] at h;cases h.1)]
   have hne:∀ x ∈ Ps.fw R :: Ps.tailW R,x≠[]:=Ps.words_ne ⟨R,by omega⟩ hle.1;have hwl:(Ps.tailW R).length≤4:=Ps.tail_len ⟨R,by omega⟩;have SHx:=yH (fun (wx:World) (hx:SHP wx)=>pshape_any R (by omega) wx hx);have PWx:=yH (fun wx=>pwords_any R hle.1 hle.2 wx);have hSc:=HSH.out.below HB.out;have r1:((R:Int)==0)=false:=yB;have r2:((R:Int)=0)=False:=yF;have HFX:=yH hfx
   have HTK:=yH (fun (w2:World) (hb2:Below wc.heap.size wc w2) (gw n cw:Nat) (hn:n=(Ps.tailW R).length+1) (hgw:wc.heap.size≤gw) (hrd:Rd w2 (.slice (some ⟨gw,0,none⟩) n cw) ((Ps.fw R :: Ps.tailW R).map sv))=>by
    have hbw:=HB.out.trans (hb2.mono HB.out.size);have hsz:=HB.out.size;have:=take_any (Ps.fw R :: Ps.tailW R) (t :: ts) b g md a f d (.slice (some ⟨b,o,none⟩) L cap) ov sv' tv (.slice (some ⟨gw,0,none⟩) n cw) w2 (HH.out.below hbw) (HL.out ▸ (HT.out.below hbw)) hbg HE.out HOV.out hd hrd hne (by simp) (by simp only[List.length_cons];omega) (fun e=>by simp[Value.ownBlock] at e;omega) (by rw[HL.out];exact htl);rw[HFX.out] at this;exact this)
   have HKR:=yH hkR;clear hR0 hkR hnm hfx hne c0 c1 c2;go_wp2_with fail
   refine(SHx.out _ hSc).mono ?_;rintro e w1 ⟨rfl,rfl⟩;go_wp2_with fail
   refine(PWx.out _).mono ?_;rintro e w2 ⟨gw,nw,cw,rfl,hnw,hgw,hrw,_,hbw⟩;have HT2:=HTK.out _ hbw gw nw cw hnw hgw hrw;clear hnw hrw HTK;go_wp2_with fail
   refine HT2.mono ?_;rintro e w3 ⟨ht3,hm3⟩;clear HT2 SHx PWx hSc;have hb2:=HB.out.trans (hbw.mono HB.out.size);have hy:=(HQ8.out.below hbw).trn ht3 (show ¬ (q=g) by omega);have hz:=(HZ8.out.below hbw).trn ht3 (show ¬ (w.heap.size=g) by omega);have htw:Trn (only g) w w3:=(Trn.of_below hb2).then ht3;have hsb:=hb2.size;cases htk:Ps.takeW d (Ps.tailW R) ts with
   | error x =>
    obtain⟨ep,ec⟩:=x;rw[htk] at hm3;obtain⟨rfl,hr3⟩:=hm3;have hM:=(Ps.head_take hd HE.out.1 hk1 HKR.out (by omega)).1 _ htk;have HM:=yH hM;have y0:=hy.cell (i:=0) rfl;have y1:=hy.cell (i:=1) rfl;have y2:=hy.cell (i:=2) rfl;have y3:=hy.cell (i:=3) rfl;have y4:=hy.cell (i:=4) rfl;have y5:=hy.cell (i:=5) rfl;have y6:=hy.cell (i:=6) rfl;have y7:=hy.cell (i:=7) rfl;have z0:=hz.cell (i:=0) rfl;have z1:=hz.cell (i:=1) rfl
    have z2:=hz.cell (i:=2) rfl;have z3:=hz.cell (i:=3) rfl;have z4:=hz.cell (i:=4) rfl;have z5:=hz.cell (i:=5) rfl;have z6:=hz.cell (i:=6) rfl;have z7:=hz.cell (i:=7) rfl;have zf0:=hz.fr 0;have zf1:=hz.fr 1;have zf2:=hz.fr 2;have zf3:=hz.fr 3;have zf4:=hz.fr 4;have zf5:=hz.fr 5;have zf6:=hz.fr 6;have zf7:=hz.fr 7
    have hset:=hz.set (vs:=[.int .i64 (R:Int),.string ⟨#[]⟩,.string ⟨#[]⟩,.string ⟨#[]⟩,.int .i64 0,.int .i64 (t.place:Int),.slice none 0 0,.slice none 0 0]) rfl;have hTr:Trn (fun k=>k=g∨w.heap.size≤k) w (setN w3 w.heap.size 0 [.int .i64 (R:Int),.string ⟨#[]⟩,.string ⟨#[]⟩,.string ⟨#[]⟩,.int .i64 0,.int .i64 (t.place:Int),.slice none 0 0,.slice none 0 0]):=setN_trn (.inr yR) _ _ (htw.more (fun k hk=>.inl hk))
    have hrr:=hr3.same (w':=setN w3 w.heap.size 0 [.int .i64 (R:Int),.string ⟨#[]⟩,.string ⟨#[]⟩,.string ⟨#[]⟩,.int .i64 0,.int .i64 (t.place:Int),.slice none 0 0,.slice none 0 0]) (setN_other (by omega) _ _);have HSET:=yH hset;have HTR:=yH hTr;have HRR:=yH hrr;have en:=fun wx=>eql_nil none 0 0 wx;clear hset hTr hrr hy hz hr3 ht3 htw hM htk;go_wp2
    change bodyPost _ _ _ _ _ (setN w3 w.heap.size 0 [.int .i64 (R:Int),.string ⟨#[]⟩,.string ⟨#[]⟩,.string ⟨#[]⟩,.int .i64 0,.int .i64 (t.place:Int),.slice none 0 0,.slice none 0 0]);have hset:=HSET.out;have hTr:=HTR.out;have hrr:=HRR.out;generalize setN w3 w.heap.size 0 [.int .i64 (R:Int),.string ⟨#[]⟩,.string ⟨#[]⟩,.string ⟨#[]⟩,.int .i64 0,.int .i64 (t.place:Int),.slice none 0 0,.slice none 0 0]=W at hset hTr hrr ⊢;have r0:=hset.cell (i:=0) rfl
    have r1:=hset.cell (i:=1) rfl;have r2:=hset.cell (i:=2) rfl;have r3:=hset.cell (i:=3) rfl;have r4:=hset.cell (i:=4) rfl;have r5:=hset.cell (i:=5) rfl;have r6:=hset.cell (i:=6) rfl;have r7:=hset.cell (i:=7) rfl
    refine bodyPost_ret (v:=.agg #[.int .i64 (R:Int),.string ⟨#[]⟩,.string ⟨#[]⟩,.string ⟨#[]⟩,.int .i64 0,.int .i64 (t.place:Int),.slice none 0 0,.slice none 0 0]) (by simp[results,Tryz.results61,go_sem,r0,r1,r2,r3,r4,r5,r6,r7]) rfl ?_;unfold HeadQ;rw[HM.out,show ts.length+1=L from HL.out];exact⟨⟨hTr.os,hTr.tape,hTr.output,hTr.size,fun j hj hF=>hTr.block j hj (fun e=>e.elim hF (fun e=>by omega))⟩,⟨⟨R,[],[],[],0,t.place,[],[]⟩,rfl⟩,hrr⟩
   | ok r =>
    rw[htk] at hm3;obtain⟨rv,lv',rfl,htrv,hr3,htl3⟩:=hm3;obtain⟨c,hcr,hclen,hM,hc3,hc1⟩:=Ps.head_took hd HE.out.1 hk1 HKR.out (by omega) htk;obtain⟨M,hMl⟩:∃ M,c.length=M:=⟨_,rfl⟩;have hM1:1≤M:=(by rw[←hMl,hclen];exact Ps.tail_pos ⟨R,by omega⟩ hle.1);have hM4:M≤4:=by rw[←hMl,hclen];exact hwl
    have etk:(t :: ts).take (Ps.fw R :: Ps.tailW R).length=t :: c:=by
     rw[List.length_cons,List.take_succ_cons,hcr,←hclen,List.take_left]
    rw[etk] at htrv;obtain⟨o3,cap3,rfl,hcp3,hcp3b,hcl3⟩:=htrv;rw[List.length_cons,hMl] at hcp3 ⊢;have hcfine:∀ u ∈ c,Ps.Fine u:=fun u hu=>HE.out.1 u (by rw[hcr];simp[hu]);have HCF:=yH hcfine;have HML:=yH hMl;have HC3:=yH hc3;rw[Ps.mk_fields hc1] at hM;have HM:=yH hM
    have HCL:=yH (fun (w4:World) (F:Nat→Prop) (h4:Trn F w3 w4) (hF:¬ F b) (i:Nat) (u:Lx.Tok) (hu:c[i]?=some u)=>by
     have:=hcl3 (i+1) u (by simpa using hu);rw[show o3+(i+1)*3=o3+3+i*3 by omega] at this;have hc:∀ k v,w3.cell? ⟨b,k,none⟩=some v→w4.cell? ⟨b,k,none⟩=some v:=fun k v hv=>(World.cell?_of_block (a:=⟨b,k,none⟩) (h4.block b (World.block_lt_of_cell? w3 _ hv) hF)).trans hv;exact(⟨hc _ _ this.1,hc _ _ this.2.1,hc _ _ this.2.2⟩:_∧_∧_))
    have HTL3:=yH htl3;have HR3:=yH hr3;have HTW:=yH htw;have HY:=yH hy;have HZ3:=yH hz;have hs3:=ht3.size;have hsw:=hbw.size;have en:=fun wx=>eql_nil (some ⟨b,o3,none⟩) (M+1) cap3 wx;obtain⟨w4,hw4⟩:∃ w4,w3.alloc (.cells #[.pointer (some ⟨q,1,none⟩),.pointer (some ⟨q,2,none⟩),.pointer (some ⟨q,3,none⟩)] 127)=w4:=⟨_,rfl⟩;have hb4:Below w3.heap.size w3 w4:=by rw[←hw4];exact yA
    have hrm:w4.heap[w3.heap.size]?=some (.cells #[.pointer (some ⟨q,1,none⟩),.pointer (some ⟨q,2,none⟩),.pointer (some ⟨q,3,none⟩)] 127 (0,0)):=(by rw[←hw4];exact heap_alloc_new _ _);obtain⟨rb,hrb⟩:∃ rb,w3.heap.size=rb:=⟨_,rfl⟩;rw[hrb] at hrm;have hqlt:=hy.lt;have hqb:q<rb:=(by omega);have HRM:=yH hrm;have hrbl:rb<w4.heap.size:=(yD hrm).1;have HB4:=yH hb4;have y0:=hy.cell (i:=0) rfl
    have y04:=(hy.below hb4).cell (i:=0) rfl;have m1:(cap3=1)=False:=yF;have m2:(1:Int)≤(M:Int)+1:=(by omega);have m3:(M:Int)+1≤(cap3:Int):=(by omega);have q4:=HY.out.below hb4;have HQ4:=yH q4;clear hM hc3 hcl3 hcr hclen etk hcfine htl3 htw hy hz htk hb2 ht3 hb4 hrm hMl hwl q4;by_cases h2:R=2
    ·subst h2;have HP0:=yH (show List.replicate (Ps.skipK 2) []=[([]:List UInt8)] from rfl);have HST:=yH (⟨Trn.refl _ _,HQ4.out,by rw[HP0.out];rfl,rfl,Nat.zero_le _⟩:HSt w4 w4 q 2 t.place 0 c [[]] 0);go_wp2
     go_loopw [5,7,56,62,73,75] (fun s5 s7 s56 s62 s73 s75 wr=>∃ (i oo m n:Nat) (pre:List (List UInt8)),s56 = .int .i64 (i:Int)∧s5 = .slice (some ⟨rb,oo,none⟩) m m∧i≤M∧m+pre.length=3∧(0<m→oo=pre.length)∧Hid (HSt w4 wr q 2 t.place i c pre n)) (fun s5 s7 s56 s62 s73 s75 _=>M-(intOf s56).toNat)
     case atStart=>exact⟨0,1,2,0,[[]],rfl,rfl,Nat.zero_le _,rfl,fun _=>rfl,HST⟩
     case round =>
      obtain⟨i,oo,m,n,pre,rfl,rfl,hi,hm,hoo,HR⟩:=hrel;clear HST;have hbr:=HR.out.trn;have hrz:=hbr.size;have h4z:=HB4.out.size;by_cases hlt:i<M
      ·obtain⟨u,hu⟩:∃ u,c[i]?=some u:=⟨_,List.getElem?_eq_getElem (by rw[HML.out];exact hlt)⟩;have hfu:=HCF.out u (List.mem_of_getElem? hu);obtain⟨c0,c1,c2⟩:=HCL.out wr (only q) ((Trn.of_below HB4.out).then hbr) (show ¬ (b=q) by omega) i u hu;obtain⟨T,hT⟩:∃ T,wr.alloc (.cells #[.int .i64 (u.kind:Int),.string ⟨u.text.toArray⟩,.int .i64 (u.place:Int)] 65)=T:=⟨_,rfl⟩;have hTk:=Tk3.new wr u.kind u.text u.place;rw[hT] at hTk
       have hbT:Below wr.heap.size wr T:=(by rw[←hT];exact yA);have t0:=hTk.c0;have t1:=hTk.c1;have htx:=Ps.texts_snoc (c.take i) u;have hln:=Ps.lastN_snoc (c.take i) u;rw[←Ps.take_snoc' hu] at htx hln;have hle3:=Ps.texts_le c (i+1);have hc3':=HC3.out;have hpre:=HR.out.pre;have hpl:pre.length=Ps.skipK 2+(Ps.texts (c.take i)).length:=by rw[hpre,List.length_append,List.length_replicate]
       have hi1:i+1≤c.length:=(by rw[HML.out];omega);have HTB:=yH hbT;have HTK:=yH hTk;have HU:=yH hu;have hTr:Trn (only q) w4 T:=hbr.then (Trn.of_below hbT);have hq8:=HR.out.q8.below hbT;have HTR:=yH hTr;have HQ8T:=yH hq8;clear hTk hbT hbr hTr hq8;by_cases hk2:u.kind=2
       ·have k1:((u.kind:Int)==1)=false:=yB;have k1':((u.kind:Int)=1)=False:=yF;have k3:((u.kind:Int)==3)=false:=yB;have k3':((u.kind:Int)=3)=False:=yF;have k2:((u.kind:Int)==2)=true:=beq_iff_eq.2 (by omega);have k2':((u.kind:Int)=2)=True:=yT;obtain⟨hnum,h9⟩:=Ps.num_fine hfu hk2
        have NU:=yH (fun wx=>by
         have:=number_any ⟨u.text.toArray⟩ 9223372036854775807 wx (by show u.text.length≤_;omega);rw[show (⟨u.text.toArray⟩:ByteArray).data.toList=u.text from rfl,hnum] at this;unfold two at this;exact this)
        rw[if_pos hk2] at hln;rw[if_neg (by omega),List.append_nil] at htx;generalize Ps.num u.text=NV at NU hln;have HX:=yH (⟨htx,hln⟩:_∧_);clear hnum h9 hk2 hfu hpl hle3 hc3';go_wp2_with fail
        refine(NU.out _).mono ?_;rintro e w5 ⟨rfl,hb5⟩;have q5:=HQ8T.out.below hb5;have z4:=q5.cell (i:=4) rfl;have f4:=q5.fr 4;have HQ5:=yH (q5.one (i:=4) (.int .i64 (NV:Int)));rw[fl_num] at HQ5;have HT5:=yH (Trn.setCell (F:=only q) (HTR.out.then (Trn.of_below hb5)) (show q=q from rfl) (i:=4) (.int .i64 (NV:Int)));clear q5 hb5;go_wp2;go_roundw
        case rel=>exact⟨i+1,oo,m,NV,pre,by first|rfl|go_num,rfl,by omega,hm,hoo,yH ⟨HT5.out,HQ5.out,by rw[HX.out.1];exact hpre,HX.out.2.symm,hi1⟩⟩
        case measure=>simp[intOf];omega
       ·have k2:((u.kind:Int)==2)=false:=yB;have k2':((u.kind:Int)=2)=False:=yF;by_cases hk13:u.kind=1∨u.kind=3
        ·rw[if_pos hk13] at htx;rw[if_neg hk2] at hln;have hle4:pre.length<3:=(by rw[hpl];rw[htx,List.length_append] at hle3;simp at hle3;omega);have hm0:0<m:=(by omega);obtain rfl:=hoo hm0;obtain⟨jj,hjj⟩:∃ jj,pre.length+1=jj:=⟨_,rfl⟩
         have hrc:T.cell? ⟨rb,pre.length,none⟩=some (.pointer (some ⟨q,jj,none⟩)):=by
          have hr2:T.heap[rb]?=some (.cells #[.pointer (some ⟨q,1,none⟩),.pointer (some ⟨q,2,none⟩),.pointer (some ⟨q,3,none⟩)] 127 (0,0)):=(HTR.out.block rb (by omega) (show ¬ (rb=q) by omega)).trans HRM.out;rw[yC hr2,←hjj];generalize pre.length=pl at hle4
          match pl,hle4 with
          | 0,_=>rfl
          | 1,_=>rfl
          | 2,_=>rfl
          | pl+3,h=>exact absurd h (by omega)
         have hj3:∃ v,(fl 2 pre n t.place)[jj]?=some v:=by
          refine⟨_,List.getElem?_eq_getElem (by show jj<8;omega)⟩
         obtain⟨vj,hvj⟩:=hj3;have hset:=fl_set (R:=2) (n:=n) (p:=t.place) hle4 u.text;rw[hjj] at hset;have hnx:pre++[u.text]=List.replicate (Ps.skipK 2) []++Ps.texts (c.take (i+1)):=(by rw[htx,←List.append_assoc,←hpre]);have hml:m+(pre++[u.text]).length=3+1:=(by rw[List.length_append];simp;omega);have HX:=yH (⟨hnx,hln,hset,hjj,hpl⟩:_∧_∧_∧_∧_);clear htx hln hset hnx hle3 hc3' hpre hfu hk2 hpl hjj;rcases hk13 with hk|hk
         ·have k1:((u.kind:Int)==1)=true:=beq_iff_eq.2 (by omega);have k1':((u.kind:Int)=1)=True:=yT;clear hk;have hs0:T.drew.cell? ⟨rb,pre.length,none⟩=some (.pointer (some ⟨q,jj,none⟩))∧T.drew.cell? ⟨wr.heap.size,1,none⟩=some (.string ⟨u.text.toArray⟩):=⟨hrc,HTK.out.c1⟩;have hq0:H8 T.drew q (fl 2 pre n t.place):=HQ8T.out;have zj:=hq0.cell hvj;have fj:=hq0.fr jj;have hm1:(0:Int)<(m:Int):=(by omega);go_wp2
          refine wp_region_held_drew (S:=fun w'=>w'.cell? ⟨rb,pre.length,none⟩=some (.pointer (some ⟨q,jj,none⟩))∧w'.cell? ⟨wr.heap.size,1,none⟩=some (.string ⟨u.text.toArray⟩)) (by kernel_rfl) hs0 (fun hH=>?_);have hTd:Trn (only q) w4 T.drew:=⟨HTR.out.os,HTR.out.tape,HTR.out.output,HTR.out.size,HTR.out.block⟩;generalize T.drew=wd at *;obtain⟨w5,hw5⟩:∃ w5,wd.setCell ⟨q,jj,none⟩ (.string ⟨u.text.toArray⟩)=w5:=⟨_,rfl⟩
          have hs5:w5.cell? ⟨rb,pre.length,none⟩=some (.pointer (some ⟨q,jj,none⟩))∧w5.cell? ⟨wr.heap.size,1,none⟩=some (.string ⟨u.text.toArray⟩):=by
           rw[←hw5];exact⟨(World.cell?_of_block (a:=⟨rb,pre.length,none⟩) (Below.heap_setCell _ _ _ _ (show rb≠q by omega))).trans hs0.1,(World.cell?_of_block (a:=⟨wr.heap.size,1,none⟩) (Below.heap_setCell _ _ _ _ (show wr.heap.size≠q by omega))).trans hs0.2⟩
          have hq5:H8 w5 q (fl 2 (pre++[u.text]) n t.place):=by
           rw[←hw5,←HX.out.2.2.1];exact hq0.one _
          have hT5:Trn (only q) w4 w5:=(by rw[←hw5];exact Trn.setCell (F:=only q) hTd (show q=q from rfl) _);have HQ5:=yH hq5;have HT5:=yH hT5;have HN:=yH HR.out.n;clear hq5 hT5 hTd hq0;refine heldT (i:=0) ?_;refine heldT (i:=1) ?_;refine heldT (i:=2) ?_;refine heldT (i:=3) ?_;refine heldT (i:=4) ?_;refine heldT (i:=5) ?_;refine heldNext (i:=6) rfl (by kernel_rfl) (by rfl) (fun K hK=>?_);go_simp;refine hK.out _ _ hs5 ?_;clear hK K
          (try simp only[Act.put,zLa,zLb,zLc]);refine wpAnyH_done (by kernel_rfl) ?_ _
          skip
          by_cases hmm:m=1
          ·subst hmm;go_wp2;go_roundw
           case rel=>exact⟨i+1,_,0,n,pre++[u.text],by first|rfl|go_num,rfl,by omega,by omega,fun h=>absurd h (by decide),yH ⟨HT5.out,HQ5.out,HX.out.1,by rw[HX.out.2.1];exact HN.out,hi1⟩⟩
           case measure=>simp[intOf];omega
          ·have e1:(m=1)=False:=eq_false hmm;have e2:(1:Int)≤(m:Int):=(by omega);go_wp2;go_roundw
           case rel=>exact⟨i+1,_,m-1,n,pre++[u.text],by first|rfl|go_num,by first|rfl|go_num,by omega,by omega,fun _=>by rw[List.length_append];rfl,yH ⟨HT5.out,HQ5.out,HX.out.1,by rw[HX.out.2.1];exact HN.out,hi1⟩⟩
           case measure=>simp[intOf];omega
         ·have k1:((u.kind:Int)==1)=false:=yB;have k1':((u.kind:Int)=1)=False:=yF;have k3:((u.kind:Int)==3)=true:=beq_iff_eq.2 (by omega);have k3':((u.kind:Int)=3)=True:=yT;clear hk;have hs0:T.drew.cell? ⟨rb,pre.length,none⟩=some (.pointer (some ⟨q,jj,none⟩))∧T.drew.cell? ⟨wr.heap.size,1,none⟩=some (.string ⟨u.text.toArray⟩):=⟨hrc,HTK.out.c1⟩
          have hq0:H8 T.drew q (fl 2 pre n t.place):=HQ8T.out;have zj:=hq0.cell hvj;have fj:=hq0.fr jj;have hm1:(0:Int)<(m:Int):=(by omega);go_wp2;refine wp_region_held_drew (S:=fun w'=>w'.cell? ⟨rb,pre.length,none⟩=some (.pointer (some ⟨q,jj,none⟩))∧w'.cell? ⟨wr.heap.size,1,none⟩=some (.string ⟨u.text.toArray⟩)) (by kernel_rfl) hs0 (fun hH=>?_)
          have hTd:Trn (only q) w4 T.drew:=⟨HTR.out.os,HTR.out.tape,HTR.out.output,HTR.out.size,HTR.out.block⟩;generalize T.drew=wd at *;obtain⟨w5,hw5⟩:∃ w5,wd.setCell ⟨q,jj,none⟩ (.string ⟨u.text.toArray⟩)=w5:=⟨_,rfl⟩
          have hs5:w5.cell? ⟨rb,pre.length,none⟩=some (.pointer (some ⟨q,jj,none⟩))∧w5.cell? ⟨wr.heap.size,1,none⟩=some (.string ⟨u.text.toArray⟩):=by
           rw[←hw5];exact⟨(World.cell?_of_block (a:=⟨rb,pre.length,none⟩) (Below.heap_setCell _ _ _ _ (show rb≠q by omega))).trans hs0.1,(World.cell?_of_block (a:=⟨wr.heap.size,1,none⟩) (Below.heap_setCell _ _ _ _ (show wr.heap.size≠q by omega))).trans hs0.2⟩
          have hq5:H8 w5 q (fl 2 (pre++[u.text]) n t.place):=by
           rw[←hw5,←HX.out.2.2.1];exact hq0.one _
          have hT5:Trn (only q) w4 w5:=(by rw[←hw5];exact Trn.setCell (F:=only q) hTd (show q=q from rfl) _);have HQ5:=yH hq5;have HT5:=yH hT5;have HN:=yH HR.out.n;clear hq5 hT5 hTd hq0;refine heldT (i:=0) ?_;refine heldT (i:=1) ?_;refine heldT (i:=2) ?_;refine heldT (i:=3) ?_;refine heldT (i:=4) ?_;refine heldT (i:=5) ?_;refine heldNext (i:=6) rfl (by kernel_rfl) (by rfl) (fun K hK=>?_);go_simp;refine hK.out _ _ hs5 ?_;clear hK K
          (try simp only[Act.put,zLa,zLb,zLc]);refine wpAnyH_done (by kernel_rfl) ?_ _
          skip
          by_cases hmm:m=1
          ·subst hmm;go_wp2;go_roundw
           case rel=>exact⟨i+1,_,0,n,pre++[u.text],by first|rfl|go_num,rfl,by omega,by omega,fun h=>absurd h (by decide),yH ⟨HT5.out,HQ5.out,HX.out.1,by rw[HX.out.2.1];exact HN.out,hi1⟩⟩
           case measure=>simp[intOf];omega
          ·have e1:(m=1)=False:=eq_false hmm;have e2:(1:Int)≤(m:Int):=(by omega);go_wp2;go_roundw
           case rel=>exact⟨i+1,_,m-1,n,pre++[u.text],by first|rfl|go_num,by first|rfl|go_num,by omega,by omega,fun _=>by rw[List.length_append];rfl,yH ⟨HT5.out,HQ5.out,HX.out.1,by rw[HX.out.2.1];exact HN.out,hi1⟩⟩
           case measure=>simp[intOf];omega
        ·have k1:((u.kind:Int)==1)=false:=yB;have k1':((u.kind:Int)=1)=False:=yF;have k3:((u.kind:Int)==3)=false:=yB;have k3':((u.kind:Int)=3)=False:=yF;rw[if_neg hk13,List.append_nil] at htx;rw[if_neg hk2] at hln;have HX:=yH (⟨htx,hln⟩:_∧_);have HN:=yH HR.out.n;clear htx hln hle3 hc3' hfu hk2 hk13 hpl;go_wp2;go_roundw
         case rel=>exact⟨i+1,oo,m,n,pre,by first|rfl|go_num,rfl,by omega,hm,hoo,yH ⟨HTR.out,HQ8T.out,by rw[HX.out.1];exact hpre,by rw[HX.out.2];exact HN.out,hi1⟩⟩
         case measure=>simp[intOf];omega
      ·obtain rfl:i=M:=(by omega);have hpre:=HR.out.pre;have hn:=HR.out.n;rw[List.take_of_length_le (by rw[HML.out];exact yR)] at hpre hn;have q8:=HR.out.q8;unfold fl at q8;obtain⟨F0,hF0⟩:∃ F0,pre.getD 0 []=F0:=⟨_,rfl⟩;obtain⟨F1,hF1⟩:∃ F1,pre.getD 1 []=F1:=⟨_,rfl⟩;obtain⟨F2,hF2⟩:∃ F2,pre.getD 2 []=F2:=⟨_,rfl⟩;rw[hF0,hF1,hF2] at q8;have hM:=HM.out;rw[←hpre,←hn,hF0,hF1,hF2] at hM;have HM2:=yH hM
       have hz:=(HZ3.out.below HB4.out).trn hbr (show ¬ (w.heap.size=q) by omega);have hr4:=(HR3.out.below HB4.out).trn hbr (show ¬ (g=q) by omega);have ht4:=(HTL3.out.below HB4.out).trn hbr (show ¬ (b=q) by omega);have hTw:Trn (fun k=>k=g∨w.heap.size≤k) w wr:=((HTW.out.then (Trn.of_below HB4.out)).more (fun k hk=>.inl hk)).then (hbr.more (fun k hk=>.inr (by have:k=q:=hk;omega)));have yy0:=q8.cell (i:=0) rfl;have yy1:=q8.cell (i:=1) rfl
       have yy2:=q8.cell (i:=2) rfl;have yy3:=q8.cell (i:=3) rfl;have yy4:=q8.cell (i:=4) rfl;have yy5:=q8.cell (i:=5) rfl;have yy6:=q8.cell (i:=6) rfl;have yy7:=q8.cell (i:=7) rfl;have zz0:=hz.cell (i:=0) rfl;have zz1:=hz.cell (i:=1) rfl;have zz2:=hz.cell (i:=2) rfl;have zz3:=hz.cell (i:=3) rfl;have zz4:=hz.cell (i:=4) rfl;have zz5:=hz.cell (i:=5) rfl;have zz6:=hz.cell (i:=6) rfl;have zz7:=hz.cell (i:=7) rfl;have zf0:=hz.fr 0
       have zf1:=hz.fr 1;have zf2:=hz.fr 2;have zf3:=hz.fr 3;have zf4:=hz.fr 4;have zf5:=hz.fr 5;have zf6:=hz.fr 6;have zf7:=hz.fr 7;have hset:=hz.set (vs:=[.int .i64 ((2:Nat):Int),.string ⟨F0.toArray⟩,.string ⟨F1.toArray⟩,.string ⟨F2.toArray⟩,.int .i64 (n:Int),.int .i64 (t.place:Int),.slice none 0 0,.slice none 0 0]) rfl
       have hTr:Trn (fun k=>k=g∨w.heap.size≤k) w (setN wr w.heap.size 0 [.int .i64 ((2:Nat):Int),.string ⟨F0.toArray⟩,.string ⟨F1.toArray⟩,.string ⟨F2.toArray⟩,.int .i64 (n:Int),.int .i64 (t.place:Int),.slice none 0 0,.slice none 0 0]):=setN_trn (.inr yR) _ _ hTw
       have hrr:=hr4.same (w':=setN wr w.heap.size 0 [.int .i64 ((2:Nat):Int),.string ⟨F0.toArray⟩,.string ⟨F1.toArray⟩,.string ⟨F2.toArray⟩,.int .i64 (n:Int),.int .i64 (t.place:Int),.slice none 0 0,.slice none 0 0]) (setN_other (by omega) _ _)
       have htt:TR (setN wr w.heap.size 0 [.int .i64 ((2:Nat):Int),.string ⟨F0.toArray⟩,.string ⟨F1.toArray⟩,.string ⟨F2.toArray⟩,.int .i64 (n:Int),.int .i64 (t.place:Int),.slice none 0 0,.slice none 0 0]) b lv' r:=ht4.trn (F:=only w.heap.size) (setN_trn (F:=only w.heap.size) (show w.heap.size=w.heap.size from rfl) _ _ (Trn.refl _ _)) (show ¬ (b=w.heap.size) by omega);have HSET:=yH hset;have HTR:=yH hTr;have HRR:=yH (⟨hrr,htt⟩:_∧_)
       clear hset hTr hrr htt hz hr4 ht4 hTw hbr hM hF0 hF1 hF2 q8 hpre hn HR;go_wp2;change bodyPost _ _ _ _ _ (setN wr w.heap.size 0 [.int .i64 ((2:Nat):Int),.string ⟨F0.toArray⟩,.string ⟨F1.toArray⟩,.string ⟨F2.toArray⟩,.int .i64 (n:Int),.int .i64 (t.place:Int),.slice none 0 0,.slice none 0 0]);have hset:=HSET.out;have hTr:=HTR.out;have hrr:=HRR.out
       generalize setN wr w.heap.size 0 [.int .i64 ((2:Nat):Int),.string ⟨F0.toArray⟩,.string ⟨F1.toArray⟩,.string ⟨F2.toArray⟩,.int .i64 (n:Int),.int .i64 (t.place:Int),.slice none 0 0,.slice none 0 0]=W at hset hTr hrr ⊢;have r0:=hset.cell (i:=0) rfl;have r1:=hset.cell (i:=1) rfl;have r2:=hset.cell (i:=2) rfl;have r3:=hset.cell (i:=3) rfl;have r4:=hset.cell (i:=4) rfl;have r5:=hset.cell (i:=5) rfl;have r6:=hset.cell (i:=6) rfl
       have r7:=hset.cell (i:=7) rfl;refine bodyPost_ret (v:=.agg #[.int .i64 ((2:Nat):Int),.string ⟨F0.toArray⟩,.string ⟨F1.toArray⟩,.string ⟨F2.toArray⟩,.int .i64 (n:Int),.int .i64 (t.place:Int),.slice none 0 0,.slice none 0 0]) (by simp[results,Tryz.results61,go_sem,r0,r1,r2,r3,r4,r5,r6,r7]) rfl ?_;unfold HeadQ;rw[HM2.out]
       exact⟨⟨hTr.os,hTr.tape,hTr.output,hTr.size,fun j hj hF=>hTr.block j hj (fun e=>e.elim hF (fun e=>by omega))⟩,rfl,_,hrr.1,hrr.2⟩
    ·have d1:((R:Int)==2)=false:=yB;have d2:((R:Int)=2)=False:=yF;have HP0:=yH (show List.replicate (Ps.skipK R) []=([]:List (List UInt8)) by unfold Ps.skipK;rw[if_neg h2];rfl);have HST:=yH (⟨Trn.refl _ _,HQ4.out,by rw[HP0.out];rfl,rfl,Nat.zero_le _⟩:HSt w4 w4 q R t.place 0 c [] 0);go_wp2
     go_loopw [5,7,56,62,73,75] (fun s5 s7 s56 s62 s73 s75 wr=>∃ (i oo m n:Nat) (pre:List (List UInt8)),s56 = .int .i64 (i:Int)∧s5 = .slice (some ⟨rb,oo,none⟩) m m∧i≤M∧m+pre.length=3∧(0<m→oo=pre.length)∧Hid (HSt w4 wr q R t.place i c pre n)) (fun s5 s7 s56 s62 s73 s75 _=>M-(intOf s56).toNat)
     case atStart=>exact⟨0,0,3,0,[],rfl,rfl,Nat.zero_le _,rfl,fun _=>rfl,HST⟩
     case round =>
      obtain⟨i,oo,m,n,pre,rfl,rfl,hi,hm,hoo,HR⟩:=hrel;clear HST;have hbr:=HR.out.trn;have hrz:=hbr.size;have h4z:=HB4.out.size;by_cases hlt:i<M
      ·obtain⟨u,hu⟩:∃ u,c[i]?=some u:=⟨_,List.getElem?_eq_getElem (by rw[HML.out];exact hlt)⟩;have hfu:=HCF.out u (List.mem_of_getElem? hu);obtain⟨c0,c1,c2⟩:=HCL.out wr (only q) ((Trn.of_below HB4.out).then hbr) (show ¬ (b=q) by omega) i u hu;obtain⟨T,hT⟩:∃ T,wr.alloc (.cells #[.int .i64 (u.kind:Int),.string ⟨u.text.toArray⟩,.int .i64 (u.place:Int)] 65)=T:=⟨_,rfl⟩;have hTk:=Tk3.new wr u.kind u.text u.place;rw[hT] at hTk
       have hbT:Below wr.heap.size wr T:=(by rw[←hT];exact yA);have t0:=hTk.c0;have t1:=hTk.c1;have htx:=Ps.texts_snoc (c.take i) u;have hln:=Ps.lastN_snoc (c.take i) u;rw[←Ps.take_snoc' hu] at htx hln;have hle3:=Ps.texts_le c (i+1);have hc3':=HC3.out;have hpre:=HR.out.pre;have hpl:pre.length=Ps.skipK R+(Ps.texts (c.take i)).length:=by rw[hpre,List.length_append,List.length_replicate]
       have hi1:i+1≤c.length:=(by rw[HML.out];omega);have HTB:=yH hbT;have HTK:=yH hTk;have HU:=yH hu;have hTr:Trn (only q) w4 T:=hbr.then (Trn.of_below hbT);have hq8:=HR.out.q8.below hbT;have HTR:=yH hTr;have HQ8T:=yH hq8;clear hTk hbT hbr hTr hq8;by_cases hk2:u.kind=2
       ·have k1:((u.kind:Int)==1)=false:=yB;have k1':((u.kind:Int)=1)=False:=yF;have k3:((u.kind:Int)==3)=false:=yB;have k3':((u.kind:Int)=3)=False:=yF;have k2:((u.kind:Int)==2)=true:=beq_iff_eq.2 (by omega);have k2':((u.kind:Int)=2)=True:=yT;obtain⟨hnum,h9⟩:=Ps.num_fine hfu hk2
        have NU:=yH (fun wx=>by
         have:=number_any ⟨u.text.toArray⟩ 9223372036854775807 wx (by show u.text.length≤_;omega);rw[show (⟨u.text.toArray⟩:ByteArray).data.toList=u.text from rfl,hnum] at this;unfold two at this;exact this)
        rw[if_pos hk2] at hln;rw[if_neg (by omega),List.append_nil] at htx;generalize Ps.num u.text=NV at NU hln;have HX:=yH (⟨htx,hln⟩:_∧_);clear hnum h9 hk2 hfu hpl hle3 hc3';go_wp2_with fail
        refine(NU.out _).mono ?_;rintro e w5 ⟨rfl,hb5⟩;have q5:=HQ8T.out.below hb5;have z4:=q5.cell (i:=4) rfl;have f4:=q5.fr 4;have HQ5:=yH (q5.one (i:=4) (.int .i64 (NV:Int)));rw[fl_num] at HQ5;have HT5:=yH (Trn.setCell (F:=only q) (HTR.out.then (Trn.of_below hb5)) (show q=q from rfl) (i:=4) (.int .i64 (NV:Int)));clear q5 hb5;go_wp2;go_roundw
        case rel=>exact⟨i+1,oo,m,NV,pre,by first|rfl|go_num,rfl,by omega,hm,hoo,yH ⟨HT5.out,HQ5.out,by rw[HX.out.1];exact hpre,HX.out.2.symm,hi1⟩⟩
        case measure=>simp[intOf];omega
       ·have k2:((u.kind:Int)==2)=false:=yB;have k2':((u.kind:Int)=2)=False:=yF;by_cases hk13:u.kind=1∨u.kind=3
        ·rw[if_pos hk13] at htx;rw[if_neg hk2] at hln;have hle4:pre.length<3:=(by rw[hpl];rw[htx,List.length_append] at hle3;simp at hle3;omega);have hm0:0<m:=(by omega);obtain rfl:=hoo hm0;obtain⟨jj,hjj⟩:∃ jj,pre.length+1=jj:=⟨_,rfl⟩
         have hrc:T.cell? ⟨rb,pre.length,none⟩=some (.pointer (some ⟨q,jj,none⟩)):=by
          have hr2:T.heap[rb]?=some (.cells #[.pointer (some ⟨q,1,none⟩),.pointer (some ⟨q,2,none⟩),.pointer (some ⟨q,3,none⟩)] 127 (0,0)):=(HTR.out.block rb (by omega) (show ¬ (rb=q) by omega)).trans HRM.out;rw[yC hr2,←hjj];generalize pre.length=pl at hle4
          match pl,hle4 with
          | 0,_=>rfl
          | 1,_=>rfl
          | 2,_=>rfl
          | pl+3,h=>exact absurd h (by omega)
         have hj3:∃ v,(fl R pre n t.place)[jj]?=some v:=by
          refine⟨_,List.getElem?_eq_getElem (by show jj<8;omega)⟩
         obtain⟨vj,hvj⟩:=hj3;have hset:=fl_set (R:=R) (n:=n) (p:=t.place) hle4 u.text;rw[hjj] at hset;have hnx:pre++[u.text]=List.replicate (Ps.skipK R) []++Ps.texts (c.take (i+1)):=(by rw[htx,←List.append_assoc,←hpre]);have hml:m+(pre++[u.text]).length=3+1:=(by rw[List.length_append];simp;omega);have HX:=yH (⟨hnx,hln,hset,hjj,hpl⟩:_∧_∧_∧_∧_);clear htx hln hset hnx hle3 hc3' hpre hfu hk2 hpl hjj;rcases hk13 with hk|hk
         ·have k1:((u.kind:Int)==1)=true:=beq_iff_eq.2 (by omega);have k1':((u.kind:Int)=1)=True:=yT;clear hk;have hs0:T.drew.cell? ⟨rb,pre.length,none⟩=some (.pointer (some ⟨q,jj,none⟩))∧T.drew.cell? ⟨wr.heap.size,1,none⟩=some (.string ⟨u.text.toArray⟩):=⟨hrc,HTK.out.c1⟩;have hq0:H8 T.drew q (fl R pre n t.place):=HQ8T.out;have zj:=hq0.cell hvj;have fj:=hq0.fr jj;have hm1:(0:Int)<(m:Int):=(by omega);go_wp2
          refine wp_region_held_drew (S:=fun w'=>w'.cell? ⟨rb,pre.length,none⟩=some (.pointer (some ⟨q,jj,none⟩))∧w'.cell? ⟨wr.heap.size,1,none⟩=some (.string ⟨u.text.toArray⟩)) (by kernel_rfl) hs0 (fun hH=>?_);have hTd:Trn (only q) w4 T.drew:=⟨HTR.out.os,HTR.out.tape,HTR.out.output,HTR.out.size,HTR.out.block⟩;generalize T.drew=wd at *;obtain⟨w5,hw5⟩:∃ w5,wd.setCell ⟨q,jj,none⟩ (.string ⟨u.text.toArray⟩)=w5:=⟨_,rfl⟩
          have hs5:w5.cell? ⟨rb,pre.length,none⟩=some (.pointer (some ⟨q,jj,none⟩))∧w5.cell? ⟨wr.heap.size,1,none⟩=some (.string ⟨u.text.toArray⟩):=by
           rw[←hw5];exact⟨(World.cell?_of_block (a:=⟨rb,pre.length,none⟩) (Below.heap_setCell _ _ _ _ (show rb≠q by omega))).trans hs0.1,(World.cell?_of_block (a:=⟨wr.heap.size,1,none⟩) (Below.heap_setCell _ _ _ _ (show wr.heap.size≠q by omega))).trans hs0.2⟩
          have hq5:H8 w5 q (fl R (pre++[u.text]) n t.place):=by
           rw[←hw5,←HX.out.2.2.1];exact hq0.one _
          have hT5:Trn (only q) w4 w5:=(by rw[←hw5];exact Trn.setCell (F:=only q) hTd (show q=q from rfl) _);have HQ5:=yH hq5;have HT5:=yH hT5;have HN:=yH HR.out.n;clear hq5 hT5 hTd hq0;refine heldT (i:=0) ?_;refine heldT (i:=1) ?_;refine heldT (i:=2) ?_;refine heldT (i:=3) ?_;refine heldT (i:=4) ?_;refine heldT (i:=5) ?_;refine heldNext (i:=6) rfl (by kernel_rfl) (by rfl) (fun K hK=>?_);go_simp;refine hK.out _ _ hs5 ?_;clear hK K
          (try simp only[Act.put,zLa,zLb,zLc]);refine wpAnyH_done (by kernel_rfl) ?_ _
          skip
          by_cases hmm:m=1
          ·subst hmm;go_wp2;go_roundw
           case rel=>exact⟨i+1,_,0,n,pre++[u.text],by first|rfl|go_num,rfl,by omega,by omega,fun h=>absurd h (by decide),yH ⟨HT5.out,HQ5.out,HX.out.1,by rw[HX.out.2.1];exact HN.out,hi1⟩⟩
           case measure=>simp[intOf];omega
          ·have e1:(m=1)=False:=eq_false hmm;have e2:(1:Int)≤(m:Int):=(by omega);go_wp2;go_roundw
           case rel=>exact⟨i+1,_,m-1,n,pre++[u.text],by first|rfl|go_num,by first|rfl|go_num,by omega,by omega,fun _=>by rw[List.length_append];rfl,yH ⟨HT5.out,HQ5.out,HX.out.1,by rw[HX.out.2.1];exact HN.out,hi1⟩⟩
           case measure=>simp[intOf];omega
         ·have k1:((u.kind:Int)==1)=false:=yB;have k1':((u.kind:Int)=1)=False:=yF;have k3:((u.kind:Int)==3)=true:=beq_iff_eq.2 (by omega);have k3':((u.kind:Int)=3)=True:=yT;clear hk;have hs0:T.drew.cell? ⟨rb,pre.length,none⟩=some (.pointer (some ⟨q,jj,none⟩))∧T.drew.cell? ⟨wr.heap.size,1,none⟩=some (.string ⟨u.text.toArray⟩):=⟨hrc,HTK.out.c1⟩
          have hq0:H8 T.drew q (fl R pre n t.place):=HQ8T.out;have zj:=hq0.cell hvj;have fj:=hq0.fr jj;have hm1:(0:Int)<(m:Int):=(by omega);go_wp2;refine wp_region_held_drew (S:=fun w'=>w'.cell? ⟨rb,pre.length,none⟩=some (.pointer (some ⟨q,jj,none⟩))∧w'.cell? ⟨wr.heap.size,1,none⟩=some (.string ⟨u.text.toArray⟩)) (by kernel_rfl) hs0 (fun hH=>?_)
          have hTd:Trn (only q) w4 T.drew:=⟨HTR.out.os,HTR.out.tape,HTR.out.output,HTR.out.size,HTR.out.block⟩;generalize T.drew=wd at *;obtain⟨w5,hw5⟩:∃ w5,wd.setCell ⟨q,jj,none⟩ (.string ⟨u.text.toArray⟩)=w5:=⟨_,rfl⟩
          have hs5:w5.cell? ⟨rb,pre.length,none⟩=some (.pointer (some ⟨q,jj,none⟩))∧w5.cell? ⟨wr.heap.size,1,none⟩=some (.string ⟨u.text.toArray⟩):=by
           rw[←hw5];exact⟨(World.cell?_of_block (a:=⟨rb,pre.length,none⟩) (Below.heap_setCell _ _ _ _ (show rb≠q by omega))).trans hs0.1,(World.cell?_of_block (a:=⟨wr.heap.size,1,none⟩) (Below.heap_setCell _ _ _ _ (show wr.heap.size≠q by omega))).trans hs0.2⟩
          have hq5:H8 w5 q (fl R (pre++[u.text]) n t.place):=by
           rw[←hw5,←HX.out.2.2.1];exact hq0.one _
          have hT5:Trn (only q) w4 w5:=(by rw[←hw5];exact Trn.setCell (F:=only q) hTd (show q=q from rfl) _);have HQ5:=yH hq5;have HT5:=yH hT5;have HN:=yH HR.out.n;clear hq5 hT5 hTd hq0;refine heldT (i:=0) ?_;refine heldT (i:=1) ?_;refine heldT (i:=2) ?_;refine heldT (i:=3) ?_;refine heldT (i:=4) ?_;refine heldT (i:=5) ?_;refine heldNext (i:=6) rfl (by kernel_rfl) (by rfl) (fun K hK=>?_);go_simp;refine hK.out _ _ hs5 ?_;clear hK K
          (try simp only[Act.put,zLa,zLb,zLc]);refine wpAnyH_done (by kernel_rfl) ?_ _
          skip
          by_cases hmm:m=1
          ·subst hmm;go_wp2;go_roundw
           case rel=>exact⟨i+1,_,0,n,pre++[u.text],by first|rfl|go_num,rfl,by omega,by omega,fun h=>absurd h (by decide),yH ⟨HT5.out,HQ5.out,HX.out.1,by rw[HX.out.2.1];exact HN.out,hi1⟩⟩
           case measure=>simp[intOf];omega
          ·have e1:(m=1)=False:=eq_false hmm;have e2:(1:Int)≤(m:Int):=(by omega);go_wp2;go_roundw
           case rel=>exact⟨i+1,_,m-1,n,pre++[u.text],by first|rfl|go_num,by first|rfl|go_num,by omega,by omega,fun _=>by rw[List.length_append];rfl,yH ⟨HT5.out,HQ5.out,HX.out.1,by rw[HX.out.2.1];exact HN.out,hi1⟩⟩
           case measure=>simp[intOf];omega
        ·have k1:((u.kind:Int)==1)=false:=yB;have k1':((u.kind:Int)=1)=False:=yF;have k3:((u.kind:Int)==3)=false:=yB;have k3':((u.kind:Int)=3)=False:=yF;rw[if_neg hk13,List.append_nil] at htx;rw[if_neg hk2] at hln;have HX:=yH (⟨htx,hln⟩:_∧_);have HN:=yH HR.out.n;clear htx hln hle3 hc3' hfu hk2 hk13 hpl;go_wp2;go_roundw
         case rel=>exact⟨i+1,oo,m,n,pre,by first|rfl|go_num,rfl,by omega,hm,hoo,yH ⟨HTR.out,HQ8T.out,by rw[HX.out.1];exact hpre,by rw[HX.out.2];exact HN.out,hi1⟩⟩
         case measure=>simp[intOf];omega
      ·obtain rfl:i=M:=(by omega);have hpre:=HR.out.pre;have hn:=HR.out.n;rw[List.take_of_length_le (by rw[HML.out];exact yR)] at hpre hn;have q8:=HR.out.q8;unfold fl at q8;obtain⟨F0,hF0⟩:∃ F0,pre.getD 0 []=F0:=⟨_,rfl⟩;obtain⟨F1,hF1⟩:∃ F1,pre.getD 1 []=F1:=⟨_,rfl⟩;obtain⟨F2,hF2⟩:∃ F2,pre.getD 2 []=F2:=⟨_,rfl⟩;rw[hF0,hF1,hF2] at q8;have hM:=HM.out;rw[←hpre,←hn,hF0,hF1,hF2] at hM;have HM2:=yH hM
       have hz:=(HZ3.out.below HB4.out).trn hbr (show ¬ (w.heap.size=q) by omega);have hr4:=(HR3.out.below HB4.out).trn hbr (show ¬ (g=q) by omega);have ht4:=(HTL3.out.below HB4.out).trn hbr (show ¬ (b=q) by omega);have hTw:Trn (fun k=>k=g∨w.heap.size≤k) w wr:=((HTW.out.then (Trn.of_below HB4.out)).more (fun k hk=>.inl hk)).then (hbr.more (fun k hk=>.inr (by have:k=q:=hk;omega)));have yy0:=q8.cell (i:=0) rfl;have yy1:=q8.cell (i:=1) rfl
       have yy2:=q8.cell (i:=2) rfl;have yy3:=q8.cell (i:=3) rfl;have yy4:=q8.cell (i:=4) rfl;have yy5:=q8.cell (i:=5) rfl;have yy6:=q8.cell (i:=6) rfl;have yy7:=q8.cell (i:=7) rfl;have zz0:=hz.cell (i:=0) rfl;have zz1:=hz.cell (i:=1) rfl;have zz2:=hz.cell (i:=2) rfl;have zz3:=hz.cell (i:=3) rfl;have zz4:=hz.cell (i:=4) rfl;have zz5:=hz.cell (i:=5) rfl;have zz6:=hz.cell (i:=6) rfl;have zz7:=hz.cell (i:=7) rfl;have zf0:=hz.fr 0
       have zf1:=hz.fr 1;have zf2:=hz.fr 2;have zf3:=hz.fr 3;have zf4:=hz.fr 4;have zf5:=hz.fr 5;have zf6:=hz.fr 6;have zf7:=hz.fr 7;have hset:=hz.set (vs:=[.int .i64 (R:Int),.string ⟨F0.toArray⟩,.string ⟨F1.toArray⟩,.string ⟨F2.toArray⟩,.int .i64 (n:Int),.int .i64 (t.place:Int),.slice none 0 0,.slice none 0 0]) rfl
       have hTr:Trn (fun k=>k=g∨w.heap.size≤k) w (setN wr w.heap.size 0 [.int .i64 (R:Int),.string ⟨F0.toArray⟩,.string ⟨F1.toArray⟩,.string ⟨F2.toArray⟩,.int .i64 (n:Int),.int .i64 (t.place:Int),.slice none 0 0,.slice none 0 0]):=setN_trn (.inr yR) _ _ hTw
       have hrr:=hr4.same (w':=setN wr w.heap.size 0 [.int .i64 (R:Int),.string ⟨F0.toArray⟩,.string ⟨F1.toArray⟩,.string ⟨F2.toArray⟩,.int .i64 (n:Int),.int .i64 (t.place:Int),.slice none 0 0,.slice none 0 0]) (setN_other (by omega) _ _)
       have htt:TR (setN wr w.heap.size 0 [.int .i64 (R:Int),.string ⟨F0.toArray⟩,.string ⟨F1.toArray⟩,.string ⟨F2.toArray⟩,.int .i64 (n:Int),.int .i64 (t.place:Int),.slice none 0 0,.slice none 0 0]) b lv' r:=ht4.trn (F:=only w.heap.size) (setN_trn (F:=only w.heap.size) (show w.heap.size=w.heap.size from rfl) _ _ (Trn.refl _ _)) (show ¬ (b=w.heap.size) by omega);have HSET:=yH hset;have HTR:=yH hTr;have HRR:=yH (⟨hrr,htt⟩:_∧_)
       clear hset hTr hrr htt hz hr4 ht4 hTw hbr hM hF0 hF1 hF2 q8 hpre hn HR;go_wp2;change bodyPost _ _ _ _ _ (setN wr w.heap.size 0 [.int .i64 (R:Int),.string ⟨F0.toArray⟩,.string ⟨F1.toArray⟩,.string ⟨F2.toArray⟩,.int .i64 (n:Int),.int .i64 (t.place:Int),.slice none 0 0,.slice none 0 0]);have hset:=HSET.out;have hTr:=HTR.out;have hrr:=HRR.out
       generalize setN wr w.heap.size 0 [.int .i64 (R:Int),.string ⟨F0.toArray⟩,.string ⟨F1.toArray⟩,.string ⟨F2.toArray⟩,.int .i64 (n:Int),.int .i64 (t.place:Int),.slice none 0 0,.slice none 0 0]=W at hset hTr hrr ⊢;have r0:=hset.cell (i:=0) rfl;have r1:=hset.cell (i:=1) rfl;have r2:=hset.cell (i:=2) rfl;have r3:=hset.cell (i:=3) rfl;have r4:=hset.cell (i:=4) rfl;have r5:=hset.cell (i:=5) rfl;have r6:=hset.cell (i:=6) rfl
       have r7:=hset.cell (i:=7) rfl;refine bodyPost_ret (v:=.agg #[.int .i64 (R:Int),.string ⟨F0.toArray⟩,.string ⟨F1.toArray⟩,.string ⟨F2.toArray⟩,.int .i64 (n:Int),.int .i64 (t.place:Int),.slice none 0 0,.slice none 0 0]) (by simp[results,Tryz.results61,go_sem,r0,r1,r2,r3,r4,r5,r6,r7]) rfl ?_;unfold HeadQ;rw[HM2.out]
       exact⟨⟨hTr.os,hTr.tape,hTr.output,hTr.size,fun j hj hF=>hTr.block j hj (fun e=>e.elim hF (fun e=>by omega))⟩,rfl,_,hrr.1,hrr.2⟩
end Go.Proofs.YtodlhhfcjkjapaaGreatDoor
