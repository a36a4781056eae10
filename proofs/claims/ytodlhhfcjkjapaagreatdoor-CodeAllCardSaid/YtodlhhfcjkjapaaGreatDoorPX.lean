import Derived.Test.YtodlhhfcjkjapaaGreatDoorPU
import Derived.Test.YtodlhhfcjkjapaaGreatDoorPV
import Derived.Test.YtodlhhfcjkjapaaGreatDoorPO
import Derived.Test.YtodlhhfcjkjapaaGreatDoorBA
import Derived.Test.YtodlhhfcjkjapaaGreatDoorPE
set_option maxRecDepth 200000
set_option maxHeartbeats 8000000
namespace Go.Proofs.YtodlhhfcjkjapaaGreatDoor
open Go.RowKit
structure WST (w0 w1 wr:World) (g b o cap B1:Nat) (L:List Lx.Tok) (rv s7:Value) (acc:List (List UInt8)) (a a' e' f':Nat):Prop where
 own:wr.ownsRow B1 9 1 s7 acc.length (acc.map sv)
 rx:RX wr g (.slice (some ⟨b,o,none⟩) L.length cap) rv a' e' f'
 trn:Trn (only g) w0 wr
 keep:∀ k,k<B1→k≠g→wr.heap[k]?=w1.heap[k]?
 al:a'<L.length
 aa:a≤a'
 b1:w0.heap.size≤B1
 sz:B1≤wr.heap.size
 glt:g<w0.heap.size
section
variable {w0 w1 wr w2:World} {B g b o cap B1 a a' e' f' a2 e2 f2:Nat} {L:List Lx.Tok} {rv s7 v':Value} {acc:List (List UInt8)} {cs:List SA}
theorem WST.rs {e f:Nat} (h:WST w0 w1 wr g b o cap B1 L rv s7 acc a a' e' f') (h0:RS w0 B g b o cap L a rv cs e f):RS wr B g b o cap L a' rv cs e' f':=h0.turned h.trn h.rx h.al h.aa
theorem WST.took (h:WST w0 w1 wr g b o cap B1 L rv s7 acc a a' e' f') (hr:RS w2 B g b o cap L a2 rv cs e2 f2) (ht:Trn (only g) wr w2) (haa:a'≤a2):WST w0 w1 w2 g b o cap B1 L rv s7 acc a a2 e2 f2 where
 own:=ht.own h.own (fun k hk e=>by have h1:=(h.own.lt k hk).1;have h2:=h.b1;have h3:=h.glt;have:k=g:=e;omega)
 rx:=hr.rx
 trn:=h.trn.then ht
 keep:=fun k hk hg=>(ht.block k (Nat.lt_of_lt_of_le hk h.sz) hg).trans (h.keep k hk hg)
 al:=hr.al
 aa:=Nat.le_trans h.aa haa
 b1:=h.b1
 sz:=Nat.le_trans h.sz ht.size
 glt:=h.glt
theorem WST.push {x:List UInt8} (h:WST w0 w1 wr g b o cap B1 L rv s7 acc a a' e' f') (ho:w2.ownsRow B1 9 1 v' (acc.length+1) (acc.map sv++[.string ⟨x.toArray⟩])) (hg:wr.grownBy w2 s7.ownBlock):WST w0 w1 w2 g b o cap B1 L rv v' (acc++[x]) a a' e' f' where
 own:=by rw[List.length_append,List.map_append];exact ho
 rx:=h.rx.same (hg.block g (Nat.lt_of_lt_of_le h.glt h.trn.size) (fun e=>by have h1:=(h.own.lt g e.symm).1;have h2:=h.b1;have h3:=h.glt;omega))
 trn:=⟨hg.os.trans h.trn.os,hg.tape.trans h.trn.tape,hg.output.trans h.trn.output,Nat.le_trans h.trn.size hg.size,fun k hk hF=>(hg.block k (Nat.lt_of_lt_of_le hk h.trn.size) (fun e=>by have h1:=(h.own.lt k e.symm).1;have h2:=h.b1;omega)).trans (h.trn.block k hk hF)⟩
 keep:=fun k hk hG=>(hg.block k (Nat.lt_of_lt_of_le hk h.sz) (fun e=>by have h1:=(h.own.lt k e.symm).1;omega)).trans (h.keep k hk hG)
 al:=h.al
 aa:=h.aa
 b1:=h.b1
 sz:=Nat.le_trans h.sz hg.size
 glt:=h.glt
theorem WST.cell {k i:Nat} {v:Value} (h:WST w0 w1 wr g b o cap B1 L rv s7 acc a a' e' f') (hk:k<B1) (hg:k≠g) (hv:w1.cell? ⟨k,i,none⟩=some v):wr.cell? ⟨k,i,none⟩=some v:=(World.cell?_of_block (h.keep k hk hg)).trans hv
end
theorem own_formW {w:World} {B n:Nat} {e:TypeId} {v:Value} {xs:List Value} (h:w.ownsRow B e 1 v n xs):∃ ao cap,v = .slice ao n cap:=by
 rcases h.2 with ⟨rfl,hn⟩|⟨g,cap,cur,rfl,_⟩
 ·exact⟨none,0,by rw[hn]⟩
 ·exact⟨_,cap,rfl⟩
theorem rwords_c (k:Nat) (hk1:1≤k) (hk2:k≤17) {w:World} {B g b o cap a f:Nat} {L:List Lx.Tok} {rv:Value} {cs:List SA} (h:RS w B g b o cap L a rv cs 0 f) :
  Calls Tryz.prog 46 #[.pointer (some ⟨g,0,none⟩),.int .i64 (k:Int)] w fun e w'=>∃ (ao:Option Addr) (oc n a' e' f':Nat) (ws:List (List UInt8)),e = .returned (.tuple #[.slice ao ws.length oc,.int .i64 (n:Int)])∧w'.ownsRow w.heap.size 9 1 (.slice ao ws.length oc) ws.length (ws.map sv)∧RS w' B g b o cap L a' rv cs e' f'∧Trn (only g) w w'∧a≤a'∧ws.length≤100∧Ps.WEnd e' f' ws n (L.drop a') (Ps.words (Ps.shape k) (L.drop a)):=by
 have HH:=yH h;have SH:=rshape_any k (by omega) w;have WD:=yH (fun wx=>rwk_any k hk1 hk2 wx);obtain⟨TG,hTG⟩:∃ T,Ps.words (Ps.shape k) (L.drop a)=T:=⟨_,rfl⟩;rw[hTG];have HTG:=yH hTG;clear h hTG;go_enter Tryz.func46,Tryz.ntmps46;go_wp2_with fail
 refine SH.mono ?_;rintro e w1 ⟨rfl,hb1⟩;have HB1:=yH hb1;clear hb1 SH;go_wp2_with fail
 refine(WD.out w1).mono ?_;rintro e w2 ⟨gw,nw,cw,rfl,hnw,hcw,hb2⟩;have hb2':=HB1.out.trans (hb2.mono HB1.out.size);have hg:=HH.out.rx.lt;have hgw:gw<w2.heap.size:=World.block_lt_of_cell? w2 _ (hcw 0 _ rfl)
 have hst:∀ B1,w2.heap.size=B1→WST w w2 (w2.alloc (.cells #[] 9)) g b o cap B1 L rv (.slice (some ⟨B1,0,none⟩) 0 0) [] a a 0 f:=by
  rintro B1 rfl;have hal:Below w2.heap.size w2 (w2.alloc (.cells #[] 9)):=yA;exact⟨World.ownsRow_made w2 #[] 0 yR (Nat.zero_le _) rfl,(HH.out.rx.below hb2').below (hal),Trn.of_below (hb2'.trans (hal.mono hb2'.size)),fun k hk _=>hal.block k hk,HH.out.al,yR,hb2'.size,hal.size,hg⟩
 obtain⟨B1,hB1⟩:∃ B1,w2.heap.size=B1:=⟨_,rfl⟩;have HST:=yH (hst B1 hB1);have hnw5:nw≤5:=(by rw[hnw,List.length_cons];have:=Ps.tail_len ⟨k,by omega⟩;simp only at this;omega);have HNW:=yH hnw
 have hgne:gw≠g:=fun e=>by
  have c1:=hcw 0 _ rfl;rw[e] at c1;rw[(hb2'.cell (p:=⟨g,0,none⟩) hg),HH.out.rx.c0] at c1;cases c1
 rw[hB1] at hgw;have HGW:=yH (⟨hgw,hgne⟩:_∧_);have HCW:=yH hcw;have HL0:Hid (Ps.WLink 0 f [] false 0 (Ps.untilB (Ps.tailW k)) (L.drop a) TG):=yH (.inl ⟨rfl,by rw[Ps.until_of hk2,HTG.out];cases TG <;> simp[Ps.wres]⟩)
 clear hst hnw hcw hb2 hb2' hg hgw hgne;go_wp2
 go_loopw [7,8,9,10,11,12,33,40,61,68,77] (fun s7 s8 s9 s10 s11 s12 s33 s40 s61 s68 s77 wr=>∃ (i n a' e' f':Nat) (acc:List (List UInt8)) (sn:Bool),1≤i∧i≤nw∧s9 = .int .i64 i∧s8 = .int .i64 n∧acc.length≤i∧Hid (WST w w2 wr g b o cap B1 L rv s7 acc a a' e' f')∧Hid (sn=((Ps.tailW k).take (i-1)).contains [105])∧Hid (sn=false→n=0)∧Hid (Ps.WLink e' f' acc sn n (Ps.untilB ((Ps.tailW k).drop (i-1))) (L.drop a') TG)) (fun s7 s8 s9 s10 s11 s12 s33 s40 s61 s68 s77 _=>nw-(intOf s9).toNat)
 case atStart=>exact⟨1,0,a,0,f,[],false,yR,by rw[HNW.out];simp,rfl,rfl,Nat.zero_le _,HST,yH (by simp),yH (fun _=>rfl),HL0⟩
 case round =>
  obtain⟨i,n,a',e',f',acc,sn,hi1,hi2,rfl,rfl,hacc,HW,HSN,HN0,HL⟩:=hrel;clear HST HL0;obtain⟨ao,oc,rfl⟩:=own_formW HW.out.own;obtain⟨A0,hA0⟩:∃ A0,acc.length=A0:=⟨_,rfl⟩;have HA0:=yH hA0;rw[hA0] at hacc;by_cases hlt:i<nw
  ·obtain⟨j,rfl⟩:∃ j,i=j+1:=⟨i-1,by omega⟩;obtain⟨wd,hwd⟩:∃ wd,(Ps.tailW k)[j]?=some wd:=⟨_,List.getElem?_eq_getElem (by have:=HNW.out;rw[List.length_cons] at this;omega)⟩;have hc:=HW.out.cell HGW.out.1 HGW.out.2 (HCW.out (j+1) wd hwd);have hkind:=Ps.tail_kinds ⟨k,by omega⟩ wd (List.mem_of_getElem? hwd);obtain⟨t,ht⟩:=(HW.out.rs HH.out).tok
   have hdt:L.drop a'=t :: L.drop (a'+1):=by
    obtain⟨h1,rfl⟩:=yE ht;exact List.drop_eq_getElem_cons h1
   have hfine:Ps.Fine t:=HH.out.ends.1 t (List.mem_of_getElem? ht)
   have hun:(Ps.tailW k).drop (j+1-1)=wd :: (Ps.tailW k).drop (j+1):=by
    obtain⟨h1,rfl⟩:=yE hwd;exact List.drop_eq_getElem_cons h1
   have hl:=HL.out;rw[hun,Ps.until_cons] at hl
   have hsn2:∀ x,x≠[105]→wd=x→sn=((Ps.tailW k).take (j+1+1-1)).contains [105]:=fun x hx e=>by
    rw[show j+1+1-1=j+1 by omega,List.take_add_one,hwd,HSN.out];show ((Ps.tailW k).take (j+1-1)).contains [105]=((Ps.tailW k).take j++[wd]).contains [105]
    rw[List.contains_append,e];simp;exact fun h=>absurd h.symm hx
   rw[hdt] at hl;have HLW:=yH hl;have HSN2:=yH hsn2;have HT:=yH ht;have HDT:=yH hdt;have HFI:=yH hfine;have HWD:=yH hwd;rw[hA0];have ha2:A0≤2097152:=(by omega);clear hl hsn2 ht hdt hfine hun hwd hA0;by_cases c110:wd=[110]
   ·have e110:(wd==[110])=true:=beq_iff_eq.2 c110;have f110:(wd=[110])=True:=eq_true c110;have TK:=rtake_u 1 (by decide) (HW.out.rs HH.out) t HT.out;go_wp2_with fail
    refine TK.mono ?_;rintro e w3 ⟨x,a2,e2,f2,rfl,hr3,ht3,hu⟩;have haa:a'≤a2:=(by rcases hu with ⟨_,_,_,rfl,_⟩|⟨_,_,_,rfl,_⟩|⟨_,_,rfl,_⟩ <;> omega);have W3:=yH (HW.out.took hr3 ht3 haa)
    have hlk:Ps.WLink e2 f2 (acc++[x]) sn n (Ps.untilB ((Ps.tailW k).drop (j+1))) (L.drop a2) TG:=by
     have hl:=HLW.out;rw[show Ps.wordW wd=some .n by rw[c110];rfl] at hl;rcases hu with ⟨h1,h2,rfl,rfl,rfl⟩|⟨h1,h2,rfl,rfl,rfl,rfl⟩|⟨h1,rfl,rfl,rfl,rfl⟩
     ·exact hl.text h1 (by simp) (by show (t.kind==1)=true;exact beq_iff_eq.2 h2) f2
     ·exact hl.no h1 (by show (t.kind==1)=false;exact yB h2)
     ·exact hl.err h1
    have HLK:=yH hlk;have HS3:=yH (HSN2.out [110] (by decide) c110);have hown:=W3.out.own;rw[HA0.out] at hown;have hB3:=W3.out.sz;clear hr3 ht3 hu hlk TK haa c110;go_wp2_with (at_builtin;refine append_str rfl (.tmp 35) (.tmp 38) rfl rfl hown rfl rfl rfl ha2 hB3 ?_)
    intro v4 w4 ho4 hg4;have hw4:=W3.out.push (x:=x) (by rw[HA0.out];exact ho4) (by rw[HA0.out];exact hg4);have W4:=yH hw4;have hl4:(acc++[x]).length≤j+1+1:=(by rw[List.length_append,HA0.out];simp;omega);clear ho4 hg4 hw4 hown hB3;go_wp2;go_roundw
    case rel=>exact⟨j+1+1,n,a2,e2,f2,acc++[x],sn,by omega,by omega,by first|rfl|go_num,by first|rfl|trivial,hl4,W4,HS3,HN0,HLK⟩
    case measure=>simp[intOf];omega
   by_cases c119:wd=[119]
   ·have e110:(wd==[110])=false:=yB c110;have f110:(wd=[110])=False:=eq_false c110;have e119:(wd==[119])=true:=beq_iff_eq.2 c119;have f119:(wd=[119])=True:=eq_true c119;have C119:=yH c119;have W0:=HW;clear c110 c119;cases b1:(t.kind==1 && t.text==Ps.wCap) with
    | true =>
     have B1:=yH b1;have IS1:=ris_any 1 Ps.wCap (W0.out.rs HH.out) t HT.out;rw[b1] at IS1;go_wp2_with fail
     refine IS1.mono ?_;rintro e v1 ⟨rfl,hb1⟩;have W1:=yH (W0.out.took ((W0.out.rs HH.out).below hb1) (Trn.of_below hb1) yR);clear hb1 IS1;clear b1;have TK:=rtake_u 1 (by decide) (W1.out.rs HH.out) t HT.out;go_wp2_with fail
     refine TK.mono ?_;rintro e w3 ⟨x,a2,e2,f2,rfl,hr3,ht3,hu⟩;have haa:a'≤a2:=(by rcases hu with ⟨_,_,_,rfl,_⟩|⟨_,_,_,rfl,_⟩|⟨_,_,rfl,_⟩ <;> omega);have W8:=yH (W1.out.took hr3 ht3 haa)
     have hlk:Ps.WLink e2 f2 (acc++[x]) sn n (Ps.untilB ((Ps.tailW k).drop (j+1))) (L.drop a2) TG:=by
      have hl:=HLW.out;rw[show Ps.wordW wd=some .w by rw[C119.out];rfl] at hl;have hf:Ps.fits .w t=true:=(by unfold Ps.fits;rw[show Ps.isName Ps.wCap t=true from B1.out];simp);have hk:t.kind=1:=(by have h:=B1.out;simp at h;exact h.1);rcases hu with ⟨h1,h2,rfl,rfl,rfl⟩|⟨h1,h2,rfl,rfl,rfl,rfl⟩|⟨h1,rfl,rfl,rfl,rfl⟩
      ·exact hl.text h1 (by simp) hf f2
      ·exact absurd hk h2
      ·exact hl.err h1
     have HLK:=yH hlk;have HS3:=yH (HSN2.out [119] (by decide) C119.out);have hown:=W8.out.own;rw[HA0.out] at hown;have hB3:=W8.out.sz;clear hr3 ht3 hu hlk TK haa;go_wp2_with (at_builtin;refine append_str rfl (.tmp 56) (.tmp 59) rfl rfl hown rfl rfl rfl ha2 hB3 ?_)
     intro v4 w4 ho4 hg4;have hw4:=W8.out.push (x:=x) (by rw[HA0.out];exact ho4) (by rw[HA0.out];exact hg4);have W9:=yH hw4;have hl4:(acc++[x]).length≤j+1+1:=(by rw[List.length_append,HA0.out];simp;omega);clear ho4 hg4 hw4 hown hB3;go_wp2;go_roundw
     case rel=>exact⟨j+1+1,n,a2,e2,f2,acc++[x],sn,by omega,by omega,by first|rfl|go_num,by first|rfl|trivial,hl4,W9,HS3,HN0,HLK⟩
     case measure=>simp[intOf];omega
    | false =>
     have B1:=yH b1;have IS1:=ris_any 1 Ps.wCap (W0.out.rs HH.out) t HT.out;rw[b1] at IS1;go_wp2_with fail
     refine IS1.mono ?_;rintro e v1 ⟨rfl,hb1⟩;have W1:=yH (W0.out.took ((W0.out.rs HH.out).below hb1) (Trn.of_below hb1) yR);clear hb1 IS1;clear b1;cases b2:(t.kind==1 && t.text==Ps.wCode) with
     | true =>
      have B2:=yH b2;have IS2:=ris_any 1 Ps.wCode (W1.out.rs HH.out) t HT.out;rw[b2] at IS2;go_wp2_with fail
      refine IS2.mono ?_;rintro e v2 ⟨rfl,hb2⟩;have W2:=yH (W1.out.took ((W1.out.rs HH.out).below hb2) (Trn.of_below hb2) yR);clear hb2 IS2;clear b2;have TK:=rtake_u 1 (by decide) (W2.out.rs HH.out) t HT.out;go_wp2_with fail
      refine TK.mono ?_;rintro e w3 ⟨x,a2,e2,f2,rfl,hr3,ht3,hu⟩;have haa:a'≤a2:=(by rcases hu with ⟨_,_,_,rfl,_⟩|⟨_,_,_,rfl,_⟩|⟨_,_,rfl,_⟩ <;> omega);have W8:=yH (W2.out.took hr3 ht3 haa)
      have hlk:Ps.WLink e2 f2 (acc++[x]) sn n (Ps.untilB ((Ps.tailW k).drop (j+1))) (L.drop a2) TG:=by
       have hl:=HLW.out;rw[show Ps.wordW wd=some .w by rw[C119.out];rfl] at hl;have hf:Ps.fits .w t=true:=(by unfold Ps.fits;rw[show Ps.isName Ps.wCap t=false from B1.out,show Ps.isName Ps.wCode t=true from B2.out];simp);have hk:t.kind=1:=(by have h:=B2.out;simp at h;exact h.1);rcases hu with ⟨h1,h2,rfl,rfl,rfl⟩|⟨h1,h2,rfl,rfl,rfl,rfl⟩|⟨h1,rfl,rfl,rfl,rfl⟩
       ·exact hl.text h1 (by simp) hf f2
       ·exact absurd hk h2
       ·exact hl.err h1
      have HLK:=yH hlk;have HS3:=yH (HSN2.out [119] (by decide) C119.out);have hown:=W8.out.own;rw[HA0.out] at hown;have hB3:=W8.out.sz;clear hr3 ht3 hu hlk TK haa;go_wp2_with (at_builtin;refine append_str rfl (.tmp 56) (.tmp 59) rfl rfl hown rfl rfl rfl ha2 hB3 ?_)
      intro v4 w4 ho4 hg4;have hw4:=W8.out.push (x:=x) (by rw[HA0.out];exact ho4) (by rw[HA0.out];exact hg4);have W9:=yH hw4;have hl4:(acc++[x]).length≤j+1+1:=(by rw[List.length_append,HA0.out];simp;omega);clear ho4 hg4 hw4 hown hB3;go_wp2;go_roundw
      case rel=>exact⟨j+1+1,n,a2,e2,f2,acc++[x],sn,by omega,by omega,by first|rfl|go_num,by first|rfl|trivial,hl4,W9,HS3,HN0,HLK⟩
      case measure=>simp[intOf];omega
     | false =>
      have B2:=yH b2;have IS2:=ris_any 1 Ps.wCode (W1.out.rs HH.out) t HT.out;rw[b2] at IS2;go_wp2_with fail
      refine IS2.mono ?_;rintro e v2 ⟨rfl,hb2⟩;have W2:=yH (W1.out.took ((W1.out.rs HH.out).below hb2) (Trn.of_below hb2) yR);clear hb2 IS2;clear b2;cases b3:(t.kind==1 && t.text==Ps.wText) with
      | true =>
       have B3:=yH b3;have IS3:=ris_any 1 Ps.wText (W2.out.rs HH.out) t HT.out;rw[b3] at IS3;go_wp2_with fail
       refine IS3.mono ?_;rintro e v3 ⟨rfl,hb3⟩;have W3:=yH (W2.out.took ((W2.out.rs HH.out).below hb3) (Trn.of_below hb3) yR);clear hb3 IS3;clear b3;have TK:=rtake_u 1 (by decide) (W3.out.rs HH.out) t HT.out;go_wp2_with fail
       refine TK.mono ?_;rintro e w3 ⟨x,a2,e2,f2,rfl,hr3,ht3,hu⟩;have haa:a'≤a2:=(by rcases hu with ⟨_,_,_,rfl,_⟩|⟨_,_,_,rfl,_⟩|⟨_,_,rfl,_⟩ <;> omega);have W8:=yH (W3.out.took hr3 ht3 haa)
       have hlk:Ps.WLink e2 f2 (acc++[x]) sn n (Ps.untilB ((Ps.tailW k).drop (j+1))) (L.drop a2) TG:=by
        have hl:=HLW.out;rw[show Ps.wordW wd=some .w by rw[C119.out];rfl] at hl;have hf:Ps.fits .w t=true:=(by unfold Ps.fits;rw[show Ps.isName Ps.wCap t=false from B1.out,show Ps.isName Ps.wCode t=false from B2.out,show Ps.isName Ps.wText t=true from B3.out];simp);have hk:t.kind=1:=(by have h:=B3.out;simp at h;exact h.1);rcases hu with ⟨h1,h2,rfl,rfl,rfl⟩|⟨h1,h2,rfl,rfl,rfl,rfl⟩|⟨h1,rfl,rfl,rfl,rfl⟩
        ·exact hl.text h1 (by simp) hf f2
        ·exact absurd hk h2
        ·exact hl.err h1
       have HLK:=yH hlk;have HS3:=yH (HSN2.out [119] (by decide) C119.out);have hown:=W8.out.own;rw[HA0.out] at hown;have hB3:=W8.out.sz;clear hr3 ht3 hu hlk TK haa;go_wp2_with (at_builtin;refine append_str rfl (.tmp 56) (.tmp 59) rfl rfl hown rfl rfl rfl ha2 hB3 ?_)
       intro v4 w4 ho4 hg4;have hw4:=W8.out.push (x:=x) (by rw[HA0.out];exact ho4) (by rw[HA0.out];exact hg4);have W9:=yH hw4;have hl4:(acc++[x]).length≤j+1+1:=(by rw[List.length_append,HA0.out];simp;omega);clear ho4 hg4 hw4 hown hB3;go_wp2;go_roundw
       case rel=>exact⟨j+1+1,n,a2,e2,f2,acc++[x],sn,by omega,by omega,by first|rfl|go_num,by first|rfl|trivial,hl4,W9,HS3,HN0,HLK⟩
       case measure=>simp[intOf];omega
      | false =>
       have B3:=yH b3;have IS3:=ris_any 1 Ps.wText (W2.out.rs HH.out) t HT.out;rw[b3] at IS3;go_wp2_with fail
       refine IS3.mono ?_;rintro e v3 ⟨rfl,hb3⟩;have W3:=yH (W2.out.took ((W2.out.rs HH.out).below hb3) (Trn.of_below hb3) yR);clear hb3 IS3;clear b3;have FA:=rfail_u 20 (W3.out.rs HH.out) t HT.out;go_wp2_with fail
       refine FA.mono ?_;rintro e w5 ⟨e5,f5,rfl,hr5,ht5,hfu⟩;have W4:=yH (W3.out.took hr5 ht5 yR);clear hr5 ht5 FA;have TK:=rtake_u 1 (by decide) (W4.out.rs HH.out) t HT.out;go_wp2_with fail
       refine TK.mono ?_;rintro e w3 ⟨x,a2,e2,f2,rfl,hr3,ht3,hu⟩;have haa:a'≤a2:=(by rcases hu with ⟨_,_,_,rfl,_⟩|⟨_,_,_,rfl,_⟩|⟨_,_,rfl,_⟩ <;> omega);have W8:=yH (W4.out.took hr3 ht3 haa)
       have hlk:Ps.WLink e2 f2 (acc++[x]) sn n (Ps.untilB ((Ps.tailW k).drop (j+1))) (L.drop a2) TG:=by
        have hl:=HLW.out;rw[show Ps.wordW wd=some .w by rw[C119.out];rfl] at hl;have hf:Ps.fits .w t=false:=(by unfold Ps.fits;rw[show Ps.isName Ps.wCap t=false from B1.out,show Ps.isName Ps.wCode t=false from B2.out,show Ps.isName Ps.wText t=false from B3.out];rfl);rcases hfu with ⟨h1,rfl,rfl⟩|⟨h1,rfl,rfl⟩
        ·rcases hu with ⟨h3,_⟩|⟨h3,_⟩|⟨h3,rfl,rfl,rfl,rfl⟩
         ·exact absurd h3 (by decide)
         ·exact absurd h3 (by decide)
         ·exact hl.no h1 hf
        ·rcases hu with ⟨h3,_⟩|⟨h3,_⟩|⟨h3,rfl,rfl,rfl,rfl⟩
         ·exact absurd h3 h1
         ·exact absurd h3 h1
         ·exact hl.err h1
       have HLK:=yH hlk;have HS3:=yH (HSN2.out [119] (by decide) C119.out);have hown:=W8.out.own;rw[HA0.out] at hown;have hB3:=W8.out.sz;clear hr3 ht3 hfu hu hlk TK haa;go_wp2_with (at_builtin;refine append_str rfl (.tmp 56) (.tmp 59) rfl rfl hown rfl rfl rfl ha2 hB3 ?_)
       intro v4 w4 ho4 hg4;have hw4:=W8.out.push (x:=x) (by rw[HA0.out];exact ho4) (by rw[HA0.out];exact hg4);have W9:=yH hw4;have hl4:(acc++[x]).length≤j+1+1:=(by rw[List.length_append,HA0.out];simp;omega);clear ho4 hg4 hw4 hown hB3;go_wp2;go_roundw
       case rel=>exact⟨j+1+1,n,a2,e2,f2,acc++[x],sn,by omega,by omega,by first|rfl|go_num,by first|rfl|trivial,hl4,W9,HS3,HN0,HLK⟩
       case measure=>simp[intOf];omega
   by_cases c116:wd=[116]
   ·have e110:(wd==[110])=false:=yB c110;have f110:(wd=[110])=False:=eq_false c110;have e119:(wd==[119])=false:=yB c119;have f119:(wd=[119])=False:=eq_false c119;have e116:(wd==[116])=true:=beq_iff_eq.2 c116;have f116:(wd=[116])=True:=eq_true c116;have TK:=rtake_u 3 (by decide) (HW.out.rs HH.out) t HT.out;go_wp2_with fail
    refine TK.mono ?_;rintro e w3 ⟨x,a2,e2,f2,rfl,hr3,ht3,hu⟩;have haa:a'≤a2:=(by rcases hu with ⟨_,_,_,rfl,_⟩|⟨_,_,_,rfl,_⟩|⟨_,_,rfl,_⟩ <;> omega);have W3:=yH (HW.out.took hr3 ht3 haa)
    have hlk:Ps.WLink e2 f2 (acc++[x]) sn n (Ps.untilB ((Ps.tailW k).drop (j+1))) (L.drop a2) TG:=by
     have hl:=HLW.out;rw[show Ps.wordW wd=some .t by rw[c116];rfl] at hl;rcases hu with ⟨h1,h2,rfl,rfl,rfl⟩|⟨h1,h2,rfl,rfl,rfl,rfl⟩|⟨h1,rfl,rfl,rfl,rfl⟩
     ·exact hl.text h1 (by simp) (by show (t.kind==3)=true;exact beq_iff_eq.2 h2) f2
     ·exact hl.no h1 (by show (t.kind==3)=false;exact yB h2)
     ·exact hl.err h1
    have HLK:=yH hlk;have HS3:=yH (HSN2.out [116] (by decide) c116);have hown:=W3.out.own;rw[HA0.out] at hown;have hB3:=W3.out.sz;clear hr3 ht3 hu hlk TK haa c110 c119 c116;go_wp2_with (at_builtin;refine append_str rfl (.tmp 63) (.tmp 66) rfl rfl hown rfl rfl rfl ha2 hB3 ?_)
    intro v4 w4 ho4 hg4;have hw4:=W3.out.push (x:=x) (by rw[HA0.out];exact ho4) (by rw[HA0.out];exact hg4);have W4:=yH hw4;have hl4:(acc++[x]).length≤j+1+1:=(by rw[List.length_append,HA0.out];simp;omega);clear ho4 hg4 hw4 hown hB3;go_wp2;go_roundw
    case rel=>exact⟨j+1+1,n,a2,e2,f2,acc++[x],sn,by omega,by omega,by first|rfl|go_num,by first|rfl|trivial,hl4,W4,HS3,HN0,HLK⟩
    case measure=>simp[intOf];omega
   by_cases c105:wd=[105]
   ·have e110:(wd==[110])=false:=yB c110;have f110:(wd=[110])=False:=eq_false c110;have e119:(wd==[119])=false:=yB c119;have f119:(wd=[119])=False:=eq_false c119;have e116:(wd==[116])=false:=yB c116;have f116:(wd=[116])=False:=eq_false c116;have e105:(wd==[105])=true:=beq_iff_eq.2 c105;have f105:(wd=[105])=True:=eq_true c105
    have TK:=rtake_u 2 (by decide) (HW.out.rs HH.out) t HT.out;go_wp2_with fail
    refine TK.mono ?_;rintro e w3 ⟨x,a2,e2,f2,rfl,hr3,ht3,hu⟩;have haa:a'≤a2:=(by rcases hu with ⟨_,_,_,rfl,_⟩|⟨_,_,_,rfl,_⟩|⟨_,_,rfl,_⟩ <;> omega);have W3:=yH (HW.out.took hr3 ht3 haa)
    have hsn0:sn=false:=by
     rw[HSN.out,show j+1-1=j by omega];have hj5:j<5:=(by omega);exact Ps.one_int ⟨k,by omega⟩ ⟨j,hj5⟩ (by rw[←c105];exact HWD.out)
    have hnum:∃ (nn:Nat) (bb:Bool),Tx.number x 999999999=((nn:Int),bb)∧x.length≤9∧Ps.WLink e2 f2 acc true nn (Ps.untilB ((Ps.tailW k).drop (j+1))) (L.drop a2) TG:=by
     have hl:=HLW.out;rw[show Ps.wordW wd=some .i by rw[c105];rfl] at hl;rcases hu with ⟨h1,h2,rfl,rfl,rfl⟩|⟨h1,h2,rfl,rfl,rfl,rfl⟩|⟨h1,rfl,rfl,rfl,rfl⟩
     ·obtain⟨h3,h4⟩:=Ps.num_ref HFI.out h2;exact⟨_,_,h3,h4,hl.num h1 hsn0 (by show (t.kind==2)=true;exact beq_iff_eq.2 h2) f2⟩
     ·exact⟨0,false,Ps.num_none,by simp,hl.no h1 (by show (t.kind==2)=false;exact yB h2)⟩
     ·exact⟨0,false,Ps.num_none,by simp,hl.err h1⟩
    obtain⟨nn,bb,hn1,hx9,hlk⟩:=hnum;have HLK:=yH hlk;have RN:=ref_number ⟨x.toArray⟩ 999999999 w3 (by show x.length≤_;omega);rw[show (⟨x.toArray⟩:ByteArray).data.toList=x from rfl,hn1] at RN;unfold two at RN
    have HS3:Hid (true=((Ps.tailW k).take (j+1+1-1)).contains [105]):=yH (by
     rw[show j+1+1-1=j+1 by omega,List.take_add_one,HWD.out,c105];simp)
    clear hr3 ht3 hu hlk TK haa hsn0 hn1 hx9 c110 c119 c116 c105;go_wp2_with fail
    refine RN.mono ?_;rintro e w5 ⟨rfl,hw⟩;subst hw;clear RN;go_wp2;go_roundw
    case rel=>exact⟨j+1+1,nn,a2,e2,f2,acc,true,by omega,by omega,by first|rfl|go_num,by first|rfl|trivial,by rw[HA0.out];omega,by rw[←HA0.out] at *;exact W3,HS3,yH (fun h=>by cases h),HLK⟩
    case measure=>simp[intOf];omega
   by_cases c123:wd=[123]
   ·have e110:(wd==[110])=false:=yB c110;have f110:(wd=[110])=False:=eq_false c110;have e119:(wd==[119])=false:=yB c119;have f119:(wd=[119])=False:=eq_false c119;have e116:(wd==[116])=false:=yB c116;have f116:(wd=[116])=False:=eq_false c116;have e105:(wd==[105])=false:=yB c105;have f105:(wd=[105])=False:=eq_false c105
    have e123:(wd==[123])=true:=beq_iff_eq.2 c123;have f123:(wd=[123])=True:=eq_true c123;have hl:=HLW.out;rw[show Ps.wordW wd=none by rw[c123];rfl,←HDT.out] at hl;have HF:=yH (hl.fin HN0.out);clear hl c110 c119 c116 c105 c123;go_wp2;refine bodyPost_ret (v:=.tuple #[.slice ao A0 oc,.int .i64 (n:Int)]) (by simp[results,Tryz.results46,go_sem]) rfl ?_;have ho:=HW.out.own;rw[HA0.out] at ho
    exact⟨ao,oc,n,a',e',f',acc,by rw[HA0.out],by rw[HA0.out];exact ownsRow_lower ho HW.out.b1,HW.out.rs HH.out,HW.out.trn,HW.out.aa,by rw[HA0.out];omega,HF.out⟩
   ·have e110:(wd==[110])=false:=yB c110;have f110:(wd=[110])=False:=eq_false c110;have e119:(wd==[119])=false:=yB c119;have f119:(wd=[119])=False:=eq_false c119;have e116:(wd==[116])=false:=yB c116;have f116:(wd=[116])=False:=eq_false c116;have e105:(wd==[105])=false:=yB c105;have f105:(wd=[105])=False:=eq_false c105
    have e123:(wd==[123])=false:=yB c123;have f123:(wd=[123])=False:=eq_false c123
    obtain⟨c,hwc⟩:∃ c:UInt8,wd=[c]∧Ps.wordW wd=some (.s c)∧[c]≠[105]:=by
     rcases hkind with h|h|h|h|h|h|h
     ·exact absurd h c110
     ·exact absurd h c119
     ·exact absurd h c116
     ·exact absurd h c105
     ·exact absurd h c123
     ·exact⟨61,h,by rw[h];rfl,by decide⟩
     ·exact⟨59,h,by rw[h];rfl,by decide⟩
    have SG:=rsign_u wd (HW.out.rs HH.out) t HT.out;have HWC:=yH hwc;clear hwc c110 c119 c116 c105 c123 hkind;go_wp2_with fail
    refine SG.mono ?_;rintro e w3 ⟨a2,e2,f2,rfl,hr3,ht3,hu⟩;have haa:a'≤a2:=(by rcases hu with ⟨_,_,rfl,_⟩|⟨_,_,rfl,_⟩|⟨_,rfl,_⟩ <;> omega);have W3:=yH (HW.out.took hr3 ht3 haa)
    have hlk:Ps.WLink e2 f2 acc sn n (Ps.untilB ((Ps.tailW k).drop (j+1))) (L.drop a2) TG:=by
     have hl:=HLW.out;rw[HWC.out.2.1] at hl;rw[HWC.out.1] at hu;rcases hu with ⟨h1,h2,rfl,rfl⟩|⟨h1,h2,rfl,rfl,rfl⟩|⟨h1,rfl,rfl,rfl⟩
     ·exact hl.sign h1 h2 f2
     ·exact hl.no h1 h2
     ·exact hl.err h1
    have HLK:=yH hlk;have HS3:=yH (HSN2.out wd (by rw[HWC.out.1];exact HWC.out.2.2) rfl);clear hr3 ht3 hu hlk SG haa;go_wp2;go_roundw
    case rel=>exact⟨j+1+1,n,a2,e2,f2,acc,sn,by omega,by omega,by first|rfl|go_num,by first|rfl|trivial,by rw[HA0.out];omega,by rw[←HA0.out] at *;exact W3,HS3,HN0,HLK⟩
    case measure=>simp[intOf];omega
  ·obtain rfl:i=nw:=(by omega);have hl:=HL.out;rw[List.drop_of_length_le (by have:=HNW.out;rw[List.length_cons] at this;omega)] at hl;have HF:=yH (hl.fin HN0.out);clear hl hlt;rw[HA0.out];go_wp2;refine bodyPost_ret (v:=.tuple #[.slice ao A0 oc,.int .i64 (n:Int)]) (by simp[results,Tryz.results46,go_sem]) rfl ?_;have ho:=HW.out.own;rw[HA0.out] at ho
   exact⟨ao,oc,n,a',e',f',acc,by rw[HA0.out],by rw[HA0.out];exact ownsRow_lower ho HW.out.b1,HW.out.rs HH.out,HW.out.trn,HW.out.aa,by rw[HA0.out];omega,HF.out⟩
def rowS (cs:List SA):List Ps.St:=cs.map (·.st)
abbrev rdF (g:Nat) (rv:Value):Nat→Prop:=fun k=>k=g∨rv.ownBlock=some k
def Nw (rv rv':Value) (n:Nat):Prop:=∀ k,rv'.ownBlock=some k→rv.ownBlock=some k∨n≤k
def NC (cs cs':List SA) (n:Nat):Prop:=∀ c ∈ cs',c ∈ cs ∨ ∀ k,c.l.ownBlock=some k∨c.m.ownBlock=some k→n≤k
theorem Nw.refl (rv:Value) (n:Nat):Nw rv rv n:=fun _ h=>.inl h
theorem NC.refl (cs:List SA) (n:Nat):NC cs cs n:=fun _ h=>.inl h
theorem Nw.trans {rv rv' rv2:Value} {n m:Nat} (h:Nw rv rv' n) (h2:Nw rv' rv2 m) (hn:n≤m):Nw rv rv2 n:=fun k hk=>(h2 k hk).elim (h k) (fun h3=>.inr (Nat.le_trans hn h3))
theorem NC.trans {cs cs' cs2:List SA} {n m:Nat} (h:NC cs cs' n) (h2:NC cs' cs2 m) (hn:n≤m):NC cs cs2 n:=fun c hc=>(h2 c hc).elim (h c) (fun h3=>.inr (fun k hk=>Nat.le_trans hn (h3 k hk)))
theorem rdF_trans {w w' w2:World} {g:Nat} {rv rv':Value} (h:Trn (rdF g rv) w w') (hn:Nw rv rv' w.heap.size) (h2:Trn (rdF g rv') w' w2):Trn (rdF g rv) w w2 :=
 h.trans (F':=rdF g rv') (fun k hk=>hk.elim (fun e=>.inl (.inl e)) (fun e=>(hn k e).elim (fun e=>.inl (.inr e)) .inr)) h2
def BlockC (F:Nat):Prop:=∀ {d:Nat} {w:World} {B g b o cap a e0 f0:Nat} {L:List Lx.Tok} {rv:Value} {cs:List SA} {T:Ps.BRes},d≤8→RS w B g b o cap L a rv cs e0 f0→Ps.BAsk F d e0 f0 (rowS cs) (L.drop a) T →
 Calls Tryz.prog 47 #[.pointer (some ⟨g,0,none⟩),.int .i64 (d:Int)] w fun e w'=>∃ (ao:Option Addr) (oc:Nat) (xs:List Nat) (rv':Value) (cs':List SA) (a' e' f':Nat),e = .returned (.slice ao xs.length oc)∧RS w' B g b o cap L a' rv' cs' e' f'∧In w' B rv' (.slice ao xs.length oc) xs∧(∀ k,(Value.slice ao xs.length oc).ownBlock=some k→w.heap.size≤k)∧Trn (rdF g rv) w w'∧Nw rv rv' w.heap.size∧NC cs cs' w.heap.size∧a≤a'∧cs'.length+a≤cs.length+a'∧Ps.BEnd e' f' xs (rowS cs') (L.drop a') T
def OneC (F:Nat):Prop:=∀ {d:Nat} {w:World} {B g b o cap a f0:Nat} {L:List Lx.Tok} {rv:Value} {cs:List SA},d≤8→RS w B g b o cap L a rv cs 0 f0→Ps.Done (Ps.one F d (rowS cs) (L.drop a)) →
 Calls Tryz.prog 32 #[.pointer (some ⟨g,0,none⟩),.int .i64 (d:Int)] w fun e w'=>∃ (i:Nat) (rv':Value) (cs':List SA) (a' e' f':Nat),e = .returned (.int .i64 (i:Int))∧RS w' B g b o cap L a' rv' cs' e' f'∧Trn (rdF g rv) w w'∧Nw rv rv' w.heap.size∧NC cs cs' w.heap.size∧a≤a'∧(e'=0→a<a')∧cs'.length+a≤cs.length+a'∧Ps.OEnd e' f' i (rowS cs') (L.drop a') (Ps.one F d (rowS cs) (L.drop a))
theorem int_infoB:(Tryz.prog.info? 3).map (fun i=>(i.zero,i.size,i.bytes))=some (some (.int .i64 0),1,8):=by kernel_rfl
theorem append_int1 {ops:Array Oper} {rest:List Oper} {o:Oper} {a:Act} {Q:Exit→Act→World→Prop} {w:World} {B b:Nat} {v:Value} {xs:List Nat} (n:Nat)
  (hgd:o.guard=none) (s x:Operand) (ho:o.op = .call { callee:=.builtin .append,args:=#[s,x],argTypes:=#[30,30] })
  (hs:a.eval s=v) (h:IR w B 3 v xs) (hx:a.eval x = .slice (some ⟨b,0,none⟩) 1 1) (hb:w.heap[b]?=some (.cells #[.int .i64 (n:Int)] 3 (0,0)))
  (hn:xs.length≤1048576) (hB:B≤w.heap.size)
  (h':∀ g cap w',IR w' B 3 (.slice (some ⟨g,0,none⟩) (xs.length+1) cap) (xs++[n])→w.grownBy w' v.ownBlock→(v.ownBlock=some g∨g=w.heap.size)→wpList Tryz.prog ops Q rest (a.put o.dst (.slice (some ⟨g,0,none⟩) (xs.length+1) cap)) w'):wpList Tryz.prog ops Q (o :: rest) a w:=by
 obtain⟨i0,hi,hz0,hz1,hz2⟩:=info_parts int_infoB;exact wpList_append_nv n hgd Tryz.underlying30 hi hz0 hz1 hz2 s x ho hs h hx hb hn hB h'
theorem RS.grown {w w':World} {B g b o cap a e f:Nat} {L:List Lx.Tok} {rv:Value} {cs:List SA} {row:Option Nat} (h:RS w B g b o cap L a rv cs e f) (hg:w.grownBy w' row) (hr:∀ k,row=some k→B≤k) (hne:rv.ownBlock=none∨rv.ownBlock≠row) (hl:∀ c ∈ cs,∀ k,c.l.ownBlock=some k∨c.m.ownBlock=some k→some k≠row):RS w' B g b o cap L a rv cs e f:=by
 have ht:Trn (fun k=>row=some k) w w':=⟨hg.os,hg.tape,hg.output,hg.size,fun k hk hF=>hg.block k hk (fun e=>hF e.symm)⟩;exact⟨h.rx.same (ht.block g h.rx.lt (fun e=>by have:=hr g e;have:=h.gB;omega)),h.tr.trn ht (fun e=>by have:=hr b e;have:=h.bB;omega),h.os.grown hg hne hl,h.ends,h.al,h.gB,h.bB,h.ne,Nat.le_trans h.sz hg.size,h.few,h.most⟩
theorem Trn.then' {F:Nat→Prop} {w wa w':World} {row:Option Nat} (h:Trn F w wa) (hg:wa.grownBy w' row) (hr:∀ k,row=some k→w.heap.size≤k):Trn F w w' :=
 ⟨hg.os.trans h.os,hg.tape.trans h.tape,hg.output.trans h.output,Nat.le_trans h.size hg.size,fun k hk hF=>(hg.block k (Nat.lt_of_lt_of_le hk h.size) (fun e=>by have:=hr k e.symm;omega)).trans (h.block k hk hF)⟩
structure BST (w wr:World) (B g b o cap:Nat) (L:List Lx.Tok) (rv rv' s6:Value) (xs:List Nat) (cs cs':List SA) (a a' e' f':Nat):Prop where
 own:IR wr w.heap.size 3 s6 xs
 rs:RS wr B g b o cap L a' rv' cs' e' f'
 trn:Trn (rdF g rv) w wr
 nw:Nw rv rv' w.heap.size
 nc:NC cs cs' w.heap.size
 ap:∀ k,s6.ownBlock=some k→rv'.ownBlock≠some k
 far:∀ c ∈ cs',∀ k,c.l.ownBlock=some k∨c.m.ownBlock=some k→s6.ownBlock≠some k
 aa:a≤a'
 few:cs'.length+a≤cs.length+a'
 most:xs.length≤a'+1
 ok:e'=0→xs.length≤a'
 gl:g<w.heap.size
 bw:B≤w.heap.size
section
variable {w wr w2:World} {B g b o cap a a' e' f' a2 e2 f2:Nat} {L:List Lx.Tok} {rv rv' rv2 s6:Value} {xs:List Nat} {cs cs' cs2:List SA}
theorem BST.small (h:BST w wr B g b o cap L rv rv' s6 xs cs cs' a a' e' f') (hr:RS w2 B g b o cap L a2 rv' cs' e2 f2) (ht:Trn (only g) wr w2) (haa:a'≤a2) (he:e2=0→e'=0):BST w w2 B g b o cap L rv rv' s6 xs cs cs' a a2 e2 f2 where
 own:=ht.own h.own (fun k hk e=>by have h1:=(IR.lt h.own k hk).1;have h2:=h.gl;have:k=g:=e;omega)
 rs:=hr
 trn:=h.trn.then (ht.more fun k hk=>.inl hk)
 nw:=h.nw
 nc:=h.nc
 ap:=h.ap
 far:=h.far
 aa:=Nat.le_trans h.aa haa
 few:=by have:=h.few;omega
 most:=by have:=h.most;omega
 ok:=fun h0=>by have:=h.ok (he h0);omega
 gl:=h.gl
 bw:=h.bw
theorem BST.inn (h:BST w wr B g b o cap L rv rv' s6 xs cs cs' a a' e' f'):In wr B rv' s6 xs :=
 ⟨IR.rd h.own,fun k hk=>⟨h.ap k hk,Nat.le_trans h.bw (IR.lt h.own k hk).1,(IR.lt h.own k hk).2⟩,IR.one h.own⟩
theorem BST.oned (h:BST w wr B g b o cap L rv rv' s6 xs cs cs' a a' e' f') (hr:RS w2 B g b o cap L a2 rv2 cs2 e2 f2) (ht:Trn (rdF g rv') wr w2) (hn:Nw rv' rv2 wr.heap.size) (hc:NC cs' cs2 wr.heap.size) (haa:a'≤a2) (hf:cs2.length+a'≤cs'.length+a2) (he:e'=0):BST w w2 B g b o cap L rv rv2 s6 xs cs cs2 a a2 e2 f2 where
 own:=ht.own h.own (fun k hk e=>by
  rcases e with e|e
  ·have h1:=(IR.lt h.own k hk).1;have h2:=h.gl;omega
  ·exact h.ap k hk e)
 rs:=hr
 trn:=rdF_trans h.trn h.nw ht
 nw:=h.nw.trans hn h.trn.size
 nc:=h.nc.trans hc h.trn.size
 ap:=fun k hk e=>by
  rcases hn k e with e|e
  ·exact h.ap k hk e
  ·have:=(IR.lt h.own k hk).2;omega
 far:=fun c hc2 k hk e=>by
  rcases hc c hc2 with h1|h1
  ·exact h.far c h1 k hk e
  ·have h2:=(IR.lt h.own k e).2;have:=h1 k hk;omega
 aa:=Nat.le_trans h.aa haa
 few:=by have:=h.few;omega
 most:=by have:=h.ok he;omega
 ok:=fun _=>by have:=h.ok he;omega
 gl:=h.gl
 bw:=h.bw
theorem BST.push {w3:World} {i g2 c2:Nat} {ob:Obj} (h:BST w wr B g b o cap L rv rv' s6 xs cs cs' a a' e' f') (ho:IR w3 w.heap.size 3 (.slice (some ⟨g2,0,none⟩) (xs.length+1) c2) (xs++[i])) (hg:(wr.alloc ob).grownBy w3 s6.ownBlock) (hgg:s6.ownBlock=some g2∨g2=(wr.alloc ob).heap.size) (h1:xs.length+1≤a'+1) (h2:e'=0→xs.length+1≤a'):BST w w3 B g b o cap L rv rv' (.slice (some ⟨g2,0,none⟩) (xs.length+1) c2) (xs++[i]) cs cs' a a' e' f':=by
 have hb:Below wr.heap.size wr (wr.alloc ob):=yA;have hBw:∀ k,s6.ownBlock=some k→w.heap.size≤k∧k<wr.heap.size:=IR.lt h.own;have hbw:=h.bw
 exact {
  own:=by unfold IR at ho ⊢;exact ho
  rs:=(h.rs.below hb).grown hg (fun k hk=>by have:=(hBw k hk).1;omega) (by
   cases hv:rv'.ownBlock with
   | none=>exact .inl rfl
   | some k=>exact .inr (fun e=>h.ap k e.symm hv)) (fun c hc k hk e=>h.far c hc k hk e.symm)
  trn:=(h.trn.then (Trn.of_below hb)).then' hg (fun k hk=>(hBw k hk).1)
  nw:=h.nw
  nc:=h.nc
  ap:=fun k hk e=>by
   obtain rfl:g2=k:=(by simpa [Value.ownBlock] using hk);rcases hgg with hgg|hgg
   ·exact h.ap _ hgg e
   ·have:=(h.rs.os.lt _ e).2;simp at hgg;omega
  far:=fun c hc k hk e=>by
   obtain rfl:g2=k:=(by simpa [Value.ownBlock] using e);rcases hgg with hgg|hgg
   ·exact h.far c hc _ hk hgg
   ·have h3:g2<wr.heap.size:=hk.elim (fun e=>((h.rs.os.l c hc).ap _ e).2.2) (fun e=>((h.rs.os.m c hc).ap _ e).2.2);simp at hgg;omega
  aa:=h.aa
  few:=h.few
  most:=by rw[List.length_append];exact h1
  ok:=fun h0=>by rw[List.length_append];exact h2 h0
  gl:=h.gl
  bw:=h.bw }
end
abbrev FRB (ac:Act) (g d:Nat):Prop:=∃ f:Nat→Value,ac = { tmps:=#[.pointer (some ⟨g,0,none⟩),.int .i64 (d:Int),f 2,f 3,.slice none 0 0,f 5,f 6,f 7,f 8,f 9,f 10,f 11,f 12,f 13,f 14,f 15,f 16,f 17,f 18,f 19,f 20,f 21,f 22,f 23,f 24,f 25,f 26,f 27,f 28,f 29,f 30,f 31,f 32,f 33,f 34,f 35,f 36,f 37,f 38,f 39,f 40,f 41,f 42],defers:=[] }
theorem FRB.of (a:Act) (g d:Nat) (h:a = { tmps:=#[.pointer (some ⟨g,0,none⟩),.int .i64 (d:Int),yG a 2,yG a 3,.slice none 0 0,yG a 5,yG a 6,yG a 7,yG a 8,yG a 9,yG a 10,yG a 11,yG a 12,yG a 13,yG a 14,yG a 15,yG a 16,yG a 17,yG a 18,yG a 19,yG a 20,yG a 21,yG a 22,yG a 23,yG a 24,yG a 25,yG a 26,yG a 27,yG a 28,yG a 29,yG a 30,yG a 31,yG a 32,yG a 33,yG a 34,yG a 35,yG a 36,yG a 37,yG a 38,yG a 39,yG a 40,yG a 41,yG a 42],defers:=[] }):FRB a g d:=⟨fun i=>a.tmps.getD i undef,h⟩
theorem by_oneB {G:Prop} (h:∃ A:Prop,(Hid A→G)∧A):G:=h.elim fun _ h=>h.1 (yH h.2)
def lenR (w:World) (g:Nat):Nat:=match w.cell? ⟨g,3,none⟩,w.cell? ⟨g,1,none⟩ with
 | some (.int _ e),some (.int _ a)=>if e=0 then 1000-a.toNat else 0
 | _,_=>0
theorem RX.lenR0 {w:World} {g a f:Nat} {lv rv:Value} (h:RX w g lv rv a 0 f):lenR w g=1000-a:=by unfold lenR;rw[h.c3,h.c1];simp
theorem RX.lenRe {w:World} {g a e f:Nat} {lv rv:Value} (h:RX w g lv rv a e f) (he:e≠0):lenR w g=0:=by unfold lenR;rw[h.c3,h.c1];simp[he]
theorem block_of (F:Nat) (IH:∀ F',F'<F→OneC F'):BlockC F:=by
 intro d w B g b o cap a e0 f0 L rv cs T hd h hask;obtain⟨t,ht⟩:=h.tok
 have hdt:L.drop a=t :: L.drop (a+1):=by
  obtain⟨h1,rfl⟩:=yE ht;exact List.drop_eq_getElem_cons h1
 rw[hdt] at hask;have IS:=ris_any 4 [123] h t ht;have HH:=yH h;have HT:=yH ht;have HASK:=yH hask;have HIH:=yH IH;have HDT:=yH hdt;clear h ht hask IH hdt;go_enter Tryz.func47,Tryz.ntmps47;go_wp2_with fail
 refine IS.mono ?_;rintro e w1 ⟨rfl,hb1⟩;have H1:=yH (HH.out.below hb1);have HB1:=yH hb1;clear hb1 IS;refine' by_oneB (Exists.intro _ (And.intro (fun key=>?ways) ?rest))
 case ways =>
  rcases Bool.eq_false_or_eq_true (t.kind==4 && t.text==[123]) with hs|hs
  ·have hsg:Ps.isSign 123 t=true:=hs;rw[hs];by_cases h8:8≤d
   ·have f8:(8:Int)≤(d:Int):=(by omega);have f8':((8:Int)≤(d:Int))=True:=eq_true f8;have FA:=rfail_u 21 H1.out t HT.out;go_wp2_with fail
    refine FA.mono ?_;rintro e w2 ⟨e2,f2,rfl,hr2,ht2,hfu⟩;have HR2:=yH hr2;have HT2:=yH ht2
    have he2:e2≠0∧T = .error (f2,e2):=by
     rcases hfu with ⟨h1,h2,h3⟩|⟨h1,h2,h3⟩
     ·rw[h2,h3];exact⟨by decide,HASK.out.deep h1 hsg h8⟩
     ·rw[h2,h3];exact⟨h1,HASK.out.err h1⟩
    have HE2:=yH he2;clear hr2 ht2 hfu he2 FA hs h8;have SG:=rsign_u [123] (HR2.out) t HT.out;go_wp2_with fail
    refine SG.mono ?_;rintro e w3 ⟨a3,e3,f3,rfl,hr3,ht3,hu⟩;clear SG
    have hfin:a≤a3∧e3≠0∧T = .error (f3,e3):=by
     rcases hu with ⟨h1,_⟩|⟨h1,_⟩|⟨h1,h2,h3,h4⟩
     ·exact absurd h1 HE2.out.1
     ·exact absurd h1 HE2.out.1
     ·rw[h2,h3,h4];exact⟨yR,HE2.out⟩
    have HFIN:=yH hfin;have HR3:=yH hr3;have HT3:=yH ht3;clear hr3 ht3 hu hfin;go_upto_region 5 with fail
    rename_i KK hKK
    refine(show ∀ (a1 e1 f1 F1:Nat) ac wx,F1≤F→(e1=0→d<8)→FRB ac g d→RS wx B g b o cap L a1 rv cs e1 f1→Trn (only g) w wx→a≤a1→Ps.MLink F1 (d+1) e1 f1 [] (rowS cs) (L.drop a1) T→Code.wp _ _ _ ac wx from ?_) a3 e3 f3 F _ _ yR (fun h0=>absurd h0 HFIN.out.2.1) (FRB.of _ _ _ rfl) HR3.out (((Trn.of_below HB1.out).then HT2.out).then HT3.out) HFIN.out.1 (.mk_err HFIN.out.2.2 HFIN.out.2.1);revert hKK;revert KK;exact key.out
   ·have f8:((8:Int)≤(d:Int))=False:=yF;clear hs;have SG:=rsign_u [123] (H1.out) t HT.out;go_wp2_with fail
    refine SG.mono ?_;rintro e w3 ⟨a3,e3,f3,rfl,hr3,ht3,hu⟩;clear SG
    have hfin:a≤a3 ∧ ∃ F1,F1≤F∧Ps.MLink F1 (d+1) e3 f3 [] (rowS cs) (L.drop a3) T:=by
     rcases hu with ⟨h1,h2,h3,h4⟩|⟨h1,h2,_⟩|⟨h1,h2,h3,h4⟩
     ·obtain⟨F',hF',hm⟩:=HASK.out.open_ h1 hsg h8;rw[h3,h4];exact⟨Nat.le_succ _,F',by omega,hm f3⟩
     ·exact absurd (hsg.symm.trans h2) (by decide)
     ·rw[h2,h3,h4];exact⟨yR,F,yR,.mk_err (HASK.out.err h1) h1⟩
    obtain⟨haa,F1,hF1,hml⟩:=hfin;have HD8:=yH (show d<8 by omega);have HML:=yH hml;have HR3:=yH hr3;have HT3:=yH ht3;clear hr3 ht3 hu hml h8;go_upto_region 5 with fail
    rename_i KK hKK
    refine(show ∀ (a1 e1 f1 F1:Nat) ac wx,F1≤F→(e1=0→d<8)→FRB ac g d→RS wx B g b o cap L a1 rv cs e1 f1→Trn (only g) w wx→a≤a1→Ps.MLink F1 (d+1) e1 f1 [] (rowS cs) (L.drop a1) T→Code.wp _ _ _ ac wx from ?_) a3 e3 f3 F1 _ _ hF1 (fun _=>HD8.out) (FRB.of _ _ _ rfl) HR3.out ((Trn.of_below HB1.out).then HT3.out) haa HML.out;revert hKK;revert KK;exact key.out
  ·have hsg:Ps.isSign 123 t=false:=hs;rw[hs];clear hs;have SG:=rsign_u [123] (H1.out) t HT.out;go_wp2_with fail
   refine SG.mono ?_;rintro e w3 ⟨a3,e3,f3,rfl,hr3,ht3,hu⟩;clear SG
   have hfin:a≤a3∧e3≠0∧T = .error (f3,e3):=by
    rcases hu with ⟨h1,h2,_⟩|⟨h1,h2,h3,h4,h5⟩|⟨h1,h2,h3,h4⟩
    ·exact absurd (hsg.symm.trans h2) (by decide)
    ·rw[h3,h4,h5];exact⟨yR,by decide,HASK.out.no h1 hsg⟩
    ·rw[h2,h3,h4];exact⟨yR,h1,HASK.out.err h1⟩
   have HFIN:=yH hfin;have HR3:=yH hr3;have HT3:=yH ht3;clear hr3 ht3 hu hfin;go_upto_region 5 with fail
   rename_i KK hKK
   refine(show ∀ (a1 e1 f1 F1:Nat) ac wx,F1≤F→(e1=0→d<8)→FRB ac g d→RS wx B g b o cap L a1 rv cs e1 f1→Trn (only g) w wx→a≤a1→Ps.MLink F1 (d+1) e1 f1 [] (rowS cs) (L.drop a1) T→Code.wp _ _ _ ac wx from ?_) a3 e3 f3 F _ _ yR (fun h0=>absurd h0 HFIN.out.2.1) (FRB.of _ _ _ rfl) HR3.out ((Trn.of_below HB1.out).then HT3.out) HFIN.out.1 (.mk_err HFIN.out.2.2 HFIN.out.2.1);revert hKK;revert KK;exact key.out
 case rest =>
  intro KK hKK a1 e1 f1 F1 ac wx hF1 hd8 hfr hr htr haa hml;obtain⟨fr,rfl⟩:=hfr;have HR:=yH hr;have HTR:=yH htr;have HML:=yH hml;have HD8:=yH hd8;clear hr htr hml H1 HB1 hd8;have hal:Below wx.heap.size wx (wx.alloc (.cells #[] 3)):=yA
  have hst:∀ n,wx.heap.size=n→BST w (wx.alloc (.cells #[] 3)) B g b o cap L rv rv (.slice (some ⟨n,0,none⟩) 0 0) [] cs cs a a1 e1 f1:=by
   rintro n rfl;have hsz:w.heap.size≤wx.heap.size:=HTR.out.size
   exact⟨IR.empty _ _ _ hsz,HR.out.below hal,(HTR.out.more (F':=rdF g rv) fun k hk=>.inl hk).alloc _,Nw.refl _ _,NC.refl _ _,fun k hk e=>by
     have hk2:wx.heap.size=k:=(by simpa [Value.ownBlock] using hk);have:=(HR.out.os.lt k e).2;omega,fun c hc k hk e=>by
     have hk2:wx.heap.size=k:=(by simpa [Value.ownBlock] using e);have h3:k<wx.heap.size:=hk.elim (fun e=>((HR.out.os.l c hc).ap _ e).2.2) (fun e=>((HR.out.os.m c hc).ap _ e).2.2);omega,haa,by have:=haa;omega,by simp,fun _=>by simp,HH.out.rx.lt,HH.out.sz⟩
  obtain⟨n5,hn5⟩:∃ n,wx.heap.size=n:=⟨_,rfl⟩;have HST:=yH (hst n5 hn5);obtain⟨t1,ht1⟩:=HR.out.tok;have IS:=yH (ris_any 4 [125] (HR.out.below hal) t1 ht1);have HT1:=yH ht1;clear hst hal ht1;go_wp2_with fail
  refine IS.out.mono ?_;rintro e w6 ⟨rfl,hb6⟩;have HS6:=yH (HST.out.small (HST.out.rs.below hb6) (Trn.of_below hb6) yR id);clear hb6 IS HST HTR;go_wp2
  go_loopw [6,7] (fun s6 s7 wr=>∃ (xs:List Nat) (a' e' f' F':Nat) (rv':Value) (cs':List SA) (t':Lx.Tok),s7 = .bool (t'.kind==4 && t'.text==[125])∧Hid (L[a']?=some t')∧Hid (F'≤F)∧Hid (e'=0→d<8)∧Hid (BST w wr B g b o cap L rv rv' s6 xs cs cs' a a' e' f')∧Hid (Ps.MLink F' (d+1) e' f' xs (rowS cs') (L.drop a') T)) (fun _ _ wr=>lenR wr g)
  case atStart=>exact⟨[],a1,e1,f1,F1,rv,cs,t1,rfl,HT1,yH hF1,HD8,HS6,HML⟩
  case round =>
   obtain⟨xs,a',e',f',F',rv',cs',t',rfl,HT2,HF,HD,HS,HM⟩:=hrel;clear HS6 HML HR HT1 HD8;obtain⟨ao,oc,hform⟩:=HS.out.own.form;subst hform;have r3:=HS.out.rs.rx.c3
   have hdt:L.drop a'=t' :: L.drop (a'+1):=by
    obtain⟨h1,rfl⟩:=yE HT2.out;exact List.drop_eq_getElem_cons h1
   have HDT2:=yH hdt;obtain⟨N0,hN0⟩:∃ N0,xs.length=N0:=⟨_,rfl⟩;have HN0:=yH hN0;clear hdt;by_cases he:e'=0
   ·subst he;rcases Bool.eq_false_or_eq_true (t'.kind==4 && t'.text==[125]) with hs|hs
    ·have hT:T = .ok (xs,rowS cs',L.drop (a'+1)):=by
      have hm:=HM.out;rw[HDT2.out] at hm;exact hm.close rfl hs
     rw[hs,hN0];have SG:=rsign_u [125] HS.out.rs t' HT2.out;have HX:=yH (⟨hs,hT⟩:_∧_);clear hs hT hN0;go_wp2_with fail
     refine SG.mono ?_;rintro e w7 ⟨a7,e7,f7,rfl,hr7,ht7,hu⟩
     have hfin:a'≤a7∧Ps.BEnd e7 f7 xs (rowS cs') (L.drop a7) T:=by
      rcases hu with ⟨_,_,h3,h4⟩|⟨_,h2,_⟩|⟨h1,_⟩
      ·rw[h3,h4];exact⟨Nat.le_succ _,.inl ⟨rfl,HX.out.2⟩⟩
      ·rw[HX.out.1] at h2;cases h2
      ·exact absurd rfl h1
     have HS7:=yH (HS.out.small hr7 ht7 hfin.1 (fun _=>rfl));have HFIN:=yH hfin.2;clear hr7 ht7 hu hfin SG;go_wp2;go_ret;rw[←HN0.out];exact⟨ao,oc,xs,rv',cs',a7,e7,f7,rfl,HS7.out.rs,HS7.out.inn,fun k hk=>(IR.lt HS7.out.own k hk).1,HS7.out.trn,HS7.out.nw,HS7.out.nc,HS7.out.aa,HS7.out.few,HFIN.out⟩
    ·rw[hs,hN0];have hm:=HM.out;rw[HDT2.out] at hm;obtain⟨F2,hF2,hdone,hlink⟩:=hm.more rfl hs;rw[←HDT2.out] at hdone hlink;have hd7:=HD.out rfl;have ONE:=HIH.out F2 (by have:=HF.out;omega) (d:=d+1) (by omega) HS.out.rs hdone;have ONE':Calls Tryz.prog 32 #[.pointer (some ⟨g,0,none⟩),.int .i64 ((d:Int)+1)] wr _:=ONE;have HONE:=yH ONE';have HLINK:=yH hlink;have HF2:=yH (show F2≤F by have:=HF.out;omega);have hlen:=HS.out.rs.rx.lenR0
     have hal7:=HS.out.rs.al;have hm7:=HS.out.rs.most;clear hs hm hdone hlink ONE ONE' hN0;go_wp2_with fail
     refine HONE.out.mono ?_;rintro e w7 ⟨i,rv7,cs7,a7,e7,f7,rfl,hr7,ht7,hn7,hc7,haa7,hlt7,hf7,hend7⟩;have hs7:=HS.out.oned hr7 ht7 hn7 hc7 haa7 hf7 rfl;have hml7:=HLINK.out _ _ _ _ _ hend7;have HML7:=yH hml7;have h1:xs.length+1≤a7+1:=(by have:=HS.out.ok rfl;omega);have h2:e7=0→xs.length+1≤a7:=fun h0=>by have:=HS.out.ok rfl;have:=hlt7 h0;omega
     have H12:=yH (⟨h1,h2⟩:_∧_);have HLT7:=yH hlt7;have hown7:IR (w7.alloc (.cells #[.int .i64 (i:Int)] 3)) w.heap.size 3 (.slice ao xs.length oc) xs:=(own_below hs7.own (yA));have HO7:=yH hown7;have HS7:=yH hs7;have hnl:xs.length≤1048576:=(by have:=hr7.most;have:=hr7.al;omega);have HNL:=yH hnl;have HNEW:=yH (heap_alloc_new w7 (.cells #[.int .i64 (i:Int)] 3))
     have HSZ:=yH (show w.heap.size≤(w7.alloc (.cells #[.int .i64 (i:Int)] 3)).heap.size by have:=hs7.trn.size;simp;omega);have HM7:=yH hr7.most;clear hr7 ht7 hn7 hc7 hf7 hend7 hs7 hml7 h1 h2 hlt7 hown7 hnl HONE;rw[←HN0.out];go_wp2_with (at_builtin;refine append_int1 i rfl (.tmp 31) (.tmp 36) rfl rfl HO7.out rfl HNEW.out HNL.out HSZ.out ?_)
     intro g8 c8 w8 ho8 hg8 hgg8;have hs8:=HS7.out.push ho8 hg8 (hgg8.imp id (fun e=>e.trans (by simp))) H12.out.1 H12.out.2;have HS8:=yH hs8;obtain⟨t8,ht8⟩:=hs8.rs.tok;have IS8:=ris_any 4 [125] hs8.rs t8 ht8;have HT8:=yH ht8;clear ho8 hg8 hgg8 hs8 ht8;go_wp2_with fail
     refine IS8.mono ?_;rintro e w9 ⟨rfl,hb9⟩;have HS9:=yH (HS8.out.small (HS8.out.rs.below hb9) (Trn.of_below hb9) yR id);clear hb9 IS8;go_wp2;go_roundw
     case rel=>exact⟨xs++[i],a7,e7,f7,F2,rv7,cs7,t8,rfl,HT8,HF2,yH (fun _=>hd7),HS9,HML7⟩
     case measure =>
      show lenR _ g<lenR _ g
      rw[hlen];by_cases h0:e7=0
      ·subst h0;rw[HS9.out.rs.rx.lenR0];have:=HLT7.out rfl;omega
      ·rw[HS9.out.rs.rx.lenRe h0];omega
   ·have f1':((e':Int)==0)=false:=yB;have f2':((e':Int)=0)=False:=yF;have f3':(e'=0)=False:=eq_false he;have hT:=HM.out.err he;have SG:=rsign_u [125] HS.out.rs t' HT2.out;have HX:=yH (⟨he,hT⟩:_∧_);rw[hN0];clear he hT hN0;go_wp2_with fail
    refine SG.mono ?_;rintro e w7 ⟨a7,e7,f7,rfl,hr7,ht7,hu⟩
    have hfin:a'≤a7∧Ps.BEnd e7 f7 xs (rowS cs') (L.drop a7) T∧e7≠0:=by
     rcases hu with ⟨h1,_⟩|⟨h1,_⟩|⟨_,h2,h3,h4⟩
     ·exact absurd h1 HX.out.1
     ·exact absurd h1 HX.out.1
     ·rw[h2,h3,h4];exact⟨yR,.inr ⟨HX.out.1,HX.out.2⟩,HX.out.1⟩
    have HS7:=yH (HS.out.small hr7 ht7 hfin.1 (fun h0=>absurd h0 hfin.2.2));have HFIN:=yH hfin.2.1;clear hr7 ht7 hu hfin SG;go_wp2;go_ret;rw[←HN0.out];exact⟨ao,oc,xs,rv',cs',a7,e7,f7,rfl,HS7.out.rs,HS7.out.inn,fun k hk=>(IR.lt HS7.out.own k hk).1,HS7.out.trn,HS7.out.nw,HS7.out.nc,HS7.out.aa,HS7.out.few,HFIN.out⟩
def QS (w:World) (q:Nat) (vs:List Value):Prop:=w.heap[q]?=some (.cells vs.toArray 41 (0,0))
section
variable {w w':World} {q:Nat} {vs:List Value}
theorem QS.cell (h:QS w q vs) (i:Nat) {u:Value} (hu:vs[i]?=some u):w.cell? ⟨q,i,none⟩=some u:=by
 unfold QS at h;rw[yC h];simpa using hu
theorem QS.fr (h:QS w q vs) (i:Nat):w.frozen? ⟨q,i,none⟩=false:=by unfold QS at h;simp[World.frozen?,h]
theorem QS.lt (h:QS w q vs):q<w.heap.size:=(yD h).1
theorem QS.same (h:QS w q vs) (hw:w'.heap[q]?=w.heap[q]?):QS w' q vs:=hw.trans h
theorem QS.set (h:QS w q vs) (i:Nat) (u:Value):QS (w.setCell ⟨q,i,none⟩ u) q (vs.set i u):=by
 unfold QS at *;rw[setCell_row h,List.setIfInBounds_toArray]
end
theorem Trn.newSet {F:Nat→Prop} {w w':World} (h:Trn F w w') {q i:Nat} (hq:w.heap.size≤q) (u:Value):Trn F w (w'.setCell ⟨q,i,none⟩ u) :=
 ⟨h.os,h.tape,h.output,by simp[World.setCell];exact h.size,fun k hk hF=>(Below.heap_setCell _ _ _ _ (by show k≠q;omega)).trans (h.block k hk hF)⟩
theorem In.nil (w:World) (B:Nat) (v:Value):In w B v (.slice none 0 0) []:=⟨.inl ⟨rfl,none,0,fun _=>rfl,rfl⟩,fun k hk=>by simp[Value.ownBlock] at hk,rfl⟩
theorem In.trn {F:Nat→Prop} {w w':World} {B:Nat} {rv rv' v:Value} {xs:List Nat} (h:In w B rv v xs) (ht:Trn F w w') (hF:∀ k,v.ownBlock=some k → ¬ F k) (hr:∀ k,v.ownBlock=some k→rv'.ownBlock≠some k):In w' B rv' v xs :=
 ⟨ht.rd h.rd hF,fun k hk=>⟨hr k hk,(h.ap k hk).2.1,Nat.lt_of_lt_of_le (h.ap k hk).2.2 ht.size⟩,h.one⟩
theorem mk_cells (k p n:Nat) (ws:List (List UInt8)):∃ S T U:List UInt8,(∀ xs ys lv mv,stCells ⟨Ps.mk k p ws n xs ys,lv,mv⟩=[.int .i64 (k:Int),.string ⟨S.toArray⟩,.string ⟨T.toArray⟩,.string ⟨U.toArray⟩,.int .i64 (n:Int),.int .i64 (p:Int),lv,mv]):=by
 by_cases h:k=2
 ·exact⟨[],ws.getD 0 [],ws.getD 2 [],fun xs ys lv mv=>by unfold Ps.mk;rw[if_pos h];rfl⟩
 ·exact⟨ws.getD 0 [],ws.getD 1 [],ws.getD 2 [],fun xs ys lv mv=>by unfold Ps.mk;rw[if_neg h];rfl⟩
structure OST (w wy:World) (B g b o cap q:Nat) (L:List Lx.Tok) (rv rv':Value) (cs cs':List SA) (a' e' f':Nat) (v0 v1 v2 v3 v4 v5 lv mv:Value) (xs ys:List Nat):Prop where
 rs:RS wy B g b o cap L a' rv' cs' e' f'
 trn:Trn (rdF g rv) w wy
 nw:Nw rv rv' w.heap.size
 nc:NC cs cs' w.heap.size
 il:In wy B rv' lv xs
 im:In wy B rv' mv ys
 nb:∀ k,lv.ownBlock=some k∨mv.ownBlock=some k→q<k
 qs:QS wy q [v0,v1,v2,v3,v4,v5,lv,mv]
 farr:rv'.ownBlock≠some q
 farc:∀ c ∈ cs',c.l.ownBlock≠some q∧c.m.ownBlock≠some q
 qw:w.heap.size≤q
 bw:B≤w.heap.size
section
variable {w wy w2:World} {B g b o cap q a' e' f' a2 e2 f2:Nat} {L:List Lx.Tok} {rv rv' rv2:Value} {cs cs' cs2:List SA} {v0 v1 v2 v3 v4 v5 lv mv v:Value} {xs ys zs:List Nat}
theorem OST.small (h:OST w wy B g b o cap q L rv rv' cs cs' a' e' f' v0 v1 v2 v3 v4 v5 lv mv xs ys) (hr:RS w2 B g b o cap L a2 rv' cs' e2 f2) (ht:Trn (only g) wy w2):OST w w2 B g b o cap q L rv rv' cs cs' a2 e2 f2 v0 v1 v2 v3 v4 v5 lv mv xs ys where
 rs:=hr
 trn:=h.trn.then (ht.more fun k hk=>.inl hk)
 nw:=h.nw
 nc:=h.nc
 il:=h.il.trn ht (fun k hk e=>by have:=(h.il.ap k hk).2.1;have:=hr.gB;have:k=g:=e;omega) (fun k hk=>(h.il.ap k hk).1)
 im:=h.im.trn ht (fun k hk e=>by have:=(h.im.ap k hk).2.1;have:=hr.gB;have:k=g:=e;omega) (fun k hk=>(h.im.ap k hk).1)
 nb:=h.nb
 qs:=h.qs.same (ht.block q h.qs.lt (fun e=>by have:=hr.gB;have:=h.qw;have:=h.bw;have:q=g:=e;omega))
 farr:=h.farr
 farc:=h.farc
 qw:=h.qw
 bw:=h.bw
theorem OST.called (h:OST w wy B g b o cap q L rv rv' cs cs' a' e' f' v0 v1 v2 v3 v4 v5 lv mv xs ys) (hr:RS w2 B g b o cap L a2 rv2 cs2 e2 f2) (ht:Trn (rdF g rv') wy w2) (hn:Nw rv' rv2 wy.heap.size) (hc:NC cs' cs2 wy.heap.size):OST w w2 B g b o cap q L rv rv2 cs cs2 a2 e2 f2 v0 v1 v2 v3 v4 v5 lv mv xs ys:=by
 have hin:∀ {v:Value} {xs:List Nat},In wy B rv' v xs→In w2 B rv2 v xs:=fun {v xs} hi=>hi.trn ht (fun k hk e=>by
   rcases e with e|e
   ·have:=(hi.ap k hk).2.1;have:=hr.gB;omega
   ·exact(hi.ap k hk).1 e) (fun k hk e=>by
   rcases hn k e with e|e
   ·exact(hi.ap k hk).1 e
   ·have:=(hi.ap k hk).2.2;omega)
 exact {
  rs:=hr
  trn:=rdF_trans h.trn h.nw ht
  nw:=h.nw.trans hn h.trn.size
  nc:=h.nc.trans hc h.trn.size
  il:=hin h.il
  im:=hin h.im
  nb:=h.nb
  qs:=h.qs.same (ht.block q h.qs.lt (fun e=>by
   rcases e with e|e
   ·have:=hr.gB;have:=h.qw;have:=h.bw;omega
   ·exact h.farr e))
  farr:=fun e=>by
   rcases hn q e with e|e
   ·exact h.farr e
   ·have:=h.qs.lt;omega
  farc:=fun c hc2=>by
   rcases hc c hc2 with h1|h1
   ·exact h.farc c h1
   ·exact⟨fun e=>by have:=h1 q (.inl e);have:=h.qs.lt;omega,fun e=>by have:=h1 q (.inr e);have:=h.qs.lt;omega⟩
  qw:=h.qw
  bw:=h.bw }
theorem OST.rsq (h:OST w wy B g b o cap q L rv rv' cs cs' a' e' f' v0 v1 v2 v3 v4 v5 lv mv xs ys) (i:Nat) (u:Value):RS (wy.setCell ⟨q,i,none⟩ u) B g b o cap L a' rv' cs' e' f':=by
 have hqB:B≤q:=Nat.le_trans h.bw h.qw;have ht:Trn (fun k=>k=q) wy (wy.setCell ⟨q,i,none⟩ u):=Trn.setCell (F:=fun k=>k=q) (g:=q) (Trn.refl _ wy) rfl u;have far:∀ (u:Value) (xs:List Nat),In wy B rv' u xs→u.ownBlock≠some q→In (wy.setCell ⟨q,i,none⟩ _) B rv' u xs:=fun u xs hu hne=>hu.trn ht (fun k hk e=>hne (by rw[hk];exact congrArg some e)) (fun k hk=>(hu.ap k hk).1)
 exact⟨h.rs.rx.same (Below.heap_setCell _ _ _ _ (by show g≠q;have:=h.rs.gB;omega)),h.rs.tr.trn ht (by show ¬ b=q;have:=h.rs.bB;omega),
  ⟨by
   refine⟨h.rs.os.own.1,?_⟩;rcases h.rs.os.own.2 with hn|⟨b2,cp,cur,e2,hb,hh,r⟩
   ·exact .inl hn
   ·refine .inr ⟨b2,cp,cur,e2,hb,?_,r⟩;rw[Below.heap_setCell _ _ _ _ (by show b2≠q;intro e;exact h.farr (by rw[e2,←e];rfl))];exact hh,fun c hc=>far _ _ (h.rs.os.l c hc) (h.farc c hc).1,fun c hc=>far _ _ (h.rs.os.m c hc) (h.farc c hc).2⟩,
  h.rs.ends,h.rs.al,h.rs.gB,h.rs.bB,h.rs.ne,by simp[World.setCell];exact h.rs.sz,h.rs.few,h.rs.most⟩
theorem OST.set6 (h:OST w wy B g b o cap q L rv rv' cs cs' a' e' f' v0 v1 v2 v3 v4 v5 lv mv xs ys) (hi:In wy B rv' v zs) (hn:∀ k,v.ownBlock=some k→q<k):OST w (wy.setCell ⟨q,6,none⟩ v) B g b o cap q L rv rv' cs cs' a' e' f' v0 v1 v2 v3 v4 v5 v mv zs ys:=by
 have ht:Trn (fun k=>k=q) wy (wy.setCell ⟨q,6,none⟩ v):=Trn.setCell (F:=fun k=>k=q) (g:=q) (Trn.refl _ wy) rfl v
 exact {
  rs:=h.rsq 6 v
  trn:=h.trn.newSet h.qw _
  nw:=h.nw
  nc:=h.nc
  il:=hi.trn ht (fun k hk e=>by have:=hn k hk;have:k=q:=e;omega) (fun k hk=>(hi.ap k hk).1)
  im:=h.im.trn ht (fun k hk e=>by have:=h.nb k (.inr hk);have:k=q:=e;omega) (fun k hk=>(h.im.ap k hk).1)
  nb:=fun k hk=>hk.elim (hn k) (fun e=>h.nb k (.inr e))
  qs:=h.qs.set 6 v
  farr:=h.farr
  farc:=h.farc
  qw:=h.qw
  bw:=h.bw }
theorem OST.set7 (h:OST w wy B g b o cap q L rv rv' cs cs' a' e' f' v0 v1 v2 v3 v4 v5 lv mv xs ys) (hi:In wy B rv' v zs) (hn:∀ k,v.ownBlock=some k→q<k):OST w (wy.setCell ⟨q,7,none⟩ v) B g b o cap q L rv rv' cs cs' a' e' f' v0 v1 v2 v3 v4 v5 lv v xs zs:=by
 have ht:Trn (fun k=>k=q) wy (wy.setCell ⟨q,7,none⟩ v):=Trn.setCell (F:=fun k=>k=q) (g:=q) (Trn.refl _ wy) rfl v
 exact {
  rs:=h.rsq 7 v
  trn:=h.trn.newSet h.qw _
  nw:=h.nw
  nc:=h.nc
  il:=h.il.trn ht (fun k hk e=>by have:=h.nb k (.inl hk);have:k=q:=e;omega) (fun k hk=>(h.il.ap k hk).1)
  im:=hi.trn ht (fun k hk e=>by have:=hn k hk;have:k=q:=e;omega) (fun k hk=>(hi.ap k hk).1)
  nb:=fun k hk=>hk.elim (fun e=>h.nb k (.inl e)) (hn k)
  qs:=h.qs.set 7 v
  farr:=h.farr
  farc:=h.farc
  qw:=h.qw
  bw:=h.bw }
end
theorem stmt_infoR:(Tryz.prog.info? 41).map (fun i=>(i.zero,i.size,i.bytes))=some (some (.agg #[.int .i64 0,.string ⟨#[]⟩,.string ⟨#[]⟩,.string ⟨#[]⟩,.int .i64 0,.int .i64 0,.slice none 0 0,.slice none 0 0]),8,120):=by kernel_rfl
theorem append_stR {o:Oper} {a:Act} {K:Act→World→Prop} {Q:Exit→Act→World→Prop} {w:World} {B b:Nat} {v:Value} {cs:List SA} (t:SA)
  (s x:Operand) (ho:o.op = .call { callee:=.builtin .append,args:=#[s,x],argTypes:=#[29,29] })
  (hs:a.eval s=v) (h:OS w B 41 v cs) (hx:a.eval x = .slice (some ⟨b,0,none⟩) 1 1) (hb:w.heap[b]?=some (.cells (stCells t).toArray 41 (0,0)))
  (hl:In w B v t.l t.st.l) (hm:In w B v t.m t.st.m) (hn:cs.length≤1048576) (hB:B≤w.heap.size)
  (h':∀ g cap w',OS w' B 41 (.slice (some ⟨g,0,none⟩) (cs.length+1) cap) (cs++[t])→w.grownBy w' v.ownBlock→(v.ownBlock=some g∨g=w.heap.size)→K (a.put o.dst (.slice (some ⟨g,0,none⟩) (cs.length+1) cap)) w'):o.wp Tryz.prog a w K Q:=by
 obtain⟨i0,hi,hz0,hz1,hz2⟩:=info_parts stmt_infoR;exact wp_append_st t Tryz.underlying29 hi hz0 hz1 hz2 (by decide) (by decide) s x ho hs h hx hb hl hm hn hB h'
theorem RS.put {wa w2:World} {B g b o cap a e f g2 c2:Nat} {L:List Lx.Tok} {rv:Value} {cs:List SA} {t:SA} (h:RS wa B g b o cap L a rv cs e f) (ho:OS w2 B 41 (.slice (some ⟨g2,0,none⟩) (cs.length+1) c2) (cs++[t])) (hg:wa.grownBy w2 rv.ownBlock) (hf:cs.length+1≤a) :
  RX w2 g (.slice (some ⟨b,o,none⟩) L.length cap) rv a e f∧RS (w2.setCell ⟨g,2,none⟩ (.slice (some ⟨g2,0,none⟩) (cs.length+1) c2)) B g b o cap L a (.slice (some ⟨g2,0,none⟩) (cs.length+1) c2) (cs++[t]) e f∧Trn (rdF g rv) wa (w2.setCell ⟨g,2,none⟩ (.slice (some ⟨g2,0,none⟩) (cs.length+1) c2)):=by
 have hr:∀ k,rv.ownBlock=some k→B≤k:=fun k hk=>(h.os.lt k hk).1;have ht:Trn (fun k=>rv.ownBlock=some k) wa w2:=⟨hg.os,hg.tape,hg.output,hg.size,fun k hk hF=>hg.block k hk (fun e=>hF e.symm)⟩;have hx2:=h.rx.same (ht.block g h.rx.lt (fun e=>by have:=hr g e;have:=h.gB;omega));have ht3:Trn (only g) w2 (w2.setCell ⟨g,2,none⟩ (.slice (some ⟨g2,0,none⟩) (cs.length+1) c2)):=Trn.setCell (F:=only g) (g:=g) (Trn.refl _ w2) rfl _
 refine⟨hx2,⟨hx2.set2 _,(h.tr.trn ht (fun e=>by have:=hr b e;have:=h.bB;omega)).trn ht3 h.ne,ho.trn ht3 (fun k hk=>by rw[show k=g from hk];exact h.gB),h.ends,h.al,h.gB,h.bB,h.ne,Nat.le_trans h.sz (Nat.le_trans ht.size ht3.size),by rw[List.length_append];exact hf,h.most⟩,?_⟩;exact(ht.more (F':=rdF g rv) fun k hk=>.inr hk).then (ht3.more fun k hk=>.inl hk)
end Go.Proofs.YtodlhhfcjkjapaaGreatDoor
