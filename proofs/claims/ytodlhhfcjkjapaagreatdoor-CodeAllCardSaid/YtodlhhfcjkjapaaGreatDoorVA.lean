import Derived.Test.YtodlhhfcjkjapaaGreatDoorVF
import Derived.Test.YtodlhhfcjkjapaaGreatDoorAppendT
import Derived.Test.YtodlhhfcjkjapaaGreatDoorPJ
import Derived.Test.YtodlhhfcjkjapaaGreatDoorBA
import Derived.BigQuiet
import Derived.Deep.QuietTactic
set_option maxRecDepth 200000
set_option maxHeartbeats 8000000
namespace Go.Proofs.YtodlhhfcjkjapaaGreatDoor
open Go.RowKit
structure Keeps (B:Nat) (J:List (List UInt8)→Value→List UInt8→World→Prop):Prop where
 own:∀ {a v xs W},J a v xs W→W.ownsRow B 5 1 v xs.length (xs.map bv)∧B≤W.heap.size
 grow:∀ {a v v' xs W W'} (ys:List UInt8),J a v xs W→W'.ownsRow B 5 1 v' (xs.length+ys.length) (xs.map bv++ys.map bv)→W.grownBy W' v.ownBlock→J a v' (xs++ys) W'
 below:∀ {a v xs W W'},J a v xs W→Below W.heap.size W W'→J a v xs W'
def lenS:Value→Nat | .string s=>s.size|_=>0
theorem hp1 (b:List UInt8):Lib.hasPrefix b [36]=decide (b.head?=some 36):=by
 cases b with
 | nil=>rfl
 | cons c r =>
  by_cases h:c=36
  ·subst h;rfl
  ·have h1:(c==36)=false:=(by simpa using h);have h2:((36:UInt8)==c)=false:=(by simpa using fun e=>h e.symm);simp[Lib.hasPrefix,h,h2,List.isPrefixOf]
theorem fillN_any (g:Nat) (J:List (List UInt8)→Value→List UInt8→World→Prop) (val:List UInt8→Option (List UInt8)) (w0:World) (t:List UInt8) (hK:Keeps w0.heap.size J) (hJ:J [] (.slice none 0 0) [] w0) (ht:t.length≤10000)
  (hval:∀ n,((val n).getD []).length≤1000)
  (hcall:∀ n a v xs W,J a v xs W→a.length≤10000→n.length≤16777216→Calls Tryz.prog 128 #[.string ⟨n.toArray⟩,.pointer (some ⟨g,0,none⟩)] W fun e w'=>e = .returned (.tuple #[.string ⟨((val n).getD []).toArray⟩,.bool (val n).isSome])∧J (a++[n]) v xs w') :
  Calls Tryz.prog 127 #[.string ⟨t.toArray⟩,.func (.func 128) #[] #[.pointer (some ⟨g,0,none⟩)]] w0 fun e w'=>∃ a v xs,J a v xs w'∧e = .returned (.tuple #[.string ⟨(((Va.both val t).map (·.1)).getD []).toArray⟩,.bool (Va.both val t).isSome]) ∧ ∀ p,Va.both val t=some p→a=p.2:=by
 have HK:=yH hK;have HJ:=yH hJ;have HC:=yH hcall;have HV:=yH hval;have HS:=yH (Va.St.start val t);clear hK hJ hcall hval;go_enter Tryz.func127,Tryz.ntmps127;go_wp2
 go_loopw [0,6,7,8,9,10,11,12] (fun s0 s6 _ _ _ _ _ _ wr=>∃ (L N cap:Nat) (ao:Option Addr) (t1 xs:List UInt8) (a:List (List UInt8)),s0 = .string ⟨t1.toArray⟩∧s6 = .slice ao N cap∧L=t1.length∧N+1001*L≤10010000∧a.length+L≤10000∧Hid (N=xs.length∧J a (.slice ao N cap) xs wr∧Va.St val t t1 xs a)) (fun s0 _ _ _ _ _ _ _ _=>lenS s0)
 case atStart =>
  exact⟨t.length,0,0,none,t,[],[],rfl,rfl,rfl,by omega,by simpa using ht,yH ⟨rfl,HJ.out,HS.out⟩⟩
 case round =>
  obtain⟨L,N,cap,ao,t1,xs,a,rfl,rfl,hL,hb,hal,HE⟩:=hrel;have hz:(⟨t1.toArray⟩:ByteArray).size=t1.length:=rfl;have hc:=sCut_any t1 36 (by omega) wr;rcases cut1_at 36 t1 with ⟨hno,hcut⟩|⟨k,hk,hno,hsp,hcut⟩
  ·rw[hcut] at hc;unfold sv at hc;have HR:=yH (HE.out.2.2.all hno);have HC1:=yH hc;clear hno hcut hc;go_wp2_with fail
   refine HC1.out.mono ?_;rintro e w1 ⟨rfl,q1,hw1⟩;have hb1:Below wr.heap.size wr w1:=(by rw[hw1];exact⟨rfl,rfl,rfl,yR,fun _ _=>rfl⟩);have HJ1:=yH (HK.out.below HE.out.2.1 hb1);have HO1:=yH (show w1.ownsRow w0.heap.size 5 1 (.slice ao N cap) N (xs.map bv) from by have:=(HK.out.own HJ1.out).1;rw[←HE.out.1] at this;exact this);have HB1:=yH (HK.out.own HJ1.out).2;clear hw1 hb1 HC1
   go_wp2_with (at_builtin;refine append_text rfl (.tmp 19) (.tmp 20) rfl rfl HO1.out ⟨t1.toArray⟩ rfl ?ca HB1.out ?_)
   case ca=>rw[hz,←hL];omega
   intro v2 w2 ho2 hg2;obtain⟨ao2,cap2,rfl⟩:=own_form ho2;have hrd:=Rd.of_own ho2;have HJ2:=yH (HK.out.grow t1 HJ1.out (by rw[←HE.out.1];exact ho2) hg2);have hcv:=bytes_string (l:=xs++t1) (by rw[List.map_append];exact hrd);unfold sv at hcv;clear ho2 hg2 hrd HO1 HB1 HJ1 HE;go_wp2;go_ret2;refine⟨a,_,_,HJ2.out,?_,?_⟩
   ·rw[HR.out];rfl
   ·intro p hp;rw[HR.out] at hp;cases hp
    rfl
  ·have hc:Calls Tryz.prog 84 #[.string ⟨t1.toArray⟩,.string ⟨#[36]⟩] wr fun e w'=>e = .returned (.tuple #[.string ⟨(t1.take k).toArray⟩,.string ⟨(t1.drop (k+1)).toArray⟩,.bool true]) ∧ ∃ q,w'=wr.drewN q:=(by rw[hcut] at hc;exact hc);obtain⟨P,hP⟩:∃ P,P=t1.take k:=⟨_,rfl⟩;obtain⟨b,hbb⟩:∃ b,b=t1.drop (k+1):=⟨_,rfl⟩;rw[←hP] at hc hno hsp;rw[←hbb] at hc hsp;have hlen:=congrArg List.length hsp;rw[List.length_append,List.length_cons,←hL] at hlen
   have HS1:=HE.out.2.2;rw[hsp] at HS1;have HS2:=yH (HS1.plain hno);have HC1:=yH hc;have hzp:(⟨P.toArray⟩:ByteArray).size=P.length:=rfl;have hzb:(⟨b.toArray⟩:ByteArray).size=b.length:=rfl;have HL:=yH hL;clear hno hcut hc hsp HS1 hP hbb hk hz hL;go_wp2_with fail
   refine HC1.out.mono ?_;rintro e w1 ⟨rfl,q1,hw1⟩;have hb1:Below wr.heap.size wr w1:=(by rw[hw1];exact⟨rfl,rfl,rfl,yR,fun _ _=>rfl⟩);have HJ1:=yH (HK.out.below HE.out.2.1 hb1);have HO1:=yH (show w1.ownsRow w0.heap.size 5 1 (.slice ao N cap) N (xs.map bv) from by have:=(HK.out.own HJ1.out).1;rw[←HE.out.1] at this;exact this);have HB1:=yH (HK.out.own HJ1.out).2;clear hw1 hb1 HC1
   go_wp2_with (at_builtin;refine append_text rfl (.tmp 19) (.tmp 20) rfl rfl HO1.out ⟨P.toArray⟩ rfl ?ca HB1.out ?_)
   case ca=>rw[hzp];omega
   intro v2 w2 ho2 hg2;obtain⟨ao2,cap2,rfl⟩:=own_form ho2;have HJ2:=yH (HK.out.grow P HJ1.out (by rw[←HE.out.1];exact ho2) hg2);have HN2:=yH (show N+P.length=(xs++P).length by rw[List.length_append,HE.out.1]);obtain⟨N2,hN2⟩:∃ N2,N2=N+P.length:=⟨_,rfl⟩;rw[←hN2] at HJ2 HN2 ⊢;have hb2:N2+1001*(b.length+1)≤10010000:=(by omega);have hbl:b.length+1≤L:=(by omega);clear ho2 hg2 HO1 HB1 HJ1 HE hN2 hlen hb
   have hp:=Tryz.strings_HasPrefix ⟨b.toArray⟩ ⟨#[36]⟩ w2;rw[show (⟨b.toArray⟩:ByteArray).data.toList=b from rfl,show (⟨#[36]⟩:ByteArray).data.toList=[36] from rfl,hp1] at hp;by_cases hd:b.head?=some 36
   ·rw[decide_eq_true hd] at hp
    obtain⟨b',rfl⟩:∃ b',b=36 :: b':=by
     cases b with
     | nil=>cases hd
     | cons c r =>
      obtain rfl:c=36:=(by simpa using hd);exact⟨r,rfl⟩
    have HP:=yH hp;have HS3:=yH HS2.out.two;have hx1:(⟨(36 :: b').toArray⟩:ByteArray).extract 1 (b'.length+1)=⟨b'.toArray⟩:=(by rw[ba_extract,show (36 :: b').take (b'.length+1)=36 :: b' from List.take_of_length_le (by simp)];rfl);obtain⟨q,hq⟩:∃ q,q=36 :: b':=⟨_,rfl⟩;have hzq:(⟨q.toArray⟩:ByteArray).size=b'.length+1:=(by rw[hq];rfl);rw[←hq] at HP hx1 ⊢;have hq1:(1:Int)≤(b'.length:Int)+1:=by omega
    rw[List.length_cons] at hb2 hbl;clear hp hd hzb hq HS2;go_wp2_with fail
    refine HP.out.mono ?_;rintro e w3 ⟨rfl,hw3⟩;obtain rfl:=hw3.symm;have HO2:=yH (show w2.ownsRow w0.heap.size 5 1 (.slice ao2 N2 cap2) N2 ((xs++P).map bv) from by have:=(HK.out.own HJ2.out).1;rw[←HN2.out] at this;exact this);have HB2:=yH (HK.out.own HJ2.out).2;go_wp2_with (at_builtin;refine append_text rfl (.tmp 28) (.const (.string ⟨#[36]⟩)) rfl rfl HO2.out ⟨#[36]⟩ rfl ?ca HB2.out ?_)
    case ca=>show N2+1≤_;omega
    intro v3 w4 ho3 hg3;obtain⟨ao3,cap3,rfl⟩:=own_form ho3;have HJ3:=yH (HK.out.grow [36] HJ2.out (by rw[←HN2.out,List.map_append,List.append_assoc];exact ho3) hg3);have HN3:=yH (show N2+1=(xs++P++[36]).length by rw[List.length_append,←HN2.out];rfl);clear ho3 hg3 HO2 HB2 HJ2 HP;go_wp2;go_roundw
    case rel=>exact⟨b'.length,N2+1,cap3,ao3,b',_,a,rfl,rfl,rfl,by omega,by omega,yH ⟨HN3.out,HJ3.out,HS3.out⟩⟩
    case measure=>show b'.length<t1.length;rw[←HL.out];omega
   ·rw[decide_eq_false hd] at hp;have HP:=yH hp;have HN:=yH (fun w=>vname_any b (by omega) w);clear hp;by_cases hnm:Va.name b=[]
    ·rw[hnm] at HN;unfold sv at HN;have HR:=yH (HS2.out.wrong hnm hd);have h0:(⟨#[]⟩:ByteArray).toList.isEmpty=true:=(by rw[Lib.toList_data];rfl);clear hnm hd HS2;go_wp2_with fail
     refine HP.out.mono ?_;rintro e w3 ⟨rfl,hw3⟩;obtain rfl:=hw3.symm;go_wp2_with fail
     refine(HN.out _).mono ?_;rintro e w3 ⟨rfl,hb3⟩;have HJ3:=yH (HK.out.below HJ2.out hb3);clear hb3 HN HP;go_wp2;go_ret2;exact⟨a,_,_,HJ3.out,by rw[HR.out];rfl,fun p hp=>by rw[HR.out] at hp;cases hp⟩
    ·have HNM:=yH hnm;obtain⟨n,hn⟩:∃ n,n=Va.name b:=⟨_,rfl⟩;have hnl:=Va.name_len b;rw[←hn] at hnl HN hnm
     have hn1:1≤n.length:=by
      cases n with
      | nil=>exact absurd rfl hnm
      | cons _ _=>simp
     have hne:(⟨n.toArray⟩:ByteArray).toList.isEmpty=false:=by
      rw[Lib.toList_data];cases n with
      | nil=>exact absurd rfl hnm
      | cons _ _=>rfl
     have hne2:n.isEmpty=false:=by
      cases n with
      | nil=>exact absurd rfl hnm
      | cons _ _=>rfl
     have hzn:(⟨n.toArray⟩:ByteArray).size=n.length:=rfl;have hx2:(⟨b.toArray⟩:ByteArray).extract n.length b.length=⟨(b.drop n.length).toArray⟩:=(by rw[ba_extract,List.take_of_length_le yR]);have hnl2:(n.length:Int)≤(b.length:Int):=(by omega);have HNN:=yH hn;unfold sv at HN;clear hd hnm hn;cases hv:val n with
     | none =>
      have HR:=yH (HS2.out.unset HNM.out (HNN.out ▸ hv));have HCL:=yH (fun W v xs h=>HC.out n a v xs W h (by omega) (by omega));rw[hv] at HCL;clear hv HS2;go_wp2_with fail
      refine HP.out.mono ?_;rintro e w3 ⟨rfl,hw3⟩;obtain rfl:=hw3.symm;go_wp2_with fail
      refine(HN.out _).mono ?_;rintro e w3 ⟨rfl,hb3⟩;have HJ3:=yH (HK.out.below HJ2.out hb3);clear hb3 HN HP HJ2;go_wp2_with fail
      refine(HCL.out _ _ _ HJ3.out).mono ?_;rintro e w4 ⟨rfl,hj4⟩;have HJ4:=yH hj4;clear hj4 HCL HJ3;go_wp2;go_ret2;exact⟨_,_,_,HJ4.out,by rw[HR.out];rfl,fun p hp=>by rw[HR.out] at hp;cases hp⟩
     | some v =>
      have HS3:=yH (HS2.out.name HNM.out (HNN.out ▸ hv));have hvl:v.length≤1000:=(by have:=HV.out n;rw[hv] at this;exact this);have HCL:=yH (fun W v xs h=>HC.out n a v xs W h (by omega) (by omega));rw[hv] at HCL;rw[←HNN.out] at HS3;have hzv:(⟨v.toArray⟩:ByteArray).size=v.length:=rfl;clear hv HS2 HNN;go_wp2_with fail
      refine HP.out.mono ?_;rintro e w3 ⟨rfl,hw3⟩;obtain rfl:=hw3.symm;go_wp2_with fail
      refine(HN.out _).mono ?_;rintro e w3 ⟨rfl,hb3⟩;have HJ3:=yH (HK.out.below HJ2.out hb3);clear hb3 HN HP HJ2;go_wp2_with fail
      refine(HCL.out _ _ _ HJ3.out).mono ?_;rintro e w4 ⟨rfl,hj4⟩;have HJ4:=yH hj4;have HO4:=yH (show w4.ownsRow w0.heap.size 5 1 (.slice ao2 N2 cap2) N2 ((xs++P).map bv) from by have:=(HK.out.own HJ4.out).1;rw[←HN2.out] at this;exact this);have HB4:=yH (HK.out.own HJ4.out).2;clear hj4 HCL HJ3;go_wp2_with (at_builtin;refine append_text rfl (.tmp 44) (.tmp 45) rfl rfl HO4.out ⟨v.toArray⟩ rfl ?ca HB4.out ?_)
      case ca=>rw[hzv];omega
      intro v5 w5 ho5 hg5;obtain⟨ao5,cap5,rfl⟩:=own_form ho5;have HJ5:=yH (HK.out.grow v HJ4.out (by rw[←HN2.out,List.map_append,List.append_assoc];exact ho5) hg5);have HN5:=yH (show N2+v.length=(xs++P++v).length by rw[List.length_append,←HN2.out]);clear ho5 hg5 HO4 HB4 HJ4;go_wp2;go_roundw
      case rel=>exact⟨(b.drop n.length).length,N2+v.length,cap5,ao5,b.drop n.length,_,_,rfl,rfl,rfl,by rw[List.length_drop];omega,by rw[List.length_drop,List.length_append];show a.length+1+_≤_;omega,yH ⟨HN5.out,HJ5.out,HS3.out⟩⟩
      case measure=>show (b.drop n.length).length<t1.length;rw[←HL.out,List.length_drop];omega
theorem own_two {w:World} {B B' n n':Nat} {e e':TypeId} {v v':Value} {xs xs':List Value} (h:w.ownsRow B e 1 v n xs) (h':w.ownsRow B' e' 1 v' n' xs') (ne:e≠e'):v.ownBlock=none∨v.ownBlock≠v'.ownBlock:=by
 rcases h'.2 with ⟨rfl,_⟩|⟨b,cap,cur,rfl,_,hh,_⟩
 ·cases hv:v.ownBlock with
  | none=>exact .inl rfl
  | some k=>exact .inr (by rw[show (Value.slice none 0 0).ownBlock=none from rfl];simp)
 ·exact .inr (own_not h hh ne)
structure NJ (w0:World) (c:Nat) (a:List (List UInt8)) (v:Value) (xs:List UInt8) (W:World):Prop where
 row:∃ s,W.heap[c]?=some (.cells #[s] 45 (0,0))∧W.ownsRow w0.heap.size 9 1 s a.length (a.map sv)
 own:W.ownsRow w0.heap.size 5 1 v xs.length (xs.map bv)
 size:w0.heap.size≤W.heap.size
 below:Below c w0 W
theorem NJ.keeps {w0:World} {c:Nat} (hc:c<w0.heap.size):Keeps w0.heap.size (NJ w0 c) where
 own:=fun h=>⟨h.own,h.size⟩
 grow:=fun {a v v' xs W W'} ys h ho hg=>by
  obtain⟨s,h1,h2⟩:=h.row;refine⟨⟨s,?_,?_⟩,by rw[List.length_append,List.map_append];exact ho,Nat.le_trans h.size hg.size,?_⟩
  ·exact(hg.block c (Nat.lt_of_lt_of_le hc h.size) (fun e=>by have:=(h.own.lt c e.symm).1;omega)).trans h1
  ·exact h2.kept hg (own_two h2 h.own (by decide))
  ·exact h.below.grown hg (Nat.le_trans (Nat.le_of_lt hc) h.size) (fun k hk=>Nat.le_trans (Nat.le_of_lt hc) (h.own.lt k hk).1)
 below:=fun {a v xs W W'} h hb=>by
  obtain⟨s,h1,h2⟩:=h.row;have hl:c<W.heap.size:=Nat.lt_of_lt_of_le hc h.size;exact⟨⟨s,(hb.block c hl).trans h1,own_below h2 hb⟩,own_below h.own hb,Nat.le_trans h.size hb.size,h.below.trans (hb.mono (Nat.le_of_lt hl))⟩
theorem told_one {w0 W:World} {c:Nat} (hc:c<w0.heap.size) {a:List (List UInt8)} {v:Value} {xs:List UInt8} (h:NJ w0 c a v xs W) (ha:a.length≤10000) (n:List UInt8) :
  Calls Tryz.prog 128 #[.string ⟨n.toArray⟩,.pointer (some ⟨c,0,none⟩)] W fun e w'=>e = .returned (.tuple #[.string ⟨#[]⟩,.bool true])∧NJ w0 c (a++[n]) v xs w':=by
 obtain⟨s,h1,h2⟩:=h.row;have c1:W.cell? ⟨c,0,none⟩=some s:=yC h1;have c2:∀ o,(W.alloc o).cell? ⟨c,0,none⟩=some s:=fun o=>yC ((Below.heap_alloc _ _ _ (yD h1).1).trans h1);have HO:=yH h2;have HH:=yH h;have HC:=yH h1;clear h h1 h2;go_enter Tryz.func128,Tryz.ntmps128
 go_wp2_with (at_builtin;refine append_str rfl (.tmp 5) (.tmp 7) rfl rfl HO.out rfl rfl (b:=sv n) rfl ?ca HH.out.size ?_)
 case ca=>omega
 intro v3 w3 ho3 hg3;obtain⟨ao3,cap3,rfl⟩:=own_form ho3;have hc3:w3.heap[c]?=some (.cells #[s] 45 (0,0)):=(hg3.block c (Nat.lt_of_lt_of_le hc HH.out.size) (fun e=>by have:=(HO.out.lt c e.symm).1;omega)).trans HC.out;have f3:w3.frozen? ⟨c,0,none⟩=false:=yZ hc3;have k3:w3.cell? ⟨c,0,none⟩=some s:=yC hc3
 have hv3:w3.ownsRow w0.heap.size 5 1 v xs.length (xs.map bv):=HH.out.own.kept hg3 (own_two HH.out.own HO.out (by decide))
 have hn:NJ w0 c (a++[n]) v xs (w3.setCell ⟨c,0,none⟩ (.slice ao3 (a.length+1) cap3)):={
  row:=⟨_,(setCell_row hc3).trans rfl,by
   rw[List.length_append,List.map_append];exact own_setCell ho3 (fun e=>by have:=(ho3.lt c e).1;omega)⟩
  own:=own_setCell hv3 (own_not hv3 hc3 (by decide))
  size:=by simp[World.setCell];exact Nat.le_trans HH.out.size hg3.size
  below:=(HH.out.below.grown hg3 (Nat.le_trans (Nat.le_of_lt hc) HH.out.size) (fun k hk=>Nat.le_trans (Nat.le_of_lt hc) (HO.out.lt k hk).1)).setCell (p:=⟨c,0,none⟩) yR _ }
 have HN:=yH hn;clear hn hv3 hc3 ho3 hg3 HO HH HC c1 c2;go_wp2;go_ret2;exact⟨rfl,HN.out⟩
theorem vnames_any (w:World) (t:List UInt8) (ht:t.length≤10000) :
  Calls Tryz.prog 114 #[.string ⟨t.toArray⟩] w fun e w'=>∃ v,e = .returned (.tuple #[v,.bool (Va.parts t).isSome])∧Rd w' v ((((Va.parts t).map Va.names).getD []).map sv)∧Below w.heap.size w w':=by
 have hmf:∀ (fn:Fn) (first cap:Array Value) (w:World),(Instr.makeFunc fn first cap).run Tryz.prog w = .ok (.func fn first cap) w:=fun _ _ _ _=>rfl
 obtain⟨w0,hw0⟩:∃ w0,w0=w.alloc (.cells #[.slice none 0 0] 45):=⟨_,rfl⟩;have hc:w0.heap[w.heap.size]?=some (.cells #[.slice none 0 0] 45 (0,0)):=(by rw[hw0];exact heap_alloc_new w _);have hlt:w.heap.size<w0.heap.size:=(yD hc).1;have hb0:Below w.heap.size w w0:=by rw[hw0];exact yA
 have hf:=fillN_any w.heap.size (NJ w0 w.heap.size) (fun _=>some []) w0 t (NJ.keeps hlt) ⟨⟨_,hc,World.ownsRow_nil _ _ _ _⟩,World.ownsRow_nil _ _ _ _,yR,Below.refl _ _⟩ ht (fun _=>Nat.zero_le _) (fun n a v xs W hj ha _=>told_one hlt hj ha n);have hbn:=Va.both_names t;rw[hw0] at hf;have HF:=yH hf;have HB0:=yH hb0;have hW:=yH hw0;cases hp:Va.parts t with
 | none =>
  rw[hp] at hbn
  have hno:Va.both (fun _=>some []) t=none:=by
   cases hb:Va.both (fun _=>some []) t with
   | none=>rfl
   | some p=>rw[hb] at hbn;cases hbn
  rw[hno] at HF;clear hf hb0 hw0 hc hlt hp hbn hno;go_enter Tryz.func114,Tryz.ntmps114;go_wp2_with fail
  refine HF.out.mono ?_;rintro e w1 ⟨a,v,xs,hj,rfl,_⟩;have HB:=yH (HB0.out.trans (hW.out ▸ hj.below));clear hj;go_wp2;go_ret2;exact⟨_,rfl,.inl ⟨rfl,none,0,fun _=>rfl,rfl⟩,HB.out⟩
 | some ps =>
  rw[hp] at hbn
  obtain⟨p,hb,hn⟩:∃ p,Va.both (fun _=>some []) t=some p∧p.2=Va.names ps:=by
   cases hb:Va.both (fun _=>some []) t with
   | none=>rw[hb] at hbn;cases hbn
   | some p =>
    rw[hb] at hbn;exact⟨p,rfl,by simpa using hbn⟩
  rw[hb] at HF;have HN:=yH hn;clear hf hb0 hw0 hc hlt hp hbn hb hn;go_enter Tryz.func114,Tryz.ntmps114;go_wp2_with fail
  refine HF.out.mono ?_;rintro e w1 ⟨a,v,xs,hj,rfl,ha⟩;have HB:=yH (HB0.out.trans (hW.out ▸ hj.below));obtain⟨s,h1,h2⟩:=hj.row;have c1:w1.cell? ⟨w.heap.size,0,none⟩=some s:=yC h1;obtain rfl:=ha p rfl;have HR:=yH (Rd.of_own h2);clear hj h1 h2 ha;go_wp2;go_ret2;refine⟨_,rfl,?_,HB.out⟩;have:=HR.out;rw[HN.out] at this;exact this
end Go.Proofs.YtodlhhfcjkjapaaGreatDoor
