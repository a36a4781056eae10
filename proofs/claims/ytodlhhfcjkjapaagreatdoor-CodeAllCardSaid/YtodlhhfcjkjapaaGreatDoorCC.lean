import Derived.Test.YtodlhhfcjkjapaaGreatDoorCB
import Derived.Test.YtodlhhfcjkjapaaGreatDoorCI
import Derived.Test.YtodlhhfcjkjapaaGreatDoorVA
import Derived.Test.YtodlhhfcjkjapaaGreatDoorVB
set_option maxRecDepth 200000
set_option maxHeartbeats 8000000
namespace Go.Proofs.YtodlhhfcjkjapaaGreatDoor
open Go.RowKit
open Ck (kLabel kSet env)
theorem getD_some {row:List Ps.St} {x:Nat} {st:Ps.St} (h:row[x]?=some st):row.getD x Ck.none'=st:=by
 rw[List.getD_eq_getElem?_getD,h];rfl
section
variable {w:World} {md:Nat} {ao:Option Addr} {N cap m1 m2:Nat} {row:List Ps.St}
theorem nosend_any (h:CK w ao N cap m1 m2 row) (x:Nat) :
  Calls Tryz.prog 97 #[.agg #[.int .i64 (md:Int),.slice ao N cap,.map (some m1),.map (some m2)],.int .i64 (x:Int)] w fun e w'=>e = .returned (.bool (!((row.getD x Ck.none').kind==3)))∧Below w.heap.size w w':=by
 have hN:=h.sr.len;have hfew:=h.neat.few;have x0:((x:Int)<0)=False:=yF;by_cases hx:x<N
 ·obtain⟨st,hst⟩:∃ st,row[x]?=some st:=⟨_,List.getElem?_eq_getElem (by omega)⟩;rw[getD_some hst];obtain⟨g,lo,lc,mo,mc,T,U,q,rfl,hq,hT,hU,hTs,hxN,hNr,hbU,hK,hK2,hS2,c8,hrl,hC2⟩:=ck_enter (md:=md) h hst;have hbT:Below q w T:=(by rw[←hT,←hq];exact yA);have k1:=hK.c1;have d0:=c8.c0;obtain⟨K,hKK⟩:∃ K,st.kind=K:=⟨_,rfl⟩;rw[hKK] at d0 ⊢;have x1:((N:Int)≤(x:Int))=False:=yF
  have x2:(x:Int)<(N:Int):=(by omega);have hN1:N≤100:=(by omega);have HT:=yH hT;have HQ:=yH hq;have HB:=yH hbT;clear hU hT hq hbT hbU hK c8 hst hKK h hN hfew hNr hK2 hS2 hrl hC2;by_cases h3:K=3
  ·subst h3;replace d0:T.cell? ⟨g,x*8,none⟩=some (.int .i64 3):=d0;show Calls _ _ _ _ fun e w'=>e = .returned (.bool false)∧_
   rw[HQ.out];go_enter Tryz.func97,Tryz.ntmps97;go_upto_region 1 with fail
   rw[HT.out,HQ.out];go_wp2;go_ret;exact⟨rfl,HB.out⟩
  ·have e3:((K:Int) != 3)=true:=(by rw[bne_iff_ne];omega);have e4:((K:Int)==3)=false:=yB;have e5:((K:Int)=3)=False:=yF;have e6:(K==3)=false:=yB h3;rw[e6];clear h3 e6;show Calls _ _ _ _ fun e w'=>e = .returned (.bool true)∧_
   rw[HQ.out];go_enter Tryz.func97,Tryz.ntmps97;go_upto_region 1 with fail
   rw[HT.out,HQ.out];go_wp2;go_ret;exact⟨rfl,HB.out⟩
 ·have e:row.getD x Ck.none'=Ck.none':=by
   rw[List.getD_eq_getElem?_getD,List.getElem?_eq_none (by omega)];rfl
  rw[e];show Calls _ _ _ _ fun e w'=>e = .returned (.bool true)∧_
  have x1:((N:Int)≤(x:Int))=True:=yT;have x2:((x:Int)<(N:Int))=False:=yF;have HB:=yH ((Below.refl w.heap.size w).alloc yR (.cells #[.int .i64 (md:Int),.slice ao N cap,.map (some m1),.map (some m2)] 80));clear h hN hfew e hx;go_enter Tryz.func97,Tryz.ntmps97;go_wp2;go_ret;exact⟨rfl,HB.out⟩
def knowsP (md:Nat) (s:List UInt8):Bool:=s==Ck.wPlain || s==Ck.wLogin || s==Ck.wCram || (s==Ck.wApop && md==2)
theorem knows_any (s:List UInt8) (w:World) :
  Calls Tryz.prog 95 #[.agg #[.int .i64 (md:Int),.slice ao N cap,.map (some m1),.map (some m2)],.string ⟨s.toArray⟩] w fun e w'=>e = .returned (.bool (knowsP md s))∧Below w.heap.size w w':=by
 have HB:=yH ((Below.refl w.heap.size w).alloc yR (.cells #[.int .i64 (md:Int),.slice ao N cap,.map (some m1),.map (some m2)] 80));by_cases h1:s=Ck.wPlain
 ·subst h1;show Calls _ _ _ _ fun e w'=>e = .returned (.bool true)∧_
  unfold Ck.wPlain;go_enter Tryz.func95,Tryz.ntmps95;go_wp2;go_ret;exact⟨rfl,HB.out⟩
 by_cases h2:s=Ck.wLogin
 ·subst h2;show Calls _ _ _ _ fun e w'=>e = .returned (.bool true)∧_
  unfold Ck.wLogin;go_enter Tryz.func95,Tryz.ntmps95;go_wp2;go_ret;exact⟨rfl,HB.out⟩
 by_cases h3:s=Ck.wCram
 ·subst h3;show Calls _ _ _ _ fun e w'=>e = .returned (.bool true)∧_
  unfold Ck.wCram;go_enter Tryz.func95,Tryz.ntmps95;go_wp2;go_ret;exact⟨rfl,HB.out⟩
 by_cases h4:s=Ck.wApop
 ·subst h4;show Calls _ _ _ _ fun e w'=>e = .returned (.bool (md==2))∧_
  unfold Ck.wApop;by_cases hm:md=2
  ·subst hm;show Calls _ _ #[.agg #[.int .i64 2,_,_,_],_] _ fun e w'=>e = .returned (.bool true)∧_
   go_enter Tryz.func95,Tryz.ntmps95;go_wp2;go_ret;exact⟨rfl,HB.out⟩
  ·have m1':((md:Int)==2)=false:=yB;have m2':((md:Int)=2)=False:=yF;have m3':(md==2)=false:=yB hm;rw[m3'];clear m3' hm;go_enter Tryz.func95,Tryz.ntmps95;go_wp2;go_ret;exact⟨rfl,HB.out⟩
 have e:knowsP md s=false:=by
  unfold knowsP;rw[yB h1,yB h2,yB h3,yB h4];rfl
 rw[e];have n1:(s==[112,108,97,105,110])=false:=yB h1;have n2:(s==[108,111,103,105,110])=false:=yB h2;have n3:(s==[99,114,97,109])=false:=yB h3;have n4:(s==[97,112,111,112])=false:=yB h4;clear e h1 h2 h3 h4;go_enter Tryz.func95,Tryz.ntmps95;go_wp2;go_ret;exact⟨rfl,HB.out⟩
theorem unset_any (h:CK w ao N cap m1 m2 row) (x:List UInt8) (hx:x.length≤16777216) :
  Calls Tryz.prog 116 #[.agg #[.int .i64 (md:Int),.slice ao N cap,.map (some m1),.map (some m2)],.string ⟨x.toArray⟩] w fun e w'=>e = .returned (.bool (!(Ck.sets row).contains x))∧Below w.heap.size w w':=by
 have hbT:=(Below.refl w.heap.size w).alloc yR (.cells #[.int .i64 (md:Int),.slice ao N cap,.map (some m1),.map (some m2)] 80);have hl:=look_two ((hbT.block _ (yD h.s).1).trans h.s) x hx;have hs:=Ck.env_some kSet row x;rw[Ck.nms_sets] at hs;rw[hs] at hl;generalize (Ck.lookF (env kSet row) x).getD 0=v at hl;generalize (Ck.sets row).contains x=b at hl ⊢;have HB:=yH hbT;clear hbT h hs;go_enter Tryz.func116,Tryz.ntmps116;cases b
 all_goals
  go_wp2;go_ret;exact⟨rfl,HB.out⟩
end
theorem nvs_at {xs:List Nat} {k:Nat} (h:k<xs.length):(xs.map nv)[k]?=some (nv (xs.getD k 0)):=by
 rw[List.getElem?_map,List.getElem?_eq_getElem h,List.getD_eq_getElem?_getD,List.getElem?_eq_getElem h];rfl
theorem anyn_more {xs:List Nat} {p:Nat→Bool} {k:Nat} (h:(xs.take k).any p=false) (hk:k<xs.length) (hp:p (xs.getD k 0)=false):(xs.take (k+1)).any p=false:=by
 have e:xs[k]=xs.getD k 0:=(by rw[List.getD_eq_getElem?_getD,List.getElem?_eq_getElem hk];rfl);rw[List.take_succ_eq_append_getElem hk,List.any_append,h,e];simpa using hp
theorem anyn_hit {xs:List Nat} {p:Nat→Bool} {k:Nat} (hk:k<xs.length) (hp:p (xs.getD k 0)=true):xs.any p=true :=
 List.any_eq_true.2 ⟨_,(show xs.getD k 0 ∈ xs by rw[List.getD_eq_getElem?_getD,List.getElem?_eq_getElem hk];exact List.getElem_mem _),hp⟩
theorem containsn_any (xs:List Nat) (x:Nat):xs.contains x=xs.any (fun y=>x==y):=by rw[List.contains_eq_any_beq]
theorem indexn_any (v:Value) (xs:List Nat) (x:Nat) (w:World) (h:Rd w v (xs.map nv)) (hl:xs.length≤1048576) :
  Calls Tryz.prog 94 #[v,nv x] w fun e w'=>∃ r:Int,e = .returned (.int .i64 r)∧decide (0≤r)=xs.contains x∧w'=w:=by
 obtain⟨ao,cap,rfl,hc1,_,hc3⟩:=h.formV;rw[List.length_map] at hc1 hc3 ⊢;obtain⟨N,hN⟩:∃ N,N=xs.length:=⟨_,rfl⟩;rw[←hN] at hl hc1 hc3 ⊢;have HN:=yH hN;have HC:=yH hc3;clear hN hc3 h;unfold nv;go_enter Tryz.func94,Tryz.ntmps94;go_wp2;go_loopw [5,8] (fun _ i wr=>∃ k:Nat,k≤N∧i = .int .i64 k∧Hid ((xs.take k).any (fun y=>x==y)=false)∧wr=w) (fun _ i _=>N-(intOf i).toNat)
 case atStart=>exact⟨0,Nat.zero_le _,rfl,rfl,rfl⟩
 case round =>
  obtain⟨k,hk,rfl,HE,rfl⟩:=hrel;by_cases hlt:k<N
  ·obtain⟨b,o,rfl,hm,hc⟩:=HC.out (by omega);have hcx:=hc k _ (nvs_at (by rw[←HN.out];exact hlt));unfold maxLen at hm;clear hc;obtain⟨y,hy⟩:∃ y,y=xs.getD k 0:=⟨_,rfl⟩;rw[←hy,nv] at hcx;have HY:=yH hy;clear hy;by_cases hxy:x=y
   ·subst hxy;have HB:=yH (show (x==x)=true by simp);go_wp2;go_ret;refine⟨_,rfl,?_,rfl⟩;rw[containsn_any,anyn_hit (k:=k) (by rw[←HN.out];exact hlt) (by rw[←HY.out];exact HB.out)];exact decide_eq_true (by omega)
   ·have hb:(x==y)=false:=yB hxy;have HB:=yH hb;have e1:((x:Int)==(y:Int))=false:=yB;have e2:((x:Int)=(y:Int))=False:=yF;have e3:(x=y)=False:=eq_false hxy;clear hxy hb;go_wp2;go_roundw
    case rel=>exact⟨k+1,by omega,by go_num,anyn_more HE.out (by rw[←HN.out];exact hlt) (by rw[←HY.out];exact HB.out),trivial⟩
    case measure=>simp[intOf];omega
  ·go_wp2;go_ret;refine⟨_,rfl,?_,rfl⟩;rw[containsn_any,any_take_all HE.out (by have:=HN.out;omega)];rfl
theorem hasn_any (v:Value) (xs:List Nat) (x:Nat) (w:World) (h:Rd w v (xs.map nv)) (hl:xs.length≤1048576) :
  Calls Tryz.prog 66 #[v,nv x] w fun e w'=>e = .returned (.bool (xs.contains x))∧w'=w:=by
 have C:=indexn_any v xs x w h hl;generalize xs.contains x=B at C ⊢;unfold nv at C ⊢;go_enter Tryz.func66,Tryz.ntmps66;go_wp2_with fail
 refine C.mono ?_;rintro e w' ⟨r,rfl,hr,rfl⟩;by_cases h0:0≤r
 ·obtain rfl:B=true:=(by rw[←hr];exact decide_eq_true h0);clear hr;go_wp2;go_ret;exact⟨rfl,rfl⟩
 ·obtain rfl:B=false:=(by rw[←hr];exact decide_eq_false h0);clear hr;go_wp2;go_ret;exact⟨ret_b (decide_eq_false (by omega)),rfl⟩
theorem indexns_any (md:Nat) (ao:Option Addr) (NN cap m1 m2:Nat) (v:Value) (xs:List Nat) (p:Nat→Bool) (w:World) (hv:Rd w v (xs.map nv)) (hl:xs.length≤1048576)
  (C:∀ k,k<xs.length → ∀ w1,Below w.heap.size w w1→Calls Tryz.prog 97 #[.agg #[.int .i64 (md:Int),.slice ao NN cap,.map (some m1),.map (some m2)],nv (xs.getD k 0)] w1 fun e w'=>e = .returned (.bool (p (xs.getD k 0)))∧Below w1.heap.size w1 w') :
  Calls Tryz.prog 110 #[v,.func (.func 97) #[.agg #[.int .i64 (md:Int),.slice ao NN cap,.map (some m1),.map (some m2)]] #[]] w fun e w'=>∃ r:Int,e = .returned (.int .i64 r)∧decide (0≤r)=xs.any p∧Below w.heap.size w w':=by
 obtain⟨so,sc,rfl,hc1,_,hc3⟩:=hv.formV;rw[List.length_map] at hc1 hc3 ⊢;obtain⟨N,hN⟩:∃ N,N=xs.length:=⟨_,rfl⟩;rw[←hN] at hl hc1 hc3 ⊢;have HN:=yH hN;have HC:=yH hc3;have CC:=yH C;clear hN hc3 hv C;go_enter Tryz.func110,Tryz.ntmps110;go_wp2;go_loopw [5,8] (fun _ i wr=>∃ k:Nat,k≤N∧i = .int .i64 k∧Hid ((xs.take k).any p=false)∧Hid (Below w.heap.size w wr)) (fun _ i _=>N-(intOf i).toNat)
 case atStart=>exact⟨0,Nat.zero_le _,rfl,rfl,Below.refl _ _⟩
 case round =>
  obtain⟨k,hk,rfl,HE,HB⟩:=hrel;by_cases hlt:k<N
  ·obtain⟨b,o,rfl,hm,hc⟩:=HC.out (by omega);have hcx:=hc k _ (nvs_at (by rw[←HN.out];exact hlt));replace hcx:=(HB.out.cell (World.block_lt_of_cell? _ _ hcx)).trans hcx;have CY:=CC.out k (by rw[←HN.out];exact hlt) wr HB.out;unfold maxLen at hm;clear hc;obtain⟨y,hy⟩:∃ y,y=xs.getD k 0:=⟨_,rfl⟩;rw[←hy,nv] at hcx;rw[←hy,nv] at CY;have HY:=yH hy;clear hy;cases hb:p y with
   | true =>
    rw[hb] at CY;have HX:=yH hb;clear hb;go_wp2_with fail
    refine CY.mono ?_;rintro e w2 ⟨rfl,hb2⟩;have HB2:=yH (HB.out.trans (hb2.mono HB.out.size));clear hb2 CY;go_wp2;go_ret;refine⟨_,rfl,?_,HB2.out⟩;rw[anyn_hit (k:=k) (by rw[←HN.out];exact hlt) (by rw[←HY.out];exact HX.out)];exact decide_eq_true (by omega)
   | false =>
    rw[hb] at CY;have HX:=yH hb;clear hb;go_wp2_with fail
    refine CY.mono ?_;rintro e w2 ⟨rfl,hb2⟩;have HB2:=yH (HB.out.trans (hb2.mono HB.out.size));clear hb2 CY;go_wp2;go_roundw
    case rel=>exact⟨k+1,by omega,by go_num,anyn_more HE.out (by rw[←HN.out];exact hlt) (by rw[←HY.out];exact HX.out),HB2.out⟩
    case measure=>simp[intOf];omega
  ·have HF:=yH (any_take_all HE.out (by have:=HN.out;omega));go_wp2;go_ret;refine⟨_,rfl,?_,HB.out⟩;rw[HF.out];rfl
theorem containsns_any (md:Nat) (ao:Option Addr) (NN cap m1 m2:Nat) (v:Value) (xs:List Nat) (p:Nat→Bool) (w:World) (hv:Rd w v (xs.map nv)) (hl:xs.length≤1048576)
  (C:∀ k,k<xs.length → ∀ w1,Below w.heap.size w w1→Calls Tryz.prog 97 #[.agg #[.int .i64 (md:Int),.slice ao NN cap,.map (some m1),.map (some m2)],nv (xs.getD k 0)] w1 fun e w'=>e = .returned (.bool (p (xs.getD k 0)))∧Below w1.heap.size w1 w') :
  Calls Tryz.prog 96 #[v,.func (.func 97) #[.agg #[.int .i64 (md:Int),.slice ao NN cap,.map (some m1),.map (some m2)]] #[]] w fun e w'=>e = .returned (.bool (xs.any p))∧Below w.heap.size w w':=by
 have CI:=indexns_any md ao NN cap m1 m2 v xs p w hv hl C;generalize xs.any p=B at CI ⊢;clear hv C;go_enter Tryz.func96,Tryz.ntmps96;go_wp2_with fail
 refine CI.mono ?_;rintro e w' ⟨r,rfl,hr,hb⟩;have HB:=yH hb;clear hb;by_cases h0:0≤r
 ·obtain rfl:B=true:=(by rw[←hr];exact decide_eq_true h0);clear hr;go_wp2;go_ret;exact⟨rfl,HB.out⟩
 ·obtain rfl:B=false:=(by rw[←hr];exact decide_eq_false h0);clear hr;go_wp2;go_ret;exact⟨ret_b (decide_eq_false (by omega)),HB.out⟩
theorem indexun_any (md:Nat) (ao:Option Addr) (NN cap m1 m2:Nat) (v:Value) (xs:List (List UInt8)) (p:(List UInt8)→Bool) (w:World) (hv:Rd w v (xs.map sv)) (hl:xs.length≤1048576)
  (C:∀ k,k<xs.length → ∀ w1,Below w.heap.size w w1→Calls Tryz.prog 116 #[.agg #[.int .i64 (md:Int),.slice ao NN cap,.map (some m1),.map (some m2)],sv (xs.getD k [])] w1 fun e w'=>e = .returned (.bool (p (xs.getD k [])))∧Below w1.heap.size w1 w') :
  Calls Tryz.prog 129 #[v,.func (.func 116) #[.agg #[.int .i64 (md:Int),.slice ao NN cap,.map (some m1),.map (some m2)]] #[]] w fun e w'=>∃ r:Int,e = .returned (.int .i64 r)∧decide (0≤r)=xs.any p∧Below w.heap.size w w':=by
 obtain⟨so,sc,rfl,hc1,_,hc3⟩:=hv.formV;rw[List.length_map] at hc1 hc3 ⊢;obtain⟨N,hN⟩:∃ N,N=xs.length:=⟨_,rfl⟩;rw[←hN] at hl hc1 hc3 ⊢;have HN:=yH hN;have HC:=yH hc3;have CC:=yH C;clear hN hc3 hv C;go_enter Tryz.func129,Tryz.ntmps129;go_wp2;go_loopw [5,8] (fun _ i wr=>∃ k:Nat,k≤N∧i = .int .i64 k∧Hid ((xs.take k).any p=false)∧Hid (Below w.heap.size w wr)) (fun _ i _=>N-(intOf i).toNat)
 case atStart=>exact⟨0,Nat.zero_le _,rfl,rfl,Below.refl _ _⟩
 case round =>
  obtain⟨k,hk,rfl,HE,HB⟩:=hrel;by_cases hlt:k<N
  ·obtain⟨b,o,rfl,hm,hc⟩:=HC.out (by omega);have hcx:=hc k _ (svs_at (by rw[←HN.out];exact hlt));replace hcx:=(HB.out.cell (World.block_lt_of_cell? _ _ hcx)).trans hcx;have CY:=CC.out k (by rw[←HN.out];exact hlt) wr HB.out;unfold maxLen at hm;clear hc;obtain⟨y,hy⟩:∃ y,y=xs.getD k []:=⟨_,rfl⟩;rw[←hy,sv] at hcx;rw[←hy,sv] at CY;have HY:=yH hy;clear hy;cases hb:p y with
   | true =>
    rw[hb] at CY;have HX:=yH hb;clear hb;go_wp2_with fail
    refine CY.mono ?_;rintro e w2 ⟨rfl,hb2⟩;have HB2:=yH (HB.out.trans (hb2.mono HB.out.size));clear hb2 CY;go_wp2;go_ret;refine⟨_,rfl,?_,HB2.out⟩;rw[any_hit (k:=k) (by rw[←HN.out];exact hlt) (by rw[←HY.out];exact HX.out)];exact decide_eq_true (by omega)
   | false =>
    rw[hb] at CY;have HX:=yH hb;clear hb;go_wp2_with fail
    refine CY.mono ?_;rintro e w2 ⟨rfl,hb2⟩;have HB2:=yH (HB.out.trans (hb2.mono HB.out.size));clear hb2 CY;go_wp2;go_roundw
    case rel=>exact⟨k+1,by omega,by go_num,any_take_more HE.out (by rw[←HN.out];exact hlt) (by rw[←HY.out];exact HX.out),HB2.out⟩
    case measure=>simp[intOf];omega
  ·have HF:=yH (any_take_all HE.out (by have:=HN.out;omega));go_wp2;go_ret;refine⟨_,rfl,?_,HB.out⟩;rw[HF.out];rfl
theorem containsun_any (md:Nat) (ao:Option Addr) (NN cap m1 m2:Nat) (v:Value) (xs:List (List UInt8)) (p:(List UInt8)→Bool) (w:World) (hv:Rd w v (xs.map sv)) (hl:xs.length≤1048576)
  (C:∀ k,k<xs.length → ∀ w1,Below w.heap.size w w1→Calls Tryz.prog 116 #[.agg #[.int .i64 (md:Int),.slice ao NN cap,.map (some m1),.map (some m2)],sv (xs.getD k [])] w1 fun e w'=>e = .returned (.bool (p (xs.getD k [])))∧Below w1.heap.size w1 w') :
  Calls Tryz.prog 115 #[v,.func (.func 116) #[.agg #[.int .i64 (md:Int),.slice ao NN cap,.map (some m1),.map (some m2)]] #[]] w fun e w'=>e = .returned (.bool (xs.any p))∧Below w.heap.size w w':=by
 have CI:=indexun_any md ao NN cap m1 m2 v xs p w hv hl C;generalize xs.any p=B at CI ⊢;clear hv C;go_enter Tryz.func115,Tryz.ntmps115;go_wp2_with fail
 refine CI.mono ?_;rintro e w' ⟨r,rfl,hr,hb⟩;have HB:=yH hb;clear hb;by_cases h0:0≤r
 ·obtain rfl:B=true:=(by rw[←hr];exact decide_eq_true h0);clear hr;go_wp2;go_ret;exact⟨rfl,HB.out⟩
 ·obtain rfl:B=false:=(by rw[←hr];exact decide_eq_false h0);clear hr;go_wp2;go_ret;exact⟨ret_b (decide_eq_false (by omega)),HB.out⟩
theorem names_short {t:List UInt8} {ps:List Va.Pt} (h:Va.parts t=some ps):(Va.names ps).length≤t.length ∧ ∀ n ∈ Va.names ps,n.length≤t.length:=by
 obtain⟨h1,h2⟩:=Va.parts_few h;refine⟨Nat.le_trans (List.length_filterMap_le _ _) h1,fun n hn=>?_⟩;obtain⟨p,hp,e⟩:=List.mem_filterMap.1 hn;cases p with
 | b c=>cases e
 | n x =>
  cases e
  exact h2 _ hp
theorem all_more {ts:List (List UInt8)} {p:List UInt8→Bool} {k:Nat} (h:(ts.take k).all p=true) (hk:k<ts.length) (hp:p (ts.getD k [])=true):(ts.take (k+1)).all p=true:=by
 have e:ts[k]=ts.getD k []:=(by rw[List.getD_eq_getElem?_getD,List.getElem?_eq_getElem hk];rfl);rw[List.take_succ_eq_append_getElem hk,List.all_append,h,e];simpa using hp
theorem all_not {ts:List (List UInt8)} {p:List UInt8→Bool} {k:Nat} (hk:k<ts.length) (hp:p (ts.getD k [])=false):ts.all p=false :=
 List.all_eq_false.2 ⟨_,(show ts.getD k [] ∈ ts by rw[List.getD_eq_getElem?_getD,List.getElem?_eq_getElem hk];exact List.getElem_mem _),by rw[hp];decide⟩
section
variable {w:World} {md:Nat} {ao:Option Addr} {N cap m1 m2:Nat} {row:List Ps.St}
theorem anyw_any (h:CK w ao N cap m1 m2 row) (v:Value) (ts:List (List UInt8)) (hv:Rd w v (ts.map sv)) (hl:ts.length≤1000) (hs:∀ t ∈ ts,t.length≤1000) :
  Calls Tryz.prog 99 #[.agg #[.int .i64 (md:Int),.slice ao N cap,.map (some m1),.map (some m2)],v] w fun e w'=>e = .returned (.bool (!ts.all (Ck.known row)))∧Below w.heap.size w w':=by
 obtain⟨so,sc,rfl,hc1,_,hc3⟩:=hv.formV;rw[List.length_map] at hc1 hc3 ⊢;obtain⟨n,hn⟩:∃ n,n=ts.length:=⟨_,rfl⟩;rw[←hn] at hl hc1 hc3 ⊢;obtain⟨T,hT⟩:∃ T,w.alloc (.cells #[.int .i64 (md:Int),.slice ao N cap,.map (some m1),.map (some m2)] 80)=T:=⟨_,rfl⟩;have hbT:Below w.heap.size w T:=(by rw[←hT];exact yA);have hKT:KB T w.heap.size md ao N cap m1 m2:=(by rw[←hT];exact heap_alloc_new _ _);have HN:=yH hn
 have HC:=yH (fun hp=>(hc3 hp).imp fun b h1=>h1.imp fun o h2=>(⟨h2.1,h2.2.1,fun j u hj=>(hbT.cell (World.block_lt_of_cell? w _ (h2.2.2 j u hj))).trans (h2.2.2 j u hj)⟩:so=some ⟨b,o,none⟩∧sc≤maxLen ∧ ∀ j u,(ts.map sv)[j]?=some u→T.cell? ⟨b,o+j,none⟩=some u));have HS:=yH hs;have HT:=yH hT;have HCK:=yH (h.below hbT);obtain⟨q,hq⟩:∃ q,w.heap.size=q:=⟨_,rfl⟩;rw[hq] at hbT hKT;have HQ:=yH hq;have HB:=yH hbT
 have HSZ:=yH (show q≤T.heap.size by rw[←hq];exact hbT.size);have HKT:=yH hKT;clear hn hc3 hv hs h hT hbT hKT;rw[hq];clear hq;go_enter Tryz.func99,Tryz.ntmps99;go_upto_region 1 with fail
 rw[HT.out,HQ.out];go_wp2;go_loopw [11] (fun i wr=>∃ k:Nat,k≤n∧i = .int .i64 k∧Hid ((ts.take k).all (Ck.known row)=true)∧Hid (Below T.heap.size T wr)) (fun i _=>n-(intOf i).toNat)
 case atStart=>exact⟨0,Nat.zero_le _,rfl,yH (by simp),Below.refl _ _⟩
 case round =>
  obtain⟨k,hk,rfl,HE,HW⟩:=hrel;by_cases hlt:k<n
  ·obtain⟨b,o,rfl,hm,hc⟩:=HC.out (by omega);have hcx:=hc k _ (svs_at (by rw[←HN.out];exact hlt));replace hcx:=(HW.out.cell (World.block_lt_of_cell? _ _ hcx)).trans hcx;obtain⟨y,hy⟩:∃ y,y=ts.getD k []:=⟨_,rfl⟩;have hyl:y.length≤1000:=HS.out y (by rw[hy,List.getD_eq_getElem?_getD,List.getElem?_eq_getElem (by rw[←HN.out];exact hlt)];exact List.getElem_mem _);have NM:=vnames_any wr y (by omega);unfold maxLen at hm;clear hc;rw[←hy,sv] at hcx
   have HY:=yH hy;clear hy;cases hps:Va.parts y with
   | none =>
    rw[hps] at NM;have HX:=yH (show Ck.known row y=false by unfold Ck.known;rw[hps]);clear hps;go_wp2_with fail
    refine NM.mono ?_;rintro e w2 ⟨v2,rfl,hr2,hb2⟩;have HB2:=yH (HB.out.trans ((HW.out.trans (hb2.mono HW.out.size)).mono HSZ.out));clear hb2 hr2 NM;go_wp2;go_ret;refine⟨ret_b ?_,HB2.out⟩;rw[all_not (k:=k) (by rw[←HN.out];exact hlt) (by rw[←HY.out];exact HX.out)];rfl
   | some ps =>
    rw[hps] at NM;obtain⟨z1,z2⟩:=names_short hps
    have hkn:Ck.known row y = !(Va.names ps).any (fun x=>!(Ck.sets row).contains x):=by
     unfold Ck.known;rw[hps,List.not_any_eq_all_not];simp
    go_wp2_with fail
    refine NM.mono ?_;rintro e w2 ⟨v2,rfl,hr2,hb2⟩;replace hr2:Rd w2 v2 ((Va.names ps).map sv):=hr2;have hbw:=HW.out.trans (hb2.mono HW.out.size)
    have UN:=containsun_any md ao N cap m1 m2 v2 (Va.names ps) (fun x=>!(Ck.sets row).contains x) w2 hr2 (by omega) (fun j hj w3 hb3=>unset_any ((HCK.out.below hbw).below hb3) _ (by
     have:=z2 _ (show (Va.names ps).getD j [] ∈ Va.names ps by rw[List.getD_eq_getElem?_getD,List.getElem?_eq_getElem hj];exact List.getElem_mem _);omega))
    have hK2:=HKT.out.below hbw;have q0:=hK2.c0;have q1:=hK2.c1;have q2:=hK2.c2;have q3:=hK2.c3;obtain⟨vo,vc,rfl,_⟩:=hr2.formV;rw[List.length_map] at UN ⊢;obtain⟨nn,hnn⟩:∃ nn,(Va.names ps).length=nn:=⟨_,rfl⟩;rw[hnn] at UN ⊢;have HW2:=yH hbw;clear hps NM z1 z2 hr2 hb2 hbw hK2 hnn;cases hx:(Va.names ps).any (fun x=>!(Ck.sets row).contains x) with
    | true =>
     rw[hx] at UN hkn;have HX:=yH hkn;clear hx hkn;go_wp2_with fail
     refine UN.mono ?_;rintro e w3 ⟨rfl,hb3⟩;have HB2:=yH (HB.out.trans ((HW2.out.trans (hb3.mono HW2.out.size)).mono HSZ.out));clear hb3 UN q0 q1 q2 q3;go_wp2;go_ret;refine⟨ret_b ?_,HB2.out⟩;rw[all_not (k:=k) (by rw[←HN.out];exact hlt) (by rw[←HY.out];exact HX.out)];rfl
    | false =>
     rw[hx] at UN hkn;have HX:=yH hkn;clear hx hkn;go_wp2_with fail
     refine UN.mono ?_;rintro e w3 ⟨rfl,hb3⟩;have HB2:=yH (HW2.out.trans (hb3.mono HW2.out.size));clear hb3 UN q0 q1 q2 q3;go_wp2;go_roundw
     case rel=>exact⟨k+1,by omega,by go_num,yH (all_more HE.out (by rw[←HN.out];exact hlt) (by rw[←HY.out];exact HX.out)),HB2.out⟩
     case measure=>simp[intOf];omega
  ·have HF:=yH (show ts.all (Ck.known row)=true by
    have:=HE.out
    rwa [List.take_of_length_le (by have:=HN.out;omega)] at this)
   have HB2:=yH (HB.out.trans (HW.out.mono HSZ.out));go_wp2;go_ret;refine⟨ret_b ?_,HB2.out⟩;rw[HF.out];rfl
end
end Go.Proofs.YtodlhhfcjkjapaaGreatDoor
