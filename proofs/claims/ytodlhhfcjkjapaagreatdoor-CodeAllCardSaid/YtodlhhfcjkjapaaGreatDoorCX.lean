import Derived.Test.YtodlhhfcjkjapaaGreatDoorCC
import Derived.Test.YtodlhhfcjkjapaaGreatDoorLA
import Derived.Test.YtodlhhfcjkjapaaGreatDoorCB
import Derived.Test.YtodlhhfcjkjapaaGreatDoorCA
import Derived.Test.YtodlhhfcjkjapaaGreatDoorPJ
import Derived.Deep.CutRange
set_option maxRecDepth 200000
set_option maxHeartbeats 8000000
namespace Go.Proofs.YtodlhhfcjkjapaaGreatDoor
open Go.RowKit
open Ck (kLabel kSet env)
section
variable {w:World} {md:Nat} {ao:Option Addr} {N cap m1 m2:Nat} {row:List Ps.St}
theorem window_any (h:CK w ao N cap m1 m2 row) {k:Nat} {st:Ps.St} (hk:row[k]?=some st) :
  Calls Tryz.prog 68 #[.agg #[.int .i64 (md:Int),.slice ao N cap,.map (some m1),.map (some m2)],.int .i64 (k:Int)] w fun e w'=>e = .returned (.bool (decide (st.kind=6∧(st.n<1∨8<st.n))))∧Below w.heap.size w w':=by
 obtain⟨R,hR⟩:∃ R:Bool,R=(decide (st.kind=6∧(st.n<1∨8<st.n))):=⟨_,rfl⟩;rw[←hR];obtain⟨g,lo,lc,mo,mc,T,U,q,rfl,hq,hT,hU,hTs,hkN,hNr,hbU,hKT,hK,hS,c8,rl,hC⟩:=ck_enter (md:=md) h hk;have hsm:=h.neat.sm st (List.mem_of_getElem? hk);have hll:=h.neat.ll st (List.mem_of_getElem? hk);have hN1:N≤100:=(by rw[hNr];exact h.neat.few);obtain⟨K,S,TX,UX,n0,p0,L,M⟩:=st;obtain⟨LL,hLL⟩:∃ x,L.length=x:=⟨_,rfl⟩
 obtain⟨LM,hLM⟩:∃ x,M.length=x:=⟨_,rfl⟩;dsimp only at hU rl hsm hll;rw[hLL,hLM] at hU;rw[hLL] at rl;unfold Ps.Sm at hsm;dsimp only at hsm;have k1:=hKT.c1;have d0:T.cell? ⟨g,k*8,none⟩=some (.int .i64 (K:Int)):=c8.c0;have d1:T.cell? ⟨g,k*8+1,none⟩=some (.string ⟨S.toArray⟩):=c8.c1;have d2:T.cell? ⟨g,k*8+2,none⟩=some (.string ⟨TX.toArray⟩):=c8.c2;have d3:T.cell? ⟨g,k*8+3,none⟩=some (.string ⟨UX.toArray⟩):=c8.c3
 have d4:T.cell? ⟨g,k*8+4,none⟩=some (.int .i64 (n0:Int)):=c8.c4;have d5:T.cell? ⟨g,k*8+5,none⟩=some (.int .i64 (p0:Int)):=c8.c5;have d6:T.cell? ⟨g,k*8+6,none⟩=some (.slice lo LL lc):=(by rw[←hLL];exact c8.c6);have d7:T.cell? ⟨g,k*8+7,none⟩=some (.slice mo LM mc):=(by rw[←hLM];exact c8.c7);have kk:(k:Int)<(N:Int):=(by omega);have HT:=yH hT;have HU:=yH hU;have HQ:=yH hq;have HB:=yH hbU
 have HSZ:=yH (show q≤U.heap.size by rw[←hq];exact hbU.size);have HK:=yH hK;have HC:=yH hC;have HRL:=yH rl;have HSM:=yH (⟨hsm,hll,hLL⟩:_∧_∧_);have HR:=yH hR;have s0:U.cell? ⟨q+1,0,none⟩=some (.int .i64 (K:Int)):=hS.c0;have s1:U.cell? ⟨q+1,1,none⟩=some (.string ⟨S.toArray⟩):=hS.c1;have s2:U.cell? ⟨q+1,2,none⟩=some (.string ⟨TX.toArray⟩):=hS.c2
 have s3:U.cell? ⟨q+1,3,none⟩=some (.string ⟨UX.toArray⟩):=hS.c3;have s4:U.cell? ⟨q+1,4,none⟩=some (.int .i64 (n0:Int)):=hS.c4;have s6:U.cell? ⟨q+1,6,none⟩=some (.slice lo LL lc):=(by rw[←hLL];exact hS.c6);have q0:=hK.c0;have q1:=hK.c1;have q2:=hK.c2;have q3:=hK.c3;clear hT hU hbU hK hKT hS hC rl c8 h hk hsm hll hLL hLM hNr hR;rw[hq];clear hq;go_enter Tryz.func68,Tryz.ntmps68;go_upto_region 1 with fail
 rw[HT.out,HQ.out];go_upto_region 2 with fail
 rw[HU.out];clear k1 d0 d1 d2 d3 d4 d5 d6 d7 HT HU HQ hTs;by_cases hother:K≠6
 ·have e6a:((K:Int)==6)=false:=yB;have e6b:((K:Int)=6)=False:=yF;have e6c:((K:Int) != 6)=true:=(by rw[bne_iff_ne];omega);have e6d:(K=6)=False:=yF;clear hother;obtain rfl:R=false:=(by rw[HR.out];simp[e6d]);go_wp2;go_ret;exact⟨rfl,HB.out⟩
 ·have hw:K=6:=(by omega);clear hother;rcases hw with rfl
  ·replace s0:U.cell? ⟨q+1,0,none⟩=some (.int .i64 6):=s0;by_cases hn:n0<1
   ·have f1:((n0:Int)<1)=True:=yT;obtain rfl:R=true:=(by rw[HR.out];simp;omega);clear hn;go_wp2;go_ret;exact⟨rfl,HB.out⟩
   have f1:((n0:Int)<1)=False:=yF;by_cases hm:8<n0
   ·have f2:((8:Int)<(n0:Int))=True:=yT;obtain rfl:R=true:=(by rw[HR.out];simp;omega);clear hn hm;go_wp2;go_ret;exact⟨rfl,HB.out⟩
   have f2:((8:Int)<(n0:Int))=False:=yF;obtain rfl:R=false:=(by rw[HR.out];simp;omega);clear hn hm;go_wp2;go_ret;exact⟨rfl,HB.out⟩
theorem again_any (h:CK w ao N cap m1 m2 row) {k:Nat} {st:Ps.St} (hk:row[k]?=some st) :
  Calls Tryz.prog 70 #[.agg #[.int .i64 (md:Int),.slice ao N cap,.map (some m1),.map (some m2)],.int .i64 (k:Int)] w fun e w'=>e = .returned (.bool (decide (st.kind=13∧(Ck.labels (row.take k)).contains st.s=true)))∧Below w.heap.size w w':=by
 obtain⟨R,hR⟩:∃ R:Bool,R=(decide (st.kind=13∧(Ck.labels (row.take k)).contains st.s=true)):=⟨_,rfl⟩;rw[←hR];have OWN:=yH (fun hq=>Ck.look_own kLabel row k st hk hq);obtain⟨g,lo,lc,mo,mc,T,U,q,rfl,hq,hT,hU,hTs,hkN,hNr,hbU,hKT,hK,hS,c8,rl,hC⟩:=ck_enter (md:=md) h hk;have hsm:=h.neat.sm st (List.mem_of_getElem? hk);have hll:=h.neat.ll st (List.mem_of_getElem? hk);have hN1:N≤100:=by rw[hNr];exact h.neat.few
 obtain⟨K,S,TX,UX,n0,p0,L,M⟩:=st;obtain⟨LL,hLL⟩:∃ x,L.length=x:=⟨_,rfl⟩;obtain⟨LM,hLM⟩:∃ x,M.length=x:=⟨_,rfl⟩;dsimp only at hU rl hsm hll;rw[hLL,hLM] at hU;rw[hLL] at rl;unfold Ps.Sm at hsm;dsimp only at hsm;have k1:=hKT.c1;have d0:T.cell? ⟨g,k*8,none⟩=some (.int .i64 (K:Int)):=c8.c0;have d1:T.cell? ⟨g,k*8+1,none⟩=some (.string ⟨S.toArray⟩):=c8.c1;have d2:T.cell? ⟨g,k*8+2,none⟩=some (.string ⟨TX.toArray⟩):=c8.c2
 have d3:T.cell? ⟨g,k*8+3,none⟩=some (.string ⟨UX.toArray⟩):=c8.c3;have d4:T.cell? ⟨g,k*8+4,none⟩=some (.int .i64 (n0:Int)):=c8.c4;have d5:T.cell? ⟨g,k*8+5,none⟩=some (.int .i64 (p0:Int)):=c8.c5;have d6:T.cell? ⟨g,k*8+6,none⟩=some (.slice lo LL lc):=(by rw[←hLL];exact c8.c6);have d7:T.cell? ⟨g,k*8+7,none⟩=some (.slice mo LM mc):=(by rw[←hLM];exact c8.c7);have kk:(k:Int)<(N:Int):=(by omega);have HT:=yH hT
 have HU:=yH hU;have HQ:=yH hq;have HB:=yH hbU;have HSZ:=yH (show q≤U.heap.size by rw[←hq];exact hbU.size);have HK:=yH hK;have HC:=yH hC;have HRL:=yH rl;have HSM:=yH (⟨hsm,hll,hLL⟩:_∧_∧_);have HR:=yH hR;have s0:U.cell? ⟨q+1,0,none⟩=some (.int .i64 (K:Int)):=hS.c0;have s1:U.cell? ⟨q+1,1,none⟩=some (.string ⟨S.toArray⟩):=hS.c1;have s2:U.cell? ⟨q+1,2,none⟩=some (.string ⟨TX.toArray⟩):=hS.c2
 have s3:U.cell? ⟨q+1,3,none⟩=some (.string ⟨UX.toArray⟩):=hS.c3;have s4:U.cell? ⟨q+1,4,none⟩=some (.int .i64 (n0:Int)):=hS.c4;have s6:U.cell? ⟨q+1,6,none⟩=some (.slice lo LL lc):=(by rw[←hLL];exact hS.c6);have q0:=hK.c0;have q1:=hK.c1;have q2:=hK.c2;have q3:=hK.c3;have LK:=yH (look_one hC.l S (by omega));clear hT hU hbU hK hKT hS hC rl c8 h hk hsm hll hLL hLM hNr hR;rw[hq];clear hq;go_enter Tryz.func70,Tryz.ntmps70;go_upto_region 1 with fail
 rw[HT.out,HQ.out];go_upto_region 2 with fail
 rw[HU.out];clear k1 d0 d1 d2 d3 d4 d5 d6 d7 HT HU HQ hTs;by_cases hother:K≠13
 ·have e13a:((K:Int)==13)=false:=yB;have e13b:((K:Int)=13)=False:=yF;have e13c:((K:Int) != 13)=true:=(by rw[bne_iff_ne];omega);have e13d:(K=13)=False:=yF;clear hother;obtain rfl:R=false:=(by rw[HR.out];simp[e13d]);go_wp2;go_ret;exact⟨rfl,HB.out⟩
 ·have hw:K=13:=(by omega);clear hother;rcases hw with rfl
  ·replace s0:U.cell? ⟨q+1,0,none⟩=some (.int .i64 13):=s0;obtain⟨i,hi,hik,hi2⟩:=OWN.out rfl;have LK1:=LK.out;dsimp only at hi hik;unfold env at LK1;rw[hi] at LK1;replace LK1:(Instr.lookup 77 (.map (some m1)) (.string ⟨S.toArray⟩) false).run Tryz.prog U = .ok (.int .i64 (i:Int)) U:=LK1;by_cases h1:i=k
   ·have hc:=hik.1 h1;rw[Ck.nms_labels] at hc;obtain rfl:R=false:=(by rw[HR.out];dsimp only;rw[hc];simp);subst h1;clear hc hik hi OWN hi2;go_wp2;go_ret;exact⟨rfl,HB.out⟩
   ·have hc:(Ck.nms kLabel (row.take k)).contains S=true:=by
     cases hx:(Ck.nms kLabel (row.take k)).contains S with
     | true=>rfl
     | false=>exact absurd (hik.2 hx) h1
    rw[Ck.nms_labels] at hc;obtain rfl:R=true:=(by rw[HR.out];dsimp only;rw[hc];simp);have g1:((i:Int) != (k:Int))=true:=(by rw[bne_iff_ne];omega);have g2:((i:Int)==(k:Int))=false:=yB;have g3:((i:Int)=(k:Int))=False:=yF;have g4:(i=k)=False:=eq_false h1;clear hc hik hi OWN hi2 h1;go_wp2;go_ret;exact⟨rfl,HB.out⟩
theorem missing_any (h:CK w ao N cap m1 m2 row) {k:Nat} {st:Ps.St} (hk:row[k]?=some st) :
  Calls Tryz.prog 71 #[.agg #[.int .i64 (md:Int),.slice ao N cap,.map (some m1),.map (some m2)],.int .i64 (k:Int)] w fun e w'=>e = .returned (.bool (decide ((st.kind=15∨st.kind=14)∧(Ck.labels row).contains st.s=false)))∧Below w.heap.size w w':=by
 obtain⟨R,hR⟩:∃ R:Bool,R=(decide ((st.kind=15∨st.kind=14)∧(Ck.labels row).contains st.s=false)):=⟨_,rfl⟩;rw[←hR];obtain⟨g,lo,lc,mo,mc,T,U,q,rfl,hq,hT,hU,hTs,hkN,hNr,hbU,hKT,hK,hS,c8,rl,hC⟩:=ck_enter (md:=md) h hk;have hsm:=h.neat.sm st (List.mem_of_getElem? hk);have hll:=h.neat.ll st (List.mem_of_getElem? hk);have hN1:N≤100:=(by rw[hNr];exact h.neat.few);obtain⟨K,S,TX,UX,n0,p0,L,M⟩:=st
 obtain⟨LL,hLL⟩:∃ x,L.length=x:=⟨_,rfl⟩;obtain⟨LM,hLM⟩:∃ x,M.length=x:=⟨_,rfl⟩;dsimp only at hU rl hsm hll;rw[hLL,hLM] at hU;rw[hLL] at rl;unfold Ps.Sm at hsm;dsimp only at hsm;have k1:=hKT.c1;have d0:T.cell? ⟨g,k*8,none⟩=some (.int .i64 (K:Int)):=c8.c0;have d1:T.cell? ⟨g,k*8+1,none⟩=some (.string ⟨S.toArray⟩):=c8.c1;have d2:T.cell? ⟨g,k*8+2,none⟩=some (.string ⟨TX.toArray⟩):=c8.c2
 have d3:T.cell? ⟨g,k*8+3,none⟩=some (.string ⟨UX.toArray⟩):=c8.c3;have d4:T.cell? ⟨g,k*8+4,none⟩=some (.int .i64 (n0:Int)):=c8.c4;have d5:T.cell? ⟨g,k*8+5,none⟩=some (.int .i64 (p0:Int)):=c8.c5;have d6:T.cell? ⟨g,k*8+6,none⟩=some (.slice lo LL lc):=(by rw[←hLL];exact c8.c6);have d7:T.cell? ⟨g,k*8+7,none⟩=some (.slice mo LM mc):=(by rw[←hLM];exact c8.c7);have kk:(k:Int)<(N:Int):=(by omega);have HT:=yH hT
 have HU:=yH hU;have HQ:=yH hq;have HB:=yH hbU;have HSZ:=yH (show q≤U.heap.size by rw[←hq];exact hbU.size);have HK:=yH hK;have HC:=yH hC;have HRL:=yH rl;have HSM:=yH (⟨hsm,hll,hLL⟩:_∧_∧_);have HR:=yH hR;have s0:U.cell? ⟨q+1,0,none⟩=some (.int .i64 (K:Int)):=hS.c0;have s1:U.cell? ⟨q+1,1,none⟩=some (.string ⟨S.toArray⟩):=hS.c1;have s2:U.cell? ⟨q+1,2,none⟩=some (.string ⟨TX.toArray⟩):=hS.c2
 have s3:U.cell? ⟨q+1,3,none⟩=some (.string ⟨UX.toArray⟩):=hS.c3;have s4:U.cell? ⟨q+1,4,none⟩=some (.int .i64 (n0:Int)):=hS.c4;have s6:U.cell? ⟨q+1,6,none⟩=some (.slice lo LL lc):=(by rw[←hLL];exact hS.c6);have q0:=hK.c0;have q1:=hK.c1;have q2:=hK.c2;have q3:=hK.c3;have hes:=Ck.env_some kLabel row S;rw[Ck.nms_labels] at hes;have hlk:=look_two hC.l S (by omega);rw[hes] at hlk;generalize (Ck.lookF (env kLabel row) S).getD 0=lv at hlk
 have LK:=yH hlk;clear hes hlk;clear hT hU hbU hK hKT hS hC rl c8 h hk hsm hll hLL hLM hNr hR;rw[hq];clear hq;go_enter Tryz.func71,Tryz.ntmps71;go_upto_region 1 with fail
 rw[HT.out,HQ.out];go_upto_region 2 with fail
 rw[HU.out];clear k1 d0 d1 d2 d3 d4 d5 d6 d7 HT HU HQ hTs;by_cases hother:K≠14∧K≠15
 ·have e14a:((K:Int)==14)=false:=yB;have e14b:((K:Int)=14)=False:=yF;have e14c:((K:Int) != 14)=true:=(by rw[bne_iff_ne];omega);have e14d:(K=14)=False:=yF;have e15a:((K:Int)==15)=false:=yB;have e15b:((K:Int)=15)=False:=yF;have e15c:((K:Int) != 15)=true:=by rw[bne_iff_ne];omega
  have e15d:(K=15)=False:=yF;clear hother;obtain rfl:R=false:=(by rw[HR.out];simp[e14d,e15d]);go_wp2;go_ret;exact⟨rfl,HB.out⟩
 ·have hw:K=14∨K=15:=(by omega);clear hother;rcases hw with rfl|rfl
  iterate 2
   ·simp only[Int.cast_ofNat_Int] at s0;cases hx:(Ck.labels row).contains S with
    | true =>
     obtain rfl:R=false:=(by rw[HR.out];dsimp only;rw[hx];simp);have LK1:=LK.out;rw[hx] at LK1;clear hx;go_wp2;go_ret;exact⟨rfl,HB.out⟩
    | false =>
     obtain rfl:R=true:=(by rw[HR.out];dsimp only;rw[hx];simp);have LK1:=LK.out;rw[hx] at LK1;clear hx;go_wp2;go_ret;exact⟨rfl,HB.out⟩
theorem codesR_any (h:CK w ao N cap m1 m2 row) {k:Nat} {st:Ps.St} (hk:row[k]?=some st) :
  Calls Tryz.prog 69 #[.agg #[.int .i64 (md:Int),.slice ao N cap,.map (some m1),.map (some m2)],.int .i64 (k:Int)] w fun e w'=>e = .returned (.bool (!(Ck.codesOf st).all (Ln.codes (md:Int))))∧Below w.heap.size w w':=by
 obtain⟨R,hR⟩:∃ R:Bool,R=(!(Ck.codesOf st).all (Ln.codes (md:Int))):=⟨_,rfl⟩;rw[←hR];obtain⟨g,lo,lc,mo,mc,T,U,q,rfl,hq,hT,hU,hTs,hkN,hNr,hbU,hKT,hK,hS,c8,rl,hC⟩:=ck_enter (md:=md) h hk;have hsm:=h.neat.sm st (List.mem_of_getElem? hk);have hll:=h.neat.ll st (List.mem_of_getElem? hk);have hN1:N≤100:=(by rw[hNr];exact h.neat.few);obtain⟨K,S,TX,UX,n0,p0,L,M⟩:=st;obtain⟨LL,hLL⟩:∃ x,L.length=x:=⟨_,rfl⟩
 obtain⟨LM,hLM⟩:∃ x,M.length=x:=⟨_,rfl⟩;dsimp only at hU rl hsm hll;rw[hLL,hLM] at hU;rw[hLL] at rl;unfold Ps.Sm at hsm;dsimp only at hsm;have k1:=hKT.c1;have d0:T.cell? ⟨g,k*8,none⟩=some (.int .i64 (K:Int)):=c8.c0;have d1:T.cell? ⟨g,k*8+1,none⟩=some (.string ⟨S.toArray⟩):=c8.c1;have d2:T.cell? ⟨g,k*8+2,none⟩=some (.string ⟨TX.toArray⟩):=c8.c2;have d3:T.cell? ⟨g,k*8+3,none⟩=some (.string ⟨UX.toArray⟩):=c8.c3
 have d4:T.cell? ⟨g,k*8+4,none⟩=some (.int .i64 (n0:Int)):=c8.c4;have d5:T.cell? ⟨g,k*8+5,none⟩=some (.int .i64 (p0:Int)):=c8.c5;have d6:T.cell? ⟨g,k*8+6,none⟩=some (.slice lo LL lc):=(by rw[←hLL];exact c8.c6);have d7:T.cell? ⟨g,k*8+7,none⟩=some (.slice mo LM mc):=(by rw[←hLM];exact c8.c7);have kk:(k:Int)<(N:Int):=(by omega);have HT:=yH hT;have HU:=yH hU;have HQ:=yH hq;have HB:=yH hbU
 have HSZ:=yH (show q≤U.heap.size by rw[←hq];exact hbU.size);have HK:=yH hK;have HC:=yH hC;have HRL:=yH rl;have HSM:=yH (⟨hsm,hll,hLL⟩:_∧_∧_);have HR:=yH hR;have s0:U.cell? ⟨q+1,0,none⟩=some (.int .i64 (K:Int)):=hS.c0;have s1:U.cell? ⟨q+1,1,none⟩=some (.string ⟨S.toArray⟩):=hS.c1;have s2:U.cell? ⟨q+1,2,none⟩=some (.string ⟨TX.toArray⟩):=hS.c2
 have s3:U.cell? ⟨q+1,3,none⟩=some (.string ⟨UX.toArray⟩):=hS.c3;have s4:U.cell? ⟨q+1,4,none⟩=some (.int .i64 (n0:Int)):=hS.c4;have s6:U.cell? ⟨q+1,6,none⟩=some (.slice lo LL lc):=(by rw[←hLL];exact hS.c6);have q0:=hK.c0;have q1:=hK.c1;have q2:=hK.c2;have q3:=hK.c3;clear hT hU hbU hK hKT hS hC rl c8 h hk hsm hll hLL hLM hNr hR;rw[hq];clear hq;go_enter Tryz.func69,Tryz.ntmps69;go_upto_region 1 with fail
 rw[HT.out,HQ.out];go_upto_region 2 with fail
 rw[HU.out];clear k1 d0 d1 d2 d3 d4 d5 d6 d7 HT HU HQ hTs;by_cases hother:K≠2∧K≠3∧K≠4∧K≠8∧K≠5∧K≠9
 ·have e2a:((K:Int)==2)=false:=yB;have e2b:((K:Int)=2)=False:=yF;have e2c:((K:Int) != 2)=true:=(by rw[bne_iff_ne];omega);have e2d:(K=2)=False:=yF;have e3a:((K:Int)==3)=false:=yB;have e3b:((K:Int)=3)=False:=yF;have e3c:((K:Int) != 3)=true:=(by rw[bne_iff_ne];omega);have e3d:(K=3)=False:=yF
  have e4a:((K:Int)==4)=false:=yB;have e4b:((K:Int)=4)=False:=yF;have e4c:((K:Int) != 4)=true:=(by rw[bne_iff_ne];omega);have e4d:(K=4)=False:=yF;have e8a:((K:Int)==8)=false:=yB;have e8b:((K:Int)=8)=False:=yF;have e8c:((K:Int) != 8)=true:=(by rw[bne_iff_ne];omega);have e8d:(K=8)=False:=yF
  have e5a:((K:Int)==5)=false:=yB;have e5b:((K:Int)=5)=False:=yF;have e5c:((K:Int) != 5)=true:=(by rw[bne_iff_ne];omega);have e5d:(K=5)=False:=yF;have e9a:((K:Int)==9)=false:=yB;have e9b:((K:Int)=9)=False:=yF;have e9c:((K:Int) != 9)=true:=(by rw[bne_iff_ne];omega);have e9d:(K=9)=False:=yF
  clear hother;obtain rfl:R=false:=(by rw[HR.out];simp[Ck.codesOf,e2d,e3d,e4d,e8d,e5d,e9d]);go_wp2;go_ret;exact⟨rfl,HB.out⟩
 ·have hw:K=2∨K=3∨K=4∨K=8∨K=5∨K=9:=(by omega);clear hother;rcases hw with rfl|rfl|rfl|rfl|rfl|rfl
  iterate 4
   ·simp only[Int.cast_ofNat_Int] at s0;have CD:Calls Tryz.prog 98 #[.int .i64 (md:Int),.string ⟨TX.toArray⟩] U fun e w'=>e = .returned (.bool (Ln.codes (md:Int) TX))∧Below U.heap.size U w':=codes_any (md:Int) TX (by have:=HSM.out.1;omega) U;cases hb:Ln.codes (md:Int) TX with
    | true =>
     rw[hb] at CD;obtain rfl:R=false:=(by rw[HR.out];simp[Ck.codesOf,hb]);clear hb;go_wp2_with fail
     refine CD.mono ?_;rintro e w' ⟨rfl,hb⟩;have HB2:=yH (HB.out.trans (hb.mono HSZ.out));clear hb;go_wp2;go_ret;exact⟨rfl,HB2.out⟩
    | false =>
     rw[hb] at CD;obtain rfl:R=true:=(by rw[HR.out];simp[Ck.codesOf,hb]);clear hb;go_wp2_with fail
     refine CD.mono ?_;rintro e w' ⟨rfl,hb⟩;have HB2:=yH (HB.out.trans (hb.mono HSZ.out));clear hb;go_wp2;go_ret;exact⟨rfl,HB2.out⟩
  ·replace s0:U.cell? ⟨q+1,0,none⟩=some (.int .i64 5):=s0;by_cases h1:S=Ps.wCode
   ·have t1:(S==[99,111,100,101])=true:=beq_iff_eq.2 h1;have CD:Calls Tryz.prog 98 #[.int .i64 (md:Int),.string ⟨TX.toArray⟩] U fun e w'=>e = .returned (.bool (Ln.codes (md:Int) TX))∧Below U.heap.size U w':=codes_any (md:Int) TX (by have:=HSM.out.1;omega) U;cases hb:Ln.codes (md:Int) TX with
    | true =>
     rw[hb] at CD;obtain rfl:R=false:=(by rw[HR.out];simp[Ck.codesOf,hb,h1]);clear hb h1;go_wp2_with fail
     refine CD.mono ?_;rintro e w' ⟨rfl,hb⟩;have HB2:=yH (HB.out.trans (hb.mono HSZ.out));clear hb;go_wp2;go_ret;exact⟨rfl,HB2.out⟩
    | false =>
     rw[hb] at CD;obtain rfl:R=true:=(by rw[HR.out];simp[Ck.codesOf,hb,h1]);clear hb h1;go_wp2_with fail
     refine CD.mono ?_;rintro e w' ⟨rfl,hb⟩;have HB2:=yH (HB.out.trans (hb.mono HSZ.out));clear hb;go_wp2;go_ret;exact⟨rfl,HB2.out⟩
   have t1:(S==[99,111,100,101])=false:=yB h1;obtain rfl:R=false:=(by rw[HR.out];simp[Ck.codesOf,h1]);clear h1;go_wp2;go_ret;exact⟨rfl,HB.out⟩
  ·replace s0:U.cell? ⟨q+1,0,none⟩=some (.int .i64 9):=s0;have CD:Calls Tryz.prog 98 #[.int .i64 (md:Int),.string ⟨UX.toArray⟩] U fun e w'=>e = .returned (.bool (Ln.codes (md:Int) UX))∧Below U.heap.size U w':=codes_any (md:Int) UX (by have:=HSM.out.1;omega) U;cases hb:Ln.codes (md:Int) UX with
   | true =>
    rw[hb] at CD;obtain rfl:R=false:=(by rw[HR.out];simp[Ck.codesOf,hb]);clear hb;go_wp2_with fail
    refine CD.mono ?_;rintro e w' ⟨rfl,hb⟩;have HB2:=yH (HB.out.trans (hb.mono HSZ.out));clear hb;go_wp2;go_ret;exact⟨rfl,HB2.out⟩
   | false =>
    rw[hb] at CD;obtain rfl:R=true:=(by rw[HR.out];simp[Ck.codesOf,hb]);clear hb;go_wp2_with fail
    refine CD.mono ?_;rintro e w' ⟨rfl,hb⟩;have HB2:=yH (HB.out.trans (hb.mono HSZ.out));clear hb;go_wp2;go_ret;exact⟨rfl,HB2.out⟩
theorem modeR_any (h:CK w ao N cap m1 m2 row) {k:Nat} {st:Ps.St} (hk:row[k]?=some st) :
  Calls Tryz.prog 67 #[.agg #[.int .i64 (md:Int),.slice ao N cap,.map (some m1),.map (some m2)],.int .i64 (k:Int)] w fun e w'=>e = .returned (.bool (!Ck.modeOk md row st))∧Below w.heap.size w w':=by
 obtain⟨R,hR⟩:∃ R:Bool,R=(!Ck.modeOk md row st):=⟨_,rfl⟩;rw[←hR];obtain⟨g,lo,lc,mo,mc,T,U,q,rfl,hq,hT,hU,hTs,hkN,hNr,hbU,hKT,hK,hS,c8,rl,hC⟩:=ck_enter (md:=md) h hk;have hsm:=h.neat.sm st (List.mem_of_getElem? hk);have hll:=h.neat.ll st (List.mem_of_getElem? hk);have hN1:N≤100:=(by rw[hNr];exact h.neat.few);obtain⟨K,S,TX,UX,n0,p0,L,M⟩:=st;obtain⟨LL,hLL⟩:∃ x,L.length=x:=⟨_,rfl⟩
 obtain⟨LM,hLM⟩:∃ x,M.length=x:=⟨_,rfl⟩;dsimp only at hU rl hsm hll;rw[hLL,hLM] at hU;rw[hLL] at rl;unfold Ps.Sm at hsm;dsimp only at hsm;have k1:=hKT.c1;have d0:T.cell? ⟨g,k*8,none⟩=some (.int .i64 (K:Int)):=c8.c0;have d1:T.cell? ⟨g,k*8+1,none⟩=some (.string ⟨S.toArray⟩):=c8.c1;have d2:T.cell? ⟨g,k*8+2,none⟩=some (.string ⟨TX.toArray⟩):=c8.c2;have d3:T.cell? ⟨g,k*8+3,none⟩=some (.string ⟨UX.toArray⟩):=c8.c3
 have d4:T.cell? ⟨g,k*8+4,none⟩=some (.int .i64 (n0:Int)):=c8.c4;have d5:T.cell? ⟨g,k*8+5,none⟩=some (.int .i64 (p0:Int)):=c8.c5;have d6:T.cell? ⟨g,k*8+6,none⟩=some (.slice lo LL lc):=(by rw[←hLL];exact c8.c6);have d7:T.cell? ⟨g,k*8+7,none⟩=some (.slice mo LM mc):=(by rw[←hLM];exact c8.c7);have kk:(k:Int)<(N:Int):=(by omega);have HT:=yH hT;have HU:=yH hU;have HQ:=yH hq;have HB:=yH hbU
 have HSZ:=yH (show q≤U.heap.size by rw[←hq];exact hbU.size);have HK:=yH hK;have HC:=yH hC;have HRL:=yH rl;have HSM:=yH (⟨hsm,hll,hLL⟩:_∧_∧_);have HR:=yH hR;have s0:U.cell? ⟨q+1,0,none⟩=some (.int .i64 (K:Int)):=hS.c0;have s1:U.cell? ⟨q+1,1,none⟩=some (.string ⟨S.toArray⟩):=hS.c1;have s2:U.cell? ⟨q+1,2,none⟩=some (.string ⟨TX.toArray⟩):=hS.c2
 have s3:U.cell? ⟨q+1,3,none⟩=some (.string ⟨UX.toArray⟩):=hS.c3;have s4:U.cell? ⟨q+1,4,none⟩=some (.int .i64 (n0:Int)):=hS.c4;have s6:U.cell? ⟨q+1,6,none⟩=some (.slice lo LL lc):=(by rw[←hLL];exact hS.c6);have q0:=hK.c0;have q1:=hK.c1;have q2:=hK.c2;have q3:=hK.c3;clear hT hU hbU hK hKT hS hC rl c8 h hk hsm hll hLL hLM hNr hR;rw[hq];clear hq;go_enter Tryz.func67,Tryz.ntmps67;go_upto_region 1 with fail
 rw[HT.out,HQ.out];go_upto_region 2 with fail
 rw[HU.out];clear k1 d0 d1 d2 d3 d4 d5 d6 d7 HT HU HQ hTs;by_cases hother:K≠8∧K≠9∧K≠10∧K≠11∧K≠7∧K≠6
 ·have e8a:((K:Int)==8)=false:=yB;have e8b:((K:Int)=8)=False:=yF;have e8c:((K:Int) != 8)=true:=(by rw[bne_iff_ne];omega);have e8d:(K=8)=False:=yF;have e9a:((K:Int)==9)=false:=yB;have e9b:((K:Int)=9)=False:=yF;have e9c:((K:Int) != 9)=true:=(by rw[bne_iff_ne];omega);have e9d:(K=9)=False:=yF
  have e10a:((K:Int)==10)=false:=yB;have e10b:((K:Int)=10)=False:=yF;have e10c:((K:Int) != 10)=true:=(by rw[bne_iff_ne];omega);have e10d:(K=10)=False:=yF;have e11a:((K:Int)==11)=false:=yB;have e11b:((K:Int)=11)=False:=yF;have e11c:((K:Int) != 11)=true:=by rw[bne_iff_ne];omega
  have e11d:(K=11)=False:=yF;have e7a:((K:Int)==7)=false:=yB;have e7b:((K:Int)=7)=False:=yF;have e7c:((K:Int) != 7)=true:=(by rw[bne_iff_ne];omega);have e7d:(K=7)=False:=yF;have e6a:((K:Int)==6)=false:=yB;have e6b:((K:Int)=6)=False:=yF;have e6c:((K:Int) != 6)=true:=by rw[bne_iff_ne];omega
  have e6d:(K=6)=False:=yF;clear hother;obtain rfl:R=false:=(by rw[HR.out];simp[Ck.modeOk,e8d,e9d,e10d,e11d,e7d,e6d]);go_wp2;go_ret;exact⟨rfl,HB.out⟩
 ·have hw:K=8∨K=9∨K=10∨K=11∨K=7∨K=6:=(by omega);clear hother;rcases hw with rfl|rfl|rfl|rfl|rfl|rfl
  ·replace s0:U.cell? ⟨q+1,0,none⟩=some (.int .i64 8):=s0;by_cases hm:md=1
   ·have g3:((md:Int)=1)=True:=yT;have g1:((md:Int) != 1)=false:=(by rw[show (md:Int)=1 by omega];rfl);have g2:((md:Int)==1)=true:=beq_iff_eq.2 (by omega);obtain rfl:R=false:=(by rw[HR.out];simp[Ck.modeOk,hm]);clear hm;go_wp2;go_ret;exact⟨rfl,HB.out⟩
   have e1a:((md:Int)==1)=false:=yB;have e1b:((md:Int)=1)=False:=yF;have e1c:((md:Int) != 1)=true:=(by rw[bne_iff_ne];omega);have e1d:(md=1)=False:=yF;obtain rfl:R=true:=(by rw[HR.out];simp[Ck.modeOk,hm]);clear hm;go_wp2;go_ret;exact⟨rfl,HB.out⟩
  ·replace s0:U.cell? ⟨q+1,0,none⟩=some (.int .i64 9):=s0;by_cases hm:md=2
   ·have g3:((md:Int)=2)=True:=yT;have g1:((md:Int) != 2)=false:=(by rw[show (md:Int)=2 by omega];rfl);have g2:((md:Int)==2)=true:=beq_iff_eq.2 (by omega);obtain rfl:R=false:=(by rw[HR.out];simp[Ck.modeOk,hm]);clear hm;go_wp2;go_ret;exact⟨rfl,HB.out⟩
   have e2a:((md:Int)==2)=false:=yB;have e2b:((md:Int)=2)=False:=yF;have e2c:((md:Int) != 2)=true:=(by rw[bne_iff_ne];omega);have e2d:(md=2)=False:=yF;obtain rfl:R=true:=(by rw[HR.out];simp[Ck.modeOk,hm]);clear hm;go_wp2;go_ret;exact⟨rfl,HB.out⟩
  iterate 2
   ·simp only[Int.cast_ofNat_Int] at s0;by_cases hm:md=3
    ·have g3:((md:Int)=3)=True:=yT;have g1:((md:Int) != 3)=false:=(by rw[show (md:Int)=3 by omega];rfl);have g2:((md:Int)==3)=true:=beq_iff_eq.2 (by omega);obtain rfl:R=false:=(by rw[HR.out];simp[Ck.modeOk,hm]);clear hm;go_wp2;go_ret;exact⟨rfl,HB.out⟩
    have e3a:((md:Int)==3)=false:=yB;have e3b:((md:Int)=3)=False:=yF;have e3c:((md:Int) != 3)=true:=(by rw[bne_iff_ne];omega);have e3d:(md=3)=False:=yF;obtain rfl:R=true:=(by rw[HR.out];simp[Ck.modeOk,hm]);clear hm;go_wp2;go_ret;exact⟨rfl,HB.out⟩
  ·replace s0:U.cell? ⟨q+1,0,none⟩=some (.int .i64 7):=s0;by_cases hm:md=3
   ·have g3:((md:Int)=3)=True:=yT;have g1:((md:Int) != 3)=false:=(by rw[show (md:Int)=3 by omega];rfl);have g2:((md:Int)==3)=true:=beq_iff_eq.2 (by omega);obtain rfl:R=true:=(by rw[HR.out];simp[Ck.modeOk,hm]);clear hm;go_wp2;go_ret;exact⟨rfl,HB.out⟩
   have e3a:((md:Int)==3)=false:=yB;have e3b:((md:Int)=3)=False:=yF;have e3c:((md:Int) != 3)=true:=(by rw[bne_iff_ne];omega);have e3d:(md=3)=False:=yF;have KN:=knows_any (md:=md) (ao:=some ⟨g,0,none⟩) (N:=N) (cap:=cap) (m1:=m1) (m2:=m2) S U;have hmk:Ck.modeOk md row ⟨7,S,TX,UX,n0,p0,L,M⟩=(md != 3 && knowsP md S):=rfl;cases hb:knowsP md S with
   | true =>
    rw[hb] at KN;obtain rfl:R=false:=(by rw[HR.out,hmk,hb];simp[hm]);clear hb hm hmk;go_wp2_with fail
    refine KN.mono ?_;rintro e w' ⟨rfl,hb⟩;have HB2:=yH (HB.out.trans (hb.mono HSZ.out));clear hb;go_wp2;go_ret;exact⟨rfl,HB2.out⟩
   | false =>
    rw[hb] at KN;obtain rfl:R=true:=(by rw[HR.out,hmk,hb];simp);clear hb hm hmk;go_wp2_with fail
    refine KN.mono ?_;rintro e w' ⟨rfl,hb⟩;have HB2:=yH (HB.out.trans (hb.mono HSZ.out));clear hb;go_wp2;go_ret;exact⟨rfl,HB2.out⟩
  ·replace s0:U.cell? ⟨q+1,0,none⟩=some (.int .i64 6):=s0;by_cases hm:md=3
   ·have g3:((md:Int)=3)=True:=yT;have g1:((md:Int) != 3)=false:=(by rw[show (md:Int)=3 by omega];rfl);have g2:((md:Int)==3)=true:=beq_iff_eq.2 (by omega);obtain rfl:R=true:=(by rw[HR.out];simp[Ck.modeOk,hm]);clear hm;go_wp2;go_ret;exact⟨rfl,HB.out⟩
   have e3a:((md:Int)==3)=false:=yB;have e3b:((md:Int)=3)=False:=yF;have e3c:((md:Int) != 3)=true:=(by rw[bne_iff_ne];omega);have e3d:(md=3)=False:=yF;have NS:=containsns_any md (some ⟨g,0,none⟩) N cap m1 m2 (.slice lo LL lc) L (fun x=>!((row.getD x Ck.none').kind==3)) U HRL.out (by have:=HSM.out.2.1;omega) (fun j _ w1 hb=>nosend_any (HC.out.below hb) _)
   have hmk:Ck.modeOk md row ⟨6,S,TX,UX,n0,p0,L,M⟩=(L.all (fun i=>(row.getD i Ck.none').kind==3) && md != 3):=rfl;have hany:L.any (fun x=>!((row.getD x Ck.none').kind==3)) = !L.all (fun i=>(row.getD i Ck.none').kind==3):=(by rw[List.not_all_eq_any_not]);rw[hany] at NS;cases hb:L.all (fun i=>(row.getD i Ck.none').kind==3) with
   | true =>
    rw[hb] at NS;obtain rfl:R=false:=(by rw[HR.out,hmk,hb];simp[hm]);clear hb hm hmk hany;go_wp2_with fail
    refine NS.mono ?_;rintro e w' ⟨rfl,hb⟩;have HB2:=yH (HB.out.trans (hb.mono HSZ.out));clear hb;go_wp2;go_ret;exact⟨rfl,HB2.out⟩
   | false =>
    rw[hb] at NS;obtain rfl:R=true:=(by rw[HR.out,hmk,hb];simp);clear hb hm hmk hany;go_wp2_with fail
    refine NS.mono ?_;rintro e w' ⟨rfl,hb⟩;have HB2:=yH (HB.out.trans (hb.mono HSZ.out));clear hb;go_wp2;go_ret;exact⟨rfl,HB2.out⟩
theorem textR_any (h:CK w ao N cap m1 m2 row) {k:Nat} {st:Ps.St} (hk:row[k]?=some st) :
  Calls Tryz.prog 72 #[.agg #[.int .i64 (md:Int),.slice ao N cap,.map (some m1),.map (some m2)],.int .i64 (k:Int)] w fun e w'=>e = .returned (.bool (!(Ck.textsOf st).all (Ck.known row)))∧Below w.heap.size w w':=by
 obtain⟨R,hR⟩:∃ R:Bool,R=(!(Ck.textsOf st).all (Ck.known row)):=⟨_,rfl⟩;rw[←hR];obtain⟨g,lo,lc,mo,mc,T,U,q,rfl,hq,hT,hU,hTs,hkN,hNr,hbU,hKT,hK,hS,c8,rl,hC⟩:=ck_enter (md:=md) h hk;have hsm:=h.neat.sm st (List.mem_of_getElem? hk);have hll:=h.neat.ll st (List.mem_of_getElem? hk);have hN1:N≤100:=(by rw[hNr];exact h.neat.few);obtain⟨K,S,TX,UX,n0,p0,L,M⟩:=st;obtain⟨LL,hLL⟩:∃ x,L.length=x:=⟨_,rfl⟩
 obtain⟨LM,hLM⟩:∃ x,M.length=x:=⟨_,rfl⟩;dsimp only at hU rl hsm hll;rw[hLL,hLM] at hU;rw[hLL] at rl;unfold Ps.Sm at hsm;dsimp only at hsm;have k1:=hKT.c1;have d0:T.cell? ⟨g,k*8,none⟩=some (.int .i64 (K:Int)):=c8.c0;have d1:T.cell? ⟨g,k*8+1,none⟩=some (.string ⟨S.toArray⟩):=c8.c1;have d2:T.cell? ⟨g,k*8+2,none⟩=some (.string ⟨TX.toArray⟩):=c8.c2;have d3:T.cell? ⟨g,k*8+3,none⟩=some (.string ⟨UX.toArray⟩):=c8.c3
 have d4:T.cell? ⟨g,k*8+4,none⟩=some (.int .i64 (n0:Int)):=c8.c4;have d5:T.cell? ⟨g,k*8+5,none⟩=some (.int .i64 (p0:Int)):=c8.c5;have d6:T.cell? ⟨g,k*8+6,none⟩=some (.slice lo LL lc):=(by rw[←hLL];exact c8.c6);have d7:T.cell? ⟨g,k*8+7,none⟩=some (.slice mo LM mc):=(by rw[←hLM];exact c8.c7);have kk:(k:Int)<(N:Int):=(by omega);have HT:=yH hT;have HU:=yH hU;have HQ:=yH hq;have HB:=yH hbU
 have HSZ:=yH (show q≤U.heap.size by rw[←hq];exact hbU.size);have HK:=yH hK;have HC:=yH hC;have HRL:=yH rl;have HSM:=yH (⟨hsm,hll,hLL⟩:_∧_∧_);have HR:=yH hR;have s0:U.cell? ⟨q+1,0,none⟩=some (.int .i64 (K:Int)):=hS.c0;have s1:U.cell? ⟨q+1,1,none⟩=some (.string ⟨S.toArray⟩):=hS.c1;have s2:U.cell? ⟨q+1,2,none⟩=some (.string ⟨TX.toArray⟩):=hS.c2
 have s3:U.cell? ⟨q+1,3,none⟩=some (.string ⟨UX.toArray⟩):=hS.c3;have s4:U.cell? ⟨q+1,4,none⟩=some (.int .i64 (n0:Int)):=hS.c4;have s6:U.cell? ⟨q+1,6,none⟩=some (.slice lo LL lc):=(by rw[←hLL];exact hS.c6);have q0:=hK.c0;have q1:=hK.c1;have q2:=hK.c2;have q3:=hK.c3;clear hT hU hbU hK hKT hS hC rl c8 h hk hsm hll hLL hLM hNr hR;rw[hq];clear hq;go_enter Tryz.func72,Tryz.ntmps72;go_upto_region 1 with fail
 rw[HT.out,HQ.out];go_upto_region 2 with fail
 rw[HU.out];clear k1 d0 d1 d2 d3 d4 d5 d6 d7 HT HU HQ hTs;by_cases hother:K≠3∧K≠4∧K≠8∧K≠16∧K≠1∧K≠9∧K≠10∧K≠11∧K≠7
 ·have e3a:((K:Int)==3)=false:=yB;have e3b:((K:Int)=3)=False:=yF;have e3c:((K:Int) != 3)=true:=(by rw[bne_iff_ne];omega);have e3d:(K=3)=False:=yF;have e4a:((K:Int)==4)=false:=yB;have e4b:((K:Int)=4)=False:=yF;have e4c:((K:Int) != 4)=true:=(by rw[bne_iff_ne];omega);have e4d:(K=4)=False:=yF
  have e8a:((K:Int)==8)=false:=yB;have e8b:((K:Int)=8)=False:=yF;have e8c:((K:Int) != 8)=true:=(by rw[bne_iff_ne];omega);have e8d:(K=8)=False:=yF;have e16a:((K:Int)==16)=false:=yB;have e16b:((K:Int)=16)=False:=yF;have e16c:((K:Int) != 16)=true:=by rw[bne_iff_ne];omega
  have e16d:(K=16)=False:=yF;have e1a:((K:Int)==1)=false:=yB;have e1b:((K:Int)=1)=False:=yF;have e1c:((K:Int) != 1)=true:=(by rw[bne_iff_ne];omega);have e1d:(K=1)=False:=yF;have e9a:((K:Int)==9)=false:=yB;have e9b:((K:Int)=9)=False:=yF;have e9c:((K:Int) != 9)=true:=by rw[bne_iff_ne];omega
  have e9d:(K=9)=False:=yF;have e10a:((K:Int)==10)=false:=yB;have e10b:((K:Int)=10)=False:=yF;have e10c:((K:Int) != 10)=true:=(by rw[bne_iff_ne];omega);have e10d:(K=10)=False:=yF;have e11a:((K:Int)==11)=false:=yB;have e11b:((K:Int)=11)=False:=yF
  have e11c:((K:Int) != 11)=true:=(by rw[bne_iff_ne];omega);have e11d:(K=11)=False:=yF;have e7a:((K:Int)==7)=false:=yB;have e7b:((K:Int)=7)=False:=yF;have e7c:((K:Int) != 7)=true:=(by rw[bne_iff_ne];omega);have e7d:(K=7)=False:=yF;clear hother;obtain rfl:R=false:=(by rw[HR.out];simp[Ck.textsOf,e3d,e4d,e8d,e16d,e1d,e9d,e10d,e11d,e7d]);go_wp2
  go_ret;exact⟨rfl,HB.out⟩
 ·have hw:K=3∨K=4∨K=8∨K=16∨K=1∨K=9∨K=10∨K=11∨K=7:=(by omega);clear hother;rcases hw with rfl|rfl|rfl|rfl|rfl|rfl|rfl|rfl|rfl
  iterate 4
   ·simp only[Int.cast_ofNat_Int] at s0;obtain⟨V,hV⟩:∃ V,U.alloc (.cells #[.string ⟨S.toArray⟩] 9)=V:=⟨_,rfl⟩;have hbV:Below U.heap.size U V:=by rw[←hV];exact yA
    have hvr:Rd V (.slice (some ⟨U.heap.size,0,none⟩) 1 1) ([S].map sv):=by
     rw[←hV];exact .inr ⟨_,0,1,rfl,yR,by decide,fun j u hj=>by rw[yC (heap_alloc_new U _),Nat.zero_add];simpa [sv] using hj⟩
    have AN:=anyw_any (md:=md) (HC.out.below hbV) (.slice (some ⟨U.heap.size,0,none⟩) 1 1) [S] hvr (by simp) (by intro t ht;simp at ht;have:=HSM.out.1;first|(rcases ht with rfl|rfl <;> omega)|(subst ht;omega))
    have HV:=yH hV;have HSV:=yH hbV.size;have HB3:=yH (HB.out.trans (hbV.mono HSZ.out));have hrs:R = !([S].all (Ck.known row)):=HR.out;generalize [S].all (Ck.known row)=b at AN hrs;subst hrs;clear hV hbV hvr HR;go_wp2_with fail
    rw[HV.out];refine AN.mono ?_;rintro e w' ⟨rfl,hb⟩;have HB2:=yH (HB3.out.trans (hb.mono (Nat.le_trans HSZ.out HSV.out)));clear hb;go_wp2;go_ret;exact⟨rfl,HB2.out⟩
  iterate 3
   ·simp only[Int.cast_ofNat_Int] at s0;obtain⟨V,hV⟩:∃ V,U.alloc (.cells #[.string ⟨TX.toArray⟩] 9)=V:=⟨_,rfl⟩;have hbV:Below U.heap.size U V:=by rw[←hV];exact yA
    have hvr:Rd V (.slice (some ⟨U.heap.size,0,none⟩) 1 1) ([TX].map sv):=by
     rw[←hV];exact .inr ⟨_,0,1,rfl,yR,by decide,fun j u hj=>by rw[yC (heap_alloc_new U _),Nat.zero_add];simpa [sv] using hj⟩
    have AN:=anyw_any (md:=md) (HC.out.below hbV) (.slice (some ⟨U.heap.size,0,none⟩) 1 1) [TX] hvr (by simp) (by intro t ht;simp at ht;have:=HSM.out.1;first|(rcases ht with rfl|rfl <;> omega)|(subst ht;omega))
    have HV:=yH hV;have HSV:=yH hbV.size;have HB3:=yH (HB.out.trans (hbV.mono HSZ.out));have hrs:R = !([TX].all (Ck.known row)):=HR.out;generalize [TX].all (Ck.known row)=b at AN hrs;subst hrs;clear hV hbV hvr HR;go_wp2_with fail
    rw[HV.out];refine AN.mono ?_;rintro e w' ⟨rfl,hb⟩;have HB2:=yH (HB3.out.trans (hb.mono (Nat.le_trans HSZ.out HSV.out)));clear hb;go_wp2;go_ret;exact⟨rfl,HB2.out⟩
  ·replace s0:U.cell? ⟨q+1,0,none⟩=some (.int .i64 11):=s0;obtain⟨V,hV⟩:∃ V,U.alloc (.cells #[.string ⟨S.toArray⟩,.string ⟨TX.toArray⟩] 9)=V:=⟨_,rfl⟩;have hbV:Below U.heap.size U V:=by rw[←hV];exact yA
   have hvr:Rd V (.slice (some ⟨U.heap.size,0,none⟩) 2 2) ([S,TX].map sv):=by
    rw[←hV];exact .inr ⟨_,0,2,rfl,yR,by decide,fun j u hj=>by rw[yC (heap_alloc_new U _),Nat.zero_add];simpa [sv] using hj⟩
   have AN:=anyw_any (md:=md) (HC.out.below hbV) (.slice (some ⟨U.heap.size,0,none⟩) 2 2) [S,TX] hvr (by simp) (by intro t ht;simp at ht;have:=HSM.out.1;first|(rcases ht with rfl|rfl <;> omega)|(subst ht;omega))
   have HV:=yH hV;have HSV:=yH hbV.size;have HB3:=yH (HB.out.trans (hbV.mono HSZ.out));have hrs:R = !([S,TX].all (Ck.known row)):=HR.out;generalize [S,TX].all (Ck.known row)=b at AN hrs;subst hrs;clear hV hbV hvr HR;go_wp2_with fail
   rw[HV.out];refine AN.mono ?_;rintro e w' ⟨rfl,hb⟩;have HB2:=yH (HB3.out.trans (hb.mono (Nat.le_trans HSZ.out HSV.out)));clear hb;go_wp2;go_ret;exact⟨rfl,HB2.out⟩
  ·replace s0:U.cell? ⟨q+1,0,none⟩=some (.int .i64 7):=s0;obtain⟨V,hV⟩:∃ V,U.alloc (.cells #[.string ⟨TX.toArray⟩,.string ⟨UX.toArray⟩] 9)=V:=⟨_,rfl⟩;have hbV:Below U.heap.size U V:=by rw[←hV];exact yA
   have hvr:Rd V (.slice (some ⟨U.heap.size,0,none⟩) 2 2) ([TX,UX].map sv):=by
    rw[←hV];exact .inr ⟨_,0,2,rfl,yR,by decide,fun j u hj=>by rw[yC (heap_alloc_new U _),Nat.zero_add];simpa [sv] using hj⟩
   have AN:=anyw_any (md:=md) (HC.out.below hbV) (.slice (some ⟨U.heap.size,0,none⟩) 2 2) [TX,UX] hvr (by simp) (by intro t ht;simp at ht;have:=HSM.out.1;first|(rcases ht with rfl|rfl <;> omega)|(subst ht;omega))
   have HV:=yH hV;have HSV:=yH hbV.size;have HB3:=yH (HB.out.trans (hbV.mono HSZ.out));have hrs:R = !([TX,UX].all (Ck.known row)):=HR.out;generalize [TX,UX].all (Ck.known row)=b at AN hrs;subst hrs;clear hV hbV hvr HR;go_wp2_with fail
   rw[HV.out];refine AN.mono ?_;rintro e w' ⟨rfl,hb⟩;have HB2:=yH (HB3.out.trans (hb.mono (Nat.le_trans HSZ.out HSV.out)));clear hb;go_wp2;go_ret;exact⟨rfl,HB2.out⟩
end
end Go.Proofs.YtodlhhfcjkjapaaGreatDoor
namespace Go.Proofs.YtodlhhfcjkjapaaGreatDoor
open Go.RowKit
open Ck (fst env addF lookF)
structure Fz (w wr:World) (q:Nat→Bool) (row:List Ps.St) (k:Nat):Prop where
 below:Below w.heap.size w wr
 map:wr.heap[w.heap.size]?=some (.map (entsF (fst q row k)) (fst q row k).length)
theorem fst_next {q:Nat→Bool} {row:List Ps.St} {k:Nat} {st:Ps.St} (h:row[k]?=some st):fst q row (k+1)=addF q (fst q row k) k st:=by
 rw[fst,h]
theorem Fz.keep {w wr w':World} {q:Nat→Bool} {row:List Ps.St} {k:Nat} {st:Ps.St} (h:Fz w wr q row k) (hk:row[k]?=some st) (hb:Below wr.heap.size wr w') (hn:((lookF (fst q row k) st.s).isNone && q st.kind)=false):Fz w w' q row (k+1):=by
 refine⟨h.below.trans (hb.mono h.below.size),?_⟩;rw[fst_next hk,addF,hn];exact(hb.block _ (yD h.map).1).trans h.map
theorem Fz.push {w wr w':World} {q:Nat→Bool} {row:List Ps.St} {k:Nat} {st:Ps.St} (h:Fz w wr q row k) (hk:row[k]?=some st) (hb:Below wr.heap.size wr w') (hn:lookF (fst q row k) st.s=none) (hq:q st.kind=true):Fz w (setF w' w.heap.size (fst q row k++[(st.s,k)])) q row (k+1):=by
 have hlt:w.heap.size<w'.heap.size:=Nat.lt_of_lt_of_le (yD h.map).1 hb.size;have e:fst q row (k+1)=fst q row k++[(st.s,k)]:=(by rw[fst_next hk,addF,hn,hq];rfl);refine⟨setF_below (h.below.trans (hb.mono h.below.size)) yR,?_⟩;rw[e];exact setF_at _ _ _ hlt
theorem firsts_any {w:World} {ao:Option Addr} {N cap:Nat} {row:List Ps.St} (q:Nat→Bool) (kv:Value) (kinds:List Nat) (hq:∀ k,kinds.contains k=q k) (hs:SR w (.slice ao N cap) row) (hne:Ps.Neat row) (hk:Rd w kv (kinds.map nv)) (hl:kinds.length≤1048576) :
  Calls Tryz.prog 39 #[.slice ao N cap,kv] w fun e w'=>e = .returned (.map (some w.heap.size))∧w'.heap[w.heap.size]?=some (.map (entsF (env q row)) (env q row).length)∧Below w.heap.size w w':=by
 have hmm:=@run_makeMap Tryz.prog;have hN:=hs.len;have hN1:N≤100:=(by rw[hN];exact hne.few);obtain⟨W0,hW0⟩:∃ W0,w.alloc (.map #[] 0)=W0:=⟨_,rfl⟩
 have hf0:Fz w W0 q row 0:=by
  refine⟨by rw[←hW0];exact yA,?_⟩;rw[←hW0];exact heap_alloc_new _ _
 have HF0:=yH hf0;have HS:=yH hs;have HK:=yH hk;have HN:=yH hN;have HNE:=yH hne;have HQ:=yH hq;have HL:=yH hl;have HW0:=yH hW0;clear hs hk hN hne hq hl hf0 hW0;go_enter Tryz.func39,Tryz.ntmps39;go_upto_region 2 with fail
 rw[HW0.out];go_wp2;go_loopw [13] (fun i wr=>∃ k:Nat,k≤N∧i = .int .i64 k∧Hid (Fz w wr q row k)) (fun i _=>N-(intOf i).toNat)
 case atStart=>exact⟨0,Nat.zero_le _,rfl,HF0.out⟩
 case round =>
  obtain⟨k,hk,rfl,HF⟩:=hrel;by_cases hlt:k<N
  ·obtain⟨st,hst⟩:∃ st,row[k]?=some st:=⟨_,List.getElem?_eq_getElem (by rw[←HN.out];exact hlt)⟩;obtain⟨g,lo,lc,mo,mc,rfl,_,_,c8⟩:=(HS.out.below HF.out.below).at8 hst;have hsm:=HNE.out.sm st (List.mem_of_getElem? hst);have hmap:=HF.out.map;have KEEP:=yH (fun w' hb hn=>HF.out.keep (w':=w') hst hb hn);have PUSH:=yH (fun w' hb hn hq=>HF.out.push (w':=w') hst hb hn hq);obtain⟨K,S,TX,UX,n0,p0,L,M⟩:=st
   obtain⟨LL,hLL⟩:∃ x,L.length=x:=⟨_,rfl⟩;obtain⟨LM,hLM⟩:∃ x,M.length=x:=⟨_,rfl⟩;unfold Ps.Sm at hsm;dsimp only at hsm KEEP PUSH;have d0:wr.cell? ⟨g,k*8,none⟩=some (.int .i64 (K:Int)):=c8.c0;have d1:wr.cell? ⟨g,k*8+1,none⟩=some (.string ⟨S.toArray⟩):=c8.c1;have d2:wr.cell? ⟨g,k*8+2,none⟩=some (.string ⟨TX.toArray⟩):=c8.c2;have d3:wr.cell? ⟨g,k*8+3,none⟩=some (.string ⟨UX.toArray⟩):=c8.c3
   have d4:wr.cell? ⟨g,k*8+4,none⟩=some (.int .i64 (n0:Int)):=c8.c4;have d5:wr.cell? ⟨g,k*8+5,none⟩=some (.int .i64 (p0:Int)):=c8.c5;have d6:wr.cell? ⟨g,k*8+6,none⟩=some (.slice lo LL lc):=(by rw[←hLL];exact c8.c6);have d7:wr.cell? ⟨g,k*8+7,none⟩=some (.slice mo LM mc):=by rw[←hLM];exact c8.c7
   obtain⟨V,hV⟩:∃ V,wr.alloc (.cells #[.int .i64 (K:Int),.string ⟨S.toArray⟩,.string ⟨TX.toArray⟩,.string ⟨UX.toArray⟩,.int .i64 (n0:Int),.int .i64 (p0:Int),.slice lo LL lc,.slice mo LM mc] 41)=V:=⟨_,rfl⟩;have hbV:Below wr.heap.size wr V:=(by rw[←hV];exact yA);obtain⟨b,hb⟩:∃ b,wr.heap.size=b:=⟨_,rfl⟩
   have hcb:V.heap[b]?=some (.cells #[.int .i64 (K:Int),.string ⟨S.toArray⟩,.string ⟨TX.toArray⟩,.string ⟨UX.toArray⟩,.int .i64 (n0:Int),.int .i64 (p0:Int),.slice lo LL lc,.slice mo LM mc] 41 (0,0)):=(by rw[←hb,←hV];exact heap_alloc_new _ _);have s0:V.cell? ⟨b,0,none⟩=some (.int .i64 (K:Int)):=yC hcb;have s1:V.cell? ⟨b,1,none⟩=some (.string ⟨S.toArray⟩):=yC hcb
   have hmV:=(hbV.block _ (yD hmap).1).trans hmap;have hlk:=look_two hmV S (by omega);have HN1:Calls Tryz.prog 66 #[kv,.int .i64 (K:Int)] V fun e w'=>e = .returned (.bool (kinds.contains K))∧w'=V:=hasn_any kv kinds K V ((HK.out.below HF.out.below).below hbV) HL.out;rw[HQ.out] at HN1;have HUP:=yH (fun hn=>upd_push hmV S k (by omega) hn);have HBV:=yH hbV;have HV:=yH hV;have HBB:=yH hb
   clear hmap hst hLL hLM c8 hcb hmV hbV hV hb;go_upto_region 5 with fail
   rw[HV.out,HBB.out];clear d0 d1 d2 d3 d4 d5 d6 d7 HV HBB;cases hl:lookF (fst q row k) S with
   | some p =>
    rw[hl] at hlk;replace hlk:(Instr.lookup 77 (.map (some w.heap.size)) (.string ⟨S.toArray⟩) true).run Tryz.prog V = .ok (.tuple #[.int .i64 (p:Int),.bool true]) V:=hlk;have HR:=yH (KEEP.out V HBV.out (by rw[hl];rfl));clear hl KEEP PUSH HUP;go_wp2;go_roundw
    case rel=>exact⟨k+1,by omega,by go_num,HR.out⟩
    case measure=>simp[intOf];omega
   | none =>
    rw[hl] at hlk;replace hlk:(Instr.lookup 77 (.map (some w.heap.size)) (.string ⟨S.toArray⟩) true).run Tryz.prog V = .ok (.tuple #[.int .i64 0,.bool false]) V:=hlk;cases hqk:q K with
    | false =>
     rw[hqk] at HN1;have HR:=yH (KEEP.out V HBV.out (by rw[hqk,Bool.and_false]));clear hl hqk KEEP PUSH HUP;go_wp2_with fail
     refine HN1.mono ?_;rintro e w2 ⟨rfl,hw⟩;obtain rfl:=hw.symm;clear hw HN1;go_wp2;go_roundw
     case rel=>exact⟨k+1,by omega,by go_num,HR.out⟩
     case measure=>simp[intOf];omega
    | true =>
     rw[hqk] at HN1;have HR:=yH (PUSH.out V HBV.out hl hqk);have hup:=HUP.out hl;clear hl hqk KEEP PUSH HUP;go_wp2_with fail
     refine HN1.mono ?_;rintro e w2 ⟨rfl,hw⟩;obtain rfl:=hw.symm;clear hw HN1;go_wp2;go_roundw
     case rel=>exact⟨k+1,by omega,by go_num,HR.out⟩
     case measure=>simp[intOf];omega
  ·obtain rfl:k=N:=by omega
   have HR:=yH (show wr.heap[w.heap.size]?=some (.map (entsF (env q row)) (env q row).length) by
    have:=HF.out.map;rw[HN.out] at this;exact this)
   have HB:=yH HF.out.below;go_wp2;go_ret;exact⟨rfl,HR.out,HB.out⟩
end Go.Proofs.YtodlhhfcjkjapaaGreatDoor
namespace Go.Proofs.YtodlhhfcjkjapaaGreatDoor
open Go.RowKit
def rulesC (c:Value):Array Value:=#[.int .i64 30,.func (.func 67) #[c] #[],.int .i64 1,.func (.func 68) #[c] #[],.int .i64 34,.func (.func 69) #[c] #[],
 .int .i64 31,.func (.func 70) #[c] #[],.int .i64 33,.func (.func 71) #[c] #[],.int .i64 32,.func (.func 72) #[c] #[]]
theorem rules_any (w:World) (md:Nat) (ao:Option Addr) (N cap m1 m2:Nat) :
  Calls Tryz.prog 40 #[.agg #[.int .i64 (md:Int),.slice ao N cap,.map (some m1),.map (some m2)]] w fun e w' =>
   e = .returned (.slice (some ⟨w.heap.size+1,0,none⟩) 6 6)∧w'.heap[w.heap.size+1]?=some (.cells (rulesC (.agg #[.int .i64 (md:Int),.slice ao N cap,.map (some m1),.map (some m2)])) 85 (0,0))∧Below w.heap.size w w':=by
 have hmf:∀ (fn:Fn) (first cap:Array Value) (w:World),(Instr.makeFunc fn first cap).run Tryz.prog w = .ok (.func fn first cap) w:=fun _ _ _ _=>rfl
 go_enter Tryz.func40,Tryz.ntmps40;go_wp2;have h:=heap_alloc_new (w.alloc (.cells #[.int .i64 (md:Int),.slice ao N cap,.map (some m1),.map (some m2)] 80)) (.cells (rulesC (.agg #[.int .i64 (md:Int),.slice ao N cap,.map (some m1),.map (some m2)])) 85);rw[World.size_alloc] at h
 have hb:=((Below.refl w.heap.size w).alloc yR (.cells #[.int .i64 (md:Int),.slice ao N cap,.map (some m1),.map (some m2)] 80)).alloc (by simp) (.cells (rulesC (.agg #[.int .i64 (md:Int),.slice ao N cap,.map (some m1),.map (some m2)])) 85);go_ret;exact⟨rfl,h,hb⟩
end Go.Proofs.YtodlhhfcjkjapaaGreatDoor
namespace Go.Proofs.YtodlhhfcjkjapaaGreatDoor
open Go.RowKit
open Ck (kLabel kSet env)
section
variable {P:Program} {ops:Array Oper} {Q:Exit→Act→World→Prop} {md:Region.Mode} {S:World→Prop}
theorem heldThree {i j l:Nat} {oi oj ol:Oper} {r r' r'':List Oper} {fuel:Nat} {listed:Array Bool} {a:Act} {w:World} (hi:ops.toList.drop i=oi :: r) (hj:ops.toList.drop j=oj :: r') (hl:ops.toList.drop l=ol :: r'')
  (hr:Region.ready md ops listed=[i,j,l]) (hwi:Region.wanted oi (yielded ops a.tmps)=true) (hwj:Region.wanted oj (yielded ops a.tmps)=true) (hwl:Region.wanted ol (yielded ops a.tmps)=true)
  (h:∀ K:Act→World→Prop,Hid (∀ a w,S w→wpAnyH P md ops Q S fuel (listed.setIfInBounds i true) a w→K a w)→Oper.wp P oi a w K Q)
  (h':∀ K:Act→World→Prop,Hid (∀ a w,S w→wpAnyH P md ops Q S fuel (listed.setIfInBounds j true) a w→K a w)→Oper.wp P oj a w K Q)
  (h'':∀ K:Act→World→Prop,Hid (∀ a w,S w→wpAnyH P md ops Q S fuel (listed.setIfInBounds l true) a w→K a w)→Oper.wp P ol a w K Q):wpAnyH P md ops Q S (fuel+1) listed a w:=by
 refine wpAnyH_ready hr (by simp) (AllReadyH.cons (heldAt hi) (fun K hK=>?_) (AllReadyH.cons (heldAt hj) (fun K hK=>?_) (AllReadyH.cons (heldAt hl) (fun K hK=>?_) AllReadyH.nil)))
 ·rw[if_pos hwi];exact h K (show Hid _ from fun a w hS hW=>hK.out a w hS (fun _=>hW))
 ·rw[if_pos hwj];exact h' K (show Hid _ from fun a w hS hW=>hK.out a w hS (fun _=>hW))
 ·rw[if_pos hwl];exact h'' K (show Hid _ from fun a w hS hW=>hK.out a w hS (fun _=>hW))
end
section
variable {T W W2:World}
theorem upB (o:Obj) (h:Hid (Below T.heap.size T W)):Hid (Below T.heap.size T (W.alloc o)):=h.out.alloc h.out.size o
theorem upR (o:Obj) {v:Value} {vs:List Value} (h:Hid (Rd W v vs)):Hid (Rd (W.alloc o) v vs):=h.out.below ((Below.refl _ _).alloc yR o)
theorem upH (o:Obj) {m:Nat} {x:Obj} (h:Hid (W.heap[m]?=some x)):Hid ((W.alloc o).heap[m]?=some x):=(Below.heap_alloc _ _ _ (yD h.out).1).trans h.out
theorem upZ (o:Obj) {m:Nat} {x:Obj} (h:Hid (W.heap[m]?=some x∧T.heap.size≤m)):Hid ((W.alloc o).heap[m]?=some x∧T.heap.size≤m):=⟨(Below.heap_alloc _ _ _ (yD h.out.1).1).trans h.out.1,h.out.2⟩
theorem nwR (ks:List Nat) (n:Nat) (hn:n=ks.length) (hl:n≤1000) (_h:Hid (Below T.heap.size T W)):Hid (Rd (W.alloc (.cells (ks.map nv).toArray 3)) (.slice (some ⟨W.heap.size,0,none⟩) n n) (ks.map nv)) :=
 .inr ⟨_,0,n,by rw[List.length_map,hn],by rw[List.length_map];omega,by unfold maxLen;omega,fun j u hj=>by rw[yC (heap_alloc_new W _),Nat.zero_add];simpa using hj⟩
theorem nwZ (o:Obj) (h:Hid (Below T.heap.size T W)):Hid ((W.alloc o).heap[W.heap.size]?=some o∧T.heap.size≤W.heap.size):=⟨heap_alloc_new _ _,h.out.size⟩
theorem cB (h:Hid (Below T.heap.size T W)) (hb:Below W.heap.size W W2):Hid (Below T.heap.size T W2):=h.out.trans (hb.mono h.out.size)
theorem cR {v:Value} {vs:List Value} (h:Hid (Rd W v vs)) (hb:Below W.heap.size W W2):Hid (Rd W2 v vs):=h.out.below hb
theorem cH {m:Nat} {x:Obj} (h:Hid (W.heap[m]?=some x)) (hb:Below W.heap.size W W2):Hid (W2.heap[m]?=some x):=(hb.block _ (yD h.out).1).trans h.out
theorem cZ {m:Nat} {x:Obj} (h:Hid (W.heap[m]?=some x∧T.heap.size≤m)) (hb:Below W.heap.size W W2):Hid (W2.heap[m]?=some x∧T.heap.size≤m):=⟨(hb.block _ (yD h.out.1).1).trans h.out.1,h.out.2⟩
theorem Ck.kLabel_eq (k:Nat):[13].contains k=kLabel k:=by rw[Bool.eq_iff_iff];simp[kLabel]
theorem Ck.kSet_eq (k:Nat):[1,9,10].contains k=kSet k:=by rw[Bool.eq_iff_iff];simp[kSet,or_assoc]
def ZK:Obj:=.cells #[.int .i64 0,.slice none 0 0,.map none,.map none] 80 (0,0)
theorem zcells {m:Nat} (h:Hid (W.heap[m]?=some ZK∧T.heap.size≤m)):W.cell? ⟨m,0,none⟩=some (.int .i64 0)∧W.cell? ⟨m,1,none⟩=some (.slice none 0 0)∧W.cell? ⟨m,2,none⟩=some (.map none)∧W.cell? ⟨m,3,none⟩=some (.map none) ∧ ∀ i,W.frozen? ⟨m,i,none⟩=false :=
 ⟨yC h.out.1,yC h.out.1,yC h.out.1,yC h.out.1,fun _=>yZ h.out.1⟩
def PGd (T W:World) (q md:Nat) (ao:Option Addr) (N cap m1 m2:Nat) (row:List Ps.St):Prop:=Below T.heap.size T W∧KB W q md ao N cap m1 m2∧CK W ao N cap m1 m2 row
theorem pg_of {q md:Nat} {ao:Option Addr} {N cap m1 m2:Nat} {row:List Ps.St} (hs:SR T (.slice ao N cap) row) (hn:Ps.Neat row) (h:Below T.heap.size T W) (hk:KB W q md ao N cap m1 m2) (h1:W.heap[m1]?=some (.map (entsF (env kLabel row)) (env kLabel row).length)) (h2:W.heap[m2]?=some (.map (entsF (env kSet row)) (env kSet row).length)):PGd T W q md ao N cap m1 m2 row :=
 ⟨h,hk,hs.below h,h1,h2,hn⟩
theorem pg_merged {md:Nat} {ao:Option Addr} {N cap m1 m2:Nat} {row:List Ps.St} (hs:Hid (SR T (.slice ao N cap) row)) (hn:Hid (Ps.Neat row)) (h:Hid (Below T.heap.size T W)) (h1:Hid (W.heap[m1]?=some (.map (entsF (env kLabel row)) (env kLabel row).length))) (h2:Hid (W.heap[m2]?=some (.map (entsF (env kSet row)) (env kSet row).length))) :
  PGd T (W.alloc (.cells #[.int .i64 (md:Int),.slice ao N cap,.map (some m1),.map (some m2)] 80)) W.heap.size md ao N cap m1 m2 row :=
 pg_of hs.out hn.out (upB _ h).out (heap_alloc_new _ _) (upH _ h1).out (upH _ h2).out
theorem pg_stored {q md:Nat} {ao:Option Addr} {N cap m1 m2:Nat} {row:List Ps.St} (hs:Hid (SR T (.slice ao N cap) row)) (hn:Hid (Ps.Neat row)) (h:Hid (Below T.heap.size T W)) (hz:Hid (W.heap[q]?=some ZK∧T.heap.size≤q)) (h1:Hid (W.heap[m1]?=some (.map (entsF (env kLabel row)) (env kLabel row).length))) (h2:Hid (W.heap[m2]?=some (.map (entsF (env kSet row)) (env kSet row).length))) :
  PGd T ((((W.setCell ⟨q,0,none⟩ (.int .i64 (md:Int))).setCell ⟨q,1,none⟩ (.slice ao N cap)).setCell ⟨q,2,none⟩ (.map (some m1))).setCell ⟨q,3,none⟩ (.map (some m2))) q md ao N cap m1 m2 row:=by
 have hz1:=hz.out.1;have e1:m1≠q:=fun e=>by have:=h1.out;rw[e,hz1] at this;cases this
 have e2:m2≠q:=fun e=>by have:=h2.out;rw[e,hz1] at this;cases this
 have hk:=setN_heap [.int .i64 (md:Int),.slice ao N cap,.map (some m1),.map (some m2)] [] [.int .i64 0,.slice none 0 0,.map none,.map none] W hz1 rfl;have hb:=below_setN q [.int .i64 (md:Int),.slice ao N cap,.map (some m1),.map (some m2)] 0 hz.out.2 h.out;have g1:=(setN_other e1 [.int .i64 (md:Int),.slice ao N cap,.map (some m1),.map (some m2)] 0 (w:=W)).trans h1.out
 have g2:=(setN_other e2 [.int .i64 (md:Int),.slice ao N cap,.map (some m1),.map (some m2)] 0 (w:=W)).trans h2.out;exact pg_of hs.out hn.out hb hk g1 g2
end
theorem run_store_fn (P:Program) (w:World) (a:Addr) (m:Go.Mode) (f:Fn) (x y:Array Value):(store a (.func f x y) m).run P w=stored P w a (.func f x y) m:=run_store P w a _ m rfl
attribute [local go_sem] run_store_fn
theorem prog_any {w:World} {ao uo:Option Addr} {N cap un uc:Nat} {row:List Ps.St} (md:Nat) (hs:SR w (.slice ao N cap) row) (hne:Ps.Neat row) :
  Calls Tryz.prog 24 #[.agg #[.int .i64 (md:Int),.slice ao N cap,.slice uo un uc]] w fun e w'=>e = .returned (.tuple #[.int .i64 (((Ck.prog md row).1:Nat):Int),.int .i64 (((Ck.prog md row).2:Nat):Int)])∧Below w.heap.size w w':=by
 have hN:=hs.len;have hN1:N≤100:=(by rw[hN];exact hne.few);obtain⟨T,hT⟩:∃ T,w.alloc (.cells #[.int .i64 (md:Int),.slice ao N cap,.slice uo un uc] 32)=T:=⟨_,rfl⟩;have hbT:Below w.heap.size w T:=(by rw[←hT];exact yA);have hp3:H3 T w.heap.size [.int .i64 (md:Int),.slice ao N cap,.slice uo un uc]:=(by rw[←hT];exact heap_alloc_new _ _);obtain⟨q,hq⟩:∃ q,w.heap.size=q:=⟨_,rfl⟩;have hsT:=hs.below hbT
 rw[hq] at hbT hp3;have HT:=yH hT;have HQ:=yH hq;have HBT:=yH hbT;have HSR:=yH hsT;have HNE:=yH hne;have HN:=yH hN;have HP3:=yH hp3;have HQS:=yH (show q≤T.heap.size by rw[←hq];exact hbT.size);have t1:=hp3.cell (i:=1) rfl;have hs0:T.cell? ⟨q,0,none⟩=some (.int .i64 (md:Int))∧T.cell? ⟨q,1,none⟩=some (.slice ao N cap):=⟨hp3.cell rfl,hp3.cell rfl⟩
 have SC:=yH (fun (w':World) (hb:Below T.heap.size T w')=>(⟨(hb.cell (show q<T.heap.size from hp3.lt)).trans hs0.1,(hb.cell (show q<T.heap.size from hp3.lt)).trans hs0.2⟩:w'.cell? ⟨q,0,none⟩=some (.int .i64 (md:Int))∧w'.cell? ⟨q,1,none⟩=some (.slice ao N cap)));clear hT hbT hsT hne hN hp3 hs;rw[hq];clear hq;go_enter Tryz.func24,Tryz.ntmps24;go_upto_region 1 with fail
 rw[HT.out,HQ.out];go_cut [4] from 10 to 22 (fun s4 wx=>∃ b4 m1 m2,s4 = .pointer (some ⟨b4,0,none⟩)∧Hid (PGd T wx b4 md ao N cap m1 m2 row))
 case first =>
  have HB:=yH (⟨rfl,rfl,rfl,yR,fun _ _=>rfl⟩:Below T.heap.size T T.drew);refine wp_region_held_drew (S:=fun w'=>w'.cell? ⟨q,0,none⟩=some (.int .i64 (md:Int))∧w'.cell? ⟨q,1,none⟩=some (.slice ao N cap)) (by kernel_rfl) hs0 (fun hH=>?_);generalize T.drew=W0 at *;refine heldT (i:=0) ?_;refine heldT (i:=1) ?_;refine heldT (i:=2) ?_;refine heldT (i:=3) ?_;refine heldT (i:=4) ?_;refine heldT (i:=5) ?_;refine heldT (i:=8) ?_
  refine heldT (i:=9) ?_;refine heldThree (i:=6) (j:=10) (l:=13) rfl rfl rfl (by kernel_rfl) (by rfl) (by rfl) (by rfl) (fun K hK=>?_) (fun K hK=>?_) (fun K hK=>?_)
  ·go_simp;have HR1n:=nwR [13] 1 rfl (by decide) HB;(try simp only[World.size_alloc] at HR1n);try replace HR1:=upR (.cells ([13].map nv).toArray 3) HR1
   try replace HR2:=upR (.cells ([13].map nv).toArray 3) HR2
   try replace HM1:=upH (.cells ([13].map nv).toArray 3) HM1
   try replace HM2:=upH (.cells ([13].map nv).toArray 3) HM2
   try replace HZ:=upZ (.cells ([13].map nv).toArray 3) HZ
   replace HB:=upB (.cells ([13].map nv).toArray 3) HB;have HR1:=HR1n;clear HR1n;refine hK.out _ _ (SC.out _ HB.out) ?_;clear hK K;(try simp only[Act.put,zLa,zLb,zLc]);refine heldThree (i:=7) (j:=10) (l:=13) rfl rfl rfl (by kernel_rfl) (by rfl) (by rfl) (by rfl) (fun K hK=>?_) (fun K hK=>?_) (fun K hK=>?_)
   ·go_simp;go_at_call 39;refine(firsts_any Ck.kLabel _ [13] Ck.kLabel_eq (HSR.out.below HB.out) HNE.out HR1.out (by decide)).mono ?_;rintro e w2 ⟨rfl,hm,hb⟩;(try replace HR1:=cR HR1 hb);(try replace HR2:=cR HR2 hb);(try replace HM1:=cH HM1 hb);(try replace HM2:=cH HM2 hb);(try replace HZ:=cZ HZ hb);(replace HB:=cB HB hb);(try simp only[World.size_alloc] at hm);have HM1:=yH hm;clear hm hb;have hSS:=SC.out _ HB.out;first|(refine hK.out _ _ (SC.out _ HB.out) ?_)|(go_wp2_with fail;refine hK.out _ _ (SC.out _ HB.out) ?_);clear hK K
    (try simp only[Act.put,zLa,zLb,zLc]);refine heldTwo (i:=10) (j:=13) rfl rfl (by kernel_rfl) (by rfl) (by rfl) (fun K hK=>?_) (fun K hK=>?_)
    ·go_simp;have HR2n:=nwR [1,9,10] 3 rfl (by decide) HB;(try simp only[World.size_alloc] at HR2n);try replace HR1:=upR (.cells ([1,9,10].map nv).toArray 3) HR1
     try replace HR2:=upR (.cells ([1,9,10].map nv).toArray 3) HR2
     try replace HM1:=upH (.cells ([1,9,10].map nv).toArray 3) HM1
     try replace HM2:=upH (.cells ([1,9,10].map nv).toArray 3) HM2
     try replace HZ:=upZ (.cells ([1,9,10].map nv).toArray 3) HZ
     replace HB:=upB (.cells ([1,9,10].map nv).toArray 3) HB;have HR2:=HR2n;clear HR2n;refine hK.out _ _ (SC.out _ HB.out) ?_;clear hK K;(try simp only[Act.put,zLa,zLb,zLc]);refine heldTwo (i:=11) (j:=13) rfl rfl (by kernel_rfl) (by rfl) (by rfl) (fun K hK=>?_) (fun K hK=>?_)
     ·go_simp;go_at_call 39;refine(firsts_any Ck.kSet _ [1,9,10] Ck.kSet_eq (HSR.out.below HB.out) HNE.out HR2.out (by decide)).mono ?_;rintro e w2 ⟨rfl,hm,hb⟩;(try replace HR1:=cR HR1 hb);(try replace HR2:=cR HR2 hb);(try replace HM1:=cH HM1 hb);(try replace HM2:=cH HM2 hb);(try replace HZ:=cZ HZ hb);(replace HB:=cB HB hb);(try simp only[World.size_alloc] at hm);have HM2:=yH hm;clear hm hb;have hSS:=SC.out _ HB.out;first|(refine hK.out _ _ (SC.out _ HB.out) ?_)|(go_wp2_with fail;refine hK.out _ _ (SC.out _ HB.out) ?_);clear hK K
      (try simp only[Act.put,zLa,zLb,zLc]);refine heldT (i:=12) ?_;refine heldNext (i:=13) rfl (by kernel_rfl) (by rfl) (fun K hK=>?_);go_simp;have HZn:=nwZ ZK HB;(try simp only[World.size_alloc] at HZn);have HB0:=HB;try have HM10:=HM1
      try have HM20:=HM2
      try replace HR1:=upR ZK HR1
      try replace HR2:=upR ZK HR2
      try replace HM1:=upH ZK HM1
      try replace HM2:=upH ZK HM2
      replace HB:=upB ZK HB;have HZ:=HZn;clear HZn;refine hK.out _ _ (SC.out _ HB.out) ?_;clear hK K;(try simp only[Act.put,zLa,zLb,zLc]);refine heldNext (i:=14) rfl (by kernel_rfl) (by rfl) (fun K hK=>?_);obtain⟨z0,z1,z2,z3,zf⟩:=zcells HZ;go_simp
      first
       | (refine hK.out _ _ (SC.out _ (pg_stored (md:=md) HSR HNE HB HZ HM1 HM2).1) ?_;have PG:=yH (pg_stored (md:=md) HSR HNE HB HZ HM1 HM2))
       | (refine hK.out _ _ (SC.out _ (pg_merged (md:=md) HSR HNE HB0 HM10 HM20).1) ?_;have PG:=yH (pg_merged (md:=md) HSR HNE HB0 HM10 HM20))
      clear hK K;(try simp only[Act.put,zLa,zLb,zLc]);refine wpAnyH_done (by kernel_rfl) ?_ _;simp only[Exit.then];go_step;go_meet;exact⟨_,_,_,rfl,PG⟩
     ·go_simp;have HZn:=nwZ ZK HB;(try simp only[World.size_alloc] at HZn);have HB0:=HB;try have HM10:=HM1
      try have HM20:=HM2
      try replace HR1:=upR ZK HR1
      try replace HR2:=upR ZK HR2
      try replace HM1:=upH ZK HM1
      try replace HM2:=upH ZK HM2
      replace HB:=upB ZK HB;have HZ:=HZn;clear HZn;refine hK.out _ _ (SC.out _ HB.out) ?_;clear hK K;(try simp only[Act.put,zLa,zLb,zLc]);refine heldNext (i:=11) rfl (by kernel_rfl) (by rfl) (fun K hK=>?_)
      go_simp;go_at_call 39;refine(firsts_any Ck.kSet _ [1,9,10] Ck.kSet_eq (HSR.out.below HB.out) HNE.out HR2.out (by decide)).mono ?_;rintro e w2 ⟨rfl,hm,hb⟩;(try replace HR1:=cR HR1 hb);(try replace HR2:=cR HR2 hb);(try replace HM1:=cH HM1 hb);(try replace HM2:=cH HM2 hb);(try replace HZ:=cZ HZ hb);(replace HB:=cB HB hb);(try simp only[World.size_alloc] at hm);have HM2:=yH hm;clear hm hb;have hSS:=SC.out _ HB.out;first|(refine hK.out _ _ (SC.out _ HB.out) ?_)|(go_wp2_with fail;refine hK.out _ _ (SC.out _ HB.out) ?_);clear hK K
      (try simp only[Act.put,zLa,zLb,zLc]);refine heldT (i:=12) ?_;refine heldNext (i:=14) rfl (by kernel_rfl) (by rfl) (fun K hK=>?_);obtain⟨z0,z1,z2,z3,zf⟩:=zcells HZ;go_simp
      first
       | (refine hK.out _ _ (SC.out _ (pg_stored (md:=md) HSR HNE HB HZ HM1 HM2).1) ?_;have PG:=yH (pg_stored (md:=md) HSR HNE HB HZ HM1 HM2))
       | (refine hK.out _ _ (SC.out _ (pg_merged (md:=md) HSR HNE HB0 HM10 HM20).1) ?_;have PG:=yH (pg_merged (md:=md) HSR HNE HB0 HM10 HM20))
      clear hK K;(try simp only[Act.put,zLa,zLb,zLc]);refine wpAnyH_done (by kernel_rfl) ?_ _;simp only[Exit.then];go_step;go_meet;exact⟨_,_,_,rfl,PG⟩
    ·go_simp;have HZn:=nwZ ZK HB;(try simp only[World.size_alloc] at HZn);have HB0:=HB;try have HM10:=HM1
     try have HM20:=HM2
     try replace HR1:=upR ZK HR1
     try replace HR2:=upR ZK HR2
     try replace HM1:=upH ZK HM1
     try replace HM2:=upH ZK HM2
     replace HB:=upB ZK HB;have HZ:=HZn;clear HZn;refine hK.out _ _ (SC.out _ HB.out) ?_;clear hK K;(try simp only[Act.put,zLa,zLb,zLc]);refine heldNext (i:=10) rfl (by kernel_rfl) (by rfl) (fun K hK=>?_);go_simp;have HR2n:=nwR [1,9,10] 3 rfl (by decide) HB;(try simp only[World.size_alloc] at HR2n);try replace HR1:=upR (.cells ([1,9,10].map nv).toArray 3) HR1
     try replace HR2:=upR (.cells ([1,9,10].map nv).toArray 3) HR2
     try replace HM1:=upH (.cells ([1,9,10].map nv).toArray 3) HM1
     try replace HM2:=upH (.cells ([1,9,10].map nv).toArray 3) HM2
     try replace HZ:=upZ (.cells ([1,9,10].map nv).toArray 3) HZ
     replace HB:=upB (.cells ([1,9,10].map nv).toArray 3) HB;have HR2:=HR2n;clear HR2n;refine hK.out _ _ (SC.out _ HB.out) ?_;clear hK K;(try simp only[Act.put,zLa,zLb,zLc]);refine heldNext (i:=11) rfl (by kernel_rfl) (by rfl) (fun K hK=>?_)
     go_simp;go_at_call 39;refine(firsts_any Ck.kSet _ [1,9,10] Ck.kSet_eq (HSR.out.below HB.out) HNE.out HR2.out (by decide)).mono ?_;rintro e w2 ⟨rfl,hm,hb⟩;(try replace HR1:=cR HR1 hb);(try replace HR2:=cR HR2 hb);(try replace HM1:=cH HM1 hb);(try replace HM2:=cH HM2 hb);(try replace HZ:=cZ HZ hb);(replace HB:=cB HB hb);(try simp only[World.size_alloc] at hm);have HM2:=yH hm;clear hm hb;have hSS:=SC.out _ HB.out;first|(refine hK.out _ _ (SC.out _ HB.out) ?_)|(go_wp2_with fail;refine hK.out _ _ (SC.out _ HB.out) ?_);clear hK K
     (try simp only[Act.put,zLa,zLb,zLc]);refine heldT (i:=12) ?_;refine heldNext (i:=14) rfl (by kernel_rfl) (by rfl) (fun K hK=>?_);obtain⟨z0,z1,z2,z3,zf⟩:=zcells HZ;go_simp
     first
      | (refine hK.out _ _ (SC.out _ (pg_stored (md:=md) HSR HNE HB HZ HM1 HM2).1) ?_;have PG:=yH (pg_stored (md:=md) HSR HNE HB HZ HM1 HM2))
      | (refine hK.out _ _ (SC.out _ (pg_merged (md:=md) HSR HNE HB0 HM10 HM20).1) ?_;have PG:=yH (pg_merged (md:=md) HSR HNE HB0 HM10 HM20))
     clear hK K;(try simp only[Act.put,zLa,zLb,zLc]);refine wpAnyH_done (by kernel_rfl) ?_ _;simp only[Exit.then];go_step;go_meet;exact⟨_,_,_,rfl,PG⟩
   ·go_simp;have HR2n:=nwR [1,9,10] 3 rfl (by decide) HB;(try simp only[World.size_alloc] at HR2n);try replace HR1:=upR (.cells ([1,9,10].map nv).toArray 3) HR1
    try replace HR2:=upR (.cells ([1,9,10].map nv).toArray 3) HR2
    try replace HM1:=upH (.cells ([1,9,10].map nv).toArray 3) HM1
    try replace HM2:=upH (.cells ([1,9,10].map nv).toArray 3) HM2
    try replace HZ:=upZ (.cells ([1,9,10].map nv).toArray 3) HZ
    replace HB:=upB (.cells ([1,9,10].map nv).toArray 3) HB;have HR2:=HR2n;clear HR2n;refine hK.out _ _ (SC.out _ HB.out) ?_;clear hK K;(try simp only[Act.put,zLa,zLb,zLc]);refine heldTwo (i:=7) (j:=13) rfl rfl (by kernel_rfl) (by rfl) (by rfl) (fun K hK=>?_) (fun K hK=>?_)
    ·go_simp;go_at_call 39;refine(firsts_any Ck.kLabel _ [13] Ck.kLabel_eq (HSR.out.below HB.out) HNE.out HR1.out (by decide)).mono ?_;rintro e w2 ⟨rfl,hm,hb⟩;(try replace HR1:=cR HR1 hb);(try replace HR2:=cR HR2 hb);(try replace HM1:=cH HM1 hb);(try replace HM2:=cH HM2 hb);(try replace HZ:=cZ HZ hb);(replace HB:=cB HB hb);(try simp only[World.size_alloc] at hm);have HM1:=yH hm;clear hm hb;have hSS:=SC.out _ HB.out;first|(refine hK.out _ _ (SC.out _ HB.out) ?_)|(go_wp2_with fail;refine hK.out _ _ (SC.out _ HB.out) ?_);clear hK K
     (try simp only[Act.put,zLa,zLb,zLc]);refine heldTwo (i:=11) (j:=13) rfl rfl (by kernel_rfl) (by rfl) (by rfl) (fun K hK=>?_) (fun K hK=>?_)
     ·go_simp;go_at_call 39;refine(firsts_any Ck.kSet _ [1,9,10] Ck.kSet_eq (HSR.out.below HB.out) HNE.out HR2.out (by decide)).mono ?_;rintro e w2 ⟨rfl,hm,hb⟩;(try replace HR1:=cR HR1 hb);(try replace HR2:=cR HR2 hb);(try replace HM1:=cH HM1 hb);(try replace HM2:=cH HM2 hb);(try replace HZ:=cZ HZ hb);(replace HB:=cB HB hb);(try simp only[World.size_alloc] at hm);have HM2:=yH hm;clear hm hb;have hSS:=SC.out _ HB.out;first|(refine hK.out _ _ (SC.out _ HB.out) ?_)|(go_wp2_with fail;refine hK.out _ _ (SC.out _ HB.out) ?_);clear hK K
      (try simp only[Act.put,zLa,zLb,zLc]);refine heldT (i:=12) ?_;refine heldNext (i:=13) rfl (by kernel_rfl) (by rfl) (fun K hK=>?_);go_simp;have HZn:=nwZ ZK HB;(try simp only[World.size_alloc] at HZn);have HB0:=HB;try have HM10:=HM1
      try have HM20:=HM2
      try replace HR1:=upR ZK HR1
      try replace HR2:=upR ZK HR2
      try replace HM1:=upH ZK HM1
      try replace HM2:=upH ZK HM2
      replace HB:=upB ZK HB;have HZ:=HZn;clear HZn;refine hK.out _ _ (SC.out _ HB.out) ?_;clear hK K;(try simp only[Act.put,zLa,zLb,zLc]);refine heldNext (i:=14) rfl (by kernel_rfl) (by rfl) (fun K hK=>?_);obtain⟨z0,z1,z2,z3,zf⟩:=zcells HZ;go_simp
      first
       | (refine hK.out _ _ (SC.out _ (pg_stored (md:=md) HSR HNE HB HZ HM1 HM2).1) ?_;have PG:=yH (pg_stored (md:=md) HSR HNE HB HZ HM1 HM2))
       | (refine hK.out _ _ (SC.out _ (pg_merged (md:=md) HSR HNE HB0 HM10 HM20).1) ?_;have PG:=yH (pg_merged (md:=md) HSR HNE HB0 HM10 HM20))
      clear hK K;(try simp only[Act.put,zLa,zLb,zLc]);refine wpAnyH_done (by kernel_rfl) ?_ _;simp only[Exit.then];go_step;go_meet;exact⟨_,_,_,rfl,PG⟩
     ·go_simp;have HZn:=nwZ ZK HB;(try simp only[World.size_alloc] at HZn);have HB0:=HB;try have HM10:=HM1
      try have HM20:=HM2
      try replace HR1:=upR ZK HR1
      try replace HR2:=upR ZK HR2
      try replace HM1:=upH ZK HM1
      try replace HM2:=upH ZK HM2
      replace HB:=upB ZK HB;have HZ:=HZn;clear HZn;refine hK.out _ _ (SC.out _ HB.out) ?_;clear hK K;(try simp only[Act.put,zLa,zLb,zLc]);refine heldNext (i:=11) rfl (by kernel_rfl) (by rfl) (fun K hK=>?_)
      go_simp;go_at_call 39;refine(firsts_any Ck.kSet _ [1,9,10] Ck.kSet_eq (HSR.out.below HB.out) HNE.out HR2.out (by decide)).mono ?_;rintro e w2 ⟨rfl,hm,hb⟩;(try replace HR1:=cR HR1 hb);(try replace HR2:=cR HR2 hb);(try replace HM1:=cH HM1 hb);(try replace HM2:=cH HM2 hb);(try replace HZ:=cZ HZ hb);(replace HB:=cB HB hb);(try simp only[World.size_alloc] at hm);have HM2:=yH hm;clear hm hb;have hSS:=SC.out _ HB.out;first|(refine hK.out _ _ (SC.out _ HB.out) ?_)|(go_wp2_with fail;refine hK.out _ _ (SC.out _ HB.out) ?_);clear hK K
      (try simp only[Act.put,zLa,zLb,zLc]);refine heldT (i:=12) ?_;refine heldNext (i:=14) rfl (by kernel_rfl) (by rfl) (fun K hK=>?_);obtain⟨z0,z1,z2,z3,zf⟩:=zcells HZ;go_simp
      first
       | (refine hK.out _ _ (SC.out _ (pg_stored (md:=md) HSR HNE HB HZ HM1 HM2).1) ?_;have PG:=yH (pg_stored (md:=md) HSR HNE HB HZ HM1 HM2))
       | (refine hK.out _ _ (SC.out _ (pg_merged (md:=md) HSR HNE HB0 HM10 HM20).1) ?_;have PG:=yH (pg_merged (md:=md) HSR HNE HB0 HM10 HM20))
      clear hK K;(try simp only[Act.put,zLa,zLb,zLc]);refine wpAnyH_done (by kernel_rfl) ?_ _;simp only[Exit.then];go_step;go_meet;exact⟨_,_,_,rfl,PG⟩
    ·go_simp;have HZn:=nwZ ZK HB;(try simp only[World.size_alloc] at HZn);have HB0:=HB;try have HM10:=HM1
     try have HM20:=HM2
     try replace HR1:=upR ZK HR1
     try replace HR2:=upR ZK HR2
     try replace HM1:=upH ZK HM1
     try replace HM2:=upH ZK HM2
     replace HB:=upB ZK HB;have HZ:=HZn;clear HZn;refine hK.out _ _ (SC.out _ HB.out) ?_;clear hK K;(try simp only[Act.put,zLa,zLb,zLc]);refine heldNext (i:=7) rfl (by kernel_rfl) (by rfl) (fun K hK=>?_)
     go_simp;go_at_call 39;refine(firsts_any Ck.kLabel _ [13] Ck.kLabel_eq (HSR.out.below HB.out) HNE.out HR1.out (by decide)).mono ?_;rintro e w2 ⟨rfl,hm,hb⟩;(try replace HR1:=cR HR1 hb);(try replace HR2:=cR HR2 hb);(try replace HM1:=cH HM1 hb);(try replace HM2:=cH HM2 hb);(try replace HZ:=cZ HZ hb);(replace HB:=cB HB hb);(try simp only[World.size_alloc] at hm);have HM1:=yH hm;clear hm hb;have hSS:=SC.out _ HB.out;first|(refine hK.out _ _ (SC.out _ HB.out) ?_)|(go_wp2_with fail;refine hK.out _ _ (SC.out _ HB.out) ?_);clear hK K
     (try simp only[Act.put,zLa,zLb,zLc]);refine heldNext (i:=11) rfl (by kernel_rfl) (by rfl) (fun K hK=>?_)
     go_simp;go_at_call 39;refine(firsts_any Ck.kSet _ [1,9,10] Ck.kSet_eq (HSR.out.below HB.out) HNE.out HR2.out (by decide)).mono ?_;rintro e w2 ⟨rfl,hm,hb⟩;(try replace HR1:=cR HR1 hb);(try replace HR2:=cR HR2 hb);(try replace HM1:=cH HM1 hb);(try replace HM2:=cH HM2 hb);(try replace HZ:=cZ HZ hb);(replace HB:=cB HB hb);(try simp only[World.size_alloc] at hm);have HM2:=yH hm;clear hm hb;have hSS:=SC.out _ HB.out;first|(refine hK.out _ _ (SC.out _ HB.out) ?_)|(go_wp2_with fail;refine hK.out _ _ (SC.out _ HB.out) ?_);clear hK K
     (try simp only[Act.put,zLa,zLb,zLc]);refine heldT (i:=12) ?_;refine heldNext (i:=14) rfl (by kernel_rfl) (by rfl) (fun K hK=>?_);obtain⟨z0,z1,z2,z3,zf⟩:=zcells HZ;go_simp
     first
      | (refine hK.out _ _ (SC.out _ (pg_stored (md:=md) HSR HNE HB HZ HM1 HM2).1) ?_;have PG:=yH (pg_stored (md:=md) HSR HNE HB HZ HM1 HM2))
      | (refine hK.out _ _ (SC.out _ (pg_merged (md:=md) HSR HNE HB0 HM10 HM20).1) ?_;have PG:=yH (pg_merged (md:=md) HSR HNE HB0 HM10 HM20))
     clear hK K;(try simp only[Act.put,zLa,zLb,zLc]);refine wpAnyH_done (by kernel_rfl) ?_ _;simp only[Exit.then];go_step;go_meet;exact⟨_,_,_,rfl,PG⟩
   ·go_simp;have HZn:=nwZ ZK HB;(try simp only[World.size_alloc] at HZn);have HB0:=HB;try have HM10:=HM1
    try have HM20:=HM2
    try replace HR1:=upR ZK HR1
    try replace HR2:=upR ZK HR2
    try replace HM1:=upH ZK HM1
    try replace HM2:=upH ZK HM2
    replace HB:=upB ZK HB;have HZ:=HZn;clear HZn;refine hK.out _ _ (SC.out _ HB.out) ?_;clear hK K;(try simp only[Act.put,zLa,zLb,zLc]);refine heldTwo (i:=7) (j:=10) rfl rfl (by kernel_rfl) (by rfl) (by rfl) (fun K hK=>?_) (fun K hK=>?_)
    ·go_simp;go_at_call 39;refine(firsts_any Ck.kLabel _ [13] Ck.kLabel_eq (HSR.out.below HB.out) HNE.out HR1.out (by decide)).mono ?_;rintro e w2 ⟨rfl,hm,hb⟩;(try replace HR1:=cR HR1 hb);(try replace HR2:=cR HR2 hb);(try replace HM1:=cH HM1 hb);(try replace HM2:=cH HM2 hb);(try replace HZ:=cZ HZ hb);(replace HB:=cB HB hb);(try simp only[World.size_alloc] at hm);have HM1:=yH hm;clear hm hb;have hSS:=SC.out _ HB.out;first|(refine hK.out _ _ (SC.out _ HB.out) ?_)|(go_wp2_with fail;refine hK.out _ _ (SC.out _ HB.out) ?_);clear hK K
     (try simp only[Act.put,zLa,zLb,zLc]);refine heldNext (i:=10) rfl (by kernel_rfl) (by rfl) (fun K hK=>?_);go_simp;have HR2n:=nwR [1,9,10] 3 rfl (by decide) HB;(try simp only[World.size_alloc] at HR2n);try replace HR1:=upR (.cells ([1,9,10].map nv).toArray 3) HR1
     try replace HR2:=upR (.cells ([1,9,10].map nv).toArray 3) HR2
     try replace HM1:=upH (.cells ([1,9,10].map nv).toArray 3) HM1
     try replace HM2:=upH (.cells ([1,9,10].map nv).toArray 3) HM2
     try replace HZ:=upZ (.cells ([1,9,10].map nv).toArray 3) HZ
     replace HB:=upB (.cells ([1,9,10].map nv).toArray 3) HB;have HR2:=HR2n;clear HR2n;refine hK.out _ _ (SC.out _ HB.out) ?_;clear hK K;(try simp only[Act.put,zLa,zLb,zLc]);refine heldNext (i:=11) rfl (by kernel_rfl) (by rfl) (fun K hK=>?_)
     go_simp;go_at_call 39;refine(firsts_any Ck.kSet _ [1,9,10] Ck.kSet_eq (HSR.out.below HB.out) HNE.out HR2.out (by decide)).mono ?_;rintro e w2 ⟨rfl,hm,hb⟩;(try replace HR1:=cR HR1 hb);(try replace HR2:=cR HR2 hb);(try replace HM1:=cH HM1 hb);(try replace HM2:=cH HM2 hb);(try replace HZ:=cZ HZ hb);(replace HB:=cB HB hb);(try simp only[World.size_alloc] at hm);have HM2:=yH hm;clear hm hb;have hSS:=SC.out _ HB.out;first|(refine hK.out _ _ (SC.out _ HB.out) ?_)|(go_wp2_with fail;refine hK.out _ _ (SC.out _ HB.out) ?_);clear hK K
     (try simp only[Act.put,zLa,zLb,zLc]);refine heldT (i:=12) ?_;refine heldNext (i:=14) rfl (by kernel_rfl) (by rfl) (fun K hK=>?_);obtain⟨z0,z1,z2,z3,zf⟩:=zcells HZ;go_simp
     first
      | (refine hK.out _ _ (SC.out _ (pg_stored (md:=md) HSR HNE HB HZ HM1 HM2).1) ?_;have PG:=yH (pg_stored (md:=md) HSR HNE HB HZ HM1 HM2))
      | (refine hK.out _ _ (SC.out _ (pg_merged (md:=md) HSR HNE HB0 HM10 HM20).1) ?_;have PG:=yH (pg_merged (md:=md) HSR HNE HB0 HM10 HM20))
     clear hK K;(try simp only[Act.put,zLa,zLb,zLc]);refine wpAnyH_done (by kernel_rfl) ?_ _;simp only[Exit.then];go_step;go_meet;exact⟨_,_,_,rfl,PG⟩
    ·go_simp;have HR2n:=nwR [1,9,10] 3 rfl (by decide) HB;(try simp only[World.size_alloc] at HR2n);try replace HR1:=upR (.cells ([1,9,10].map nv).toArray 3) HR1
     try replace HR2:=upR (.cells ([1,9,10].map nv).toArray 3) HR2
     try replace HM1:=upH (.cells ([1,9,10].map nv).toArray 3) HM1
     try replace HM2:=upH (.cells ([1,9,10].map nv).toArray 3) HM2
     try replace HZ:=upZ (.cells ([1,9,10].map nv).toArray 3) HZ
     replace HB:=upB (.cells ([1,9,10].map nv).toArray 3) HB;have HR2:=HR2n;clear HR2n;refine hK.out _ _ (SC.out _ HB.out) ?_;clear hK K;(try simp only[Act.put,zLa,zLb,zLc]);refine heldNext (i:=7) rfl (by kernel_rfl) (by rfl) (fun K hK=>?_)
     go_simp;go_at_call 39;refine(firsts_any Ck.kLabel _ [13] Ck.kLabel_eq (HSR.out.below HB.out) HNE.out HR1.out (by decide)).mono ?_;rintro e w2 ⟨rfl,hm,hb⟩;(try replace HR1:=cR HR1 hb);(try replace HR2:=cR HR2 hb);(try replace HM1:=cH HM1 hb);(try replace HM2:=cH HM2 hb);(try replace HZ:=cZ HZ hb);(replace HB:=cB HB hb);(try simp only[World.size_alloc] at hm);have HM1:=yH hm;clear hm hb;have hSS:=SC.out _ HB.out;first|(refine hK.out _ _ (SC.out _ HB.out) ?_)|(go_wp2_with fail;refine hK.out _ _ (SC.out _ HB.out) ?_);clear hK K
     (try simp only[Act.put,zLa,zLb,zLc]);refine heldNext (i:=11) rfl (by kernel_rfl) (by rfl) (fun K hK=>?_)
     go_simp;go_at_call 39;refine(firsts_any Ck.kSet _ [1,9,10] Ck.kSet_eq (HSR.out.below HB.out) HNE.out HR2.out (by decide)).mono ?_;rintro e w2 ⟨rfl,hm,hb⟩;(try replace HR1:=cR HR1 hb);(try replace HR2:=cR HR2 hb);(try replace HM1:=cH HM1 hb);(try replace HM2:=cH HM2 hb);(try replace HZ:=cZ HZ hb);(replace HB:=cB HB hb);(try simp only[World.size_alloc] at hm);have HM2:=yH hm;clear hm hb;have hSS:=SC.out _ HB.out;first|(refine hK.out _ _ (SC.out _ HB.out) ?_)|(go_wp2_with fail;refine hK.out _ _ (SC.out _ HB.out) ?_);clear hK K
     (try simp only[Act.put,zLa,zLb,zLc]);refine heldT (i:=12) ?_;refine heldNext (i:=14) rfl (by kernel_rfl) (by rfl) (fun K hK=>?_);obtain⟨z0,z1,z2,z3,zf⟩:=zcells HZ;go_simp
     first
      | (refine hK.out _ _ (SC.out _ (pg_stored (md:=md) HSR HNE HB HZ HM1 HM2).1) ?_;have PG:=yH (pg_stored (md:=md) HSR HNE HB HZ HM1 HM2))
      | (refine hK.out _ _ (SC.out _ (pg_merged (md:=md) HSR HNE HB0 HM10 HM20).1) ?_;have PG:=yH (pg_merged (md:=md) HSR HNE HB0 HM10 HM20))
     clear hK K;(try simp only[Act.put,zLa,zLb,zLc]);refine wpAnyH_done (by kernel_rfl) ?_ _;simp only[Exit.then];go_step;go_meet;exact⟨_,_,_,rfl,PG⟩
  ·go_simp;have HR2n:=nwR [1,9,10] 3 rfl (by decide) HB;(try simp only[World.size_alloc] at HR2n);try replace HR1:=upR (.cells ([1,9,10].map nv).toArray 3) HR1
   try replace HR2:=upR (.cells ([1,9,10].map nv).toArray 3) HR2
   try replace HM1:=upH (.cells ([1,9,10].map nv).toArray 3) HM1
   try replace HM2:=upH (.cells ([1,9,10].map nv).toArray 3) HM2
   try replace HZ:=upZ (.cells ([1,9,10].map nv).toArray 3) HZ
   replace HB:=upB (.cells ([1,9,10].map nv).toArray 3) HB;have HR2:=HR2n;clear HR2n;refine hK.out _ _ (SC.out _ HB.out) ?_;clear hK K;(try simp only[Act.put,zLa,zLb,zLc]);refine heldTwo (i:=6) (j:=13) rfl rfl (by kernel_rfl) (by rfl) (by rfl) (fun K hK=>?_) (fun K hK=>?_)
   ·go_simp;have HR1n:=nwR [13] 1 rfl (by decide) HB;(try simp only[World.size_alloc] at HR1n);try replace HR1:=upR (.cells ([13].map nv).toArray 3) HR1
    try replace HR2:=upR (.cells ([13].map nv).toArray 3) HR2
    try replace HM1:=upH (.cells ([13].map nv).toArray 3) HM1
    try replace HM2:=upH (.cells ([13].map nv).toArray 3) HM2
    try replace HZ:=upZ (.cells ([13].map nv).toArray 3) HZ
    replace HB:=upB (.cells ([13].map nv).toArray 3) HB;have HR1:=HR1n;clear HR1n;refine hK.out _ _ (SC.out _ HB.out) ?_;clear hK K;(try simp only[Act.put,zLa,zLb,zLc]);refine heldTwo (i:=7) (j:=13) rfl rfl (by kernel_rfl) (by rfl) (by rfl) (fun K hK=>?_) (fun K hK=>?_)
    ·go_simp;go_at_call 39;refine(firsts_any Ck.kLabel _ [13] Ck.kLabel_eq (HSR.out.below HB.out) HNE.out HR1.out (by decide)).mono ?_;rintro e w2 ⟨rfl,hm,hb⟩;(try replace HR1:=cR HR1 hb);(try replace HR2:=cR HR2 hb);(try replace HM1:=cH HM1 hb);(try replace HM2:=cH HM2 hb);(try replace HZ:=cZ HZ hb);(replace HB:=cB HB hb);(try simp only[World.size_alloc] at hm);have HM1:=yH hm;clear hm hb;have hSS:=SC.out _ HB.out;first|(refine hK.out _ _ (SC.out _ HB.out) ?_)|(go_wp2_with fail;refine hK.out _ _ (SC.out _ HB.out) ?_);clear hK K
     (try simp only[Act.put,zLa,zLb,zLc]);refine heldTwo (i:=11) (j:=13) rfl rfl (by kernel_rfl) (by rfl) (by rfl) (fun K hK=>?_) (fun K hK=>?_)
     ·go_simp;go_at_call 39;refine(firsts_any Ck.kSet _ [1,9,10] Ck.kSet_eq (HSR.out.below HB.out) HNE.out HR2.out (by decide)).mono ?_;rintro e w2 ⟨rfl,hm,hb⟩;(try replace HR1:=cR HR1 hb);(try replace HR2:=cR HR2 hb);(try replace HM1:=cH HM1 hb);(try replace HM2:=cH HM2 hb);(try replace HZ:=cZ HZ hb);(replace HB:=cB HB hb);(try simp only[World.size_alloc] at hm);have HM2:=yH hm;clear hm hb;have hSS:=SC.out _ HB.out;first|(refine hK.out _ _ (SC.out _ HB.out) ?_)|(go_wp2_with fail;refine hK.out _ _ (SC.out _ HB.out) ?_);clear hK K
      (try simp only[Act.put,zLa,zLb,zLc]);refine heldT (i:=12) ?_;refine heldNext (i:=13) rfl (by kernel_rfl) (by rfl) (fun K hK=>?_);go_simp;have HZn:=nwZ ZK HB;(try simp only[World.size_alloc] at HZn);have HB0:=HB;try have HM10:=HM1
      try have HM20:=HM2
      try replace HR1:=upR ZK HR1
      try replace HR2:=upR ZK HR2
      try replace HM1:=upH ZK HM1
      try replace HM2:=upH ZK HM2
      replace HB:=upB ZK HB;have HZ:=HZn;clear HZn;refine hK.out _ _ (SC.out _ HB.out) ?_;clear hK K;(try simp only[Act.put,zLa,zLb,zLc]);refine heldNext (i:=14) rfl (by kernel_rfl) (by rfl) (fun K hK=>?_);obtain⟨z0,z1,z2,z3,zf⟩:=zcells HZ;go_simp
      first
       | (refine hK.out _ _ (SC.out _ (pg_stored (md:=md) HSR HNE HB HZ HM1 HM2).1) ?_;have PG:=yH (pg_stored (md:=md) HSR HNE HB HZ HM1 HM2))
       | (refine hK.out _ _ (SC.out _ (pg_merged (md:=md) HSR HNE HB0 HM10 HM20).1) ?_;have PG:=yH (pg_merged (md:=md) HSR HNE HB0 HM10 HM20))
      clear hK K;(try simp only[Act.put,zLa,zLb,zLc]);refine wpAnyH_done (by kernel_rfl) ?_ _;simp only[Exit.then];go_step;go_meet;exact⟨_,_,_,rfl,PG⟩
     ·go_simp;have HZn:=nwZ ZK HB;(try simp only[World.size_alloc] at HZn);have HB0:=HB;try have HM10:=HM1
      try have HM20:=HM2
      try replace HR1:=upR ZK HR1
      try replace HR2:=upR ZK HR2
      try replace HM1:=upH ZK HM1
      try replace HM2:=upH ZK HM2
      replace HB:=upB ZK HB;have HZ:=HZn;clear HZn;refine hK.out _ _ (SC.out _ HB.out) ?_;clear hK K;(try simp only[Act.put,zLa,zLb,zLc]);refine heldNext (i:=11) rfl (by kernel_rfl) (by rfl) (fun K hK=>?_)
      go_simp;go_at_call 39;refine(firsts_any Ck.kSet _ [1,9,10] Ck.kSet_eq (HSR.out.below HB.out) HNE.out HR2.out (by decide)).mono ?_;rintro e w2 ⟨rfl,hm,hb⟩;(try replace HR1:=cR HR1 hb);(try replace HR2:=cR HR2 hb);(try replace HM1:=cH HM1 hb);(try replace HM2:=cH HM2 hb);(try replace HZ:=cZ HZ hb);(replace HB:=cB HB hb);(try simp only[World.size_alloc] at hm);have HM2:=yH hm;clear hm hb;have hSS:=SC.out _ HB.out;first|(refine hK.out _ _ (SC.out _ HB.out) ?_)|(go_wp2_with fail;refine hK.out _ _ (SC.out _ HB.out) ?_);clear hK K
      (try simp only[Act.put,zLa,zLb,zLc]);refine heldT (i:=12) ?_;refine heldNext (i:=14) rfl (by kernel_rfl) (by rfl) (fun K hK=>?_);obtain⟨z0,z1,z2,z3,zf⟩:=zcells HZ;go_simp
      first
       | (refine hK.out _ _ (SC.out _ (pg_stored (md:=md) HSR HNE HB HZ HM1 HM2).1) ?_;have PG:=yH (pg_stored (md:=md) HSR HNE HB HZ HM1 HM2))
       | (refine hK.out _ _ (SC.out _ (pg_merged (md:=md) HSR HNE HB0 HM10 HM20).1) ?_;have PG:=yH (pg_merged (md:=md) HSR HNE HB0 HM10 HM20))
      clear hK K;(try simp only[Act.put,zLa,zLb,zLc]);refine wpAnyH_done (by kernel_rfl) ?_ _;simp only[Exit.then];go_step;go_meet;exact⟨_,_,_,rfl,PG⟩
    ·go_simp;have HZn:=nwZ ZK HB;(try simp only[World.size_alloc] at HZn);have HB0:=HB;try have HM10:=HM1
     try have HM20:=HM2
     try replace HR1:=upR ZK HR1
     try replace HR2:=upR ZK HR2
     try replace HM1:=upH ZK HM1
     try replace HM2:=upH ZK HM2
     replace HB:=upB ZK HB;have HZ:=HZn;clear HZn;refine hK.out _ _ (SC.out _ HB.out) ?_;clear hK K;(try simp only[Act.put,zLa,zLb,zLc]);refine heldNext (i:=7) rfl (by kernel_rfl) (by rfl) (fun K hK=>?_)
     go_simp;go_at_call 39;refine(firsts_any Ck.kLabel _ [13] Ck.kLabel_eq (HSR.out.below HB.out) HNE.out HR1.out (by decide)).mono ?_;rintro e w2 ⟨rfl,hm,hb⟩;(try replace HR1:=cR HR1 hb);(try replace HR2:=cR HR2 hb);(try replace HM1:=cH HM1 hb);(try replace HM2:=cH HM2 hb);(try replace HZ:=cZ HZ hb);(replace HB:=cB HB hb);(try simp only[World.size_alloc] at hm);have HM1:=yH hm;clear hm hb;have hSS:=SC.out _ HB.out;first|(refine hK.out _ _ (SC.out _ HB.out) ?_)|(go_wp2_with fail;refine hK.out _ _ (SC.out _ HB.out) ?_);clear hK K
     (try simp only[Act.put,zLa,zLb,zLc]);refine heldNext (i:=11) rfl (by kernel_rfl) (by rfl) (fun K hK=>?_)
     go_simp;go_at_call 39;refine(firsts_any Ck.kSet _ [1,9,10] Ck.kSet_eq (HSR.out.below HB.out) HNE.out HR2.out (by decide)).mono ?_;rintro e w2 ⟨rfl,hm,hb⟩;(try replace HR1:=cR HR1 hb);(try replace HR2:=cR HR2 hb);(try replace HM1:=cH HM1 hb);(try replace HM2:=cH HM2 hb);(try replace HZ:=cZ HZ hb);(replace HB:=cB HB hb);(try simp only[World.size_alloc] at hm);have HM2:=yH hm;clear hm hb;have hSS:=SC.out _ HB.out;first|(refine hK.out _ _ (SC.out _ HB.out) ?_)|(go_wp2_with fail;refine hK.out _ _ (SC.out _ HB.out) ?_);clear hK K
     (try simp only[Act.put,zLa,zLb,zLc]);refine heldT (i:=12) ?_;refine heldNext (i:=14) rfl (by kernel_rfl) (by rfl) (fun K hK=>?_);obtain⟨z0,z1,z2,z3,zf⟩:=zcells HZ;go_simp
     first
      | (refine hK.out _ _ (SC.out _ (pg_stored (md:=md) HSR HNE HB HZ HM1 HM2).1) ?_;have PG:=yH (pg_stored (md:=md) HSR HNE HB HZ HM1 HM2))
      | (refine hK.out _ _ (SC.out _ (pg_merged (md:=md) HSR HNE HB0 HM10 HM20).1) ?_;have PG:=yH (pg_merged (md:=md) HSR HNE HB0 HM10 HM20))
     clear hK K;(try simp only[Act.put,zLa,zLb,zLc]);refine wpAnyH_done (by kernel_rfl) ?_ _;simp only[Exit.then];go_step;go_meet;exact⟨_,_,_,rfl,PG⟩
   ·go_simp;have HZn:=nwZ ZK HB;(try simp only[World.size_alloc] at HZn);have HB0:=HB;try have HM10:=HM1
    try have HM20:=HM2
    try replace HR1:=upR ZK HR1
    try replace HR2:=upR ZK HR2
    try replace HM1:=upH ZK HM1
    try replace HM2:=upH ZK HM2
    replace HB:=upB ZK HB;have HZ:=HZn;clear HZn;refine hK.out _ _ (SC.out _ HB.out) ?_;clear hK K;(try simp only[Act.put,zLa,zLb,zLc]);refine heldNext (i:=6) rfl (by kernel_rfl) (by rfl) (fun K hK=>?_);go_simp;have HR1n:=nwR [13] 1 rfl (by decide) HB;(try simp only[World.size_alloc] at HR1n);try replace HR1:=upR (.cells ([13].map nv).toArray 3) HR1
    try replace HR2:=upR (.cells ([13].map nv).toArray 3) HR2
    try replace HM1:=upH (.cells ([13].map nv).toArray 3) HM1
    try replace HM2:=upH (.cells ([13].map nv).toArray 3) HM2
    try replace HZ:=upZ (.cells ([13].map nv).toArray 3) HZ
    replace HB:=upB (.cells ([13].map nv).toArray 3) HB;have HR1:=HR1n;clear HR1n;refine hK.out _ _ (SC.out _ HB.out) ?_;clear hK K;(try simp only[Act.put,zLa,zLb,zLc]);refine heldNext (i:=7) rfl (by kernel_rfl) (by rfl) (fun K hK=>?_)
    go_simp;go_at_call 39;refine(firsts_any Ck.kLabel _ [13] Ck.kLabel_eq (HSR.out.below HB.out) HNE.out HR1.out (by decide)).mono ?_;rintro e w2 ⟨rfl,hm,hb⟩;(try replace HR1:=cR HR1 hb);(try replace HR2:=cR HR2 hb);(try replace HM1:=cH HM1 hb);(try replace HM2:=cH HM2 hb);(try replace HZ:=cZ HZ hb);(replace HB:=cB HB hb);(try simp only[World.size_alloc] at hm);have HM1:=yH hm;clear hm hb;have hSS:=SC.out _ HB.out;first|(refine hK.out _ _ (SC.out _ HB.out) ?_)|(go_wp2_with fail;refine hK.out _ _ (SC.out _ HB.out) ?_);clear hK K
    (try simp only[Act.put,zLa,zLb,zLc]);refine heldNext (i:=11) rfl (by kernel_rfl) (by rfl) (fun K hK=>?_)
    go_simp;go_at_call 39;refine(firsts_any Ck.kSet _ [1,9,10] Ck.kSet_eq (HSR.out.below HB.out) HNE.out HR2.out (by decide)).mono ?_;rintro e w2 ⟨rfl,hm,hb⟩;(try replace HR1:=cR HR1 hb);(try replace HR2:=cR HR2 hb);(try replace HM1:=cH HM1 hb);(try replace HM2:=cH HM2 hb);(try replace HZ:=cZ HZ hb);(replace HB:=cB HB hb);(try simp only[World.size_alloc] at hm);have HM2:=yH hm;clear hm hb;have hSS:=SC.out _ HB.out;first|(refine hK.out _ _ (SC.out _ HB.out) ?_)|(go_wp2_with fail;refine hK.out _ _ (SC.out _ HB.out) ?_);clear hK K
    (try simp only[Act.put,zLa,zLb,zLc]);refine heldT (i:=12) ?_;refine heldNext (i:=14) rfl (by kernel_rfl) (by rfl) (fun K hK=>?_);obtain⟨z0,z1,z2,z3,zf⟩:=zcells HZ;go_simp
    first
     | (refine hK.out _ _ (SC.out _ (pg_stored (md:=md) HSR HNE HB HZ HM1 HM2).1) ?_;have PG:=yH (pg_stored (md:=md) HSR HNE HB HZ HM1 HM2))
     | (refine hK.out _ _ (SC.out _ (pg_merged (md:=md) HSR HNE HB0 HM10 HM20).1) ?_;have PG:=yH (pg_merged (md:=md) HSR HNE HB0 HM10 HM20))
    clear hK K;(try simp only[Act.put,zLa,zLb,zLc]);refine wpAnyH_done (by kernel_rfl) ?_ _;simp only[Exit.then];go_step;go_meet;exact⟨_,_,_,rfl,PG⟩
  ·go_simp;have HZn:=nwZ ZK HB;(try simp only[World.size_alloc] at HZn);have HB0:=HB;try have HM10:=HM1
   try have HM20:=HM2
   try replace HR1:=upR ZK HR1
   try replace HR2:=upR ZK HR2
   try replace HM1:=upH ZK HM1
   try replace HM2:=upH ZK HM2
   replace HB:=upB ZK HB;have HZ:=HZn;clear HZn;refine hK.out _ _ (SC.out _ HB.out) ?_;clear hK K;(try simp only[Act.put,zLa,zLb,zLc]);refine heldTwo (i:=6) (j:=10) rfl rfl (by kernel_rfl) (by rfl) (by rfl) (fun K hK=>?_) (fun K hK=>?_)
   ·go_simp;have HR1n:=nwR [13] 1 rfl (by decide) HB;(try simp only[World.size_alloc] at HR1n);try replace HR1:=upR (.cells ([13].map nv).toArray 3) HR1
    try replace HR2:=upR (.cells ([13].map nv).toArray 3) HR2
    try replace HM1:=upH (.cells ([13].map nv).toArray 3) HM1
    try replace HM2:=upH (.cells ([13].map nv).toArray 3) HM2
    try replace HZ:=upZ (.cells ([13].map nv).toArray 3) HZ
    replace HB:=upB (.cells ([13].map nv).toArray 3) HB;have HR1:=HR1n;clear HR1n;refine hK.out _ _ (SC.out _ HB.out) ?_;clear hK K;(try simp only[Act.put,zLa,zLb,zLc]);refine heldTwo (i:=7) (j:=10) rfl rfl (by kernel_rfl) (by rfl) (by rfl) (fun K hK=>?_) (fun K hK=>?_)
    ·go_simp;go_at_call 39;refine(firsts_any Ck.kLabel _ [13] Ck.kLabel_eq (HSR.out.below HB.out) HNE.out HR1.out (by decide)).mono ?_;rintro e w2 ⟨rfl,hm,hb⟩;(try replace HR1:=cR HR1 hb);(try replace HR2:=cR HR2 hb);(try replace HM1:=cH HM1 hb);(try replace HM2:=cH HM2 hb);(try replace HZ:=cZ HZ hb);(replace HB:=cB HB hb);(try simp only[World.size_alloc] at hm);have HM1:=yH hm;clear hm hb;have hSS:=SC.out _ HB.out;first|(refine hK.out _ _ (SC.out _ HB.out) ?_)|(go_wp2_with fail;refine hK.out _ _ (SC.out _ HB.out) ?_);clear hK K
     (try simp only[Act.put,zLa,zLb,zLc]);refine heldNext (i:=10) rfl (by kernel_rfl) (by rfl) (fun K hK=>?_);go_simp;have HR2n:=nwR [1,9,10] 3 rfl (by decide) HB;(try simp only[World.size_alloc] at HR2n);try replace HR1:=upR (.cells ([1,9,10].map nv).toArray 3) HR1
     try replace HR2:=upR (.cells ([1,9,10].map nv).toArray 3) HR2
     try replace HM1:=upH (.cells ([1,9,10].map nv).toArray 3) HM1
     try replace HM2:=upH (.cells ([1,9,10].map nv).toArray 3) HM2
     try replace HZ:=upZ (.cells ([1,9,10].map nv).toArray 3) HZ
     replace HB:=upB (.cells ([1,9,10].map nv).toArray 3) HB;have HR2:=HR2n;clear HR2n;refine hK.out _ _ (SC.out _ HB.out) ?_;clear hK K;(try simp only[Act.put,zLa,zLb,zLc]);refine heldNext (i:=11) rfl (by kernel_rfl) (by rfl) (fun K hK=>?_)
     go_simp;go_at_call 39;refine(firsts_any Ck.kSet _ [1,9,10] Ck.kSet_eq (HSR.out.below HB.out) HNE.out HR2.out (by decide)).mono ?_;rintro e w2 ⟨rfl,hm,hb⟩;(try replace HR1:=cR HR1 hb);(try replace HR2:=cR HR2 hb);(try replace HM1:=cH HM1 hb);(try replace HM2:=cH HM2 hb);(try replace HZ:=cZ HZ hb);(replace HB:=cB HB hb);(try simp only[World.size_alloc] at hm);have HM2:=yH hm;clear hm hb;have hSS:=SC.out _ HB.out;first|(refine hK.out _ _ (SC.out _ HB.out) ?_)|(go_wp2_with fail;refine hK.out _ _ (SC.out _ HB.out) ?_);clear hK K
     (try simp only[Act.put,zLa,zLb,zLc]);refine heldT (i:=12) ?_;refine heldNext (i:=14) rfl (by kernel_rfl) (by rfl) (fun K hK=>?_);obtain⟨z0,z1,z2,z3,zf⟩:=zcells HZ;go_simp
     first
      | (refine hK.out _ _ (SC.out _ (pg_stored (md:=md) HSR HNE HB HZ HM1 HM2).1) ?_;have PG:=yH (pg_stored (md:=md) HSR HNE HB HZ HM1 HM2))
      | (refine hK.out _ _ (SC.out _ (pg_merged (md:=md) HSR HNE HB0 HM10 HM20).1) ?_;have PG:=yH (pg_merged (md:=md) HSR HNE HB0 HM10 HM20))
     clear hK K;(try simp only[Act.put,zLa,zLb,zLc]);refine wpAnyH_done (by kernel_rfl) ?_ _;simp only[Exit.then];go_step;go_meet;exact⟨_,_,_,rfl,PG⟩
    ·go_simp;have HR2n:=nwR [1,9,10] 3 rfl (by decide) HB;(try simp only[World.size_alloc] at HR2n);try replace HR1:=upR (.cells ([1,9,10].map nv).toArray 3) HR1
     try replace HR2:=upR (.cells ([1,9,10].map nv).toArray 3) HR2
     try replace HM1:=upH (.cells ([1,9,10].map nv).toArray 3) HM1
     try replace HM2:=upH (.cells ([1,9,10].map nv).toArray 3) HM2
     try replace HZ:=upZ (.cells ([1,9,10].map nv).toArray 3) HZ
     replace HB:=upB (.cells ([1,9,10].map nv).toArray 3) HB;have HR2:=HR2n;clear HR2n;refine hK.out _ _ (SC.out _ HB.out) ?_;clear hK K;(try simp only[Act.put,zLa,zLb,zLc]);refine heldNext (i:=7) rfl (by kernel_rfl) (by rfl) (fun K hK=>?_)
     go_simp;go_at_call 39;refine(firsts_any Ck.kLabel _ [13] Ck.kLabel_eq (HSR.out.below HB.out) HNE.out HR1.out (by decide)).mono ?_;rintro e w2 ⟨rfl,hm,hb⟩;(try replace HR1:=cR HR1 hb);(try replace HR2:=cR HR2 hb);(try replace HM1:=cH HM1 hb);(try replace HM2:=cH HM2 hb);(try replace HZ:=cZ HZ hb);(replace HB:=cB HB hb);(try simp only[World.size_alloc] at hm);have HM1:=yH hm;clear hm hb;have hSS:=SC.out _ HB.out;first|(refine hK.out _ _ (SC.out _ HB.out) ?_)|(go_wp2_with fail;refine hK.out _ _ (SC.out _ HB.out) ?_);clear hK K
     (try simp only[Act.put,zLa,zLb,zLc]);refine heldNext (i:=11) rfl (by kernel_rfl) (by rfl) (fun K hK=>?_)
     go_simp;go_at_call 39;refine(firsts_any Ck.kSet _ [1,9,10] Ck.kSet_eq (HSR.out.below HB.out) HNE.out HR2.out (by decide)).mono ?_;rintro e w2 ⟨rfl,hm,hb⟩;(try replace HR1:=cR HR1 hb);(try replace HR2:=cR HR2 hb);(try replace HM1:=cH HM1 hb);(try replace HM2:=cH HM2 hb);(try replace HZ:=cZ HZ hb);(replace HB:=cB HB hb);(try simp only[World.size_alloc] at hm);have HM2:=yH hm;clear hm hb;have hSS:=SC.out _ HB.out;first|(refine hK.out _ _ (SC.out _ HB.out) ?_)|(go_wp2_with fail;refine hK.out _ _ (SC.out _ HB.out) ?_);clear hK K
     (try simp only[Act.put,zLa,zLb,zLc]);refine heldT (i:=12) ?_;refine heldNext (i:=14) rfl (by kernel_rfl) (by rfl) (fun K hK=>?_);obtain⟨z0,z1,z2,z3,zf⟩:=zcells HZ;go_simp
     first
      | (refine hK.out _ _ (SC.out _ (pg_stored (md:=md) HSR HNE HB HZ HM1 HM2).1) ?_;have PG:=yH (pg_stored (md:=md) HSR HNE HB HZ HM1 HM2))
      | (refine hK.out _ _ (SC.out _ (pg_merged (md:=md) HSR HNE HB0 HM10 HM20).1) ?_;have PG:=yH (pg_merged (md:=md) HSR HNE HB0 HM10 HM20))
     clear hK K;(try simp only[Act.put,zLa,zLb,zLc]);refine wpAnyH_done (by kernel_rfl) ?_ _;simp only[Exit.then];go_step;go_meet;exact⟨_,_,_,rfl,PG⟩
   ·go_simp;have HR2n:=nwR [1,9,10] 3 rfl (by decide) HB;(try simp only[World.size_alloc] at HR2n);try replace HR1:=upR (.cells ([1,9,10].map nv).toArray 3) HR1
    try replace HR2:=upR (.cells ([1,9,10].map nv).toArray 3) HR2
    try replace HM1:=upH (.cells ([1,9,10].map nv).toArray 3) HM1
    try replace HM2:=upH (.cells ([1,9,10].map nv).toArray 3) HM2
    try replace HZ:=upZ (.cells ([1,9,10].map nv).toArray 3) HZ
    replace HB:=upB (.cells ([1,9,10].map nv).toArray 3) HB;have HR2:=HR2n;clear HR2n;refine hK.out _ _ (SC.out _ HB.out) ?_;clear hK K;(try simp only[Act.put,zLa,zLb,zLc]);refine heldNext (i:=6) rfl (by kernel_rfl) (by rfl) (fun K hK=>?_);go_simp;have HR1n:=nwR [13] 1 rfl (by decide) HB;(try simp only[World.size_alloc] at HR1n);try replace HR1:=upR (.cells ([13].map nv).toArray 3) HR1
    try replace HR2:=upR (.cells ([13].map nv).toArray 3) HR2
    try replace HM1:=upH (.cells ([13].map nv).toArray 3) HM1
    try replace HM2:=upH (.cells ([13].map nv).toArray 3) HM2
    try replace HZ:=upZ (.cells ([13].map nv).toArray 3) HZ
    replace HB:=upB (.cells ([13].map nv).toArray 3) HB;have HR1:=HR1n;clear HR1n;refine hK.out _ _ (SC.out _ HB.out) ?_;clear hK K;(try simp only[Act.put,zLa,zLb,zLc]);refine heldNext (i:=7) rfl (by kernel_rfl) (by rfl) (fun K hK=>?_)
    go_simp;go_at_call 39;refine(firsts_any Ck.kLabel _ [13] Ck.kLabel_eq (HSR.out.below HB.out) HNE.out HR1.out (by decide)).mono ?_;rintro e w2 ⟨rfl,hm,hb⟩;(try replace HR1:=cR HR1 hb);(try replace HR2:=cR HR2 hb);(try replace HM1:=cH HM1 hb);(try replace HM2:=cH HM2 hb);(try replace HZ:=cZ HZ hb);(replace HB:=cB HB hb);(try simp only[World.size_alloc] at hm);have HM1:=yH hm;clear hm hb;have hSS:=SC.out _ HB.out;first|(refine hK.out _ _ (SC.out _ HB.out) ?_)|(go_wp2_with fail;refine hK.out _ _ (SC.out _ HB.out) ?_);clear hK K
    (try simp only[Act.put,zLa,zLb,zLc]);refine heldNext (i:=11) rfl (by kernel_rfl) (by rfl) (fun K hK=>?_)
    go_simp;go_at_call 39;refine(firsts_any Ck.kSet _ [1,9,10] Ck.kSet_eq (HSR.out.below HB.out) HNE.out HR2.out (by decide)).mono ?_;rintro e w2 ⟨rfl,hm,hb⟩;(try replace HR1:=cR HR1 hb);(try replace HR2:=cR HR2 hb);(try replace HM1:=cH HM1 hb);(try replace HM2:=cH HM2 hb);(try replace HZ:=cZ HZ hb);(replace HB:=cB HB hb);(try simp only[World.size_alloc] at hm);have HM2:=yH hm;clear hm hb;have hSS:=SC.out _ HB.out;first|(refine hK.out _ _ (SC.out _ HB.out) ?_)|(go_wp2_with fail;refine hK.out _ _ (SC.out _ HB.out) ?_);clear hK K
    (try simp only[Act.put,zLa,zLb,zLc]);refine heldT (i:=12) ?_;refine heldNext (i:=14) rfl (by kernel_rfl) (by rfl) (fun K hK=>?_);obtain⟨z0,z1,z2,z3,zf⟩:=zcells HZ;go_simp
    first
     | (refine hK.out _ _ (SC.out _ (pg_stored (md:=md) HSR HNE HB HZ HM1 HM2).1) ?_;have PG:=yH (pg_stored (md:=md) HSR HNE HB HZ HM1 HM2))
     | (refine hK.out _ _ (SC.out _ (pg_merged (md:=md) HSR HNE HB0 HM10 HM20).1) ?_;have PG:=yH (pg_merged (md:=md) HSR HNE HB0 HM10 HM20))
    clear hK K;(try simp only[Act.put,zLa,zLb,zLc]);refine wpAnyH_done (by kernel_rfl) ?_ _;simp only[Exit.then];go_step;go_meet;exact⟨_,_,_,rfl,PG⟩
 case rest =>
 obtain⟨b4,m1,m2,rfl,HPG⟩:=hcut;obtain⟨hbc,hkc,hck⟩:=HPG.out;have k0:=hkc.c0;have k1:=hkc.c1;have k2:=hkc.c2;have k3:=hkc.c3;have t1c:wc.cell? ⟨q,1,none⟩=some (.slice ao N cap):=(SC.out wc hbc).2;have RV:=rules_any wc md ao N cap m1 m2;have HBC:=yH hbc;have HCK:=yH hck;clear hbc hkc hck hs0 t1;go_step;go_wp2_with fail
 refine RV.mono ?_;rintro e wR ⟨rfl,hrb,hbR⟩;obtain⟨rb,hrbn⟩:∃ rb,wc.heap.size+1=rb:=⟨_,rfl⟩;rw[hrbn] at hrb ⊢;have HCR:=yH (HCK.out.below hbR);have t1R:wR.cell? ⟨q,1,none⟩=some (.slice ao N cap):=(SC.out wR (HBC.out.trans (hbR.mono HBC.out.size))).2;have HBR:=yH (HBT.out.trans ((HBC.out.trans (hbR.mono HBC.out.size)).mono HQS.out));have HQR:=yH (Nat.le_trans HQS.out (Nat.le_trans HBC.out.size hbR.size));have HRB:=yH hrb
 clear hrb hbR hrbn RV k0 k1 k2 k3 t1c HPG;go_wp2;go_loopw [28] (fun i wr=>∃ k:Nat,k≤N∧i = .int .i64 k∧Hid (Below wR.heap.size wR wr)∧Hid (Ck.prog md row=Ck.progGo md row k (row.drop k))) (fun i _=>N-(intOf i).toNat)
 case atStart=>exact⟨0,Nat.zero_le _,rfl,Below.refl _ _,yH rfl⟩
 case round =>
  obtain⟨k,hk,rfl,HW,HP⟩:=hrel;by_cases hlt:k<N
  ·obtain⟨st,hst⟩:∃ st,row[k]?=some st:=⟨_,List.getElem?_eq_getElem (by rw[←HN.out];exact hlt)⟩;have hcw:=HCR.out.below HW.out;obtain⟨g,lo,lc,mo,mc,rfl,_,_,c8⟩:=hcw.sr.at8 hst;have HIT:=yH (fun hw=>Ck.go_hit HP.out hst hw);have NEXT:=yH (fun hw=>Ck.go_next HP.out hst hw);have HWF:=yH (Ck.wrong_of (md:=md) (row:=row) (k:=k) (st:=st));have HST:=yH hst;obtain⟨K,S,TX,UX,n0,p0,L,M⟩:=st
   obtain⟨LL,hLL⟩:∃ x,L.length=x:=⟨_,rfl⟩;obtain⟨LM,hLM⟩:∃ x,M.length=x:=⟨_,rfl⟩;have d0:wr.cell? ⟨g,k*8,none⟩=some (.int .i64 (K:Int)):=c8.c0;have d1:wr.cell? ⟨g,k*8+1,none⟩=some (.string ⟨S.toArray⟩):=c8.c1;have d2:wr.cell? ⟨g,k*8+2,none⟩=some (.string ⟨TX.toArray⟩):=c8.c2;have d3:wr.cell? ⟨g,k*8+3,none⟩=some (.string ⟨UX.toArray⟩):=c8.c3;have d4:wr.cell? ⟨g,k*8+4,none⟩=some (.int .i64 (n0:Int)):=c8.c4
   have d5:wr.cell? ⟨g,k*8+5,none⟩=some (.int .i64 (p0:Int)):=c8.c5;have d6:wr.cell? ⟨g,k*8+6,none⟩=some (.slice lo LL lc):=(by rw[←hLL];exact c8.c6);have d7:wr.cell? ⟨g,k*8+7,none⟩=some (.slice mo LM mc):=by rw[←hLM];exact c8.c7
   obtain⟨V,hV⟩:∃ V,wr.alloc (.cells #[.int .i64 (K:Int),.string ⟨S.toArray⟩,.string ⟨TX.toArray⟩,.string ⟨UX.toArray⟩,.int .i64 (n0:Int),.int .i64 (p0:Int),.slice lo LL lc,.slice mo LM mc] 41)=V:=⟨_,rfl⟩;have hbV:Below wr.heap.size wr V:=(by rw[←hV];exact yA);obtain⟨b,hb⟩:∃ b,wr.heap.size=b:=⟨_,rfl⟩
   have hcb:V.heap[b]?=some (.cells #[.int .i64 (K:Int),.string ⟨S.toArray⟩,.string ⟨TX.toArray⟩,.string ⟨UX.toArray⟩,.int .i64 (n0:Int),.int .i64 (p0:Int),.slice lo LL lc,.slice mo LM mc] 41 (0,0)):=(by rw[←hb,←hV];exact heap_alloc_new _ _);have HCB:=yH hcb;have HB0:=yH (HW.out.trans (hbV.mono HW.out.size));have HCV:=yH (hcw.below hbV);have HV:=yH hV;have HBB:=yH hb;clear hst hLL hLM c8 hcb hbV hV hb hcw;go_upto_region 6 with fail
   rw[HV.out,HBB.out];clear d0 d1 d2 d3 d4 d5 d6 d7 HV HBB;go_wp2_with fail
   refine wp_loop_rounds 7 ?_;rw[rounds_succ];obtain⟨X,hX⟩:∃ X,V.alloc (.cells #[.int .i64 30,.func (.func 67) #[.agg #[.int .i64 (md:Int),.slice (some ⟨g,0,none⟩) N cap,.map (some m1),.map (some m2)]] #[]] 85)=X:=⟨_,rfl⟩;have hbX:Below V.heap.size V X:=(by rw[←hX];exact yA);obtain⟨b9,hb9⟩:∃ b9,V.heap.size=b9:=⟨_,rfl⟩
   have hcx:X.heap[b9]?=some (.cells #[.int .i64 30,.func (.func 67) #[.agg #[.int .i64 (md:Int),.slice (some ⟨g,0,none⟩) N cap,.map (some m1),.map (some m2)]] #[]] 85 (0,0)):=(by rw[←hb9,←hX];exact heap_alloc_new _ _);have r0:V.cell? ⟨rb,0,none⟩=some (.int .i64 30):=yC ((HB0.out.block _ (yD HRB.out).1).trans HRB.out)
   have r1:V.cell? ⟨rb,1,none⟩=some (.func (.func 67) #[.agg #[.int .i64 (md:Int),.slice (some ⟨g,0,none⟩) N cap,.map (some m1),.map (some m2)]] #[]):=yC ((HB0.out.block _ (yD HRB.out).1).trans HRB.out);have x1:X.cell? ⟨b9,1,none⟩=some (.func (.func 67) #[.agg #[.int .i64 (md:Int),.slice (some ⟨g,0,none⟩) N cap,.map (some m1),.map (some m2)]] #[]):=yC hcx
   have RL:=modeR_any (md:=md) (HCV.out.below hbX) HST.out;have HX:=yH hX;have HB9:=yH hb9;have HBX:=yH (HB0.out.trans (hbX.mono HB0.out.size));have HCX:=yH hcx;have HCBX:=yH ((hbX.block _ (yD HCB.out).1).trans HCB.out);have HCVX:=yH (HCV.out.below hbX);clear hX hbX hb9 hcx;go_upto_region 9 with fail
   rw[HX.out,HB9.out];clear r0 r1 HX HB9;go_wp2_with fail
   refine RL.mono ?_;rintro e y0 ⟨rfl,hby⟩;clear RL x1;cases hR:Ck.r1 md row ⟨K,S,TX,UX,n0,p0,L,M⟩ with
   | true =>
    have hfl:Ck.wrong md row k ⟨K,S,TX,UX,n0,p0,L,M⟩=30:=HWF.out.1  hR;have hpr:=HIT.out (by rw[hfl];decide);rw[hfl] at hpr;have hfu:Ck.r1 md row ⟨K,S,TX,UX,n0,p0,L,M⟩=true:=hR;unfold Ck.r1 at hfu;rw[hfu];have z5:∀ qq,(y0.drewN qq).cell? ⟨b,5,none⟩=some (.int .i64 (p0:Int)):=fun qq=>yC ((hby.block _ (yD HCBX.out).1).trans HCBX.out)
    have z6:∀ qq,(y0.drewN qq).cell? ⟨b9,0,none⟩=some (.int .i64 30):=fun qq=>yC ((hby.block _ (yD HCX.out).1).trans HCX.out);have HPR:=yH hpr;have HFB:=yH (HBR.out.trans ((HBX.out.trans (hby.mono HBX.out.size)).mono HQR.out));clear hfl hpr hfu hby hR;go_wp2_with fail
    go_quiet (fail)
    go_wp2;go_ret2;rw[HPR.out];exact⟨rfl,HFB.out.trans ⟨rfl,rfl,rfl,yR,fun _ _=>rfl⟩⟩
   | false =>
    have hfu:Ck.r1 md row ⟨K,S,TX,UX,n0,p0,L,M⟩=false:=hR;unfold Ck.r1 at hfu;rw[hfu];have F0:=yH hR;have HB1:=yH (HBX.out.trans (hby.mono HBX.out.size));replace HCV:=yH (HCVX.out.below hby);replace HCB:=yH ((hby.block _ (yD HCBX.out).1).trans HCBX.out);clear hfu hby hR HCVX HCBX HCX HBX;go_wp2;rw[rounds_succ]
    obtain⟨X,hX⟩:∃ X,y0.alloc (.cells #[.int .i64 1,.func (.func 68) #[.agg #[.int .i64 (md:Int),.slice (some ⟨g,0,none⟩) N cap,.map (some m1),.map (some m2)]] #[]] 85)=X:=⟨_,rfl⟩;have hbX:Below y0.heap.size y0 X:=(by rw[←hX];exact yA);obtain⟨b9,hb9⟩:∃ b9,y0.heap.size=b9:=⟨_,rfl⟩
    have hcx:X.heap[b9]?=some (.cells #[.int .i64 1,.func (.func 68) #[.agg #[.int .i64 (md:Int),.slice (some ⟨g,0,none⟩) N cap,.map (some m1),.map (some m2)]] #[]] 85 (0,0)):=(by rw[←hb9,←hX];exact heap_alloc_new _ _);have r0:y0.cell? ⟨rb,2,none⟩=some (.int .i64 1):=yC ((HB1.out.block _ (yD HRB.out).1).trans HRB.out)
    have r1:y0.cell? ⟨rb,3,none⟩=some (.func (.func 68) #[.agg #[.int .i64 (md:Int),.slice (some ⟨g,0,none⟩) N cap,.map (some m1),.map (some m2)]] #[]):=yC ((HB1.out.block _ (yD HRB.out).1).trans HRB.out);have x1:X.cell? ⟨b9,1,none⟩=some (.func (.func 68) #[.agg #[.int .i64 (md:Int),.slice (some ⟨g,0,none⟩) N cap,.map (some m1),.map (some m2)]] #[]):=yC hcx
    have RL:=window_any (md:=md) (HCV.out.below hbX) HST.out;have HX:=yH hX;have HB9:=yH hb9;have HBX:=yH (HB1.out.trans (hbX.mono HB1.out.size));have HCX:=yH hcx;have HCBX:=yH ((hbX.block _ (yD HCB.out).1).trans HCB.out);have HCVX:=yH (HCV.out.below hbX);clear hX hbX hb9 hcx;go_upto_region 9 with fail
    rw[HX.out,HB9.out];clear r0 r1 HX HB9;go_wp2_with fail
    refine RL.mono ?_;rintro e y1 ⟨rfl,hby⟩;clear RL x1;cases hR:Ck.r2 ⟨K,S,TX,UX,n0,p0,L,M⟩ with
    | true =>
     have hfl:Ck.wrong md row k ⟨K,S,TX,UX,n0,p0,L,M⟩=1:=HWF.out.2.1 F0.out hR;have hpr:=HIT.out (by rw[hfl];decide);rw[hfl] at hpr;have hfu:Ck.r2 ⟨K,S,TX,UX,n0,p0,L,M⟩=true:=hR;unfold Ck.r2 at hfu;rw[hfu];have z5:∀ qq,(y1.drewN qq).cell? ⟨b,5,none⟩=some (.int .i64 (p0:Int)):=fun qq=>yC ((hby.block _ (yD HCBX.out).1).trans HCBX.out)
     have z6:∀ qq,(y1.drewN qq).cell? ⟨b9,0,none⟩=some (.int .i64 1):=fun qq=>yC ((hby.block _ (yD HCX.out).1).trans HCX.out);have HPR:=yH hpr;have HFB:=yH (HBR.out.trans ((HBX.out.trans (hby.mono HBX.out.size)).mono HQR.out));clear hfl hpr hfu hby hR;go_wp2_with fail
     go_quiet (fail)
     go_wp2;go_ret2;rw[HPR.out];exact⟨rfl,HFB.out.trans ⟨rfl,rfl,rfl,yR,fun _ _=>rfl⟩⟩
    | false =>
     have hfu:Ck.r2 ⟨K,S,TX,UX,n0,p0,L,M⟩=false:=hR;unfold Ck.r2 at hfu;rw[hfu];have F1:=yH hR;have HB2:=yH (HBX.out.trans (hby.mono HBX.out.size));replace HCV:=yH (HCVX.out.below hby);replace HCB:=yH ((hby.block _ (yD HCBX.out).1).trans HCBX.out);clear hfu hby hR HCVX HCBX HCX HBX;go_wp2;rw[rounds_succ]
     obtain⟨X,hX⟩:∃ X,y1.alloc (.cells #[.int .i64 34,.func (.func 69) #[.agg #[.int .i64 (md:Int),.slice (some ⟨g,0,none⟩) N cap,.map (some m1),.map (some m2)]] #[]] 85)=X:=⟨_,rfl⟩;have hbX:Below y1.heap.size y1 X:=(by rw[←hX];exact yA);obtain⟨b9,hb9⟩:∃ b9,y1.heap.size=b9:=⟨_,rfl⟩
     have hcx:X.heap[b9]?=some (.cells #[.int .i64 34,.func (.func 69) #[.agg #[.int .i64 (md:Int),.slice (some ⟨g,0,none⟩) N cap,.map (some m1),.map (some m2)]] #[]] 85 (0,0)):=(by rw[←hb9,←hX];exact heap_alloc_new _ _);have r0:y1.cell? ⟨rb,4,none⟩=some (.int .i64 34):=yC ((HB2.out.block _ (yD HRB.out).1).trans HRB.out)
     have r1:y1.cell? ⟨rb,5,none⟩=some (.func (.func 69) #[.agg #[.int .i64 (md:Int),.slice (some ⟨g,0,none⟩) N cap,.map (some m1),.map (some m2)]] #[]):=yC ((HB2.out.block _ (yD HRB.out).1).trans HRB.out);have x1:X.cell? ⟨b9,1,none⟩=some (.func (.func 69) #[.agg #[.int .i64 (md:Int),.slice (some ⟨g,0,none⟩) N cap,.map (some m1),.map (some m2)]] #[]):=yC hcx
     have RL:=codesR_any (md:=md) (HCV.out.below hbX) HST.out;have HX:=yH hX;have HB9:=yH hb9;have HBX:=yH (HB2.out.trans (hbX.mono HB2.out.size));have HCX:=yH hcx;have HCBX:=yH ((hbX.block _ (yD HCB.out).1).trans HCB.out);have HCVX:=yH (HCV.out.below hbX);clear hX hbX hb9 hcx;go_upto_region 9 with fail
     rw[HX.out,HB9.out];clear r0 r1 HX HB9;go_wp2_with fail
     refine RL.mono ?_;rintro e y2 ⟨rfl,hby⟩;clear RL x1;cases hR:Ck.r3 md ⟨K,S,TX,UX,n0,p0,L,M⟩ with
     | true =>
      have hfl:Ck.wrong md row k ⟨K,S,TX,UX,n0,p0,L,M⟩=34:=HWF.out.2.2.1 F0.out F1.out hR;have hpr:=HIT.out (by rw[hfl];decide);rw[hfl] at hpr;have hfu:Ck.r3 md ⟨K,S,TX,UX,n0,p0,L,M⟩=true:=hR;unfold Ck.r3 at hfu;rw[hfu];have z5:∀ qq,(y2.drewN qq).cell? ⟨b,5,none⟩=some (.int .i64 (p0:Int)):=fun qq=>yC ((hby.block _ (yD HCBX.out).1).trans HCBX.out)
      have z6:∀ qq,(y2.drewN qq).cell? ⟨b9,0,none⟩=some (.int .i64 34):=fun qq=>yC ((hby.block _ (yD HCX.out).1).trans HCX.out);have HPR:=yH hpr;have HFB:=yH (HBR.out.trans ((HBX.out.trans (hby.mono HBX.out.size)).mono HQR.out));clear hfl hpr hfu hby hR;go_wp2_with fail
      go_quiet (fail)
      go_wp2;go_ret2;rw[HPR.out];exact⟨rfl,HFB.out.trans ⟨rfl,rfl,rfl,yR,fun _ _=>rfl⟩⟩
     | false =>
      have hfu:Ck.r3 md ⟨K,S,TX,UX,n0,p0,L,M⟩=false:=hR;unfold Ck.r3 at hfu;rw[hfu];have F2:=yH hR;have HB3:=yH (HBX.out.trans (hby.mono HBX.out.size));replace HCV:=yH (HCVX.out.below hby);replace HCB:=yH ((hby.block _ (yD HCBX.out).1).trans HCBX.out);clear hfu hby hR HCVX HCBX HCX HBX;go_wp2;rw[rounds_succ]
      obtain⟨X,hX⟩:∃ X,y2.alloc (.cells #[.int .i64 31,.func (.func 70) #[.agg #[.int .i64 (md:Int),.slice (some ⟨g,0,none⟩) N cap,.map (some m1),.map (some m2)]] #[]] 85)=X:=⟨_,rfl⟩;have hbX:Below y2.heap.size y2 X:=(by rw[←hX];exact yA);obtain⟨b9,hb9⟩:∃ b9,y2.heap.size=b9:=⟨_,rfl⟩
      have hcx:X.heap[b9]?=some (.cells #[.int .i64 31,.func (.func 70) #[.agg #[.int .i64 (md:Int),.slice (some ⟨g,0,none⟩) N cap,.map (some m1),.map (some m2)]] #[]] 85 (0,0)):=(by rw[←hb9,←hX];exact heap_alloc_new _ _);have r0:y2.cell? ⟨rb,6,none⟩=some (.int .i64 31):=yC ((HB3.out.block _ (yD HRB.out).1).trans HRB.out)
      have r1:y2.cell? ⟨rb,7,none⟩=some (.func (.func 70) #[.agg #[.int .i64 (md:Int),.slice (some ⟨g,0,none⟩) N cap,.map (some m1),.map (some m2)]] #[]):=yC ((HB3.out.block _ (yD HRB.out).1).trans HRB.out);have x1:X.cell? ⟨b9,1,none⟩=some (.func (.func 70) #[.agg #[.int .i64 (md:Int),.slice (some ⟨g,0,none⟩) N cap,.map (some m1),.map (some m2)]] #[]):=yC hcx
      have RL:=again_any (md:=md) (HCV.out.below hbX) HST.out;have HX:=yH hX;have HB9:=yH hb9;have HBX:=yH (HB3.out.trans (hbX.mono HB3.out.size));have HCX:=yH hcx;have HCBX:=yH ((hbX.block _ (yD HCB.out).1).trans HCB.out);have HCVX:=yH (HCV.out.below hbX);clear hX hbX hb9 hcx;go_upto_region 9 with fail
      rw[HX.out,HB9.out];clear r0 r1 HX HB9;go_wp2_with fail
      refine RL.mono ?_;rintro e y3 ⟨rfl,hby⟩;clear RL x1;cases hR:Ck.r4 row k ⟨K,S,TX,UX,n0,p0,L,M⟩ with
      | true =>
       have hfl:Ck.wrong md row k ⟨K,S,TX,UX,n0,p0,L,M⟩=31:=HWF.out.2.2.2.1 F0.out F1.out F2.out hR;have hpr:=HIT.out (by rw[hfl];decide);rw[hfl] at hpr;have hfu:Ck.r4 row k ⟨K,S,TX,UX,n0,p0,L,M⟩=true:=hR;unfold Ck.r4 at hfu;rw[hfu];have z5:∀ qq,(y3.drewN qq).cell? ⟨b,5,none⟩=some (.int .i64 (p0:Int)):=fun qq=>yC ((hby.block _ (yD HCBX.out).1).trans HCBX.out)
       have z6:∀ qq,(y3.drewN qq).cell? ⟨b9,0,none⟩=some (.int .i64 31):=fun qq=>yC ((hby.block _ (yD HCX.out).1).trans HCX.out);have HPR:=yH hpr;have HFB:=yH (HBR.out.trans ((HBX.out.trans (hby.mono HBX.out.size)).mono HQR.out));clear hfl hpr hfu hby hR;go_wp2_with fail
       go_quiet (fail)
       go_wp2;go_ret2;rw[HPR.out];exact⟨rfl,HFB.out.trans ⟨rfl,rfl,rfl,yR,fun _ _=>rfl⟩⟩
      | false =>
       have hfu:Ck.r4 row k ⟨K,S,TX,UX,n0,p0,L,M⟩=false:=hR;unfold Ck.r4 at hfu;rw[hfu];have F3:=yH hR;have HB4:=yH (HBX.out.trans (hby.mono HBX.out.size));replace HCV:=yH (HCVX.out.below hby);replace HCB:=yH ((hby.block _ (yD HCBX.out).1).trans HCBX.out);clear hfu hby hR HCVX HCBX HCX HBX;go_wp2;rw[rounds_succ]
       obtain⟨X,hX⟩:∃ X,y3.alloc (.cells #[.int .i64 33,.func (.func 71) #[.agg #[.int .i64 (md:Int),.slice (some ⟨g,0,none⟩) N cap,.map (some m1),.map (some m2)]] #[]] 85)=X:=⟨_,rfl⟩;have hbX:Below y3.heap.size y3 X:=(by rw[←hX];exact yA);obtain⟨b9,hb9⟩:∃ b9,y3.heap.size=b9:=⟨_,rfl⟩
       have hcx:X.heap[b9]?=some (.cells #[.int .i64 33,.func (.func 71) #[.agg #[.int .i64 (md:Int),.slice (some ⟨g,0,none⟩) N cap,.map (some m1),.map (some m2)]] #[]] 85 (0,0)):=(by rw[←hb9,←hX];exact heap_alloc_new _ _);have r0:y3.cell? ⟨rb,8,none⟩=some (.int .i64 33):=yC ((HB4.out.block _ (yD HRB.out).1).trans HRB.out)
       have r1:y3.cell? ⟨rb,9,none⟩=some (.func (.func 71) #[.agg #[.int .i64 (md:Int),.slice (some ⟨g,0,none⟩) N cap,.map (some m1),.map (some m2)]] #[]):=yC ((HB4.out.block _ (yD HRB.out).1).trans HRB.out);have x1:X.cell? ⟨b9,1,none⟩=some (.func (.func 71) #[.agg #[.int .i64 (md:Int),.slice (some ⟨g,0,none⟩) N cap,.map (some m1),.map (some m2)]] #[]):=yC hcx
       have RL:=missing_any (md:=md) (HCV.out.below hbX) HST.out;have HX:=yH hX;have HB9:=yH hb9;have HBX:=yH (HB4.out.trans (hbX.mono HB4.out.size));have HCX:=yH hcx;have HCBX:=yH ((hbX.block _ (yD HCB.out).1).trans HCB.out);have HCVX:=yH (HCV.out.below hbX);clear hX hbX hb9 hcx;go_upto_region 9 with fail
       rw[HX.out,HB9.out];clear r0 r1 HX HB9;go_wp2_with fail
       refine RL.mono ?_;rintro e y4 ⟨rfl,hby⟩;clear RL x1;cases hR:Ck.r5 row ⟨K,S,TX,UX,n0,p0,L,M⟩ with
       | true =>
        have hfl:Ck.wrong md row k ⟨K,S,TX,UX,n0,p0,L,M⟩=33:=HWF.out.2.2.2.2.1 F0.out F1.out F2.out F3.out hR;have hpr:=HIT.out (by rw[hfl];decide);rw[hfl] at hpr;have hfu:Ck.r5 row ⟨K,S,TX,UX,n0,p0,L,M⟩=true:=hR;unfold Ck.r5 at hfu;rw[hfu];have z5:∀ qq,(y4.drewN qq).cell? ⟨b,5,none⟩=some (.int .i64 (p0:Int)):=fun qq=>yC ((hby.block _ (yD HCBX.out).1).trans HCBX.out)
        have z6:∀ qq,(y4.drewN qq).cell? ⟨b9,0,none⟩=some (.int .i64 33):=fun qq=>yC ((hby.block _ (yD HCX.out).1).trans HCX.out);have HPR:=yH hpr;have HFB:=yH (HBR.out.trans ((HBX.out.trans (hby.mono HBX.out.size)).mono HQR.out));clear hfl hpr hfu hby hR;go_wp2_with fail
        go_quiet (fail)
        go_wp2;go_ret2;rw[HPR.out];exact⟨rfl,HFB.out.trans ⟨rfl,rfl,rfl,yR,fun _ _=>rfl⟩⟩
       | false =>
        have hfu:Ck.r5 row ⟨K,S,TX,UX,n0,p0,L,M⟩=false:=hR;unfold Ck.r5 at hfu;rw[hfu];have F4:=yH hR;have HB5:=yH (HBX.out.trans (hby.mono HBX.out.size));replace HCV:=yH (HCVX.out.below hby);replace HCB:=yH ((hby.block _ (yD HCBX.out).1).trans HCBX.out);clear hfu hby hR HCVX HCBX HCX HBX;go_wp2;rw[rounds_succ]
        obtain⟨X,hX⟩:∃ X,y4.alloc (.cells #[.int .i64 32,.func (.func 72) #[.agg #[.int .i64 (md:Int),.slice (some ⟨g,0,none⟩) N cap,.map (some m1),.map (some m2)]] #[]] 85)=X:=⟨_,rfl⟩;have hbX:Below y4.heap.size y4 X:=(by rw[←hX];exact yA);obtain⟨b9,hb9⟩:∃ b9,y4.heap.size=b9:=⟨_,rfl⟩
        have hcx:X.heap[b9]?=some (.cells #[.int .i64 32,.func (.func 72) #[.agg #[.int .i64 (md:Int),.slice (some ⟨g,0,none⟩) N cap,.map (some m1),.map (some m2)]] #[]] 85 (0,0)):=(by rw[←hb9,←hX];exact heap_alloc_new _ _);have r0:y4.cell? ⟨rb,10,none⟩=some (.int .i64 32):=yC ((HB5.out.block _ (yD HRB.out).1).trans HRB.out)
        have r1:y4.cell? ⟨rb,11,none⟩=some (.func (.func 72) #[.agg #[.int .i64 (md:Int),.slice (some ⟨g,0,none⟩) N cap,.map (some m1),.map (some m2)]] #[]):=yC ((HB5.out.block _ (yD HRB.out).1).trans HRB.out);have x1:X.cell? ⟨b9,1,none⟩=some (.func (.func 72) #[.agg #[.int .i64 (md:Int),.slice (some ⟨g,0,none⟩) N cap,.map (some m1),.map (some m2)]] #[]):=yC hcx
        have RL:=textR_any (md:=md) (HCV.out.below hbX) HST.out;have HX:=yH hX;have HB9:=yH hb9;have HBX:=yH (HB5.out.trans (hbX.mono HB5.out.size));have HCX:=yH hcx;have HCBX:=yH ((hbX.block _ (yD HCB.out).1).trans HCB.out);have HCVX:=yH (HCV.out.below hbX);clear hX hbX hb9 hcx;go_upto_region 9 with fail
        rw[HX.out,HB9.out];clear r0 r1 HX HB9;go_wp2_with fail
        refine RL.mono ?_;rintro e y5 ⟨rfl,hby⟩;clear RL x1;cases hR:Ck.r6 row ⟨K,S,TX,UX,n0,p0,L,M⟩ with
        | true =>
         have hfl:Ck.wrong md row k ⟨K,S,TX,UX,n0,p0,L,M⟩=32:=HWF.out.2.2.2.2.2.1 F0.out F1.out F2.out F3.out F4.out hR;have hpr:=HIT.out (by rw[hfl];decide);rw[hfl] at hpr;have hfu:Ck.r6 row ⟨K,S,TX,UX,n0,p0,L,M⟩=true:=hR;unfold Ck.r6 at hfu;rw[hfu];have z5:∀ qq,(y5.drewN qq).cell? ⟨b,5,none⟩=some (.int .i64 (p0:Int)):=fun qq=>yC ((hby.block _ (yD HCBX.out).1).trans HCBX.out)
         have z6:∀ qq,(y5.drewN qq).cell? ⟨b9,0,none⟩=some (.int .i64 32):=fun qq=>yC ((hby.block _ (yD HCX.out).1).trans HCX.out);have HPR:=yH hpr;have HFB:=yH (HBR.out.trans ((HBX.out.trans (hby.mono HBX.out.size)).mono HQR.out));clear hfl hpr hfu hby hR;go_wp2_with fail
         go_quiet (fail)
         go_wp2;go_ret2;rw[HPR.out];exact⟨rfl,HFB.out.trans ⟨rfl,rfl,rfl,yR,fun _ _=>rfl⟩⟩
        | false =>
         have hfu:Ck.r6 row ⟨K,S,TX,UX,n0,p0,L,M⟩=false:=hR;unfold Ck.r6 at hfu;rw[hfu];have F5:=yH hR;have HB6:=yH (HBX.out.trans (hby.mono HBX.out.size));replace HCV:=yH (HCVX.out.below hby);replace HCB:=yH ((hby.block _ (yD HCBX.out).1).trans HCBX.out);clear hfu hby hR HCVX HCBX HCX HBX;go_wp2
         have hfl:Ck.wrong md row k ⟨K,S,TX,UX,n0,p0,L,M⟩=0:=HWF.out.2.2.2.2.2.2 F0.out F1.out F2.out F3.out F4.out F5.out;have HNX:=yH (NEXT.out hfl);clear hfl;rw[rounds_succ];go_wp2;go_roundw
         case rel=>exact⟨k+1,by omega,by go_num,HB6.out,HNX.out⟩
         case measure=>simp[intOf];omega
  ·have HE:=yH (Ck.go_end HP.out (by rw[←HN.out];omega));have HF:=yH (HBR.out.trans (HW.out.mono HQR.out));go_wp2;go_ret2;rw[HE.out];exact⟨rfl,HF.out⟩
end Go.Proofs.YtodlhhfcjkjapaaGreatDoor
