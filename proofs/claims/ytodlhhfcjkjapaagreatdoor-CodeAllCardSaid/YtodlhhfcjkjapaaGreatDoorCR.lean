import Derived.Test.YtodlhhfcjkjapaaGreatDoorCB
import Derived.Test.YtodlhhfcjkjapaaGreatDoorBA
import Derived.BigQuiet
import Derived.Deep.QuietTactic
import Derived.Deep.CutRange
import Derived.Test.YtodlhhfcjkjapaaGreatDoorRN
import Derived.Test.YtodlhhfcjkjapaaGreatDoorPJ
import Derived.Test.YtodlhhfcjkjapaaGreatDoorLR
import Derived.Test.YtodlhhfcjkjapaaGreatDoorCA
import Derived.Test.YtodlhhfcjkjapaaGreatDoorPM
set_option maxRecDepth 200000
set_option maxHeartbeats 8000000
namespace Go.Proofs.YtodlhhfcjkjapaaGreatDoor
open Go.RowKit
open Ck (nms kLabel kSet)
theorem nms_next {q:Nat→Bool} {row:List Ps.St} {k:Nat} {st:Ps.St} (h:row[k]?=some st):nms q (row.take (k+1))=nms q (row.take k)++(if q st.kind=true then [st.s] else []):=by
 unfold nms;rw[List.take_add_one,h,List.filter_append,List.map_append];by_cases hq:q st.kind=true
 ·rw[if_pos hq];simp[hq]
 ·rw[if_neg hq];simp[hq]
theorem nms_no {q:Nat→Bool} {row:List Ps.St} {k:Nat} {st:Ps.St} {x:List UInt8} (h:row[k]?=some st) (hn:(nms q (row.take k)).contains x=false) (hx:q st.kind=false∨(st.s==x)=false):(nms q (row.take (k+1))).contains x=false:=by
 rw[nms_next h,List.contains_append,hn];rcases hx with hx|hx
 ·rw[if_neg (by rw[hx];decide)];rfl
 ·by_cases hq:q st.kind=true
  ·rw[if_pos hq];have:x≠st.s:=(by rw[beq_eq_false_iff_ne] at hx;exact fun e=>hx e.symm);simp[this]
  ·rw[if_neg hq];rfl
theorem nms_yes {q:Nat→Bool} {row:List Ps.St} {j k:Nat} {st:Ps.St} {x:List UInt8} (h:row[j]?=some st) (hjk:j<k) (hq:q st.kind=true) (hx:(st.s==x)=true):(nms q (row.take k)).contains x=true:=by
 rw[List.contains_iff_mem];unfold nms;refine List.mem_map.2 ⟨st,List.mem_filter.2 ⟨?_,hq⟩,by simpa using hx⟩;refine List.mem_of_getElem? (i:=j) ?_;rw[List.getElem?_take_of_lt hjk];exact h
structure RPc (w:World) (ao:Option Addr) (N cap:Nat) (row:List Ps.St):Prop where
 sr:SR w (.slice ao N cap) row
 ne:Ps.Neat row
theorem RPc.below {w w':World} {ao:Option Addr} {N cap:Nat} {row:List Ps.St} (h:RPc w ao N cap row) (hb:Below w.heap.size w w'):RPc w' ao N cap row:=⟨h.sr.below hb,h.ne⟩
section
variable {w:World} {md:Nat} {ao uo:Option Addr} {N cap un uc:Nat} {row:List Ps.St}
theorem hasl_any (h:RPc w ao N cap row) (k:Nat) (hk:k≤N) (x:List UInt8) :
  Calls Tryz.prog 51 #[.agg #[.int .i64 (md:Int),.slice ao N cap,.slice uo un uc],.int .i64 (k:Int),.string ⟨x.toArray⟩,.bool true] w fun e w'=>e = .returned (.bool ((nms kLabel (row.take k)).contains x))∧Below w.heap.size w w':=by
 obtain⟨RR,hRR⟩:∃ R:Bool,(nms kLabel (row.take k)).contains x=R:=⟨_,rfl⟩;rw[hRR];have HRR:=yH hRR;clear hRR;obtain⟨T,hT⟩:∃ T,w.alloc (.cells #[.int .i64 (md:Int),.slice ao N cap,.slice uo un uc] 32)=T:=⟨_,rfl⟩;have hbT:Below w.heap.size w T:=(by rw[←hT];exact yA);have hz:H3 T w.heap.size [.int .i64 (md:Int),.slice ao N cap,.slice uo un uc]:=(by rw[←hT];exact heap_alloc_new _ _);have hN:=h.sr.len
 have hN1:N≤100:=(by rw[hN];exact h.ne.few);have HR:=yH (h.below hbT);obtain⟨q,hq⟩:∃ q,w.heap.size=q:=⟨_,rfl⟩;rw[hq] at hbT hz;have z1:=hz.cell (i:=1) rfl;have HT:=yH hT;have HQ:=yH hq;have HB:=yH hbT;have HN:=yH hN;clear hT hbT hz hN h;rw[hq];clear hq;go_enter Tryz.func51,Tryz.ntmps51;go_upto_region 1 with fail
 rw[HT.out,HQ.out];go_wp2;go_loopw [9] (fun i wr=>∃ j:Nat,j≤k∧i = .int .i64 j∧Hid ((nms kLabel (row.take j)).contains x=false)∧wr=T) (fun i _=>k-(intOf i).toNat)
 case atStart=>exact⟨0,Nat.zero_le _,rfl,yH (by simp[nms]),rfl⟩
 case round =>
  obtain⟨j,hj,rfl,HE,hwr⟩:=hrel;subst hwr;by_cases hlt:j<k
  ·obtain⟨st,hst⟩:∃ st,row[j]?=some st:=⟨_,List.getElem?_eq_getElem (by have:=HN.out;omega)⟩;obtain⟨g,lo,lc,mo,mc,rfl,_,_,c8⟩:=HR.out.sr.at8 hst;have YES:=yH (fun hq hx=>nms_yes (q:=kLabel) (k:=k) (x:=x) hst hlt hq hx);have NO:=yH (fun hx=>nms_no (q:=kLabel) (x:=x) hst HE.out hx);have d0:=c8.c0;have d1:=c8.c1;obtain⟨K,S,TX,UX,n0,p0,L,M⟩:=st;dsimp only at YES NO d0 d1;have jN:j<N:=by omega
   have jN2:(j:Int)<(N:Int):=(by omega);clear hst c8 HR;by_cases h13:K=13
   ·subst h13;replace d0:wr.cell? ⟨g,j*8,none⟩=some (.int .i64 13):=d0;cases hsx:S==x with
    | true =>
     have HR:=yH (YES.out (by decide) hsx);clear YES NO;go_wp2;go_ret;exact⟨ret_b (HR.out.symm.trans HRR.out),HB.out⟩
    | false =>
     have HR:=yH (NO.out (.inr hsx));clear YES NO;go_wp2;go_roundw
     case rel=>exact⟨j+1,by omega,by go_num,HR.out,by first|rfl|trivial⟩
     case measure=>simp[intOf];omega
   have e13a:((K:Int)==13)=false:=yB;have e13b:((K:Int)=13)=False:=yF;have e13c:((K:Int) != 13)=true:=(by rw[bne_iff_ne];omega);have e13d:(K=13)=False:=yF;have HR:=yH (NO.out (.inl (by simp[kLabel,h13])));clear YES NO h13;go_wp2;go_roundw
   case rel=>exact⟨j+1,by omega,by go_num,HR.out,by first|rfl|trivial⟩
   case measure=>simp[intOf];omega
  ·obtain rfl:j=k:=(by omega);go_wp2;go_ret;exact⟨ret_b (HE.out.symm.trans HRR.out),HB.out⟩
theorem hass_any (h:RPc w ao N cap row) (k:Nat) (hk:k≤N) (x:List UInt8) :
  Calls Tryz.prog 51 #[.agg #[.int .i64 (md:Int),.slice ao N cap,.slice uo un uc],.int .i64 (k:Int),.string ⟨x.toArray⟩,.bool false] w fun e w'=>e = .returned (.bool ((nms kSet (row.take k)).contains x))∧Below w.heap.size w w':=by
 obtain⟨RR,hRR⟩:∃ R:Bool,(nms kSet (row.take k)).contains x=R:=⟨_,rfl⟩;rw[hRR];have HRR:=yH hRR;clear hRR;obtain⟨T,hT⟩:∃ T,w.alloc (.cells #[.int .i64 (md:Int),.slice ao N cap,.slice uo un uc] 32)=T:=⟨_,rfl⟩;have hbT:Below w.heap.size w T:=(by rw[←hT];exact yA);have hz:H3 T w.heap.size [.int .i64 (md:Int),.slice ao N cap,.slice uo un uc]:=(by rw[←hT];exact heap_alloc_new _ _);have hN:=h.sr.len
 have hN1:N≤100:=(by rw[hN];exact h.ne.few);have HR:=yH (h.below hbT);obtain⟨q,hq⟩:∃ q,w.heap.size=q:=⟨_,rfl⟩;rw[hq] at hbT hz;have z1:=hz.cell (i:=1) rfl;have HT:=yH hT;have HQ:=yH hq;have HB:=yH hbT;have HN:=yH hN;clear hT hbT hz hN h;rw[hq];clear hq;go_enter Tryz.func51,Tryz.ntmps51;go_upto_region 1 with fail
 rw[HT.out,HQ.out];go_wp2;go_loopw [9] (fun i wr=>∃ j:Nat,j≤k∧i = .int .i64 j∧Hid ((nms kSet (row.take j)).contains x=false)∧wr=T) (fun i _=>k-(intOf i).toNat)
 case atStart=>exact⟨0,Nat.zero_le _,rfl,yH (by simp[nms]),rfl⟩
 case round =>
  obtain⟨j,hj,rfl,HE,hwr⟩:=hrel;subst hwr;by_cases hlt:j<k
  ·obtain⟨st,hst⟩:∃ st,row[j]?=some st:=⟨_,List.getElem?_eq_getElem (by have:=HN.out;omega)⟩;obtain⟨g,lo,lc,mo,mc,rfl,_,_,c8⟩:=HR.out.sr.at8 hst;have YES:=yH (fun hq hx=>nms_yes (q:=kSet) (k:=k) (x:=x) hst hlt hq hx);have NO:=yH (fun hx=>nms_no (q:=kSet) (x:=x) hst HE.out hx);have d0:=c8.c0;have d1:=c8.c1;obtain⟨K,S,TX,UX,n0,p0,L,M⟩:=st;dsimp only at YES NO d0 d1;have jN:j<N:=by omega
   have jN2:(j:Int)<(N:Int):=(by omega);clear hst c8 HR;by_cases h3:K≠1∧K≠9∧K≠10
   ·have e1a:((K:Int)==1)=false:=yB;have e1b:((K:Int)=1)=False:=yF;have e1c:((K:Int) != 1)=true:=(by rw[bne_iff_ne];omega);have e1d:(K=1)=False:=yF;have e9a:((K:Int)==9)=false:=yB;have e9b:((K:Int)=9)=False:=yF;have e9c:((K:Int) != 9)=true:=(by rw[bne_iff_ne];omega);have e9d:(K=9)=False:=yF
    have e10a:((K:Int)==10)=false:=yB;have e10b:((K:Int)=10)=False:=yF;have e10c:((K:Int) != 10)=true:=(by rw[bne_iff_ne];omega);have e10d:(K=10)=False:=yF;have HR:=yH (NO.out (.inl (by simp[kSet,e1d,e9d,e10d])));clear YES NO h3;go_wp2;go_roundw
    case rel=>exact⟨j+1,by omega,by go_num,HR.out,by first|rfl|trivial⟩
    case measure=>simp[intOf];omega
   have hw:K=1∨K=9∨K=10:=(by omega);clear h3;rcases hw with rfl|rfl|rfl
   iterate 3
    ·simp only[Int.cast_ofNat_Int] at d0;cases hsx:S==x with
     | true =>
      have HR:=yH (YES.out (by decide) hsx);clear YES NO;go_wp2;go_ret;exact⟨ret_b (HR.out.symm.trans HRR.out),HB.out⟩
     | false =>
      have HR:=yH (NO.out (.inr hsx));clear YES NO;go_wp2;go_roundw
      case rel=>exact⟨j+1,by omega,by go_num,HR.out,by first|rfl|trivial⟩
      case measure=>simp[intOf];omega
  ·obtain rfl:j=k:=(by omega);go_wp2;go_ret;exact⟨ret_b (HE.out.symm.trans HRR.out),HB.out⟩
theorem rcodesof_any (K:Nat) (S TX UX:List UInt8) (n0 p0:Nat) (L M:List Nat) (lo mo:Option Addr) (LL lc LM mc:Nat) (hsm:S.length≤100∧TX.length≤100∧UX.length≤100) (w:World) :
  Calls Tryz.prog 49 #[.agg #[.int .i64 (K:Int),.string ⟨S.toArray⟩,.string ⟨TX.toArray⟩,.string ⟨UX.toArray⟩,.int .i64 (n0:Int),.int .i64 (p0:Int),.slice lo LL lc,.slice mo LM mc]] w fun e w'=>∃ c asks,e = .returned (.tuple #[.string ⟨c.toArray⟩,.bool asks])∧c.length≤100∧((asks=true∧Ck.codesOf ⟨K,S,TX,UX,n0,p0,L,M⟩=some c)∨(asks=false∧Ck.codesOf ⟨K,S,TX,UX,n0,p0,L,M⟩=none))∧Below w.heap.size w w':=by
 obtain⟨T,hT⟩:∃ T,w.alloc (.cells #[.int .i64 (K:Int),.string ⟨S.toArray⟩,.string ⟨TX.toArray⟩,.string ⟨UX.toArray⟩,.int .i64 (n0:Int),.int .i64 (p0:Int),.slice lo LL lc,.slice mo LM mc] 41)=T:=⟨_,rfl⟩;have hbT:Below w.heap.size w T:=(by rw[←hT];exact yA);obtain⟨q,hq⟩:∃ q,w.heap.size=q:=⟨_,rfl⟩
 have hcb:T.heap[q]?=some (.cells #[.int .i64 (K:Int),.string ⟨S.toArray⟩,.string ⟨TX.toArray⟩,.string ⟨UX.toArray⟩,.int .i64 (n0:Int),.int .i64 (p0:Int),.slice lo LL lc,.slice mo LM mc] 41 (0,0)):=(by rw[←hq,←hT];exact heap_alloc_new _ _);have s0:T.cell? ⟨q,0,none⟩=some (.int .i64 (K:Int)):=yC hcb;have s1:T.cell? ⟨q,1,none⟩=some (.string ⟨S.toArray⟩):=yC hcb
 have s2:T.cell? ⟨q,2,none⟩=some (.string ⟨TX.toArray⟩):=yC hcb;have s3:T.cell? ⟨q,3,none⟩=some (.string ⟨UX.toArray⟩):=yC hcb;have HT:=yH hT;have HQ:=yH hq;rw[hq] at hbT;have HB:=yH hbT;have HSM:=yH hsm;clear hT hcb hbT hsm;rw[hq];clear hq;go_enter Tryz.func49,Tryz.ntmps49;go_upto_region 1 with fail
 rw[HT.out,HQ.out];clear HT HQ;by_cases hother:K≠2∧K≠3∧K≠4∧K≠8∧K≠5∧K≠9
 ·have e2a:((K:Int)==2)=false:=yB;have e2b:((K:Int)=2)=False:=yF;have e2c:((K:Int) != 2)=true:=(by rw[bne_iff_ne];omega);have e2d:(K=2)=False:=yF;have e3a:((K:Int)==3)=false:=yB;have e3b:((K:Int)=3)=False:=yF;have e3c:((K:Int) != 3)=true:=(by rw[bne_iff_ne];omega);have e3d:(K=3)=False:=yF
  have e4a:((K:Int)==4)=false:=yB;have e4b:((K:Int)=4)=False:=yF;have e4c:((K:Int) != 4)=true:=(by rw[bne_iff_ne];omega);have e4d:(K=4)=False:=yF;have e8a:((K:Int)==8)=false:=yB;have e8b:((K:Int)=8)=False:=yF;have e8c:((K:Int) != 8)=true:=(by rw[bne_iff_ne];omega);have e8d:(K=8)=False:=yF
  have e5a:((K:Int)==5)=false:=yB;have e5b:((K:Int)=5)=False:=yF;have e5c:((K:Int) != 5)=true:=(by rw[bne_iff_ne];omega);have e5d:(K=5)=False:=yF;have e9a:((K:Int)==9)=false:=yB;have e9b:((K:Int)=9)=False:=yF;have e9c:((K:Int) != 9)=true:=(by rw[bne_iff_ne];omega);have e9d:(K=9)=False:=yF
  clear hother;go_wp2;go_ret2;exact⟨[],false,rfl,by simp,.inr ⟨rfl,by simp[Ck.codesOf,e2d,e3d,e4d,e8d,e5d,e9d]⟩,HB.out⟩
 have hw:K=2∨K=3∨K=4∨K=8∨K=5∨K=9:=(by omega);clear hother;rcases hw with rfl|rfl|rfl|rfl|rfl|rfl
 iterate 4
  ·simp only[Int.cast_ofNat_Int] at s0;go_wp2;go_ret2;exact⟨TX,true,rfl,by have:=HSM.out;omega,.inl ⟨rfl,by simp[Ck.codesOf]⟩,HB.out⟩
 ·replace s0:T.cell? ⟨q,0,none⟩=some (.int .i64 5):=s0;by_cases h1:S=Ps.wCode
  ·have t1:(S==[99,111,100,101])=true:=beq_iff_eq.2 h1;have H1:=yH h1;clear h1;go_wp2_with fail
   go_quiet (fail)
   go_wp2;go_ret2;exact⟨TX,true,rfl,by have:=HSM.out;omega,.inl ⟨rfl,by simp[Ck.codesOf,H1.out]⟩,HB.out.trans ⟨rfl,rfl,rfl,yR,fun _ _=>rfl⟩⟩
  have t1:(S==[99,111,100,101])=false:=yB h1;have H1:=yH h1;clear h1;go_wp2_with fail
  go_quiet (fail)
  go_wp2;go_ret2;exact⟨TX,false,rfl,by have:=HSM.out;omega,.inr ⟨rfl,by simp[Ck.codesOf,H1.out]⟩,HB.out.trans ⟨rfl,rfl,rfl,yR,fun _ _=>rfl⟩⟩
 ·replace s0:T.cell? ⟨q,0,none⟩=some (.int .i64 9):=s0;go_wp2;go_ret2;exact⟨UX,true,rfl,by have:=HSM.out;omega,.inl ⟨rfl,by simp[Ck.codesOf]⟩,HB.out⟩
theorem rtexts_any (K:Nat) (S TX UX:List UInt8) (n0 p0:Nat) (L M:List Nat) (lo mo:Option Addr) (LL lc LM mc:Nat) (w:World) :
  Calls Tryz.prog 82 #[.agg #[.int .i64 (K:Int),.string ⟨S.toArray⟩,.string ⟨TX.toArray⟩,.string ⟨UX.toArray⟩,.int .i64 (n0:Int),.int .i64 (p0:Int),.slice lo LL lc,.slice mo LM mc]] w fun e w'=>∃ v,e = .returned v∧Rd w' v ((Ck.textsOf ⟨K,S,TX,UX,n0,p0,L,M⟩).map sv)∧Below w.heap.size w w':=by
 obtain⟨T,hT⟩:∃ T,w.alloc (.cells #[.int .i64 (K:Int),.string ⟨S.toArray⟩,.string ⟨TX.toArray⟩,.string ⟨UX.toArray⟩,.int .i64 (n0:Int),.int .i64 (p0:Int),.slice lo LL lc,.slice mo LM mc] 41)=T:=⟨_,rfl⟩;have hbT:Below w.heap.size w T:=(by rw[←hT];exact yA);obtain⟨q,hq⟩:∃ q,w.heap.size=q:=⟨_,rfl⟩
 have hcb:T.heap[q]?=some (.cells #[.int .i64 (K:Int),.string ⟨S.toArray⟩,.string ⟨TX.toArray⟩,.string ⟨UX.toArray⟩,.int .i64 (n0:Int),.int .i64 (p0:Int),.slice lo LL lc,.slice mo LM mc] 41 (0,0)):=(by rw[←hq,←hT];exact heap_alloc_new _ _);have s0:T.cell? ⟨q,0,none⟩=some (.int .i64 (K:Int)):=yC hcb;have s1:T.cell? ⟨q,1,none⟩=some (.string ⟨S.toArray⟩):=yC hcb
 have s2:T.cell? ⟨q,2,none⟩=some (.string ⟨TX.toArray⟩):=yC hcb;have s3:T.cell? ⟨q,3,none⟩=some (.string ⟨UX.toArray⟩):=yC hcb;have HT:=yH hT;have HQ:=yH hq;have HSZ:=yH (show q≤T.heap.size by rw[←hq];exact hbT.size);rw[hq] at hbT;have HB:=yH hbT;clear hT hcb hbT;rw[hq];clear hq;go_enter Tryz.func82,Tryz.ntmps82;go_upto_region 1 with fail
 rw[HT.out,HQ.out];clear HT HQ;by_cases hother:K≠3∧K≠4∧K≠8∧K≠16∧K≠1∧K≠9∧K≠10∧K≠11∧K≠7
 ·have e3a:((K:Int)==3)=false:=yB;have e3b:((K:Int)=3)=False:=yF;have e3c:((K:Int) != 3)=true:=(by rw[bne_iff_ne];omega);have e3d:(K=3)=False:=yF;have e4a:((K:Int)==4)=false:=yB;have e4b:((K:Int)=4)=False:=yF;have e4c:((K:Int) != 4)=true:=(by rw[bne_iff_ne];omega);have e4d:(K=4)=False:=yF
  have e8a:((K:Int)==8)=false:=yB;have e8b:((K:Int)=8)=False:=yF;have e8c:((K:Int) != 8)=true:=(by rw[bne_iff_ne];omega);have e8d:(K=8)=False:=yF;have e16a:((K:Int)==16)=false:=yB;have e16b:((K:Int)=16)=False:=yF;have e16c:((K:Int) != 16)=true:=by rw[bne_iff_ne];omega
  have e16d:(K=16)=False:=yF;have e1a:((K:Int)==1)=false:=yB;have e1b:((K:Int)=1)=False:=yF;have e1c:((K:Int) != 1)=true:=(by rw[bne_iff_ne];omega);have e1d:(K=1)=False:=yF;have e9a:((K:Int)==9)=false:=yB;have e9b:((K:Int)=9)=False:=yF;have e9c:((K:Int) != 9)=true:=by rw[bne_iff_ne];omega
  have e9d:(K=9)=False:=yF;have e10a:((K:Int)==10)=false:=yB;have e10b:((K:Int)=10)=False:=yF;have e10c:((K:Int) != 10)=true:=(by rw[bne_iff_ne];omega);have e10d:(K=10)=False:=yF;have e11a:((K:Int)==11)=false:=yB;have e11b:((K:Int)=11)=False:=yF
  have e11c:((K:Int) != 11)=true:=(by rw[bne_iff_ne];omega);have e11d:(K=11)=False:=yF;have e7a:((K:Int)==7)=false:=yB;have e7b:((K:Int)=7)=False:=yF;have e7c:((K:Int) != 7)=true:=(by rw[bne_iff_ne];omega);have e7d:(K=7)=False:=yF;clear hother;go_wp2;go_ret;refine⟨_,rfl,?_,HB.out⟩
  have:Ck.textsOf ⟨K,S,TX,UX,n0,p0,L,M⟩=[]:=(by simp[Ck.textsOf,e3d,e4d,e8d,e16d,e1d,e9d,e10d,e11d,e7d]);rw[this];exact .inl ⟨rfl,none,0,fun _=>rfl,rfl⟩
 have hw:K=3∨K=4∨K=8∨K=16∨K=1∨K=9∨K=10∨K=11∨K=7:=(by omega);clear hother;rcases hw with rfl|rfl|rfl|rfl|rfl|rfl|rfl|rfl|rfl
 iterate 4
  ·simp only[Int.cast_ofNat_Int] at s0;have hbV:Below T.heap.size T (T.alloc (.cells #[.string ⟨S.toArray⟩] 9)):=yA
   have hvr:Rd (T.alloc (.cells #[.string ⟨S.toArray⟩] 9)) (.slice (some ⟨T.heap.size,0,none⟩) 1 1) ([S].map sv) :=
    .inr ⟨_,0,1,rfl,yR,by decide,fun j u hj=>by rw[yC (heap_alloc_new T _),Nat.zero_add];simpa [sv] using hj⟩
   have HV:=yH hvr;have HB2:=yH (HB.out.trans (hbV.mono HSZ.out));clear hvr hbV;go_wp2;go_ret;exact⟨_,rfl,HV.out,HB2.out⟩
 iterate 3
  ·simp only[Int.cast_ofNat_Int] at s0;have hbV:Below T.heap.size T (T.alloc (.cells #[.string ⟨TX.toArray⟩] 9)):=yA
   have hvr:Rd (T.alloc (.cells #[.string ⟨TX.toArray⟩] 9)) (.slice (some ⟨T.heap.size,0,none⟩) 1 1) ([TX].map sv) :=
    .inr ⟨_,0,1,rfl,yR,by decide,fun j u hj=>by rw[yC (heap_alloc_new T _),Nat.zero_add];simpa [sv] using hj⟩
   have HV:=yH hvr;have HB2:=yH (HB.out.trans (hbV.mono HSZ.out));clear hvr hbV;go_wp2;go_ret;exact⟨_,rfl,HV.out,HB2.out⟩
 ·replace s0:T.cell? ⟨q,0,none⟩=some (.int .i64 11):=s0;have hbV:Below T.heap.size T (T.alloc (.cells #[.string ⟨S.toArray⟩,.string ⟨TX.toArray⟩] 9)):=yA
  have hvr:Rd (T.alloc (.cells #[.string ⟨S.toArray⟩,.string ⟨TX.toArray⟩] 9)) (.slice (some ⟨T.heap.size,0,none⟩) 2 2) ([S,TX].map sv) :=
   .inr ⟨_,0,2,rfl,yR,by decide,fun j u hj=>by rw[yC (heap_alloc_new T _),Nat.zero_add];simpa [sv] using hj⟩
  have HV:=yH hvr;have HB2:=yH (HB.out.trans (hbV.mono HSZ.out));clear hvr hbV;go_wp2;go_ret;exact⟨_,rfl,HV.out,HB2.out⟩
 ·replace s0:T.cell? ⟨q,0,none⟩=some (.int .i64 7):=s0;have hbV:Below T.heap.size T (T.alloc (.cells #[.string ⟨TX.toArray⟩,.string ⟨UX.toArray⟩] 9)):=yA
  have hvr:Rd (T.alloc (.cells #[.string ⟨TX.toArray⟩,.string ⟨UX.toArray⟩] 9)) (.slice (some ⟨T.heap.size,0,none⟩) 2 2) ([TX,UX].map sv) :=
   .inr ⟨_,0,2,rfl,yR,by decide,fun j u hj=>by rw[yC (heap_alloc_new T _),Nat.zero_add];simpa [sv] using hj⟩
  have HV:=yH hvr;have HB2:=yH (HB.out.trans (hbV.mono HSZ.out));clear hvr hbV;go_wp2;go_ret;exact⟨_,rfl,HV.out,HB2.out⟩
theorem all_nat_more {l:List Nat} {p:Nat→Bool} {k:Nat} (h:(l.take k).all p=true) (hk:k<l.length) (hp:p (l.getD k 0)=true):(l.take (k+1)).all p=true:=by
 have e:l[k]=l.getD k 0:=(by rw[List.getD_eq_getElem?_getD,List.getElem?_eq_getElem hk];rfl);rw[List.take_succ_eq_append_getElem hk,List.all_append,h,e];simpa using hp
theorem all_nat_not {l:List Nat} {p:Nat→Bool} {k:Nat} (hk:k<l.length) (hp:p (l.getD k 0)=false):l.all p=false :=
 List.all_eq_false.2 ⟨_,(show l.getD k 0 ∈ l by rw[List.getD_eq_getElem?_getD,List.getElem?_eq_getElem hk];exact List.getElem_mem _),by rw[hp];decide⟩
theorem rmode_of (h:RPc w ao N cap row) (K:Nat) (S TX UX:List UInt8) (n0 p0:Nat) (L M:List Nat) (lo mo:Option Addr) (LL lc LM mc:Nat) (hLL:L.length=LL) (hrl:Rd w (.slice lo LL lc) (L.map nv)) (hlb:∀ x ∈ L,x<row.length) :
  Calls Tryz.prog 48 #[.agg #[.int .i64 (md:Int),.slice ao N cap,.slice uo un uc],.agg #[.int .i64 (K:Int),.string ⟨S.toArray⟩,.string ⟨TX.toArray⟩,.string ⟨UX.toArray⟩,.int .i64 (n0:Int),.int .i64 (p0:Int),.slice lo LL lc,.slice mo LM mc]] w fun e w'=>e = .returned (.bool (Ck.modeOk md row ⟨K,S,TX,UX,n0,p0,L,M⟩))∧Below w.heap.size w w':=by
 obtain⟨R,hR⟩:∃ R:Bool,R=Ck.modeOk md row ⟨K,S,TX,UX,n0,p0,L,M⟩:=⟨_,rfl⟩;rw[←hR];have HR:=yH hR;have HLL:=yH hLL;have HNR:=yH h.sr.len;clear hR hLL;obtain⟨T1,hT1⟩:∃ T,w.alloc (.cells #[.int .i64 (md:Int),.slice ao N cap,.slice uo un uc] 32)=T:=⟨_,rfl⟩
 obtain⟨T,hT⟩:∃ T,T1.alloc (.cells #[.int .i64 (K:Int),.string ⟨S.toArray⟩,.string ⟨TX.toArray⟩,.string ⟨UX.toArray⟩,.int .i64 (n0:Int),.int .i64 (p0:Int),.slice lo LL lc,.slice mo LM mc] 41)=T:=⟨_,rfl⟩;have hb1:Below w.heap.size w T1:=(by rw[←hT1];exact yA);have hb2:Below T1.heap.size T1 T:=by rw[←hT];exact yA
 have hz1:H3 T1 w.heap.size [.int .i64 (md:Int),.slice ao N cap,.slice uo un uc]:=(by rw[←hT1];exact heap_alloc_new _ _);have hs1:T1.heap.size=w.heap.size+1:=(by rw[←hT1];simp);have hcb:T.heap[w.heap.size+1]?=some (.cells #[.int .i64 (K:Int),.string ⟨S.toArray⟩,.string ⟨TX.toArray⟩,.string ⟨UX.toArray⟩,.int .i64 (n0:Int),.int .i64 (p0:Int),.slice lo LL lc,.slice mo LM mc] 41 (0,0)):=by rw[←hs1,←hT];exact heap_alloc_new _ _
 have hbT:Below w.heap.size w T:=hb1.trans (hb2.mono (by omega));have hz:=hz1.below hb2 (by omega);have HRP:=yH (h.below hbT);obtain⟨q,hq⟩:∃ q,w.heap.size=q:=⟨_,rfl⟩;have HSZ:=yH (show q≤T.heap.size by rw[←hq];exact hbT.size);rw[hq] at hbT hz hcb hs1;have z0:=hz.cell (i:=0) rfl;have z1:=hz.cell (i:=1) rfl;have z2:=hz.cell (i:=2) rfl;have s0:T.cell? ⟨q+1,0,none⟩=some (.int .i64 (K:Int)):=yC hcb
 have s1:T.cell? ⟨q+1,1,none⟩=some (.string ⟨S.toArray⟩):=yC hcb;have s2:T.cell? ⟨q+1,2,none⟩=some (.string ⟨TX.toArray⟩):=yC hcb;have s3:T.cell? ⟨q+1,3,none⟩=some (.string ⟨UX.toArray⟩):=yC hcb;have s4:T.cell? ⟨q+1,4,none⟩=some (.int .i64 (n0:Int)):=yC hcb;have s5:T.cell? ⟨q+1,5,none⟩=some (.int .i64 (p0:Int)):=yC hcb
 have s6:T.cell? ⟨q+1,6,none⟩=some (.slice lo LL lc):=yC hcb;have s7:T.cell? ⟨q+1,7,none⟩=some (.slice mo LM mc):=yC hcb;have HT:=yH (⟨hT1,hT⟩:_∧_);have HQ:=yH hq;have HB:=yH hbT;have HCB:=yH hcb;have HZ:=yH hz;have HRL:=yH (hrl.below (hq ▸ hbT:Below w.heap.size w T));clear hrl;clear hT1 hT hb1 hb2 hz1 hs1 hcb hbT hz h;rw[hq];clear hq;go_enter Tryz.func48,Tryz.ntmps48
 go_upto_region 1 with fail
 rw[HT.out.1,HT.out.2,HQ.out];clear HT HQ;by_cases hother:K≠8∧K≠9∧K≠10∧K≠11∧K≠7∧K≠6
 ·have e8a:((K:Int)==8)=false:=yB;have e8b:((K:Int)=8)=False:=yF;have e8c:((K:Int) != 8)=true:=(by rw[bne_iff_ne];omega);have e8d:(K=8)=False:=yF;have e9a:((K:Int)==9)=false:=yB;have e9b:((K:Int)=9)=False:=yF;have e9c:((K:Int) != 9)=true:=(by rw[bne_iff_ne];omega);have e9d:(K=9)=False:=yF
  have e10a:((K:Int)==10)=false:=yB;have e10b:((K:Int)=10)=False:=yF;have e10c:((K:Int) != 10)=true:=(by rw[bne_iff_ne];omega);have e10d:(K=10)=False:=yF;have e11a:((K:Int)==11)=false:=yB;have e11b:((K:Int)=11)=False:=yF;have e11c:((K:Int) != 11)=true:=by rw[bne_iff_ne];omega
  have e11d:(K=11)=False:=yF;have e7a:((K:Int)==7)=false:=yB;have e7b:((K:Int)=7)=False:=yF;have e7c:((K:Int) != 7)=true:=(by rw[bne_iff_ne];omega);have e7d:(K=7)=False:=yF;have e6a:((K:Int)==6)=false:=yB;have e6b:((K:Int)=6)=False:=yF;have e6c:((K:Int) != 6)=true:=by rw[bne_iff_ne];omega
  have e6d:(K=6)=False:=yF;clear hother;obtain rfl:R=true:=(by rw[HR.out];simp[Ck.modeOk,e8d,e9d,e10d,e11d,e7d,e6d]);go_wp2;go_ret;exact⟨rfl,HB.out⟩
 have hw:K=8∨K=9∨K=10∨K=11∨K=7∨K=6:=(by omega);clear hother;rcases hw with rfl|rfl|rfl|rfl|rfl|rfl
 ·replace s0:T.cell? ⟨q+1,0,none⟩=some (.int .i64 8):=s0;by_cases hm:md=1
  ·have g3:((md:Int)=1)=True:=yT;have g1:((md:Int) != 1)=false:=(by rw[show (md:Int)=1 by omega];rfl);have g2:((md:Int)==1)=true:=beq_iff_eq.2 (by omega);obtain rfl:R=true:=(by rw[HR.out];simp[Ck.modeOk,hm]);clear hm;go_wp2;go_ret;exact⟨rfl,HB.out⟩
  have e1a:((md:Int)==1)=false:=yB;have e1b:((md:Int)=1)=False:=yF;have e1c:((md:Int) != 1)=true:=(by rw[bne_iff_ne];omega);have e1d:(md=1)=False:=yF;obtain rfl:R=false:=(by rw[HR.out];simp[Ck.modeOk,hm]);clear hm;go_wp2;go_ret;exact⟨rfl,HB.out⟩
 ·replace s0:T.cell? ⟨q+1,0,none⟩=some (.int .i64 9):=s0;by_cases hm:md=2
  ·have g3:((md:Int)=2)=True:=yT;have g1:((md:Int) != 2)=false:=(by rw[show (md:Int)=2 by omega];rfl);have g2:((md:Int)==2)=true:=beq_iff_eq.2 (by omega);obtain rfl:R=true:=(by rw[HR.out];simp[Ck.modeOk,hm]);clear hm;go_wp2;go_ret;exact⟨rfl,HB.out⟩
  have e2a:((md:Int)==2)=false:=yB;have e2b:((md:Int)=2)=False:=yF;have e2c:((md:Int) != 2)=true:=(by rw[bne_iff_ne];omega);have e2d:(md=2)=False:=yF;obtain rfl:R=false:=(by rw[HR.out];simp[Ck.modeOk,hm]);clear hm;go_wp2;go_ret;exact⟨rfl,HB.out⟩
 iterate 2
  ·simp only[Int.cast_ofNat_Int] at s0;by_cases hm:md=3
   ·have g3:((md:Int)=3)=True:=yT;have g1:((md:Int) != 3)=false:=(by rw[show (md:Int)=3 by omega];rfl);have g2:((md:Int)==3)=true:=beq_iff_eq.2 (by omega);obtain rfl:R=true:=(by rw[HR.out];simp[Ck.modeOk,hm]);clear hm;go_wp2;go_ret;exact⟨rfl,HB.out⟩
   have e3a:((md:Int)==3)=false:=yB;have e3b:((md:Int)=3)=False:=yF;have e3c:((md:Int) != 3)=true:=(by rw[bne_iff_ne];omega);have e3d:(md=3)=False:=yF;obtain rfl:R=false:=(by rw[HR.out];simp[Ck.modeOk,hm]);clear hm;go_wp2;go_ret;exact⟨rfl,HB.out⟩
 ·replace s0:T.cell? ⟨q+1,0,none⟩=some (.int .i64 7):=s0;by_cases hm:md=3
  ·have g3:((md:Int)=3)=True:=yT;have g1:((md:Int) != 3)=false:=(by rw[show (md:Int)=3 by omega];rfl);have g2:((md:Int)==3)=true:=beq_iff_eq.2 (by omega);obtain rfl:R=false:=(by rw[HR.out];simp[Ck.modeOk,hm]);clear hm;go_wp2;go_ret;exact⟨rfl,HB.out⟩
  have e3a:((md:Int)==3)=false:=yB;have e3b:((md:Int)=3)=False:=yF;have e3c:((md:Int) != 3)=true:=(by rw[bne_iff_ne];omega);have e3d:(md=3)=False:=yF;by_cases w0:S=Ck.wPlain
  ·have x0:(S==[112,108,97,105,110])=true:=beq_iff_eq.2 w0;obtain rfl:R=true:=(by rw[HR.out];simp[Ck.modeOk,hm,w0]);clear hm w0;go_wp2;go_ret;exact⟨rfl,HB.out⟩
  have x0:(S==[112,108,97,105,110])=false:=yB w0;by_cases w1:S=Ck.wLogin
  ·have x1:(S==[108,111,103,105,110])=true:=beq_iff_eq.2 w1;obtain rfl:R=true:=(by rw[HR.out];simp[Ck.modeOk,hm,w1]);clear hm w1 w0;go_wp2;go_ret;exact⟨rfl,HB.out⟩
  have x1:(S==[108,111,103,105,110])=false:=yB w1;by_cases w2:S=Ck.wCram
  ·have x2:(S==[99,114,97,109])=true:=beq_iff_eq.2 w2;obtain rfl:R=true:=(by rw[HR.out];simp[Ck.modeOk,hm,w2]);clear hm w2 w0 w1;go_wp2;go_ret;exact⟨rfl,HB.out⟩
  have x2:(S==[99,114,97,109])=false:=yB w2;by_cases w3:S=Ck.wApop
  ·have x3:(S==[97,112,111,112])=true:=beq_iff_eq.2 w3;by_cases hm:md=2
   ·have f3:((md:Int)=2)=True:=yT;have f1:((md:Int) != 2)=false:=(by rw[show (md:Int)=2 by omega];rfl);have f2:((md:Int)==2)=true:=beq_iff_eq.2 (by omega);obtain rfl:R=true:=(by rw[HR.out];simp[Ck.modeOk,w3,hm]);clear hm w0 w1 w2 w3;go_wp2;go_ret;exact⟨rfl,HB.out⟩
   have e2a:((md:Int)==2)=false:=yB;have e2b:((md:Int)=2)=False:=yF;have e2c:((md:Int) != 2)=true:=(by rw[bne_iff_ne];omega);have e2d:(md=2)=False:=yF
   obtain rfl:R=false:=by
    rw[HR.out];subst w3;simp[Ck.modeOk,Ck.wApop,Ck.wPlain,Ck.wLogin,Ck.wCram,e2d]
   clear hm w0 w1 w2 w3;go_wp2;go_ret;exact⟨rfl,HB.out⟩
  have x3:(S==[97,112,111,112])=false:=yB w3;obtain rfl:R=false:=(by rw[HR.out];simp[Ck.modeOk,w0,w1,w2,w3]);clear hm w0 w1 w2 w3;go_wp2;go_ret;exact⟨rfl,HB.out⟩
 ·replace s0:T.cell? ⟨q+1,0,none⟩=some (.int .i64 6):=s0;have HLB:=yH hlb;clear hlb;go_wp2;go_loopw [5] (fun i wr=>∃ j qq:Nat,j≤LL∧i = .int .i64 j∧Hid ((L.take j).all (fun i=>(row.getD i Ck.none').kind==3)=true)∧wr=T.drewN qq) (fun i _=>LL-(intOf i).toNat)
  case atStart=>exact⟨0,0,Nat.zero_le _,rfl,yH (by simp),rfl⟩
  case round =>
   obtain⟨j,qq,hj,rfl,HE,hwr⟩:=hrel;subst hwr;by_cases hlt:j<LL
   ·obtain⟨b,o,rfl,hm,hcx⟩:=rd_nv HRL.out j (by rw[HLL.out];exact hlt);have hxN:=HLB.out (L.getD j 0) (by rw[List.getD_eq_getElem?_getD,List.getElem?_eq_getElem (by rw[HLL.out];exact hlt)];exact List.getElem_mem _);have HE1:=yH (fun (hp:((row.getD (L.getD j 0) Ck.none').kind==3)=true)=>all_nat_more HE.out (by rw[HLL.out];exact hlt) hp)
    have HE2:=yH (fun (hp:((row.getD (L.getD j 0) Ck.none').kind==3)=false)=>all_nat_not (l:=L) (p:=fun i=>(row.getD i Ck.none').kind==3) (k:=j) (by rw[HLL.out];exact hlt) hp);generalize L.getD j 0=x at hcx hxN HE1 HE2;obtain⟨st,hst⟩:∃ st,row[x]?=some st:=⟨_,List.getElem?_eq_getElem hxN⟩;obtain⟨g,lo2,lc2,mo2,mc2,rfl,_,_,c8⟩:=HRP.out.sr.at8 hst;have d0:=c8.c0;have hxN2:(x:Int)<(N:Int):=by have:=HNR.out;omega
    have hxN3:x<N:=(by have:=HNR.out;omega);rw[show row.getD x Ck.none'=st by rw[List.getD_eq_getElem?_getD,hst];rfl] at HE1 HE2;obtain⟨KX,hKX⟩:∃ y,st.kind=y:=⟨_,rfl⟩;rw[hKX] at d0 HE1 HE2;unfold maxLen at hm;clear c8 hst hKX hxN;by_cases h3:KX=3
    ·subst h3;replace d0:T.cell? ⟨g,x*8,none⟩=some (.int .i64 3):=d0;have HE3:=yH (HE1.out (by decide));clear HE1 HE2;go_wp2_with fail
     go_quiet (fail)
     go_wp2;go_roundw
     case rel=>exact⟨j+1,qq+nq,by omega,by go_num,HE3.out,rfl⟩
     case measure=>simp[intOf];omega
    ·have a1:((KX:Int) != 3)=true:=(by rw[bne_iff_ne];omega);have a2:((KX:Int)==3)=false:=yB;have a3:((KX:Int)=3)=False:=yF;have HE3:=yH (HE2.out (yB h3))
     obtain rfl:R=false:=by
      rw[HR.out];show (L.all (fun i=>(row.getD i Ck.none').kind==3) && md != 3)=false
      rw[HE3.out];rfl
     clear HE1 HE2 h3;go_wp2_with fail
     go_quiet (fail)
     go_wp2;go_ret;exact⟨rfl,HB.out.trans ⟨rfl,rfl,rfl,yR,fun _ _=>rfl⟩⟩
   ·have HF:=yH (show L.all (fun i=>(row.getD i Ck.none').kind==3)=true by
     have:=HE.out
     rwa [List.take_of_length_le (by have:=HLL.out;omega)] at this)
    have z0:(T.drewN qq).cell? ⟨q,0,none⟩=some (.int .i64 (md:Int)):=z0;by_cases hm:md=3
    ·have g3:((md:Int)=3)=True:=yT;have g1:((md:Int) != 3)=false:=(by rw[show (md:Int)=3 by omega];rfl);have g2:((md:Int)==3)=true:=beq_iff_eq.2 (by omega);obtain rfl:R=false:=(by rw[HR.out];simp[Ck.modeOk,hm]);clear hm;go_wp2;go_ret;exact⟨rfl,HB.out.trans ⟨rfl,rfl,rfl,yR,fun _ _=>rfl⟩⟩
    have e3a:((md:Int)==3)=false:=yB;have e3b:((md:Int)=3)=False:=yF;have e3c:((md:Int) != 3)=true:=(by rw[bne_iff_ne];omega);have e3d:(md=3)=False:=yF
    obtain rfl:R=true:=by
     rw[HR.out];show (L.all (fun i=>(row.getD i Ck.none').kind==3) && md != 3)=true
     rw[HF.out];simp[hm]
    clear hm;go_wp2;go_ret;exact⟨rfl,HB.out.trans ⟨rfl,rfl,rfl,yR,fun _ _=>rfl⟩⟩
end
theorem names_shortR {t:List UInt8} {ps:List Va.Pt} (h:Va.parts t=some ps):(Va.names ps).length≤t.length ∧ ∀ n ∈ Va.names ps,n.length≤t.length:=by
 obtain⟨h1,h2⟩:=Va.parts_few h;refine⟨Nat.le_trans (List.length_filterMap_le _ _) h1,fun n hn=>?_⟩;obtain⟨p,hp,e⟩:=List.mem_filterMap.1 hn;cases p with
 | b c=>cases e
 | n x =>
  cases e
  exact h2 _ hp
theorem all_moreR {ts:List (List UInt8)} {p:List UInt8→Bool} {k:Nat} (h:(ts.take k).all p=true) (hk:k<ts.length) (hp:p (ts.getD k [])=true):(ts.take (k+1)).all p=true:=by
 have e:ts[k]=ts.getD k []:=(by rw[List.getD_eq_getElem?_getD,List.getElem?_eq_getElem hk];rfl);rw[List.take_succ_eq_append_getElem hk,List.all_append,h,e];simpa using hp
theorem all_notR {ts:List (List UInt8)} {p:List UInt8→Bool} {k:Nat} (hk:k<ts.length) (hp:p (ts.getD k [])=false):ts.all p=false :=
 List.all_eq_false.2 ⟨_,(show ts.getD k [] ∈ ts by rw[List.getD_eq_getElem?_getD,List.getElem?_eq_getElem hk];exact List.getElem_mem _),by rw[hp];decide⟩
section
variable {w:World} {md:Nat} {ao uo:Option Addr} {N cap un uc:Nat} {row:List Ps.St}
theorem rknown_any (h:RPc w ao N cap row) (K:Nat) (S TX UX:List UInt8) (n0 p0:Nat) (L M:List Nat) (lo mo:Option Addr) (LL lc LM mc:Nat) (hsm:S.length≤100∧TX.length≤100∧UX.length≤100) :
  Calls Tryz.prog 52 #[.agg #[.int .i64 (md:Int),.slice ao N cap,.slice uo un uc],.agg #[.int .i64 (K:Int),.string ⟨S.toArray⟩,.string ⟨TX.toArray⟩,.string ⟨UX.toArray⟩,.int .i64 (n0:Int),.int .i64 (p0:Int),.slice lo LL lc,.slice mo LM mc]] w fun e w'=>e = .returned (.bool ((Ck.textsOf ⟨K,S,TX,UX,n0,p0,L,M⟩).all (Ck.known row)))∧Below w.heap.size w w':=by
 obtain⟨R,hR⟩:∃ R:Bool,(Ck.textsOf ⟨K,S,TX,UX,n0,p0,L,M⟩).all (Ck.known row)=R:=⟨_,rfl⟩;rw[hR];have HR:=yH hR
 have htl:(Ck.textsOf ⟨K,S,TX,UX,n0,p0,L,M⟩).length≤2 ∧ ∀ t ∈ Ck.textsOf ⟨K,S,TX,UX,n0,p0,L,M⟩,t.length≤100:=by
  unfold Ck.textsOf;dsimp only;repeat (first|split|(refine⟨by simp,fun t ht=>?_⟩;simp at ht;first|done|(rcases ht with rfl|rfl <;> omega)|(subst ht;omega)))
 have RT:=fun wx=>rtexts_any K S TX UX n0 p0 L M lo mo LL lc LM mc wx;generalize Ck.textsOf ⟨K,S,TX,UX,n0,p0,L,M⟩=ts at htl RT HR hR;clear hR hsm;have HTL:=yH htl;have hN1:N≤100:=(by rw[h.sr.len];exact h.ne.few);have HNR:=yH h.sr.len;clear htl;obtain⟨T1,hT1⟩:∃ T,w.alloc (.cells #[.int .i64 (md:Int),.slice ao N cap,.slice uo un uc] 32)=T:=⟨_,rfl⟩
 obtain⟨T,hT⟩:∃ T,T1.alloc (.cells #[.int .i64 (K:Int),.string ⟨S.toArray⟩,.string ⟨TX.toArray⟩,.string ⟨UX.toArray⟩,.int .i64 (n0:Int),.int .i64 (p0:Int),.slice lo LL lc,.slice mo LM mc] 41)=T:=⟨_,rfl⟩;have hb1:Below w.heap.size w T1:=(by rw[←hT1];exact yA);have hb2:Below T1.heap.size T1 T:=by rw[←hT];exact yA
 have hz1:H3 T1 w.heap.size [.int .i64 (md:Int),.slice ao N cap,.slice uo un uc]:=(by rw[←hT1];exact heap_alloc_new _ _);have hs1:T1.heap.size=w.heap.size+1:=(by rw[←hT1];simp);have hcb:T.heap[w.heap.size+1]?=some (.cells #[.int .i64 (K:Int),.string ⟨S.toArray⟩,.string ⟨TX.toArray⟩,.string ⟨UX.toArray⟩,.int .i64 (n0:Int),.int .i64 (p0:Int),.slice lo LL lc,.slice mo LM mc] 41 (0,0)):=by rw[←hs1,←hT];exact heap_alloc_new _ _
 have hbT:Below w.heap.size w T:=hb1.trans (hb2.mono (by omega));have hz:=hz1.below hb2 (by omega);have HRP:=yH (h.below hbT);obtain⟨q,hq⟩:∃ q,w.heap.size=q:=⟨_,rfl⟩;have HSZ:=yH (show q≤T.heap.size by rw[←hq];exact hbT.size);rw[hq] at hbT hz hcb hs1;have z0:=hz.cell (i:=0) rfl;have z1:=hz.cell (i:=1) rfl;have z2:=hz.cell (i:=2) rfl;have s0:T.cell? ⟨q+1,0,none⟩=some (.int .i64 (K:Int)):=yC hcb
 have s1:T.cell? ⟨q+1,1,none⟩=some (.string ⟨S.toArray⟩):=yC hcb;have s2:T.cell? ⟨q+1,2,none⟩=some (.string ⟨TX.toArray⟩):=yC hcb;have s3:T.cell? ⟨q+1,3,none⟩=some (.string ⟨UX.toArray⟩):=yC hcb;have s4:T.cell? ⟨q+1,4,none⟩=some (.int .i64 (n0:Int)):=yC hcb;have s5:T.cell? ⟨q+1,5,none⟩=some (.int .i64 (p0:Int)):=yC hcb
 have s6:T.cell? ⟨q+1,6,none⟩=some (.slice lo LL lc):=yC hcb;have s7:T.cell? ⟨q+1,7,none⟩=some (.slice mo LM mc):=yC hcb;have HT:=yH (⟨hT1,hT⟩:_∧_);have HQ:=yH hq;have HB:=yH hbT;have HCB:=yH hcb;have HZ:=yH hz;clear hT1 hT hb1 hb2 hz1 hs1 hcb hbT hz h;rw[hq];clear hq;go_enter Tryz.func52,Tryz.ntmps52;go_upto_region 1 with fail
 rw[HT.out.1,HT.out.2,HQ.out];clear HT HQ;go_wp2_with fail
 refine(RT _).mono ?_;rintro e w1 ⟨v1,rfl,hr1,hb1⟩;obtain⟨vo,vc,rfl,_⟩:=hr1.formV;rw[List.length_map];obtain⟨nt,hnt⟩:∃ y,ts.length=y:=⟨_,rfl⟩;rw[hnt];have hnt2:nt≤2:=(by rw[←hnt];exact HTL.out.1);have HV1:=yH (hr1.formV);have HR1:=yH hr1;have HNT:=yH hnt;have HB1:=yH hb1;have HP1:=yH (HRP.out.below hb1);have HZ1:=yH (HZ.out.below hb1 HZ.out.lt);clear RT hr1 hb1 hnt z0 z1 z2 s0 s1 s2 s3 s4 s5 s6 s7;go_wp2
 go_loopw [6] (fun i wr=>∃ k:Nat,k≤nt∧i = .int .i64 k∧Hid ((ts.take k).all (Ck.known row)=true)∧Hid (Below w1.heap.size w1 wr)) (fun i _=>nt-(intOf i).toNat)
 case atStart=>exact⟨0,Nat.zero_le _,rfl,yH (by simp),Below.refl _ _⟩
 case round =>
  obtain⟨k,hk,rfl,HE,HW⟩:=hrel;by_cases hlt:k<nt
  ·obtain⟨vb,vb0,cap1,e1,g1,hm,hcx0⟩:∃ b o cap',(Value.slice vo nt vc) = .slice (some ⟨b,o,none⟩) nt cap'∧nt≤cap'∧cap'≤maxLen ∧ ∀ j u,(ts.map sv)[j]?=some u→wr.cell? ⟨b,o+j,none⟩=some u:=by
    rcases(HR1.out.below HW.out) with ⟨e0,_⟩|⟨b,o,cap',e,g1,g2,g3⟩
    ·have h0:ts=[]:=(by simpa using e0);have h1:=HNT.out;rw[h0] at h1;have h2:nt=0:=h1.symm;omega
    ·have el:=HNT.out;rw[List.length_map] at e g1;rw[el] at e g1;refine⟨b,o,cap',?_,g1,g2,g3⟩
     first
      | exact e
      | (rw[el] at *;exact e)
   cases e1
   have hcx:=hcx0 k _ (svs_at (by rw[HNT.out];exact hlt));obtain⟨y,hy⟩:∃ y,y=ts.getD k []:=⟨_,rfl⟩;have hyl:y.length≤100:=HTL.out.2 y (by rw[hy,List.getD_eq_getElem?_getD,List.getElem?_eq_getElem (by rw[HNT.out];exact hlt)];exact List.getElem_mem _);have NM:=rnames_any wr y (by omega);unfold maxLen at hm;rw[←hy,sv] at hcx;have HY:=yH hy;clear hy hcx0;cases hps:Va.parts y with
   | none =>
    rw[hps] at NM;have HX:=yH (show Ck.known row y=false by unfold Ck.known;rw[hps]);clear hps;obtain rfl:R=false:=(by rw[←HR.out];exact all_notR (k:=k) (by rw[HNT.out];exact hlt) (by rw[←HY.out];exact HX.out));go_wp2_with fail
    refine NM.mono ?_;rintro e w2 ⟨v2,rfl,_,hb2⟩;have HF:=yH (HB.out.trans ((HB1.out.trans ((HW.out.trans (hb2.mono HW.out.size)).mono HB1.out.size)).mono HSZ.out));clear hb2 NM;go_wp2;go_ret;exact⟨rfl,HF.out⟩
   | some ps =>
    rw[hps] at NM;obtain⟨q1,q2⟩:=names_shortR hps
    have hkn:Ck.known row y=(Va.names ps).all (fun x=>(Ck.sets row).contains x):=by
     unfold Ck.known;rw[hps]
    replace NM:Calls Tryz.prog 83 #[.string ⟨y.toArray⟩] wr fun e w'=>∃ v,e = .returned (.tuple #[v,.bool true])∧Rd w' v ((Va.names ps).map sv)∧Below wr.heap.size wr w':=NM;generalize Va.names ps=nm at NM q1 q2 hkn;obtain⟨nn,hnn⟩:∃ y,nm.length=y:=⟨_,rfl⟩;have hnn1:nn≤100:=(by omega);have HKN:=yH hkn;have HNN:=yH hnn;have HQ2:=yH q2;clear hps q1 q2 hkn hnn;obtain⟨w8,hw8⟩:∃ x,x=wr:=⟨_,rfl⟩;subst hw8;go_wp2_with fail
    refine NM.mono ?_;rintro e w2 ⟨v2,rfl,hr2,hb2⟩;obtain⟨uo2,uc2,rfl,_⟩:=hr2.formV;rw[List.length_map,HNN.out];have HR2:=yH hr2;have HW2:=yH (HW.out.trans (hb2.mono HW.out.size));clear NM hr2 hb2 hcx;go_wp2;go_loopw [9] (fun i wr=>∃ z:Nat,z≤nn∧i = .int .i64 z∧Hid ((nm.take z).all (fun x=>(Ck.sets row).contains x)=true)∧Hid (Below w2.heap.size w2 wr)) (fun i _=>nn-(intOf i).toNat)
    case atStart=>exact⟨0,Nat.zero_le _,rfl,yH (by simp),Below.refl _ _⟩
    case round =>
     obtain⟨z,hz,rfl,HE2,HW3⟩:=hrel;have HW4:=yH (HW2.out.trans (HW3.out.mono HW2.out.size));by_cases hlz:z<nn
     ·obtain⟨ub,ub0,cap2,e2,g2,hm2,hcz0⟩:∃ b o cap',(Value.slice uo2 nn uc2) = .slice (some ⟨b,o,none⟩) nn cap'∧nn≤cap'∧cap'≤maxLen ∧ ∀ j u,(nm.map sv)[j]?=some u→wr.cell? ⟨b,o+j,none⟩=some u:=by
       rcases(HR2.out.below HW3.out) with ⟨e0,_⟩|⟨b,o,cap',e,g1,g2,g3⟩
       ·have h0:nm=[]:=(by simpa using e0);have h1:=HNN.out;rw[h0] at h1;have h2:nn=0:=h1.symm;omega
       ·have el:=HNN.out;rw[List.length_map] at e g1;rw[el] at e g1;exact⟨b,o,cap',e,g1,g2,g3⟩
      cases e2
      have hcz:=hcz0 z _ (svs_at (by rw[HNN.out];exact hlz));obtain⟨x,hx⟩:∃ x,x=nm.getD z []:=⟨_,rfl⟩;have HE3:=yH (fun hp=>all_moreR (k:=z) HE2.out (by rw[HNN.out];exact hlz) hp);have HE4:=yH (fun hp=>all_notR (ts:=nm) (p:=fun x=>(Ck.sets row).contains x) (k:=z) (by rw[HNN.out];exact hlz) hp);rw[←hx,sv] at hcz;rw[←hx] at HE3 HE4;unfold maxLen at hm2;have hz3:=HZ1.out.below HW4.out HZ1.out.lt;have z0:=hz3.cell (i:=0) rfl
      have z1:=hz3.cell (i:=1) rfl;have z2:=hz3.cell (i:=2) rfl;have hs0:(((wr.cell? ⟨q,0,none⟩=some (.int .i64 (md:Int)))∧wr.cell? ⟨q,1,none⟩=some (.slice ao N cap))∧wr.cell? ⟨q,2,none⟩=some (.slice uo un uc))∧wr.cell? ⟨ub,ub0+z,none⟩=some (.string ⟨x.toArray⟩):=⟨⟨⟨z0,z1⟩,z2⟩,hcz⟩;have hzi:(z:Int)<(nn:Int):=(by omega);have HPR:=yH (HP1.out.below HW4.out)
      have HHS:=yH (fun (wx:World) (hb:Below wr.heap.size wr wx)=>hass_any (md:=md) (uo:=uo) (un:=un) (uc:=uc) (HPR.out.below hb) N yR x);have hsets:nms kSet (row.take N)=Ck.sets row:=(by rw[List.take_of_length_le (by rw[HNR.out];exact yR)];rfl);rw[hsets] at HHS;clear hz3 hx hcz0 hsets z0 z1 z2 hcz;cases hct:(Ck.sets row).contains x with
      | true =>
       rw[hct] at HHS;have HE5:=yH (HE3.out hct);clear hct HE3 HE4;go_wp2_with fail
       refine wp_region_held_drew (S:=fun w'=>((w'.cell? ⟨q,0,none⟩=some (.int .i64 (md:Int))∧w'.cell? ⟨q,1,none⟩=some (.slice ao N cap))∧w'.cell? ⟨q,2,none⟩=some (.slice uo un uc))∧w'.cell? ⟨ub,ub0+z,none⟩=some (.string ⟨x.toArray⟩)) (by kernel_rfl) hs0 (fun hH=>?_);have hbd:Below wr.heap.size wr wr.drew:=⟨rfl,rfl,rfl,yR,fun _ _=>rfl⟩;generalize wr.drew=wd at *;refine heldT (i:=0) ?_;refine heldT (i:=1) ?_
       refine heldT (i:=2) ?_;refine heldT (i:=3) ?_;refine heldT (i:=4) ?_;refine heldT (i:=5) ?_;refine heldT (i:=6) ?_;refine heldT (i:=7) ?_;refine heldNext (i:=8) rfl (by kernel_rfl) (by rfl) (fun K hK=>?_)
       go_simp;go_at_call 51;refine(HHS.out _ hbd).mono ?_;rintro e w6 ⟨rfl,hb6⟩;have hS6:=(⟨⟨⟨(hb6.cell (World.block_lt_of_cell? _ _ hH.1.1.1)).trans hH.1.1.1,(hb6.cell (World.block_lt_of_cell? _ _ hH.1.1.2)).trans hH.1.1.2⟩,(hb6.cell (World.block_lt_of_cell? _ _ hH.1.2)).trans hH.1.2⟩,(hb6.cell (World.block_lt_of_cell? _ _ hH.2)).trans hH.2⟩:((w6.cell? ⟨q,0,none⟩=some (.int .i64 (md:Int))∧w6.cell? ⟨q,1,none⟩=some (.slice ao N cap))∧w6.cell? ⟨q,2,none⟩=some (.slice uo un uc))∧w6.cell? ⟨ub,ub0+z,none⟩=some (.string ⟨x.toArray⟩));first|(refine hK.out _ _ hS6 ?_)|(go_wp2_with fail;refine hK.out _ _ hS6 ?_);clear hK K
       (try simp only[Act.put,zLa,zLb,zLc]);refine heldT (i:=9) ?_;refine wpAnyH_done (by kernel_rfl) ?_ _;have HF:=yH (HW3.out.trans ((hbd.trans (hb6.mono hbd.size)).mono HW3.out.size));clear hS6 hb6 hH hbd hs0;simp only[Exit.then];go_wp2;go_roundw
       case rel=>exact⟨z+1,by omega,by go_num,HE5.out,HF.out⟩
       case measure=>simp[intOf];omega
      | false =>
       rw[hct] at HHS;have HX:=yH (show Ck.known row y=false by rw[HKN.out];exact HE4.out hct);clear hct HE3 HE4;obtain rfl:R=false:=(by rw[←HR.out];exact all_notR (k:=k) (by rw[HNT.out];exact hlt) (by rw[←HY.out];exact HX.out));go_wp2_with fail
       refine wp_region_held_drew (S:=fun w'=>((w'.cell? ⟨q,0,none⟩=some (.int .i64 (md:Int))∧w'.cell? ⟨q,1,none⟩=some (.slice ao N cap))∧w'.cell? ⟨q,2,none⟩=some (.slice uo un uc))∧w'.cell? ⟨ub,ub0+z,none⟩=some (.string ⟨x.toArray⟩)) (by kernel_rfl) hs0 (fun hH=>?_);have hbd:Below wr.heap.size wr wr.drew:=⟨rfl,rfl,rfl,yR,fun _ _=>rfl⟩;generalize wr.drew=wd at *;refine heldT (i:=0) ?_;refine heldT (i:=1) ?_
       refine heldT (i:=2) ?_;refine heldT (i:=3) ?_;refine heldT (i:=4) ?_;refine heldT (i:=5) ?_;refine heldT (i:=6) ?_;refine heldT (i:=7) ?_;refine heldNext (i:=8) rfl (by kernel_rfl) (by rfl) (fun K hK=>?_)
       go_simp;go_at_call 51;refine(HHS.out _ hbd).mono ?_;rintro e w6 ⟨rfl,hb6⟩;have hS6:=(⟨⟨⟨(hb6.cell (World.block_lt_of_cell? _ _ hH.1.1.1)).trans hH.1.1.1,(hb6.cell (World.block_lt_of_cell? _ _ hH.1.1.2)).trans hH.1.1.2⟩,(hb6.cell (World.block_lt_of_cell? _ _ hH.1.2)).trans hH.1.2⟩,(hb6.cell (World.block_lt_of_cell? _ _ hH.2)).trans hH.2⟩:((w6.cell? ⟨q,0,none⟩=some (.int .i64 (md:Int))∧w6.cell? ⟨q,1,none⟩=some (.slice ao N cap))∧w6.cell? ⟨q,2,none⟩=some (.slice uo un uc))∧w6.cell? ⟨ub,ub0+z,none⟩=some (.string ⟨x.toArray⟩));first|(refine hK.out _ _ hS6 ?_)|(go_wp2_with fail;refine hK.out _ _ hS6 ?_);clear hK K
       (try simp only[Act.put,zLa,zLb,zLc]);refine heldT (i:=9) ?_;refine wpAnyH_done (by kernel_rfl) ?_ _;have HF:=yH (HB.out.trans ((HB1.out.trans ((HW4.out.trans ((hbd.trans (hb6.mono hbd.size)).mono HW4.out.size)).mono HB1.out.size)).mono HSZ.out));clear hS6 hb6 hH hbd hs0;simp only[Exit.then];go_wp2;go_ret;exact⟨rfl,HF.out⟩
     ·have HK:=yH (show Ck.known row y=true by
       have:=HE2.out;rw[List.take_of_length_le (by have:=HNN.out;omega)] at this;rw[HKN.out];exact this)
      have HE6:=yH (all_moreR (k:=k) HE.out (by rw[HNT.out];exact hlt) (by rw[←HY.out];exact HK.out));go_wp2;go_roundw
      case rel=>exact⟨k+1,by omega,by go_num,HE6.out,HW4.out⟩
      case measure=>simp[intOf];omega
  ·have HF:=yH (HB.out.trans ((HB1.out.trans (HW.out.mono HB1.out.size)).mono HSZ.out))
   obtain rfl:R=true:=by
    have:=HE.out;rw[List.take_of_length_le (by have:=HNT.out;omega)] at this;rw[←HR.out];exact this
   go_wp2;go_ret;exact⟨rfl,HF.out⟩
end
structure PSb (w:World) (q md:Nat) (ao:Option Addr) (N cap:Nat) (uo:Option Addr) (un uc K:Nat) (S TX UX:List UInt8) (n0 p0:Nat) (lo:Option Addr) (LL lc:Nat) (mo:Option Addr) (LM mc:Nat):Prop where
 p:H3 w q [.int .i64 (md:Int),.slice ao N cap,.slice uo un uc]
 s:w.heap[q+1]?=some (.cells #[.int .i64 (K:Int),.string ⟨S.toArray⟩,.string ⟨TX.toArray⟩,.string ⟨UX.toArray⟩,.int .i64 (n0:Int),.int .i64 (p0:Int),.slice lo LL lc,.slice mo LM mc] 41 (0,0))
section
variable {w:World} {md:Nat} {ao uo:Option Addr} {N cap un uc:Nat} {row:List Ps.St} {q K:Nat} {S TX UX:List UInt8} {n0 p0:Nat} {lo:Option Addr} {LL lc:Nat} {mo:Option Addr} {LM mc:Nat}
theorem PSb.below {w':World} (h:PSb w q md ao N cap uo un uc K S TX UX n0 p0 lo LL lc mo LM mc) (hb:Below w.heap.size w w'):PSb w' q md ao N cap uo un uc K S TX UX n0 p0 lo LL lc mo LM mc:=⟨h.p.below hb h.p.lt,(hb.block _ (yD h.s).1).trans h.s⟩
theorem PSb.cells (h:PSb w q md ao N cap uo un uc K S TX UX n0 p0 lo LL lc mo LM mc):w.cell? ⟨q,0,none⟩=some (.int .i64 (md:Int))∧w.cell? ⟨q,1,none⟩=some (.slice ao N cap)∧w.cell? ⟨q,2,none⟩=some (.slice uo un uc)∧w.cell? ⟨q+1,0,none⟩=some (.int .i64 (K:Int))∧w.cell? ⟨q+1,1,none⟩=some (.string ⟨S.toArray⟩)∧w.cell? ⟨q+1,2,none⟩=some (.string ⟨TX.toArray⟩)∧w.cell? ⟨q+1,3,none⟩=some (.string ⟨UX.toArray⟩)∧w.cell? ⟨q+1,4,none⟩=some (.int .i64 (n0:Int))∧w.cell? ⟨q+1,5,none⟩=some (.int .i64 (p0:Int))∧w.cell? ⟨q+1,6,none⟩=some (.slice lo LL lc)∧w.cell? ⟨q+1,7,none⟩=some (.slice mo LM mc) :=
 ⟨h.p.cell rfl,h.p.cell rfl,h.p.cell rfl,yC h.s,yC h.s,yC h.s,yC h.s,yC h.s,yC h.s,yC h.s,yC h.s⟩
theorem rwrong_any (h:RPc w ao N cap row) {k:Nat} {st:Ps.St} (hk:row[k]?=some st) :
  Calls Tryz.prog 33 #[.agg #[.int .i64 (md:Int),.slice ao N cap,.slice uo un uc],.int .i64 (k:Int)] w fun e w'=>e = .returned (.int .i64 ((Ck.wrong md row k st:Nat):Int))∧Below w.heap.size w w':=by
 obtain⟨Wn,hWn⟩:∃ n,Ck.wrong md row k st=n:=⟨_,rfl⟩;rw[hWn];obtain⟨g,lo,lc,mo,mc,rfl,hrl,_,c8⟩:=h.sr.at8 hk;have hNr:=h.sr.len;have hkN:k<N:=(by rw[hNr];exact(yE hk).1);have hN1:N≤100:=(by rw[hNr];exact h.ne.few);have hmem:=List.mem_of_getElem? hk;have hsm:=h.ne.sm st hmem;have hlb:=h.ne.lb st hmem;have HWF:=yH (Ck.wrong_of (md:=md) (row:=row) (k:=k) (st:=st))
 obtain⟨T,hT⟩:∃ T,w.alloc (.cells #[.int .i64 (md:Int),.slice (some ⟨g,0,none⟩) N cap,.slice uo un uc] 32)=T:=⟨_,rfl⟩;have hbT:Below w.heap.size w T:=(by rw[←hT];exact yA);have hzT:H3 T w.heap.size [.int .i64 (md:Int),.slice (some ⟨g,0,none⟩) N cap,.slice uo un uc]:=(by rw[←hT];exact heap_alloc_new _ _);have hsT:T.heap.size=w.heap.size+1:=(by rw[←hT];simp);obtain⟨K,S,TX,UX,n0,p0,L,M⟩:=st
 obtain⟨LL,hLL⟩:∃ x,L.length=x:=⟨_,rfl⟩;obtain⟨LM,hLM⟩:∃ x,M.length=x:=⟨_,rfl⟩;unfold Ps.Sm at hsm;dsimp only at hsm hlb hrl HWF hWn;rw[hLL] at hrl;have d8:=c8.below hbT;have d0:T.cell? ⟨g,k*8,none⟩=some (.int .i64 (K:Int)):=d8.c0;have d1:T.cell? ⟨g,k*8+1,none⟩=some (.string ⟨S.toArray⟩):=d8.c1;have d2:T.cell? ⟨g,k*8+2,none⟩=some (.string ⟨TX.toArray⟩):=d8.c2;have d3:T.cell? ⟨g,k*8+3,none⟩=some (.string ⟨UX.toArray⟩):=d8.c3
 have d4:T.cell? ⟨g,k*8+4,none⟩=some (.int .i64 (n0:Int)):=d8.c4;have d5:T.cell? ⟨g,k*8+5,none⟩=some (.int .i64 (p0:Int)):=d8.c5;have d6:T.cell? ⟨g,k*8+6,none⟩=some (.slice lo LL lc):=(by rw[←hLL];exact d8.c6);have d7:T.cell? ⟨g,k*8+7,none⟩=some (.slice mo LM mc):=by rw[←hLM];exact d8.c7
 obtain⟨V,hV⟩:∃ V,T.alloc (.cells #[.int .i64 (K:Int),.string ⟨S.toArray⟩,.string ⟨TX.toArray⟩,.string ⟨UX.toArray⟩,.int .i64 (n0:Int),.int .i64 (p0:Int),.slice lo LL lc,.slice mo LM mc] 41)=V:=⟨_,rfl⟩;have hbV0:Below T.heap.size T V:=(by rw[←hV];exact yA);have hbV:Below w.heap.size w V:=hbT.trans (hbV0.mono hbT.size)
 have hps:PSb V w.heap.size md (some ⟨g,0,none⟩) N cap uo un uc K S TX UX n0 p0 lo LL lc mo LM mc:=⟨hzT.below hbV0 hzT.lt,by rw[←hsT,←hV];exact heap_alloc_new _ _⟩;have HRP:=yH (h.below hbV);have HRL:=yH (hrl.below hbV);have HLB:=yH hlb;have HLL:=yH hLL;have HSM:=yH hsm;obtain⟨q,hq⟩:∃ q,w.heap.size=q:=⟨_,rfl⟩;have HSZ:=yH (show q≤V.heap.size by rw[←hq];exact hbV.size);rw[hq] at hbV hps hzT hsT;have z1:=hzT.cell (i:=1) rfl
 have hkk:(k:Int)<(N:Int):=(by omega);have HT:=yH hT;have HV:=yH hV;have HQ:=yH hq;have HB:=yH hbV;have HPS:=yH hps;have HNR:=yH hNr;have HWN:=yH hWn;clear hT hV hbT hbV hbV0 hps hzT c8 d8 hk hmem hsm hlb hLL hLM hrl hNr h hWn;rw[hq];clear hq;go_enter Tryz.func33,Tryz.ntmps33;go_upto_region 1 with fail
 rw[HT.out,HQ.out];go_upto_region 2 with fail
 rw[HV.out];clear d0 d1 d2 d3 d4 d5 d6 d7 z1 HT HV HQ hsT;obtain⟨z0,z1,z2,s0,s1,s2,s3,s4,s5,s6,s7⟩:=HPS.out.cells;have RM:=rmode_of (md:=md) (uo:=uo) (un:=un) (uc:=uc) HRP.out K S TX UX n0 p0 L M lo mo LL lc LM mc HLL.out HRL.out HLB.out;obtain⟨B1,hB1⟩:∃ y,Ck.modeOk md row ⟨K,S,TX,UX,n0,p0,L,M⟩=y:=⟨_,rfl⟩;rw[hB1] at RM;go_wp2_with fail
 refine RM.mono ?_;rintro e w1 ⟨rfl,hb1⟩;clear z0 z1 z2 s0 s1 s2 s3 s4 s5 s6 s7;clear RM;have HPSw1:=yH (HPS.out.below hb1);have HBw1:=yH (HB.out.trans (hb1.mono HSZ.out));have HSZw1:=yH (Nat.le_trans HSZ.out hb1.size);have HRPw1:=yH (HRP.out.below hb1);replace HPS:=HPSw1;replace HB:=HBw1;replace HSZ:=HSZw1;replace HRP:=HRPw1;clear HPSw1 HBw1 HSZw1 HRPw1 hb1;cases B1 with
 | false =>
  have FB:Ck.r1 md row ⟨K,S,TX,UX,n0,p0,L,M⟩=true:=(by unfold Ck.r1;rw[hB1];rfl);clear hB1;obtain rfl:Wn=30:=(by rw[←HWN.out];exact HWF.out.1 FB);go_wp2;go_ret;exact⟨rfl,HB.out⟩
 | true =>
  have F0:=yH (show Ck.r1 md row ⟨K,S,TX,UX,n0,p0,L,M⟩=false from by unfold Ck.r1;rw[hB1];rfl);clear hB1;obtain⟨z0,z1,z2,s0,s1,s2,s3,s4,s5,s6,s7⟩:=HPS.out.cells;obtain⟨B2,hB2⟩:∃ y,Ck.r2 ⟨K,S,TX,UX,n0,p0,L,M⟩=y:=⟨_,rfl⟩;go_upto_region 5 with fail
  go_cut [35] from 23 to 34 (fun sB wx=>sB = .bool B2∧wx=w1)
  case first =>
   by_cases hk6:K=6
   ·subst hk6;replace s0:w1.cell? ⟨q+1,0,none⟩=some (.int .i64 6):=s0;by_cases hn1:n0<1
    ·have f1:((n0:Int)<1)=True:=yT;obtain rfl:B2=true:=(by rw[←hB2];simp[Ck.r2,hn1]);clear hn1 hB2;go_wp2;go_meet;exact⟨rfl,rfl⟩
    have f1:((n0:Int)<1)=False:=yF;by_cases hn2:8<n0
    ·have f2:((8:Int)<(n0:Int))=True:=yT;obtain rfl:B2=true:=(by rw[←hB2];simp[Ck.r2,hn2]);clear hn1 hn2 hB2;go_wp2;go_meet;exact⟨rfl,rfl⟩
    have f2:((8:Int)<(n0:Int))=False:=yF;obtain rfl:B2=false:=(by rw[←hB2];simp[Ck.r2];omega);clear hn1 hn2 hB2;go_wp2;go_meet;exact⟨rfl,rfl⟩
   have e6a:((K:Int)==6)=false:=yB;have e6b:((K:Int)=6)=False:=yF;have e6c:((K:Int) != 6)=true:=(by rw[bne_iff_ne];omega);have e6d:(K=6)=False:=yF;obtain rfl:B2=false:=(by rw[←hB2];simp[Ck.r2,hk6]);clear hk6 hB2;go_wp2;go_meet;exact⟨rfl,rfl⟩
  case rest =>
  obtain⟨rfl,hwc⟩:=hcut;obtain rfl:=hwc.symm;clear hwc;go_step;cases B2 with
  | true =>
   have FB:Ck.r2 ⟨K,S,TX,UX,n0,p0,L,M⟩=true:=hB2;clear hB2;obtain rfl:Wn=1:=(by rw[←HWN.out];exact HWF.out.2.1 F0.out FB);go_wp2;go_ret;exact⟨rfl,HB.out⟩
  | false =>
   have F1:=yH (show Ck.r2 ⟨K,S,TX,UX,n0,p0,L,M⟩=false from hB2);clear hB2;obtain⟨z0,z1,z2,s0,s1,s2,s3,s4,s5,s6,s7⟩:=HPS.out.cells;have RC:=rcodesof_any K S TX UX n0 p0 L M lo mo LL lc LM mc HSM.out w1;go_wp2_with fail
   refine RC.mono ?_;rintro e w2 ⟨c,asks,rfl,hcl,hask,hb2⟩;clear z0 z1 z2 s0 s1 s2 s3 s4 s5 s6 s7;clear RC;have HPSw2:=yH (HPS.out.below hb2);have HBw2:=yH (HB.out.trans (hb2.mono HSZ.out));have HSZw2:=yH (Nat.le_trans HSZ.out hb2.size);have HRPw2:=yH (HRP.out.below hb2);replace HPS:=HPSw2;replace HB:=HBw2;replace HSZ:=HSZw2;replace HRP:=HRPw2;clear HPSw2 HBw2 HSZw2 HRPw2 hb2;obtain⟨z0,z1,z2,s0,s1,s2,s3,s4,s5,s6,s7⟩:=HPS.out.cells
   have RD:Calls Tryz.prog 50 #[.int .i64 (md:Int),.string ⟨c.toArray⟩] w2 fun e w'=>e = .returned (.bool (Ln.codes (md:Int) c))∧Below w2.heap.size w2 w':=rcodes_any (md:Int) c (by omega) w2
   have hr3:Ck.r3 md ⟨K,S,TX,UX,n0,p0,L,M⟩=(asks && !Ln.codes (md:Int) c):=by
    unfold Ck.r3;rcases hask with ⟨rfl,h2⟩|⟨rfl,h2⟩
    ·rw[h2];simp
    ·rw[h2];simp
   generalize Ln.codes (md:Int) c=fine at RD hr3;clear hask hcl;go_wp2_with fail
   refine RD.mono ?_;rintro e w3 ⟨rfl,hb3⟩;clear z0 z1 z2 s0 s1 s2 s3 s4 s5 s6 s7;clear RD;have HPSw3:=yH (HPS.out.below hb3);have HBw3:=yH (HB.out.trans (hb3.mono HSZ.out));have HSZw3:=yH (Nat.le_trans HSZ.out hb3.size);have HRPw3:=yH (HRP.out.below hb3);replace HPS:=HPSw3;replace HB:=HBw3;replace HSZ:=HSZw3;replace HRP:=HRPw3;clear HPSw3 HBw3 HSZw3 HRPw3 hb3;obtain⟨z0,z1,z2,s0,s1,s2,s3,s4,s5,s6,s7⟩:=HPS.out.cells
   obtain⟨B3,hB3⟩:∃ y,(asks && !fine)=y:=⟨_,rfl⟩;rw[hB3] at hr3;go_upto_region 9 with fail
   go_cut [49] from 45 to 48 (fun sB wx=>sB = .bool B3∧wx=w3)
   case first =>
    subst hB3;cases asks <;> cases fine
    all_goals
     go_wp2;go_meet;exact⟨rfl,rfl⟩
   case rest =>
   obtain⟨rfl,hwc⟩:=hcut;obtain rfl:=hwc.symm;clear hwc;go_step;cases B3 with
   | true =>
    have FB:Ck.r3 md ⟨K,S,TX,UX,n0,p0,L,M⟩=true:=hr3;clear hr3 hB3;obtain rfl:Wn=34:=(by rw[←HWN.out];exact HWF.out.2.2.1 F0.out F1.out FB);go_wp2;go_ret;exact⟨rfl,HB.out⟩
   | false =>
    have F2:=yH (show Ck.r3 md ⟨K,S,TX,UX,n0,p0,L,M⟩=false from hr3);clear hr3 hB3;obtain⟨z0,z1,z2,s0,s1,s2,s3,s4,s5,s6,s7⟩:=HPS.out.cells;have RH:=hasl_any (md:=md) (uo:=uo) (un:=un) (uc:=uc) HRP.out k (by omega) S;rw[Ck.nms_labels] at RH;obtain⟨b4,hb40⟩:∃ y,(Ck.labels (row.take k)).contains S=y:=⟨_,rfl⟩;rw[hb40] at RH;obtain⟨B4,hB4⟩:∃ y,Ck.r4 row k ⟨K,S,TX,UX,n0,p0,L,M⟩=y:=⟨_,rfl⟩;go_wp2_with fail
    refine RH.mono ?_;rintro e w4 ⟨rfl,hb4⟩;clear z0 z1 z2 s0 s1 s2 s3 s4 s5 s6 s7;clear RH;have HPSw4:=yH (HPS.out.below hb4);have HBw4:=yH (HB.out.trans (hb4.mono HSZ.out));have HSZw4:=yH (Nat.le_trans HSZ.out hb4.size);have HRPw4:=yH (HRP.out.below hb4);replace HPS:=HPSw4;replace HB:=HBw4;replace HSZ:=HSZw4;replace HRP:=HRPw4;clear HPSw4 HBw4 HSZw4 HRPw4 hb4;obtain⟨z0,z1,z2,s0,s1,s2,s3,s4,s5,s6,s7⟩:=HPS.out.cells
    go_upto_region 12 with fail
    go_cut [60] from 55 to 59 (fun sB wx=>sB = .bool B4∧wx=w4)
    case first =>
     by_cases hk:K=13
     ·subst hk;replace s0:w4.cell? ⟨q+1,0,none⟩=some (.int .i64 13):=s0;obtain rfl:B4=b4:=(by rw[←hB4];unfold Ck.r4;rw[hb40];cases b4 <;> simp);clear hB4 hb40;go_wp2;go_meet;exact⟨rfl,rfl⟩
     have e13a:((K:Int)==13)=false:=yB;have e13b:((K:Int)=13)=False:=yF;have e13c:((K:Int) != 13)=true:=(by rw[bne_iff_ne];omega);have e13d:(K=13)=False:=yF;obtain rfl:B4=false:=(by rw[←hB4];simp[Ck.r4,hk]);clear hk hB4;go_wp2;go_meet;exact⟨rfl,rfl⟩
    case rest =>
    obtain⟨rfl,hwc⟩:=hcut;obtain rfl:=hwc.symm;clear hwc;go_step;cases B4 with
    | true =>
     have FB:Ck.r4 row k ⟨K,S,TX,UX,n0,p0,L,M⟩=true:=hB4;clear hB4;obtain rfl:Wn=31:=(by rw[←HWN.out];exact HWF.out.2.2.2.1 F0.out F1.out F2.out FB);go_wp2;go_ret;exact⟨rfl,HB.out⟩
    | false =>
     have F3:=yH (show Ck.r4 row k ⟨K,S,TX,UX,n0,p0,L,M⟩=false from hB4);clear hB4;obtain⟨z0,z1,z2,s0,s1,s2,s3,s4,s5,s6,s7⟩:=HPS.out.cells;have RH:=hasl_any (md:=md) (uo:=uo) (un:=un) (uc:=uc) HRP.out N yR S;have hta:nms kLabel (row.take N)=Ck.labels row:=(by rw[List.take_of_length_le (by rw[HNR.out];exact yR)];rfl);rw[hta] at RH;obtain⟨b5,hb50⟩:∃ y,(Ck.labels row).contains S=y:=⟨_,rfl⟩;rw[hb50] at RH
     obtain⟨B5,hB5⟩:∃ y,Ck.r5 row ⟨K,S,TX,UX,n0,p0,L,M⟩=y:=⟨_,rfl⟩;clear hta;go_wp2_with fail
     refine RH.mono ?_;rintro e w5 ⟨rfl,hb5⟩;clear z0 z1 z2 s0 s1 s2 s3 s4 s5 s6 s7;clear RH;have HPSw5:=yH (HPS.out.below hb5);have HBw5:=yH (HB.out.trans (hb5.mono HSZ.out));have HSZw5:=yH (Nat.le_trans HSZ.out hb5.size);have HRPw5:=yH (HRP.out.below hb5);replace HPS:=HPSw5;replace HB:=HBw5;replace HSZ:=HSZw5;replace HRP:=HRPw5;clear HPSw5 HBw5 HSZw5 HRPw5 hb5;obtain⟨z0,z1,z2,s0,s1,s2,s3,s4,s5,s6,s7⟩:=HPS.out.cells
     go_upto_region 15 with fail
     go_cut [79] from 68 to 78 (fun sB wx=>sB = .bool B5∧wx=w5)
     case first =>
      by_cases hk:K=14∨K=15
      ·have hb5n:B5 = !b5:=by
        rw[←hB5];unfold Ck.r5;rw[hb50];rcases hk with rfl|rfl <;> cases b5 <;> simp
       subst hb5n;clear hB5 hb50;rcases hk with rfl|rfl
       iterate 2
        ·simp only[Int.cast_ofNat_Int] at s0;go_wp2;go_meet;exact⟨rfl,rfl⟩
      have e14a:((K:Int)==14)=false:=yB;have e14b:((K:Int)=14)=False:=yF;have e14c:((K:Int) != 14)=true:=(by rw[bne_iff_ne];omega);have e14d:(K=14)=False:=yF;have e15a:((K:Int)==15)=false:=yB;have e15b:((K:Int)=15)=False:=yF;have e15c:((K:Int) != 15)=true:=by rw[bne_iff_ne];omega
      have e15d:(K=15)=False:=yF;obtain rfl:B5=false:=(by rw[←hB5];simp[Ck.r5,e14d,e15d]);clear hk hB5;go_wp2;go_meet;exact⟨rfl,rfl⟩
     case rest =>
     obtain⟨rfl,hwc⟩:=hcut;obtain rfl:=hwc.symm;clear hwc;go_step;cases B5 with
     | true =>
      have FB:Ck.r5 row ⟨K,S,TX,UX,n0,p0,L,M⟩=true:=hB5;clear hB5;obtain rfl:Wn=33:=(by rw[←HWN.out];exact HWF.out.2.2.2.2.1 F0.out F1.out F2.out F3.out FB);go_wp2;go_ret;exact⟨rfl,HB.out⟩
     | false =>
      have F4:=yH (show Ck.r5 row ⟨K,S,TX,UX,n0,p0,L,M⟩=false from hB5);clear hB5;obtain⟨z0,z1,z2,s0,s1,s2,s3,s4,s5,s6,s7⟩:=HPS.out.cells;have RN:=rknown_any (md:=md) (uo:=uo) (un:=un) (uc:=uc) HRP.out K S TX UX n0 p0 L M lo mo LL lc LM mc HSM.out;obtain⟨B6,hB6⟩:∃ y,(Ck.textsOf ⟨K,S,TX,UX,n0,p0,L,M⟩).all (Ck.known row)=y:=⟨_,rfl⟩;rw[hB6] at RN;go_wp2_with fail
      refine RN.mono ?_;rintro e w6 ⟨rfl,hb6⟩;clear z0 z1 z2 s0 s1 s2 s3 s4 s5 s6 s7;clear RN;have HPSw6:=yH (HPS.out.below hb6);have HBw6:=yH (HB.out.trans (hb6.mono HSZ.out));have HSZw6:=yH (Nat.le_trans HSZ.out hb6.size);have HRPw6:=yH (HRP.out.below hb6);replace HPS:=HPSw6;replace HB:=HBw6;replace HSZ:=HSZw6;replace HRP:=HRPw6;clear HPSw6 HBw6 HSZw6 HRPw6 hb6;cases B6 with
      | false =>
       have FB:Ck.r6 row ⟨K,S,TX,UX,n0,p0,L,M⟩=true:=(by unfold Ck.r6;rw[hB6];rfl);clear hB6;obtain rfl:Wn=32:=(by rw[←HWN.out];exact HWF.out.2.2.2.2.2.1 F0.out F1.out F2.out F3.out F4.out FB);go_wp2;go_ret;exact⟨rfl,HB.out⟩
      | true =>
       have FB:Ck.r6 row ⟨K,S,TX,UX,n0,p0,L,M⟩=false:=(by unfold Ck.r6;rw[hB6];rfl);clear hB6;obtain rfl:Wn=0:=(by rw[←HWN.out];exact HWF.out.2.2.2.2.2.2 F0.out F1.out F2.out F3.out F4.out FB);go_wp2;go_ret;exact⟨rfl,HB.out⟩
theorem rprog_any (h:RPc w ao N cap row) :
  Calls Tryz.prog 19 #[.agg #[.int .i64 (md:Int),.slice ao N cap,.slice uo un uc]] w fun e w'=>e = .returned (.tuple #[.int .i64 (((Ck.prog md row).1:Nat):Int),.int .i64 (((Ck.prog md row).2:Nat):Int)])∧Below w.heap.size w w':=by
 have hN:=h.sr.len;have hN1:N≤100:=(by rw[hN];exact h.ne.few);obtain⟨T,hT⟩:∃ T,w.alloc (.cells #[.int .i64 (md:Int),.slice ao N cap,.slice uo un uc] 32)=T:=⟨_,rfl⟩;have hbT:Below w.heap.size w T:=(by rw[←hT];exact yA);have hz:H3 T w.heap.size [.int .i64 (md:Int),.slice ao N cap,.slice uo un uc]:=(by rw[←hT];exact heap_alloc_new _ _);have HRP:=yH (h.below hbT);obtain⟨q,hq⟩:∃ q,w.heap.size=q:=⟨_,rfl⟩
 have HSZ:=yH (show q≤T.heap.size by rw[←hq];exact hbT.size);rw[hq] at hbT hz;have HT:=yH hT;have HQ:=yH hq;have HB:=yH hbT;have HN:=yH hN;have HZ:=yH hz;clear hT hbT hz hN h;rw[hq];clear hq;go_enter Tryz.func19,Tryz.ntmps19;go_upto_region 1 with fail
 rw[HT.out,HQ.out];go_wp2;go_loopw [4] (fun i wr=>∃ k:Nat,k≤N∧i = .int .i64 k∧Hid (Below T.heap.size T wr)∧Hid (Ck.prog md row=Ck.progGo md row k (row.drop k))) (fun i _=>N-(intOf i).toNat)
 case atStart=>exact⟨0,Nat.zero_le _,rfl,Below.refl _ _,yH rfl⟩
 case round =>
  obtain⟨k,hk,rfl,HW,HP⟩:=hrel;have hzr:=HZ.out.below HW.out HZ.out.lt;have z0:=hzr.cell (i:=0) rfl;have z1:=hzr.cell (i:=1) rfl;have z2:=hzr.cell (i:=2) rfl;by_cases hlt:k<N
  ·obtain⟨st,hst⟩:∃ st,row[k]?=some st:=⟨_,List.getElem?_eq_getElem (by rw[←HN.out];exact hlt)⟩;have RW:=rwrong_any (md:=md) (uo:=uo) (un:=un) (uc:=uc) (HRP.out.below HW.out) hst;have HIT:=yH (fun hw=>Ck.go_hit HP.out hst hw);have NEXT:=yH (fun hw=>Ck.go_next HP.out hst hw);obtain⟨g,lo,lc,mo,mc,rfl,_,_,c8⟩:=(HRP.out.below HW.out).sr.at8 hst;have HC8:=yH c8;have HZR:=yH hzr
   obtain⟨wn,hwn⟩:∃ y,Ck.wrong md row k st=y:=⟨_,rfl⟩;rw[hwn] at RW HIT NEXT;clear hst c8 hzr hwn;go_wp2_with fail
   refine RW.mono ?_;rintro e w2 ⟨rfl,hb2⟩;have HW2:=yH (HW.out.trans (hb2.mono HW.out.size));have d5:=(HC8.out.below hb2).c5;have hz2:=HZR.out.below hb2 HZR.out.lt;clear RW z0 z1 z2 hb2;have z1:=hz2.cell (i:=1) rfl;obtain⟨p0,hp0⟩:∃ y,st.place=y:=⟨_,rfl⟩;rw[hp0] at d5 HIT;clear hz2 hp0;by_cases h0:wn=0
   ·subst h0;have HNX:=yH (NEXT.out rfl);clear NEXT HIT;go_wp2;go_roundw
    case rel=>exact⟨k+1,by omega,by go_num,HW2.out,HNX.out⟩
    case measure=>simp[intOf];omega
   ·have f1:((wn:Int) != 0)=true:=(by rw[bne_iff_ne];omega);have f2:((wn:Int)==0)=false:=yB;have f3:((wn:Int)=0)=False:=yF;have f4:(wn=0)=False:=eq_false h0;have HPR:=yH (HIT.out h0);have HF:=yH (HB.out.trans (HW2.out.mono HSZ.out));clear NEXT HIT h0;go_wp2;go_ret2;rw[HPR.out];exact⟨rfl,HF.out⟩
  ·have HE:=yH (Ck.go_end HP.out (by rw[←HN.out];omega));have HF:=yH (HB.out.trans (HW.out.mono HSZ.out));clear hzr;go_wp2;go_ret2;rw[HE.out];exact⟨rfl,HF.out⟩
end
theorem pr_formedR {w:World} {B:Nat} {sv tv:Value} {row:List Ps.St} {top:List Nat} (h:PR B w sv tv row top):∃ a c u d,sv = .slice a row.length c∧tv = .slice u top.length d:=by
 obtain⟨ao,cap,rfl,_⟩:=h.sr;obtain⟨cs,_,_,_,ht,_⟩:=h;obtain⟨u,d,e2,_⟩:=ht.formV;rw[List.length_map] at e2;exact⟨ao,cap,u,d,rfl,e2⟩
theorem neR (c:Nat) (h:c≠0):((c:Int) != 0)=true∧((c:Int)==0)=false∧((c:Int)=0)=False:=⟨by rw[bne_iff_ne];omega,yB,yF⟩
theorem rsource_any (l:List UInt8) (hl:l.length≤1048576) (w:World) :
  Calls Tryz.prog 13 #[.string ⟨l.toArray⟩] w fun e w'=>PAllP (Ck.source l) w e w':=by
 obtain⟨T,hT⟩:∃ T,w.alloc (.cells #[.int .i64 0,.slice none 0 0,.slice none 0 0] 32)=T:=⟨_,rfl⟩;have hbT:Below w.heap.size w T:=(by rw[←hT];exact yA);have hz:H3 T w.heap.size [.int .i64 0,.slice none 0 0,.slice none 0 0]:=(by rw[←hT];exact heap_alloc_new _ _);have hTs:T.heap.size=w.heap.size+1:=(by rw[←hT];simp);have PA:=rpall_any l hl T;obtain⟨q,hq⟩:∃ q,w.heap.size=q:=⟨_,rfl⟩;have hsrc:=Ck.source_cases l
 rw[hq] at hbT hz hTs;have HQ:=yH hq;have HZ:=yH hz;have HBT:=yH hbT;have HT:=yH hT;have HQT:=yH hTs;clear hz hbT hl hT hq;go_enter Tryz.func13,Tryz.ntmps13;go_upto_region 1 with fail
 rw[HT.out,HQ.out];go_wp2_with fail
 refine PA.mono ?_;rintro e w2 hP;obtain⟨hb2,hP⟩:=hP;clear PA;have hbw:Below q w w2:=HBT.out.trans (hb2.mono (by have:=HQT.out;omega));have hz2:=HZ.out.below hb2 (by have:=HQT.out;omega);rcases hsrc with ⟨p,c,ha,hs⟩|⟨md,row,top,ha,hs⟩
 ·rw[ha] at hP;have HSRC:=yH hs;obtain⟨rfl,hc⟩:=hP;obtain⟨w3,hw3⟩:∃ w3,w2.alloc (.cells #[.int .i64 0,.slice none 0 0,.slice none 0 0] 32)=w3:=⟨_,rfl⟩;have hb3:Below w2.heap.size w2 w3:=(by rw[←hw3];exact yA);have hq2:q≤w2.heap.size:=Nat.le_trans (by have:=HQT.out;omega) hb2.size;have hb:Below q w w3:=hbw.trans (hb3.mono hq2);have hz:=hz2.below hb3 hz2.lt;obtain⟨f1,f2,f3⟩:=neR c hc;have HW3:=yH hw3
  have HC:=yH hc;clear hw3 hb3 hz2 hbw hb2 ha hs hc hq2;go_upto_region 2 with fail
  rw[HW3.out];have zc0:=hz.cell (i:=0) rfl;have zc1:=hz.cell (i:=1) rfl;have zc2:=hz.cell (i:=2) rfl;have zf0:=hz.fr 0;have zf1:=hz.fr 1;have zf2:=hz.fr 2;have HSET:=yH (hz.set (vs:=[.int .i64 0,.slice none 0 0,.slice none 0 0]) rfl);have HBL:=yH (below_setN q [.int .i64 0,.slice none 0 0,.slice none 0 0] 0 yR hb);clear hz hb;go_wp2;change bodyPost _ _ _ _ _ (setN w3 q 0 [.int .i64 0,.slice none 0 0,.slice none 0 0]);have hset:=HSET.out
  have hbl:=HBL.out;generalize hWW:setN w3 q 0 [.int .i64 0,.slice none 0 0,.slice none 0 0]=W at hset hbl ⊢;have r0:=hset.cell (i:=0) rfl;have r1:=hset.cell (i:=1) rfl;have r2:=hset.cell (i:=2) rfl;refine bodyPost_ret (v:=.tuple #[.agg #[.int .i64 0,.slice none 0 0,.slice none 0 0],.int .i64 (p:Int),.int .i64 (c:Int)]) (by simp[results,Tryz.results13,go_sem,r0,r1,r2]) rfl ?_;unfold PAllP;rw[HQ.out,HSRC.out];exact⟨hbl,rfl,HC.out⟩
 ·rw[ha] at hP;obtain⟨sv',tv,rfl,hpr⟩:=hP;obtain⟨ao,cap,uo,ud,rfl,rfl⟩:=pr_formedR hpr;obtain⟨N,hN⟩:∃ N,row.length=N:=⟨_,rfl⟩;obtain⟨M,hM⟩:∃ M,top.length=M:=⟨_,rfl⟩;rw[hN,hM] at hpr ⊢;obtain⟨w3,hw3⟩:∃ w3,w2.alloc (.cells #[.int .i64 (md:Int),.slice ao N cap,.slice uo M ud] 32)=w3:=⟨_,rfl⟩;have hb3:Below w2.heap.size w2 w3:=(by rw[←hw3];exact yA);obtain⟨b5,hb5⟩:∃ b5,w2.heap.size=b5:=⟨_,rfl⟩
  have hz5:H3 w3 b5 [.int .i64 (md:Int),.slice ao N cap,.slice uo M ud]:=(by rw[←hb5,←hw3];exact heap_alloc_new _ _);have hq2:q<b5:=(by rw[←hb5];exact Nat.lt_of_lt_of_le (by have:=HQT.out;omega) hb2.size);have hpr3:=hpr.below hb3;have PG:=rprog_any (md:=md) (uo:=uo) (un:=M) (uc:=ud) ⟨hpr3.sr,Ps.all_neat ha⟩;rw[hb5] at hb3;have HW3:=yH hw3;have HB5:=yH hb5;have e0:=hz5.cell (i:=0) rfl;have e1:=hz5.cell (i:=1) rfl
  have e2:=hz5.cell (i:=2) rfl;have HPR3:=yH hpr3;have HB3:=yH (hbw.trans (hb3.mono (Nat.le_of_lt hq2)));have HZ3:=yH (hz2.below (show Below w2.heap.size w2 w3 by rw[hb5];exact hb3) hz2.lt);have HZ5:=yH hz5;have HQ3:=yH (show q≤w3.heap.size from Nat.le_of_lt (Nat.lt_trans hq2 hz5.lt));clear hw3 hb5 hb3 hz5 hz2 hbw hb2 ha hpr hpr3;go_upto_region 2 with fail
  rw[HW3.out,HB5.out];go_wp2_with fail
  refine PG.mono ?_;rintro e w4 ⟨rfl,hb4⟩;clear PG e0 e1 e2;have hb:Below q w w4:=HB3.out.trans (hb4.mono HQ3.out);have hz:=HZ3.out.below hb4 HZ3.out.lt;have hz5:=HZ5.out.below hb4 HZ5.out.lt;have hpr4:=HPR3.out.below hb4;have g0:=hz5.cell (i:=0) rfl;have g1:=hz5.cell (i:=1) rfl;have g2:=hz5.cell (i:=2) rfl;have HPR4:=yH hpr4;clear hz5 hpr4 hb4 HW3 HB5;obtain⟨p,c,hpc⟩:∃ p c,Ck.prog md row=(p,c):=⟨_,_,rfl⟩;rw[hpc] at hs ⊢
  rcases hs with ⟨hc,hs⟩|⟨hc,hs⟩
  ·dsimp only at hc ⊢;subst hc;have HSRC:=yH hs;clear hs hpc;have zc0:=hz.cell (i:=0) rfl;have zc1:=hz.cell (i:=1) rfl;have zc2:=hz.cell (i:=2) rfl;have zf0:=hz.fr 0;have zf1:=hz.fr 1;have zf2:=hz.fr 2;have HSET:=yH (hz.set (vs:=[.int .i64 (md:Int),.slice ao N cap,.slice uo M ud]) rfl);have HBL:=yH (below_setN q [.int .i64 (md:Int),.slice ao N cap,.slice uo M ud] 0 yR hb);clear hz hb;go_wp2
   change bodyPost _ _ _ _ _ (setN w4 q 0 [.int .i64 (md:Int),.slice ao N cap,.slice uo M ud]);have hset:=HSET.out;have hbl:=HBL.out;generalize hWW:setN w4 q 0 [.int .i64 (md:Int),.slice ao N cap,.slice uo M ud]=W at hset hbl ⊢;have r0:=hset.cell (i:=0) rfl;have r1:=hset.cell (i:=1) rfl;have r2:=hset.cell (i:=2) rfl
   refine bodyPost_ret (v:=.tuple #[.agg #[.int .i64 (md:Int),.slice ao N cap,.slice uo M ud],.int .i64 0,.int .i64 0]) (by simp[results,Tryz.results13,go_sem,r0,r1,r2]) rfl ?_;unfold PAllP;rw[HQ.out,HSRC.out];refine⟨hbl,_,_,rfl,?_⟩;rw[←hWW];exact(HPR4.out.past (fun k hk=>setN_other (show k≠q by have:=HQT.out;omega) _ _)).lower (by have:=HQT.out;omega)
  ·dsimp only at hc ⊢;have HSRC:=yH hs;obtain⟨f1,f2,f3⟩:=neR c hc;have HC:=yH hc;clear hs hpc hc;have zc0:=hz.cell (i:=0) rfl;have zc1:=hz.cell (i:=1) rfl;have zc2:=hz.cell (i:=2) rfl;have zf0:=hz.fr 0;have zf1:=hz.fr 1;have zf2:=hz.fr 2;have HSET:=yH (hz.set (vs:=[.int .i64 0,.slice none 0 0,.slice none 0 0]) rfl);have HBL:=yH (below_setN q [.int .i64 0,.slice none 0 0,.slice none 0 0] 0 yR hb);clear hz hb;go_wp2
   change bodyPost _ _ _ _ _ (setN w4 q 0 [.int .i64 0,.slice none 0 0,.slice none 0 0]);have hset:=HSET.out;have hbl:=HBL.out;generalize hWW:setN w4 q 0 [.int .i64 0,.slice none 0 0,.slice none 0 0]=W at hset hbl ⊢;have r0:=hset.cell (i:=0) rfl;have r1:=hset.cell (i:=1) rfl;have r2:=hset.cell (i:=2) rfl
   refine bodyPost_ret (v:=.tuple #[.agg #[.int .i64 0,.slice none 0 0,.slice none 0 0],.int .i64 (p:Int),.int .i64 (c:Int)]) (by simp[results,Tryz.results13,go_sem,r0,r1,r2]) rfl ?_;unfold PAllP;rw[HQ.out,HSRC.out];exact⟨hbl,rfl,HC.out⟩
end Go.Proofs.YtodlhhfcjkjapaaGreatDoor
