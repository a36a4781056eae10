import Derived.Test.YtodlhhfcjkjapaaGreatDoorPL
set_option maxRecDepth 200000
set_option maxHeartbeats 8000000
namespace Go.Proofs.YtodlhhfcjkjapaaGreatDoor
open Go.RowKit
theorem rsmall_any (c:UInt8) (w:World):Calls Tryz.prog 75 #[.int .u8 (c.toNat:Int)] w fun e w'=>e = .returned (.bool (Lx.small c))∧w=w':=by
 unfold Lx.small;by_cases h1:97≤c.toNat
 ·have q1:((97:Int)≤(c.toNat:Int))=True:=yT;by_cases h2:c.toNat≤122
  ·have q2:((c.toNat:Int)≤122)=True:=yT;rw[decide_eq_true h1,decide_eq_true h2];clear h1 h2;go_enter Tryz.func75,Tryz.ntmps75;go_wp2;go_ret;exact⟨rfl,rfl⟩
  ·have q2:((c.toNat:Int)≤122)=False:=yF;rw[decide_eq_true h1,decide_eq_false h2];clear h1 h2;go_enter Tryz.func75,Tryz.ntmps75;go_wp2;go_ret;exact⟨rfl,rfl⟩
 ·have q1:((97:Int)≤(c.toNat:Int))=False:=yF;rw[decide_eq_false h1,Bool.false_and];clear h1;go_enter Tryz.func75,Tryz.ntmps75;go_wp2;go_ret;exact⟨rfl,rfl⟩
theorem rdigit_any (c:UInt8) (w:World):Calls Tryz.prog 76 #[.int .u8 (c.toNat:Int)] w fun e w'=>e = .returned (.bool (Lx.digit c))∧w=w':=by
 unfold Lx.digit;by_cases h1:48≤c.toNat
 ·have q1:((48:Int)≤(c.toNat:Int))=True:=yT;by_cases h2:c.toNat≤57
  ·have q2:((c.toNat:Int)≤57)=True:=yT;rw[decide_eq_true h1,decide_eq_true h2];clear h1 h2;go_enter Tryz.func76,Tryz.ntmps76;go_wp2;go_ret;exact⟨rfl,rfl⟩
  ·have q2:((c.toNat:Int)≤57)=False:=yF;rw[decide_eq_true h1,decide_eq_false h2];clear h1 h2;go_enter Tryz.func76,Tryz.ntmps76;go_wp2;go_ret;exact⟨rfl,rfl⟩
 ·have q1:((48:Int)≤(c.toNat:Int))=False:=yF;rw[decide_eq_false h1,Bool.false_and];clear h1;go_enter Tryz.func76,Tryz.ntmps76;go_wp2;go_ret;exact⟨rfl,rfl⟩
theorem u8_neb {c:UInt8} {n:Nat} (h:¬ c=UInt8.ofNat n):c.toNat≠n:=by
 intro e;apply h
 rw[←e];simp
theorem rpassed_any (l:List UInt8) (hl:l.length≤16777216) (k0:Nat) (hk0:k0≤l.length) (w:World) :
  Calls Tryz.prog 43 #[.string ⟨l.toArray⟩,.int .i64 (k0:Int)] w fun e w'=>e = .returned (.int .i64 ((l.length-(Lx.skip false (l.drop k0)).length:Nat):Int))∧w=w':=by
 have hz:(⟨l.toArray⟩:ByteArray).size=l.length:=rfl;obtain⟨L,hL⟩:∃ L,l.length=L:=⟨_,rfl⟩;obtain⟨SK,hSK⟩:∃ SK,Lx.skip false (l.drop k0)=SK:=⟨_,rfl⟩;have HL:=yH hL;have HSK:=yH hSK;rw[hL] at hl hz hk0 ⊢;rw[hSK];clear hL hSK;go_enter Tryz.func43,Tryz.ntmps43;go_wp2;go_loopw [1] (fun s1 wr=>∃ k:Nat,k≤L∧s1 = .int .i64 k∧Hid (Lx.skip false (l.drop k)=SK)∧wr=w) (fun s1 _=>L-(intOf s1).toNat)
 case atStart=>exact⟨k0,hk0,rfl,HSK,rfl⟩
 case round =>
  obtain⟨k,hk,rfl,HR,rfl⟩:=hrel;by_cases hlt:k<L
  ·obtain⟨c,r,hd,hgc,hr,hrl⟩:=Lx.drop_cons (l:=l) (k:=k) (by rw[HL.out];exact hlt);rw[HL.out] at hrl;have hx:∀ h,(⟨l.toArray⟩:ByteArray)[k]'h=c:=fun h=>by rw[byte_at];exact hgc
   have HD:=yH hd;have HRR:=yH hr;clear hgc hd hr;by_cases h35:c=35
   ·have q1:((c.toNat:Int)==35)=true:=(by subst h35;rfl);have q2:((c.toNat:Int)=35)=True:=by subst h35;exact eq_true rfl
    have HT:=yH (show Lx.skip true (l.drop k)=SK by
     have:=HR.out;rw[HD.out,h35,Lx.skip,if_pos rfl] at this;rw[HD.out,h35,Lx.skip,if_neg (by decide)];exact this)
    clear h35;go_wp2;go_loopw [1] (fun s1 wx=>∃ j:Nat,k≤j∧j≤L∧s1 = .int .i64 j∧Hid (Lx.skip true (l.drop j)=SK)∧wx=wr) (fun s1 _=>L-(intOf s1).toNat)
    case atStart=>exact⟨k,yR,hk,rfl,HT,rfl⟩
    case round =>
     obtain⟨j,hkj,hj,rfl,HJ,rfl⟩:=hrel;by_cases hlj:j<L
     ·obtain⟨c2,r2,hd2,hgc2,hr2,hrl2⟩:=Lx.drop_cons (l:=l) (k:=j) (by rw[HL.out];exact hlj);have hx2:∀ h,(⟨l.toArray⟩:ByteArray)[j]'h=c2:=fun h=>by rw[byte_at];exact hgc2
      by_cases h10:c2=10
      ·have hne:k<j:=by
        rcases Nat.lt_or_ge k j with h|h
        ·exact h
        ·obtain rfl:k=j:=(by omega);rw[HD.out] at hd2;cases hd2
         rw[h10] at q1;exact absurd q1 (by decide)
       have p1:((c2.toNat:Int) != 10)=false:=(by subst h10;rfl);have p2:((c2.toNat:Int)==10)=true:=(by subst h10;rfl);have p3:((c2.toNat:Int)=10)=True:=by subst h10;exact eq_true rfl
       have HN:=yH (show Lx.skip false (l.drop j)=SK by
        have:=HJ.out;rw[hd2,h10,Lx.skip,if_pos rfl] at this;rw[hd2,h10,Lx.skip,if_neg (by decide),if_pos (by decide)];exact this)
       clear hd2 hgc2 hr2 h10;go_wp2;go_roundw
       case rel=>exact⟨j,hj,rfl,HN,by first|rfl|trivial⟩
       case measure=>simp[intOf];omega
      ·have h10':=u8_neb (n:=10) h10;have p1:((c2.toNat:Int) != 10)=true:=(by rw[bne_iff_ne];omega);have p2:((c2.toNat:Int)==10)=false:=yB;have p3:((c2.toNat:Int)=10)=False:=yF
       have HN:=yH (show Lx.skip true (l.drop (j+1))=SK by
        have:=HJ.out;rw[hd2,Lx.skip,if_neg h10] at this;rw[←hr2];exact this)
       clear hd2 hgc2 hr2 h10 h10';go_wp2;go_roundw
       case rel=>exact⟨j+1,by omega,by omega,by first|rfl|go_num,HN,by first|rfl|trivial⟩
       case measure=>simp[intOf];omega
     ·obtain rfl:j=L:=by omega
      have HN:=yH (show Lx.skip false (l.drop j)=SK by
       have:=HJ.out;rw[List.drop_of_length_le (by rw[HL.out];exact yR)] at this ⊢;exact this)
      go_wp2;go_roundw
      case rel=>exact⟨j,hj,rfl,HN,by first|rfl|trivial⟩
      case measure=>simp[intOf];omega
   ·have h35':=u8_neb (n:=35) h35;have q1:((c.toNat:Int)==35)=false:=yB;have q2:((c.toNat:Int)=35)=False:=yF;have hsk:=HR.out;rw[HD.out,Lx.skip,if_neg h35] at hsk;by_cases hbl:Lx.blank c=true
    ·rw[if_pos hbl] at hsk;have HN:=yH (show Lx.skip false (l.drop (k+1))=SK by rw[←HRR.out];exact hsk)
     have hcs:c.toNat=32∨c.toNat=9∨c.toNat=10∨c.toNat=13:=by
      unfold Lx.blank at hbl;simp only[Bool.or_eq_true,beq_iff_eq] at hbl;rcases hbl with ((rfl|rfl)|rfl)|rfl
      ·exact .inl rfl
      ·exact .inr (.inl rfl)
      ·exact .inr (.inr (.inl rfl))
      ·exact .inr (.inr (.inr rfl))
     clear hsk h35 h35' hbl
     have b32:(((c.toNat:Int)==32) || ((c.toNat:Int)==9) || ((c.toNat:Int)==10) || ((c.toNat:Int)==13))=true:=by
      simp only[Bool.or_eq_true,beq_iff_eq];omega
     generalize hcc:(c.toNat:Int)=cc at *;rcases hcs with h|h|h|h
     all_goals (
      rw[h] at hcc;subst hcc;go_wp2;go_roundw
      case rel=>exact⟨k+1,by omega,by first|rfl|go_num,HN,by first|rfl|trivial⟩
      case measure=>simp[intOf];omega)
    ·rw[if_neg hbl] at hsk
     have hcs:c.toNat≠32∧c.toNat≠9∧c.toNat≠10∧c.toNat≠13:=by
      unfold Lx.blank at hbl;simp only[Bool.or_eq_true,beq_iff_eq,not_or] at hbl;exact⟨u8_neb (n:=32) hbl.1.1.1,u8_neb (n:=9) hbl.1.1.2,u8_neb (n:=10) hbl.1.2,u8_neb (n:=13) hbl.2⟩
     have HV:=yH (show L-SK.length=k by rw[←hsk,List.length_cons];omega);obtain⟨x32,x9,x10,x13⟩:=hcs;have e32:((c.toNat:Int)==32)=false:=yB;have e9:((c.toNat:Int)==9)=false:=yB;have e10:((c.toNat:Int)==10)=false:=yB;have e13:((c.toNat:Int)==13)=false:=yB
     have g32:((c.toNat:Int)=32)=False:=yF;have g9:((c.toNat:Int)=9)=False:=yF;have g10:((c.toNat:Int)=10)=False:=yF;have g13:((c.toNat:Int)=13)=False:=yF;clear hsk h35 h35' hbl x32 x9 x10 x13;go_wp2;go_ret;exact⟨(congrArg (fun n:Nat=>Ending.returned (.int .i64 (n:Int))) HV.out).symm,by first|rfl|trivial⟩
  ·obtain rfl:k=L:=by omega
   have HV:=yH (show k-SK.length=k by
    have:=HR.out;rw[List.drop_of_length_le (by rw[HL.out];exact yR)] at this;rw[←this];rfl)
   go_wp2;go_ret;exact⟨(congrArg (fun n:Nat=>Ending.returned (.int .i64 (n:Int))) HV.out).symm,by first|rfl|trivial⟩
def turnB (c:UInt8):UInt8:=(Lx.turned c).getD 0
theorem turnB_some {c:UInt8}:Lx.turned c=if turnB c=0 then none else some (turnB c):=by
 unfold turnB Lx.turned;by_cases h1:c=92
 ·subst h1;rfl
 rw[if_neg h1];by_cases h2:c=34
 ·subst h2;rfl
 rw[if_neg h2];by_cases h3:c=110
 ·subst h3;rfl
 rw[if_neg h3];by_cases h4:c=114
 ·subst h4;rfl
 rw[if_neg h4];by_cases h5:c=116
 ·subst h5;rfl
 rw[if_neg h5];rfl
theorem rturned_any (c:UInt8) (w:World):Calls Tryz.prog 100 #[.int .u8 (c.toNat:Int)] w fun e w'=>e = .returned (.int .u8 ((turnB c).toNat:Int))∧w=w':=by
 by_cases h1:c=92
 ·subst h1;go_enter Tryz.func100,Tryz.ntmps100;go_wp2;go_ret;exact⟨rfl,rfl⟩
 by_cases h2:c=34
 ·subst h2;go_enter Tryz.func100,Tryz.ntmps100;go_wp2;go_ret;exact⟨rfl,rfl⟩
 by_cases h3:c=110
 ·subst h3;go_enter Tryz.func100,Tryz.ntmps100;go_wp2;go_ret;exact⟨rfl,rfl⟩
 by_cases h4:c=114
 ·subst h4;go_enter Tryz.func100,Tryz.ntmps100;go_wp2;go_ret;exact⟨rfl,rfl⟩
 by_cases h5:c=116
 ·subst h5;go_enter Tryz.func100,Tryz.ntmps100;go_wp2;go_ret;exact⟨rfl,rfl⟩
 have n1:=u8_neb (n:=92) h1;have n2:=u8_neb (n:=34) h2;have n3:=u8_neb (n:=110) h3;have n4:=u8_neb (n:=114) h4;have n5:=u8_neb (n:=116) h5;have hv:turnB c=0:=(by unfold turnB Lx.turned;rw[if_neg h1,if_neg h2,if_neg h3,if_neg h4,if_neg h5];rfl);rw[hv];have e1:((c.toNat:Int)==92)=false:=yB;have e2:((c.toNat:Int)==34)=false:=yB
 have e3:((c.toNat:Int)==110)=false:=yB;have e4:((c.toNat:Int)==114)=false:=yB;have e5:((c.toNat:Int)==116)=false:=yB;have g1:((c.toNat:Int)=92)=False:=yF;have g2:((c.toNat:Int)=34)=False:=yF;have g3:((c.toNat:Int)=110)=False:=yF;have g4:((c.toNat:Int)=114)=False:=yF
 have g5:((c.toNat:Int)=116)=False:=yF;clear h1 h2 h3 h4 h5 n1 n2 n3 n4 n5 hv;go_enter Tryz.func100,Tryz.ntmps100;go_wp2;go_ret;exact⟨rfl,rfl⟩
structure RT (w wr:World) (l q:List UInt8) (k:Nat) (v:Value) (xs:List UInt8):Prop where
 br:BR w.heap.size w.heap.size w wr v xs
 eq:Lx.txt q=(Lx.txt (l.drop k)).map fun p=>(xs++p.1,p.2)
 few:xs.length≤k
def rtV (l q:List UInt8):Value:=match Lx.txt q with
 | none=>.tuple #[.string ⟨#[]⟩,.int .i64 0,.int .i64 11]
 | some (t,r)=>if 100<t.length then .tuple #[.string ⟨#[]⟩,.int .i64 0,.int .i64 11] else .tuple #[.string ⟨t.toArray⟩,.int .i64 ((l.length-r.length:Nat):Int),.int .i64 0]
theorem rtext_any (l:List UInt8) (hl:l.length≤1048576) (k0:Nat) (hk0:k0<l.length) (w:World) :
  Calls Tryz.prog 74 #[.string ⟨l.toArray⟩,.int .i64 (k0:Int)] w fun e w'=>e = .returned (rtV l (l.drop (k0+1)))∧Below w.heap.size w w':=by
 have hz:(⟨l.toArray⟩:ByteArray).size=l.length:=rfl;obtain⟨L,hL⟩:∃ L,l.length=L:=⟨_,rfl⟩;obtain⟨q,hq⟩:∃ q,l.drop (k0+1)=q:=⟨_,rfl⟩;have HL:=yH hL
 have HST:=yH (fun wx (h:wx=w.alloc (.cells #[] 5))=>(⟨by rw[h];exact⟨yA,World.ownsRow_made (base:=w.heap.size) w #[] 0 yR (Nat.zero_le _) rfl,by simp,yR⟩,by rw[hq];cases Lx.txt q <;> simp,Nat.zero_le _⟩:RT w wx l q (k0+1) (.slice (some ⟨w.heap.size,0,none⟩) 0 0) []))
 have TU:=yH (fun c wx=>rturned_any c wx);rw[hL] at hl hz hk0;rw[hq];clear hL hq;go_enter Tryz.func74,Tryz.ntmps74;go_wp2;go_loopw [7,8,9] (fun s7 s8 s9 wr=>∃ (k:Nat) (xs:List UInt8),k≤L∧s8 = .int .i64 k∧Hid (RT w wr l q k s7 xs)) (fun s7 s8 s9 _=>L+1-(intOf s8).toNat)
 case atStart=>exact⟨k0+1,[],by omega,by first|rfl|go_num,yH (HST.out _ rfl)⟩
 case round =>
  obtain⟨k,xs,hk,rfl,HR⟩:=hrel;clear HST;obtain⟨so,sc,rfl⟩:=own_form HR.out.br.own;obtain⟨M,hM⟩:∃ M,xs.length=M:=⟨_,rfl⟩;have hown:=HR.out.br.own;have hcv:=bytes_string (Rd.of_own hown);unfold sv at hcv;have hMk:=HR.out.few;have HM:=yH hM;rw[hM] at hown hcv hMk ⊢;by_cases hlt:k<L
  ·obtain⟨c,r,hd,hgc,hr,hrl⟩:=Lx.drop_cons (l:=l) (k:=k) (by rw[HL.out];exact hlt);rw[HL.out] at hrl;have hx:∀ h,(⟨l.toArray⟩:ByteArray)[k]'h=c:=fun h=>by rw[byte_at];exact hgc
   have heq:=HR.out.eq;rw[hd] at heq;have HRR:=yH hr;clear hgc hd hr;by_cases h34:c=34
   ·have q1:((c.toNat:Int)==34)=true:=(by subst h34;rfl);have q2:((c.toNat:Int)=34)=True:=(by subst h34;exact eq_true rfl);have hend:Lx.txt q=some (xs,r):=by rw[heq,h34];unfold Lx.txt;simp
    have hv:rtV l q=if 100<M then .tuple #[.string ⟨#[]⟩,.int .i64 0,.int .i64 11] else .tuple #[.string ⟨xs.toArray⟩,.int .i64 ((k+1:Nat):Int),.int .i64 0]:=by
     unfold rtV;rw[hend];dsimp only;rw[HM.out,HL.out,show L-r.length=k+1 by omega]
    have HB:=yH HR.out.br.below;have HV:=yH hv;clear heq h34 hend hv hown;by_cases hM1:100<M
    ·have b1:((100:Int)<(M:Int))=True:=yT;go_wp2;refine bodyPost_ret (v:=.tuple #[.string ⟨#[]⟩,.int .i64 0,.int .i64 11]) (by simp[results,Tryz.results74,go_sem]) rfl ⟨by rw[HV.out,if_pos hM1],HB.out⟩
    ·have b1:((100:Int)<(M:Int))=False:=yF;go_wp2;refine bodyPost_ret (v:=.tuple #[.string ⟨xs.toArray⟩,.int .i64 ((k+1:Nat):Int),.int .i64 0]) (by simp[results,Tryz.results74,go_sem]) rfl ⟨by rw[HV.out,if_neg hM1],HB.out⟩
   ·have h34':=u8_neb (n:=34) h34;have q1:((c.toNat:Int)==34)=false:=yB;have q2:((c.toNat:Int)=34)=False:=yF;by_cases hbad:c.toNat<32∨126<c.toNat
    ·have hnone:Lx.txt q=none:=(by rw[heq];unfold Lx.txt;rw[if_neg h34,if_pos hbad];rfl);rcases Nat.lt_or_ge c.toNat 32 with h32|h32
     ·have b1:((c.toNat:Int)<32)=True:=yT;clear hbad h34 h34';have HB:=yH HR.out.br.below;have HV:=yH (show rtV l q = .tuple #[.string ⟨#[]⟩,.int .i64 0,.int .i64 11] by unfold rtV;rw[hnone]);clear heq hown hcv hnone;go_wp2_with (go_at_call 100;refine(TU.out _ _).mono ?_;rintro e w' ⟨rfl,rfl⟩)
      refine bodyPost_ret (v:=.tuple #[.string ⟨#[]⟩,.int .i64 0,.int .i64 11]) (by simp[results,Tryz.results74,go_sem]) rfl ⟨by rw[HV.out],HB.out⟩
     ·have b1:((c.toNat:Int)<32)=False:=yF;have b2:((126:Int)<(c.toNat:Int))=True:=yT;clear hbad h34 h34';have HB:=yH HR.out.br.below;have HV:=yH (show rtV l q = .tuple #[.string ⟨#[]⟩,.int .i64 0,.int .i64 11] by unfold rtV;rw[hnone]);clear heq hown hcv hnone;go_wp2_with (go_at_call 100;refine(TU.out _ _).mono ?_;rintro e w' ⟨rfl,rfl⟩)
      refine bodyPost_ret (v:=.tuple #[.string ⟨#[]⟩,.int .i64 0,.int .i64 11]) (by simp[results,Tryz.results74,go_sem]) rfl ⟨by rw[HV.out],HB.out⟩
    ·have b1:((c.toNat:Int)<32)=False:=yF;have b2:((126:Int)<(c.toNat:Int))=False:=yF
     have htxt:Lx.txt (c :: r)=if c=92 then (match r with
       | []=>none
       | e :: l=>match Lx.turned e with
        | none=>none
        | some t=>(Lx.txt l).map fun p=>(t :: p.1,p.2)) else (Lx.txt r).map fun p=>(c :: p.1,p.2):=by
      conv=>lhs;unfold Lx.txt
      rw[if_neg h34,if_neg hbad];cases r <;> rfl
     by_cases h92:c=92
     ·have e1:((c.toNat:Int)==92)=true:=(by subst h92;rfl);have e2:((c.toNat:Int)=92)=True:=(by subst h92;exact eq_true rfl);rw[htxt,if_pos h92] at heq;by_cases hlk:k+1<L
      ·obtain⟨c2,r2,hd2,hgc2,hr2,hrl2⟩:=Lx.drop_cons (l:=l) (k:=k+1) (by rw[HL.out];exact hlk);have hx2:∀ h,(⟨l.toArray⟩:ByteArray)[k+1]'h=c2:=fun h=>by rw[byte_at];exact hgc2
       rw[HRR.out,hd2] at heq;dsimp only at heq;rw[turnB_some] at heq;by_cases ht0:turnB c2=0
       ·rw[if_pos ht0] at heq;have hnone:Lx.txt q=none:=heq;have z1:(((turnB c2).toNat:Int)==0)=true:=(by rw[ht0];rfl);have z2:(((turnB c2).toNat:Int)=0)=True:=(by rw[ht0];exact eq_true rfl);have TU:=yH (fun wx=>TU.out c2 wx);generalize turnB c2=TB at *;clear hbad h34 h34' h92 htxt ht0 hd2 hgc2 hr2;have HB:=yH HR.out.br.below;have HV:=yH (show rtV l q = .tuple #[.string ⟨#[]⟩,.int .i64 0,.int .i64 11] by unfold rtV;rw[hnone])
        clear heq hown hcv hnone;go_wp2_with (go_at_call 100;refine(TU.out _).mono ?_;rintro e w' ⟨rfl,rfl⟩)
        refine bodyPost_ret (v:=.tuple #[.string ⟨#[]⟩,.int .i64 0,.int .i64 11]) (by simp[results,Tryz.results74,go_sem]) rfl ⟨by rw[HV.out],HB.out⟩
       ·rw[if_neg ht0] at heq;have hz0:=u8_neb (n:=0) ht0;have z1:(((turnB c2).toNat:Int)==0)=false:=yB;have z2:(((turnB c2).toNat:Int)=0)=False:=yF
        have HEQ:=yH (show Lx.txt q=(Lx.txt (l.drop (k+2))).map fun p=>(xs++[turnB c2]++p.1,p.2) by
         rw[heq,hr2];cases Lx.txt (l.drop (k+1+1)) <;> simp)
        have TU:=yH (fun wx=>TU.out c2 wx);generalize turnB c2=TB at *;have hk2:k+2≤L:=(by omega);clear hbad h34 h34' h92 htxt ht0 hd2 hgc2 hr2 hz0;have hrd:=fun wx=>Rd.byte wx TB 5;have hB:=HR.out.br.sz;have hxl:M+1≤16777216:=(by omega);have hbr:=HR.out.br;rw[HM.out] at hbr;have HBR:=yH hbr;clear hbr;clear heq hcv
        go_wp2_with (first
         | (go_at_call 100;refine(TU.out _).mono ?_;rintro e w' ⟨rfl,rfl⟩)
         | (at_builtin;refine append_u8s rfl (.tmp 51) (.tmp 53) rfl rfl (hown.alloc _) ([TB].map bv) (hrd _) (bv_cell _) ?ca ?cb ?_))
        case ca=>simp;omega
        case cb=>simp;omega
        intro v' w2 hown2 hg2;have HN:Hid (RT w w2 l q (k+2) v' (xs++[TB])):=yH ⟨HBR.out.push (by rw[HM.out];exact hown2) hg2,HEQ.out,by rw[List.length_append,HM.out];simp;omega⟩;clear hown2 hg2 hown hrd HR HBR;go_wp2;go_roundw
        case rel=>exact⟨k+2,xs++[TB],by omega,by first|rfl|go_num,HN⟩
        case measure=>simp[intOf];omega
      ·obtain rfl:k+1=L:=(by omega);have hr0:r=[]:=(by rw[HRR.out];exact List.drop_of_length_le (by rw[HL.out];exact yR));rw[hr0] at heq;have hnone:Lx.txt q=none:=heq;clear hbad h34 h34' h92 htxt hr0 hlk;have HB:=yH HR.out.br.below;have HV:=yH (show rtV l q = .tuple #[.string ⟨#[]⟩,.int .i64 0,.int .i64 11] by unfold rtV;rw[hnone]);clear heq hown hcv hnone
       go_wp2_with (go_at_call 100;refine(TU.out _ _).mono ?_;rintro e w' ⟨rfl,rfl⟩)
       refine bodyPost_ret (v:=.tuple #[.string ⟨#[]⟩,.int .i64 0,.int .i64 11]) (by simp[results,Tryz.results74,go_sem]) rfl ⟨by rw[HV.out],HB.out⟩
     ·have h92':=u8_neb (n:=92) h92;have e1:((c.toNat:Int)==92)=false:=yB;have e2:((c.toNat:Int)=92)=False:=yF;rw[htxt,if_neg h92] at heq
      have HEQ:=yH (show Lx.txt q=(Lx.txt (l.drop (k+1))).map fun p=>(xs++[c]++p.1,p.2) by
       rw[heq,HRR.out];cases Lx.txt (l.drop (k+1)) <;> simp)
      have hk2:k+1≤L:=(by omega);clear hbad h34 h34' h92 htxt h92';have hrd:=fun wx=>Rd.byte wx c 5;have hB:=HR.out.br.sz;have hxl:M+1≤16777216:=(by omega);have hbr:=HR.out.br;rw[HM.out] at hbr;have HBR:=yH hbr;clear hbr;clear heq hcv
      go_wp2_with (first
       | (go_at_call 100;refine(TU.out _ _).mono ?_;rintro e w' ⟨rfl,rfl⟩)
       | (at_builtin;refine append_u8s rfl (.tmp 51) (.tmp 53) rfl rfl (hown.alloc _) ([c].map bv) (hrd _) (bv_cell _) ?ca ?cb ?_))
      case ca=>simp;omega
      case cb=>simp;omega
      intro v' w2 hown2 hg2;have HN:Hid (RT w w2 l q (k+1) v' (xs++[c])):=yH ⟨HBR.out.push (by rw[HM.out];exact hown2) hg2,HEQ.out,by rw[List.length_append,HM.out];simp;omega⟩;clear hown2 hg2 hown hrd HR HBR;go_wp2;go_roundw
      case rel=>exact⟨k+1,xs++[c],by omega,by first|rfl|go_num,HN⟩
      case measure=>simp[intOf];omega
  ·obtain rfl:k=L:=(by omega);have heq:=HR.out.eq;rw[List.drop_of_length_le (by rw[HL.out];exact yR)] at heq;have hnone:Lx.txt q=none:=heq;have HB:=yH HR.out.br.below;have HV:=yH (show rtV l q = .tuple #[.string ⟨#[]⟩,.int .i64 0,.int .i64 11] by unfold rtV;rw[hnone]);clear heq hown hcv hnone;go_wp2_with (go_at_call 100;refine(TU.out _ _).mono ?_;rintro e w' ⟨rfl,rfl⟩)
   refine bodyPost_ret (v:=.tuple #[.string ⟨#[]⟩,.int .i64 0,.int .i64 11]) (by simp[results,Tryz.results74,go_sem]) rfl ⟨by rw[HV.out],HB.out⟩
def RN (r:Except Nat (Nat × List UInt8 × List UInt8)) (L k:Nat) (e:Ending):Prop:=match r with
 | .error x=>∃ (a b:Nat) (t:List UInt8),e = .returned (.tuple #[tkv a t b,.int .i64 0,.int .i64 (x:Int)])
 | .ok (kd,t,rest)=>e = .returned (.tuple #[tkv kd t k,.int .i64 ((L-rest.length:Nat):Int),.int .i64 0])
theorem while_step {p:UInt8→Bool} {l:List UInt8} {k j:Nat} {d:UInt8} {r:List UInt8} (hkj:k≤j) (h:(l.drop k).takeWhile p=(l.drop k).take (j-k)++(l.drop j).takeWhile p) (hd:l.drop j=d :: r) (hr:r=l.drop (j+1)) (hp:p d=true) :
  (l.drop k).takeWhile p=(l.drop k).take (j+1-k)++(l.drop (j+1)).takeWhile p:=by
 rw[h,hd,List.takeWhile_cons_of_pos hp,hr]
 have:(l.drop k).take (j+1-k)=(l.drop k).take (j-k)++[d]:=by
  have e:(l.drop k).drop (j-k)=d :: r:=(by rw[List.drop_drop,show k+(j-k)=j by omega];exact hd);have:=take_snoc e;rw[show j-k+1=j+1-k by omega] at this;exact this
 rw[this];simp
theorem while_end {p:UInt8→Bool} {l:List UInt8} {k j:Nat} (hkj:k≤j) (hj:j≤l.length) (h:(l.drop k).takeWhile p=(l.drop k).take (j-k)++(l.drop j).takeWhile p) (he:(l.drop j).takeWhile p=[]) :
  (l.drop k).takeWhile p=(l.drop k).take (j-k)∧(l.drop k).dropWhile p=l.drop j∧((l.drop k).takeWhile p).length=j-k:=by
 rw[he,List.append_nil] at h;have hl:((l.drop k).takeWhile p).length=j-k:=(by rw[h,List.length_take,List.length_drop];omega);refine⟨h,?_,hl⟩;have e:=List.takeWhile_append_dropWhile (p:=p) (l:=l.drop k);have e2:=List.take_append_drop (j-k) (l.drop k);rw[←h] at e2;have:=e.trans e2.symm;have:=List.append_cancel_left this;rw[this,List.drop_drop,show k+(j-k)=j by omega]
theorem rnext_any (l:List UInt8) (hl:l.length≤1048576) (k:Nat) (c:UInt8) (r:List UInt8) (hd:l.drop k=c :: r) (w:World) :
  Calls Tryz.prog 44 #[.string ⟨l.toArray⟩,.int .i64 (k:Int)] w fun e w'=>RN (Lx.next c r) l.length k e∧Below w.heap.size w w':=by
 have hz:(⟨l.toArray⟩:ByteArray).size=l.length:=rfl
 have hk:k<l.length:=by
  have:=congrArg List.length hd;rw[List.length_drop,List.length_cons] at this;omega
 obtain⟨c',r',hd',hgc,hr,hrl⟩:=Lx.drop_cons (l:=l) (k:=k) hk;rw[hd] at hd';obtain⟨rfl,rfl⟩:=List.cons.inj hd';have hx:∀ h,(⟨l.toArray⟩:ByteArray)[k]'h=c:=fun h=>by rw[byte_at];exact hgc
 have TX:=rtext_any l hl k hk;rw[←hr] at TX;obtain⟨L,hL⟩:∃ L,l.length=L:=⟨_,rfl⟩;have HL:=yH hL;have HD:=yH hd;rw[hL] at hl hz hk hrl ⊢;obtain⟨T,hT⟩:∃ T,w.alloc (.cells #[.int .i64 0,.string ⟨#[]⟩,.int .i64 0] 65)=T:=⟨_,rfl⟩;have hTk:Tk3 T w.heap.size 0 [] 0:=(by rw[←hT];exact Tk3.new w 0 [] 0);have hbT:Below w.heap.size w T:=(by rw[←hT];exact yA);have HTK:=yH hTk;have HBTT:=yH hbT
 have hTs:=hbT.size;have hTlt:=hTk.lt;clear hgc hr hd' hL hd;by_cases h34:c=34
 ·subst h34;have hn:Lx.next 34 r=match Lx.txt r with|none=>.error 11|some (t,q)=>if 100<t.length then .error 11 else .ok (3,t,q):=by unfold Lx.next;rw[if_pos rfl];cases Lx.txt r <;> rfl
  unfold rtV at TX;rw[HL.out] at TX;have HN:=yH hn;cases htx:Lx.txt r with
  | none =>
   rw[htx] at TX;have HV:=yH (show Lx.next 34 r = .error 11 by rw[HN.out,htx]);clear hn htx hTk hbT;go_enter Tryz.func44,Tryz.ntmps44;go_wp2_with fail
   refine(TX _).mono ?_;rintro e w2 ⟨rfl,hb2⟩;have HT3:=yH (HTK.out.below (hb2.mono yR));have HBT:=yH (HBTT.out.trans (hb2.mono hTs));have d0:=HT3.out.c0;have d1:=HT3.out.c1;have d2:=HT3.out.c2;have df:=HT3.out.fr;clear hb2 TX;have HZ:=yH (HT3.out.set 3 [] k);have HB:=yH (below_set3t HBT.out yR (.int .i64 ((3:Nat):Int)) (.string ⟨([]:List UInt8).toArray⟩) (.int .i64 ((k:Nat):Int)));go_wp2
   refine bodyPost_ret (v:=.tuple #[.agg #[.int .i64 ((3:Nat):Int),.string ⟨([]:List UInt8).toArray⟩,.int .i64 ((k:Nat):Int)],.int .i64 0,.int .i64 11]) (by have d0:=HZ.out.c0;have d1:=HZ.out.c1;have d2:=HZ.out.c2;simp at d0 d1 d2;simp[results,Tryz.results44,go_sem,d0,d1,d2]) rfl ?_;exact⟨by rw[HV.out];exact⟨3,k,[],rfl⟩,HB.out⟩
  | some x =>
   obtain⟨t,q⟩:=x;rw[htx] at TX;dsimp only at TX;by_cases h100:100<t.length
   ·rw[if_pos h100] at TX;have HV:=yH (show Lx.next 34 r = .error 11 by rw[HN.out,htx];exact if_pos h100);clear hn htx hTk hbT h100;go_enter Tryz.func44,Tryz.ntmps44;go_wp2_with fail
    refine(TX _).mono ?_;rintro e w2 ⟨rfl,hb2⟩;have HT3:=yH (HTK.out.below (hb2.mono yR));have HBT:=yH (HBTT.out.trans (hb2.mono hTs));have d0:=HT3.out.c0;have d1:=HT3.out.c1;have d2:=HT3.out.c2;have df:=HT3.out.fr;clear hb2 TX;have HZ:=yH (HT3.out.set 3 [] k);have HB:=yH (below_set3t HBT.out yR (.int .i64 ((3:Nat):Int)) (.string ⟨([]:List UInt8).toArray⟩) (.int .i64 ((k:Nat):Int)));go_wp2
    refine bodyPost_ret (v:=.tuple #[.agg #[.int .i64 ((3:Nat):Int),.string ⟨([]:List UInt8).toArray⟩,.int .i64 ((k:Nat):Int)],.int .i64 0,.int .i64 11]) (by have d0:=HZ.out.c0;have d1:=HZ.out.c1;have d2:=HZ.out.c2;simp at d0 d1 d2;simp[results,Tryz.results44,go_sem,d0,d1,d2]) rfl ?_;exact⟨by rw[HV.out];exact⟨3,k,[],rfl⟩,HB.out⟩
   ·rw[if_neg h100] at TX;have HV:=yH (show Lx.next 34 r = .ok (3,t,q) by rw[HN.out,htx];exact if_neg h100);clear hn htx hTk hbT h100;obtain⟨NE,hNE⟩:∃ NE,L-q.length=NE:=⟨_,rfl⟩;rw[hNE] at TX;have HNE:=yH hNE;clear hNE;go_enter Tryz.func44,Tryz.ntmps44;go_wp2_with fail
    refine(TX _).mono ?_;rintro e w2 ⟨rfl,hb2⟩;have HT3:=yH (HTK.out.below (hb2.mono yR));have HBT:=yH (HBTT.out.trans (hb2.mono hTs));have d0:=HT3.out.c0;have d1:=HT3.out.c1;have d2:=HT3.out.c2;have df:=HT3.out.fr;clear hb2 TX;have HZ:=yH (HT3.out.set 3 t k);have HB:=yH (below_set3t HBT.out yR (.int .i64 ((3:Nat):Int)) (.string ⟨(t:List UInt8).toArray⟩) (.int .i64 ((k:Nat):Int)));go_wp2
    refine bodyPost_ret (v:=.tuple #[.agg #[.int .i64 ((3:Nat):Int),.string ⟨(t:List UInt8).toArray⟩,.int .i64 ((k:Nat):Int)],.int .i64 (NE:Int),.int .i64 0]) (by have d0:=HZ.out.c0;have d1:=HZ.out.c1;have d2:=HZ.out.c2;simp at d0 d1 d2;simp[results,Tryz.results44,go_sem,d0,d1,d2]) rfl ?_;exact⟨by rw[HV.out];show _=_;rw[HNE.out];rfl,HB.out⟩
 ·have h34':=u8_neb (n:=34) h34;have q1:((c.toNat:Int)==34)=false:=yB;have q2:((c.toNat:Int)=34)=False:=yF
  have hn:Lx.next c r=if Lx.small c=true then
    (if 12<((c :: r).takeWhile Lx.inName).length then .error 13 else .ok (1,(c :: r).takeWhile Lx.inName,(c :: r).dropWhile Lx.inName))
   else if Lx.digit c=true then
    (if 9<((c :: r).takeWhile Lx.digit).length then .error 12 else .ok (2,(c :: r).takeWhile Lx.digit,(c :: r).dropWhile Lx.digit))
   else if Lx.sign c=true then .ok (4,[c],r) else .error 10:=by unfold Lx.next;rw[if_neg h34]
  rw[←HD.out] at hn;have SM:=yH (fun d wx=>rsmall_any d wx);have DG:=yH (fun d wx=>rdigit_any d wx);have t0:=HTK.out.c0;have t1:=HTK.out.c1;have t2:=HTK.out.c2;have tf:=HTK.out.fr;clear h34 h34' TX hTk hbT;by_cases hs:Lx.small c=true
  ·rw[if_pos hs] at hn;have HN:=yH hn;have SMc:=yH (fun wx=>by have:=SM.out c wx;rw[hs] at this;exact this);clear hn hs;go_enter Tryz.func44,Tryz.ntmps44;go_wp2_with fail
   refine(SMc.out _).mono ?_;rintro e w2 ⟨rfl,rfl⟩;go_wp2;go_loopw [8] (fun s8 wr=>∃ j:Nat,k≤j∧j≤L∧s8 = .int .i64 j∧wr=T∧Hid ((l.drop k).takeWhile Lx.inName=(l.drop k).take (j-k)++(l.drop j).takeWhile Lx.inName)) (fun s8 _=>L-(intOf s8).toNat)
   case atStart=>exact⟨k,yR,by omega,rfl,rfl,yH (by rw[Nat.sub_self,List.take_zero,List.nil_append])⟩
   case round =>
    obtain⟨j,hkj,hj,rfl,rfl,HW⟩:=hrel;by_cases hlj:j<L
    ·obtain⟨d,r2,hd2,hgc2,hr2,hrl2⟩:=Lx.drop_cons (l:=l) (k:=j) (by rw[HL.out];exact hlj);have hx2:∀ h,(⟨l.toArray⟩:ByteArray)[j]'h=d:=fun h=>by rw[byte_at];exact hgc2
     by_cases hin:Lx.inName d=true
     ·have HNX:=yH (while_step hkj HW.out hd2 hr2 hin);have SMd:=yH (fun wx=>SM.out d wx);have DGd:=yH (fun wx=>DG.out d wx);unfold Lx.inName at hin;cases hsd:Lx.small d with
      | true =>
       rw[hsd] at SMd;clear hd2 hgc2 hr2 hin hsd;go_wp2_with (go_at_call 75;refine(SMd.out _).mono ?_;rintro e w' ⟨rfl,rfl⟩)
       go_roundw
       case rel=>exact⟨j+1,by omega,by omega,by first|rfl|go_num,by first|rfl|trivial,HNX⟩
       case measure=>simp[intOf];omega
      | false =>
       rw[hsd] at SMd;cases hdd:Lx.digit d with
       | true =>
        rw[hdd] at DGd;clear hd2 hgc2 hr2 hin hsd hdd;go_wp2_with (first|(go_at_call 75;refine(SMd.out _).mono ?_;rintro e w' ⟨rfl,rfl⟩)|(go_at_call 76;refine(DGd.out _).mono ?_;rintro e w' ⟨rfl,rfl⟩))
        go_roundw
        case rel=>exact⟨j+1,by omega,by omega,by first|rfl|go_num,by first|rfl|trivial,HNX⟩
        case measure=>simp[intOf];omega
       | false =>
        rw[hdd] at DGd;rw[hsd,hdd] at hin;have h95:d=95:=(by simpa using hin);have e1:((d.toNat:Int)==95)=true:=(by subst h95;rfl);have e2:((d.toNat:Int)=95)=True:=(by subst h95;exact eq_true rfl);clear hd2 hgc2 hr2 hin hsd hdd h95;go_wp2_with (first|(go_at_call 75;refine(SMd.out _).mono ?_;rintro e w' ⟨rfl,rfl⟩)|(go_at_call 76;refine(DGd.out _).mono ?_;rintro e w' ⟨rfl,rfl⟩))
        go_roundw
        case rel=>exact⟨j+1,by omega,by omega,by first|rfl|go_num,by first|rfl|trivial,HNX⟩
        case measure=>simp[intOf];omega
     ·have hin':Lx.inName d=false:=(by simpa using hin);have hW:=while_end hkj (by rw[HL.out];exact hj) HW.out (by rw[hd2,List.takeWhile_cons_of_neg hin]);obtain⟨w1,w2',w3'⟩:=hW;have hn:=HN.out;rw[w3',w1,w2'] at hn;have HT3:=HTK;have HBT:=HBTT
      have hparts:Lx.small d=false∧Lx.digit d=false ∧ ¬ d=95:=by
       unfold Lx.inName at hin';simp only[Bool.or_eq_false_iff,beq_eq_false_iff_ne] at hin';exact⟨hin'.1.1,hin'.1.2,hin'.2⟩
      have SMd:=yH (fun wx=>by have:=SM.out d wx;rw[hparts.1] at this;exact this);have DGd:=yH (fun wx=>by have:=DG.out d wx;rw[hparts.2.1] at this;exact this);have h95:=u8_neb (n:=95) hparts.2.2;have y1:((d.toNat:Int)==95)=false:=yB;have y2:((d.toNat:Int)=95)=False:=yF;clear hd2 hgc2 hr2 hin hin' hparts h95;obtain⟨X,hX⟩:∃ X,(l.drop k).take (j-k)=X:=⟨_,rfl⟩
      have hE:(⟨l.toArray⟩:ByteArray).extract k j=⟨X.toArray⟩:=(by rw[ba_extract,List.drop_take,hX]);rw[hX] at hn;have hjl:L-(l.drop j).length=j:=(by rw[List.length_drop,HL.out];omega);have HJL:=yH hjl;by_cases hbig:12<j-k
      ·rw[if_pos hbig] at hn;have HV:=yH hn;have b1:((12:Int)<(j:Int)-(k:Int))=True:=yT;clear hn hbig w1 w2' w3' hX hjl;have HZ:=yH (HT3.out.set 0 [] 0);have HB:=yH (below_set3t HBT.out yR (.int .i64 ((0:Nat):Int)) (.string ⟨([]:List UInt8).toArray⟩) (.int .i64 ((0:Nat):Int)))
       go_wp2_with (first|(go_at_call 75;refine(SMd.out _).mono ?_;rintro e w' ⟨rfl,rfl⟩)|(go_at_call 76;refine(DGd.out _).mono ?_;rintro e w' ⟨rfl,rfl⟩))
       refine bodyPost_ret (v:=.tuple #[.agg #[.int .i64 ((0:Nat):Int),.string ⟨([]:List UInt8).toArray⟩,.int .i64 ((0:Nat):Int)],.int .i64 0,.int .i64 13]) (by have d0:=HZ.out.c0;have d1:=HZ.out.c1;have d2:=HZ.out.c2;simp at d0 d1 d2;simp[results,Tryz.results44,go_sem,d0,d1,d2]) rfl ?_;exact⟨by rw[HV.out];exact⟨0,0,[],rfl⟩,HB.out⟩
      ·rw[if_neg hbig] at hn;have HV:=yH hn;have b1:((12:Int)<(j:Int)-(k:Int))=False:=yF;have b2:(k:Int)≤(j:Int):=(by omega);have b3:(j:Int)≤(L:Int):=(by omega);clear hn hbig w1 w2' w3' hX hjl;have HZ:=yH (HT3.out.set 1 X k);have HB:=yH (below_set3t HBT.out yR (.int .i64 ((1:Nat):Int)) (.string ⟨(X:List UInt8).toArray⟩) (.int .i64 ((k:Nat):Int)))
       go_wp2_with (first|(go_at_call 75;refine(SMd.out _).mono ?_;rintro e w' ⟨rfl,rfl⟩)|(go_at_call 76;refine(DGd.out _).mono ?_;rintro e w' ⟨rfl,rfl⟩))
       refine bodyPost_ret (v:=.tuple #[.agg #[.int .i64 ((1:Nat):Int),.string ⟨(X:List UInt8).toArray⟩,.int .i64 ((k:Nat):Int)],.int .i64 (j:Int),.int .i64 0]) (by have d0:=HZ.out.c0;have d1:=HZ.out.c1;have d2:=HZ.out.c2;simp at d0 d1 d2;simp[results,Tryz.results44,go_sem,d0,d1,d2]) rfl ?_;exact⟨by rw[HV.out];show _=_;rw[HJL.out];rfl,HB.out⟩
    ·obtain rfl:j=L:=(by omega);have hW:=while_end hkj (by rw[HL.out];exact hj) HW.out (by rw[List.drop_of_length_le (by rw[HL.out];exact yR)];rfl);obtain⟨w1,w2',w3'⟩:=hW;have hn:=HN.out;rw[w3',w1,w2'] at hn;have HT3:=HTK;have HBT:=HBTT;obtain⟨X,hX⟩:∃ X,(l.drop k).take (j-k)=X:=⟨_,rfl⟩;have hE:(⟨l.toArray⟩:ByteArray).extract k j=⟨X.toArray⟩:=(by rw[ba_extract,List.drop_take,hX]);rw[hX] at hn
     have hjl:j-(l.drop j).length=j:=(by rw[List.length_drop,HL.out];omega);have HJL:=yH hjl;by_cases hbig:12<j-k
     ·rw[if_pos hbig] at hn;have HV:=yH hn;have b1:((12:Int)<(j:Int)-(k:Int))=True:=yT;clear hn hbig w1 w2' w3' hX hjl;have HZ:=yH (HT3.out.set 0 [] 0);have HB:=yH (below_set3t HBT.out yR (.int .i64 ((0:Nat):Int)) (.string ⟨([]:List UInt8).toArray⟩) (.int .i64 ((0:Nat):Int)));go_wp2
      refine bodyPost_ret (v:=.tuple #[.agg #[.int .i64 ((0:Nat):Int),.string ⟨([]:List UInt8).toArray⟩,.int .i64 ((0:Nat):Int)],.int .i64 0,.int .i64 13]) (by have d0:=HZ.out.c0;have d1:=HZ.out.c1;have d2:=HZ.out.c2;simp at d0 d1 d2;simp[results,Tryz.results44,go_sem,d0,d1,d2]) rfl ?_;exact⟨by rw[HV.out];exact⟨0,0,[],rfl⟩,HB.out⟩
     ·rw[if_neg hbig] at hn;have HV:=yH hn;have b1:((12:Int)<(j:Int)-(k:Int))=False:=yF;have b2:(k:Int)≤(j:Int):=(by omega);have b3:(j:Int)≤(j:Int):=(by omega);clear hn hbig w1 w2' w3' hX hjl;have HZ:=yH (HT3.out.set 1 X k);have HB:=yH (below_set3t HBT.out yR (.int .i64 ((1:Nat):Int)) (.string ⟨(X:List UInt8).toArray⟩) (.int .i64 ((k:Nat):Int)));go_wp2
      refine bodyPost_ret (v:=.tuple #[.agg #[.int .i64 ((1:Nat):Int),.string ⟨(X:List UInt8).toArray⟩,.int .i64 ((k:Nat):Int)],.int .i64 (j:Int),.int .i64 0]) (by have d0:=HZ.out.c0;have d1:=HZ.out.c1;have d2:=HZ.out.c2;simp at d0 d1 d2;simp[results,Tryz.results44,go_sem,d0,d1,d2]) rfl ?_;exact⟨by rw[HV.out];show _=_;rw[HJL.out];rfl,HB.out⟩
  ·have hs':Lx.small c=false:=(by simpa using hs);rw[if_neg hs] at hn;have SMc:=yH (fun wx=>by have:=SM.out c wx;rw[hs'] at this;exact this);by_cases hdg:Lx.digit c=true
   ·rw[if_pos hdg] at hn;have HN:=yH hn;have DGc:=yH (fun wx=>by have:=DG.out c wx;rw[hdg] at this;exact this);clear hn hs hs' hdg;go_enter Tryz.func44,Tryz.ntmps44;go_wp2_with fail
    refine(SMc.out _).mono ?_;rintro e w2 ⟨rfl,rfl⟩;go_wp2_with fail
    refine(DGc.out _).mono ?_;rintro e w2 ⟨rfl,rfl⟩;go_wp2;go_loopw [8] (fun s8 wr=>∃ j:Nat,k≤j∧j≤L∧s8 = .int .i64 j∧wr=T∧Hid ((l.drop k).takeWhile Lx.digit=(l.drop k).take (j-k)++(l.drop j).takeWhile Lx.digit)) (fun s8 _=>L-(intOf s8).toNat)
    case atStart=>exact⟨k,yR,by omega,rfl,rfl,yH (by rw[Nat.sub_self,List.take_zero,List.nil_append])⟩
    case round =>
     obtain⟨j,hkj,hj,rfl,rfl,HW⟩:=hrel;by_cases hlj:j<L
     ·obtain⟨d,r2,hd2,hgc2,hr2,hrl2⟩:=Lx.drop_cons (l:=l) (k:=j) (by rw[HL.out];exact hlj);have hx2:∀ h,(⟨l.toArray⟩:ByteArray)[j]'h=d:=fun h=>by rw[byte_at];exact hgc2
      by_cases hin:Lx.digit d=true
      ·have HNX:=yH (while_step hkj HW.out hd2 hr2 hin);have DGd:=yH (fun wx=>by have:=DG.out d wx;rw[hin] at this;exact this);clear hd2 hgc2 hr2 hin;go_wp2_with (go_at_call 76;refine(DGd.out _).mono ?_;rintro e w' ⟨rfl,rfl⟩)
       go_roundw
       case rel=>exact⟨j+1,by omega,by omega,by first|rfl|go_num,by first|rfl|trivial,HNX⟩
       case measure=>simp[intOf];omega
      ·have hin':Lx.digit d=false:=(by simpa using hin);have DGd:=yH (fun wx=>by have:=DG.out d wx;rw[hin'] at this;exact this);have hW:=while_end hkj (by rw[HL.out];exact hj) HW.out (by rw[hd2,List.takeWhile_cons_of_neg hin]);obtain⟨w1,w2',w3'⟩:=hW;have hn:=HN.out;rw[w3',w1,w2'] at hn;have HT3:=HTK;have HBT:=HBTT;clear hd2 hgc2 hr2 hin hin';obtain⟨X,hX⟩:∃ X,(l.drop k).take (j-k)=X:=⟨_,rfl⟩
       have hE:(⟨l.toArray⟩:ByteArray).extract k j=⟨X.toArray⟩:=(by rw[ba_extract,List.drop_take,hX]);rw[hX] at hn;have hjl:L-(l.drop j).length=j:=(by rw[List.length_drop,HL.out];omega);have HJL:=yH hjl;by_cases hbig:9<j-k
       ·rw[if_pos hbig] at hn;have HV:=yH hn;have b1:((9:Int)<(j:Int)-(k:Int))=True:=yT;clear hn hbig w1 w2' w3' hX hjl;have HZ:=yH (HT3.out.set 0 [] 0);have HB:=yH (below_set3t HBT.out yR (.int .i64 ((0:Nat):Int)) (.string ⟨([]:List UInt8).toArray⟩) (.int .i64 ((0:Nat):Int)));go_wp2_with (go_at_call 76;refine(DGd.out _).mono ?_;rintro e w' ⟨rfl,rfl⟩)
        refine bodyPost_ret (v:=.tuple #[.agg #[.int .i64 ((0:Nat):Int),.string ⟨([]:List UInt8).toArray⟩,.int .i64 ((0:Nat):Int)],.int .i64 0,.int .i64 12]) (by have d0:=HZ.out.c0;have d1:=HZ.out.c1;have d2:=HZ.out.c2;simp at d0 d1 d2;simp[results,Tryz.results44,go_sem,d0,d1,d2]) rfl ?_;exact⟨by rw[HV.out];exact⟨0,0,[],rfl⟩,HB.out⟩
       ·rw[if_neg hbig] at hn;have HV:=yH hn;have b1:((9:Int)<(j:Int)-(k:Int))=False:=yF;have b2:(k:Int)≤(j:Int):=(by omega);have b3:(j:Int)≤(L:Int):=(by omega);clear hn hbig w1 w2' w3' hX hjl;have HZ:=yH (HT3.out.set 2 X k);have HB:=yH (below_set3t HBT.out yR (.int .i64 ((2:Nat):Int)) (.string ⟨(X:List UInt8).toArray⟩) (.int .i64 ((k:Nat):Int)))
        go_wp2_with (go_at_call 76;refine(DGd.out _).mono ?_;rintro e w' ⟨rfl,rfl⟩)
        refine bodyPost_ret (v:=.tuple #[.agg #[.int .i64 ((2:Nat):Int),.string ⟨(X:List UInt8).toArray⟩,.int .i64 ((k:Nat):Int)],.int .i64 (j:Int),.int .i64 0]) (by have d0:=HZ.out.c0;have d1:=HZ.out.c1;have d2:=HZ.out.c2;simp at d0 d1 d2;simp[results,Tryz.results44,go_sem,d0,d1,d2]) rfl ?_;exact⟨by rw[HV.out];show _=_;rw[HJL.out];rfl,HB.out⟩
     ·obtain rfl:j=L:=(by omega);have hW:=while_end hkj (by rw[HL.out];exact hj) HW.out (by rw[List.drop_of_length_le (by rw[HL.out];exact yR)];rfl);obtain⟨w1,w2',w3'⟩:=hW;have hn:=HN.out;rw[w3',w1,w2'] at hn;have HT3:=HTK;have HBT:=HBTT;obtain⟨X,hX⟩:∃ X,(l.drop k).take (j-k)=X:=⟨_,rfl⟩;have hE:(⟨l.toArray⟩:ByteArray).extract k j=⟨X.toArray⟩:=(by rw[ba_extract,List.drop_take,hX]);rw[hX] at hn
      have hjl:j-(l.drop j).length=j:=(by rw[List.length_drop,HL.out];omega);have HJL:=yH hjl;by_cases hbig:9<j-k
      ·rw[if_pos hbig] at hn;have HV:=yH hn;have b1:((9:Int)<(j:Int)-(k:Int))=True:=yT;clear hn hbig w1 w2' w3' hX hjl;have HZ:=yH (HT3.out.set 0 [] 0);have HB:=yH (below_set3t HBT.out yR (.int .i64 ((0:Nat):Int)) (.string ⟨([]:List UInt8).toArray⟩) (.int .i64 ((0:Nat):Int)));go_wp2
       refine bodyPost_ret (v:=.tuple #[.agg #[.int .i64 ((0:Nat):Int),.string ⟨([]:List UInt8).toArray⟩,.int .i64 ((0:Nat):Int)],.int .i64 0,.int .i64 12]) (by have d0:=HZ.out.c0;have d1:=HZ.out.c1;have d2:=HZ.out.c2;simp at d0 d1 d2;simp[results,Tryz.results44,go_sem,d0,d1,d2]) rfl ?_;exact⟨by rw[HV.out];exact⟨0,0,[],rfl⟩,HB.out⟩
      ·rw[if_neg hbig] at hn;have HV:=yH hn;have b1:((9:Int)<(j:Int)-(k:Int))=False:=yF;have b2:(k:Int)≤(j:Int):=(by omega);have b3:(j:Int)≤(j:Int):=(by omega);clear hn hbig w1 w2' w3' hX hjl;have HZ:=yH (HT3.out.set 2 X k);have HB:=yH (below_set3t HBT.out yR (.int .i64 ((2:Nat):Int)) (.string ⟨(X:List UInt8).toArray⟩) (.int .i64 ((k:Nat):Int)));go_wp2
       refine bodyPost_ret (v:=.tuple #[.agg #[.int .i64 ((2:Nat):Int),.string ⟨(X:List UInt8).toArray⟩,.int .i64 ((k:Nat):Int)],.int .i64 (j:Int),.int .i64 0]) (by have d0:=HZ.out.c0;have d1:=HZ.out.c1;have d2:=HZ.out.c2;simp at d0 d1 d2;simp[results,Tryz.results44,go_sem,d0,d1,d2]) rfl ?_;exact⟨by rw[HV.out];show _=_;rw[HJL.out];rfl,HB.out⟩
   ·have hdg':Lx.digit c=false:=(by simpa using hdg);rw[if_neg hdg] at hn;have DGc:=yH (fun wx=>by have:=DG.out c wx;rw[hdg'] at this;exact this);clear hs hs' hdg hdg';have HT3:=HTK;have HBT:=HBTT;by_cases hsg:Lx.sign c=true
    ·rw[if_pos hsg] at hn;have HN:=yH hn
     have hcs:c.toNat=123∨c.toNat=125∨c.toNat=59∨c.toNat=61:=by
      unfold Lx.sign at hsg;simp only[Bool.or_eq_true,beq_iff_eq] at hsg;rcases hsg with ((rfl|rfl)|rfl)|rfl
      ·exact .inl rfl
      ·exact .inr (.inl rfl)
      ·exact .inr (.inr (.inl rfl))
      ·exact .inr (.inr (.inr rfl))
     have hE:(⟨l.toArray⟩:ByteArray).extract k (k+1)=⟨([c]:List UInt8).toArray⟩:=by
      rw[ba_extract,List.drop_take,show k+1-k=1 by omega,HD.out];rfl
     have hkL:(k:Int)+1≤(L:Int):=(by omega);have hnv:L-r.length=k+1:=(by omega);have HNV:=yH hnv;clear hn hsg hnv;generalize hcc:(c.toNat:Int)=cc at *;rcases hcs with h|h|h|h
     all_goals (
      rw[h] at hcc;subst hcc;go_enter Tryz.func44,Tryz.ntmps44;go_wp2_with fail
      refine(SMc.out _).mono ?_;rintro e w2 ⟨rfl,rfl⟩;go_wp2_with fail
      refine(DGc.out _).mono ?_;rintro e w2 ⟨rfl,rfl⟩;have HZ:=yH (HT3.out.set 4 [c] k);have HB:=yH (below_set3t HBT.out yR (.int .i64 ((4:Nat):Int)) (.string ⟨([c]:List UInt8).toArray⟩) (.int .i64 ((k:Nat):Int)));go_wp2
      refine bodyPost_ret (v:=.tuple #[.agg #[.int .i64 ((4:Nat):Int),.string ⟨([c]:List UInt8).toArray⟩,.int .i64 ((k:Nat):Int)],.int .i64 ((k+1:Nat):Int),.int .i64 0]) (by have d0:=HZ.out.c0;have d1:=HZ.out.c1;have d2:=HZ.out.c2;simp at d0 d1 d2;simp[results,Tryz.results44,go_sem,d0,d1,d2]) rfl ?_;exact⟨by rw[HN.out];show _=_;rw[HNV.out];rfl,HB.out⟩
      )
    ·rw[if_neg hsg] at hn;have HN:=yH hn
     have hcs:c.toNat≠123∧c.toNat≠125∧c.toNat≠59∧c.toNat≠61:=by
      unfold Lx.sign at hsg;simp only[Bool.or_eq_true,beq_iff_eq,not_or] at hsg;exact⟨u8_neb (n:=123) hsg.1.1.1,u8_neb (n:=125) hsg.1.1.2,u8_neb (n:=59) hsg.1.2,u8_neb (n:=61) hsg.2⟩
     obtain⟨x1,x2,x3,x4⟩:=hcs;have e1:((c.toNat:Int)==123)=false:=yB;have e2:((c.toNat:Int)==125)=false:=yB;have e3:((c.toNat:Int)==59)=false:=yB;have e4:((c.toNat:Int)==61)=false:=yB;have g1:((c.toNat:Int)=123)=False:=yF;have g2:((c.toNat:Int)=125)=False:=yF
     have g3:((c.toNat:Int)=59)=False:=yF;have g4:((c.toNat:Int)=61)=False:=yF;clear hn hsg x1 x2 x3 x4;go_enter Tryz.func44,Tryz.ntmps44;go_wp2_with fail
     refine(SMc.out _).mono ?_;rintro e w2 ⟨rfl,rfl⟩;go_wp2_with fail
     refine(DGc.out _).mono ?_;rintro e w2 ⟨rfl,rfl⟩;have HZ:=yH (HT3.out.set 0 [] 0);have HB:=yH (below_set3t HBT.out yR (.int .i64 ((0:Nat):Int)) (.string ⟨([]:List UInt8).toArray⟩) (.int .i64 ((0:Nat):Int)));go_wp2
     refine bodyPost_ret (v:=.tuple #[.agg #[.int .i64 ((0:Nat):Int),.string ⟨([]:List UInt8).toArray⟩,.int .i64 ((0:Nat):Int)],.int .i64 0,.int .i64 10]) (by have d0:=HZ.out.c0;have d1:=HZ.out.c1;have d2:=HZ.out.c2;simp at d0 d1 d2;simp[results,Tryz.results44,go_sem,d0,d1,d2]) rfl ?_;exact⟨by rw[HN.out];exact⟨0,0,[],rfl⟩,HB.out⟩
theorem rall_any (l:List UInt8) (hl:l.length≤1048576) (w:World) :
  Calls Tryz.prog 26 #[.string ⟨l.toArray⟩] w fun e w'=>AllP (Lx.all l) w e w':=by
 have hz:(⟨l.toArray⟩:ByteArray).size=l.length:=rfl;have PA:=yH (fun k (hk:k≤l.length) wx=>rpassed_any l (by omega) k hk wx);have NX:=yH (fun k c r (hd:l.drop k=c :: r) wx=>rnext_any l hl k c r hd wx);obtain⟨L,hL⟩:∃ L,l.length=L:=⟨_,rfl⟩;by_cases hbig:2000<L
 ·have hall:Lx.all l = .error (0,4):=(by unfold Lx.all;rw[hL,if_pos hbig]);have hb1:((2000:Int)<(L:Int))=True:=yT;rw[hL] at hz;rw[hall];show Calls _ _ _ _ fun e w'=>Below w.heap.size w w'∧e = .returned (.tuple #[.slice none 0 0,.int .i64 0,.int .i64 4])
  clear hall hbig hL hl;go_enter Tryz.func26,Tryz.ntmps26;go_wp2;refine bodyPost_ret (v:=.tuple #[.slice none 0 0,.int .i64 0,.int .i64 4]) (by simp[results,Tryz.results26,go_sem]) rfl ⟨Below.refl _ _,rfl⟩
 ·have hb1:((2000:Int)<(L:Int))=False:=yF;have hL2:L≤2000:=(by omega);have hall:Lx.all l=Lx.go l.length l.length 0 (Lx.skip false l):=(by unfold Lx.all;rw[if_neg (by rw[hL];exact hbig)]);have hsl:=Lx.skip_len false l;have hp:=PA.out 0 (by omega);rw[List.drop_zero] at hp;obtain⟨k0,hk0⟩:∃ k0,l.length-(Lx.skip false l).length=k0:=⟨_,rfl⟩;have hd0:l.drop k0=Lx.skip false l:=by rw[←hk0];exact Lx.suf_drop (Lx.skip_suf false l)
  have hst:∀ w',w'=w.alloc (.cells #[] 65)→AS w w' l k0 (.slice (some ⟨w.heap.size,0,none⟩) 0 0) []:=fun w' hb=>by
   subst hb;exact⟨yA,World.ownsRow_made (base:=w.heap.size) w #[] 0 yR (Nat.zero_le _) rfl,by omega,by simp,by rw[hd0];exact Lx.skip_skip false l,by rw[Lx.mapE_nil,hd0];rfl⟩
  rw[hk0] at hp;have HST:=yH (hst _ rfl);have HALL:=yH hall;have HL:=yH hL;have hk0L:k0≤L:=(by omega);rw[hL] at hz;clear hst hk0 hd0 hsl hall hL hl hbig;go_enter Tryz.func26,Tryz.ntmps26;go_wp2_with fail
  refine(hp _).mono ?_;rintro e w1 ⟨rfl,he1⟩;obtain rfl:=he1;clear hp;go_wp2;go_loopw [5,6,7,8,9,20] (fun s5 s6 s7 s8 s9 s20 wr=>∃ (k:Nat) (ts:List Lx.Tok),s6 = .int .i64 k∧Hid (AS w wr l k s5 ts)) (fun s5 s6 s7 s8 s9 s20 _=>L-(intOf s6).toNat)
  case atStart=>exact⟨k0,[],rfl,HST⟩
  case round =>
   obtain⟨k,ts,rfl,HR⟩:=hrel;clear HST;have hk2:=HR.out.hk;rw[HL.out] at hk2;have hown:=HR.out.row;obtain⟨so,sc,hform,hcells⟩:=hown.form;subst hform;clear hcells;obtain⟨M,hM⟩:∃ M,ts.length=M:=⟨_,rfl⟩;have hfew:=HR.out.few;have HM:=yH hM;by_cases hlt:k<L
   ·obtain⟨c,r,hd,hgc,hr,hrl⟩:=Lx.drop_cons (l:=l) (k:=k) (by rw[HL.out];exact hlt);rw[HL.out] at hrl;have hk3:(k:Int)<(L:Int):=(by omega);have hf:=NX.out k c r hd;have heq:=HR.out.eq;rw[hd,HL.out,Lx.go_step L _ c r (by omega),hM] at heq;rw[hM] at hfew hown ⊢;have HD:=yH hd;rw[HL.out] at hf;clear hgc hr hd;cases hn:Lx.next c r with
    | error e =>
     have he:=Lx.next_err0 hn;have HV:=yH (show Lx.all l = .error (k,e) by rw[HALL.out,HL.out,heq,hn];show Except.error (L-(r.length+1),e)=_;rw[show L-(r.length+1)=k by omega]);have HB:=yH HR.out.below;have hsz:=HB.out.size;rw[hn] at hf
     have hf2:∀ wx,Calls Tryz.prog 44 #[.string ⟨l.toArray⟩,.int .i64 (k:Int)] wx fun e' w'=>(∃ (a b:Nat) (t:List UInt8),e' = .returned (.tuple #[.agg #[.int .i64 (a:Int),.string ⟨t.toArray⟩,.int .i64 (b:Int)],.int .i64 0,.int .i64 (e:Int)]))∧Below wx.heap.size wx w':=fun wx=>hf wx;have he1:((e:Int) != 0)=true:=(by rw[bne_iff_ne];omega);have he2:((e:Int)==0)=false:=yB
     have he3:((e:Int)=0)=False:=yF;have HE0:=yH he;clear hf heq hn HR hown he;go_wp2_with fail
     refine(hf2 _).mono ?_;rintro e' w1 ⟨⟨a,b,t,rfl⟩,hb1⟩;have HB1:=yH (HB.out.trans (hb1.mono hsz));clear hb1 hf2;go_wp2;refine bodyPost_ret (v:=.tuple #[.slice none 0 0,.int .i64 (k:Int),.int .i64 (e:Int)]) (by simp[results,Tryz.results26,go_sem]) rfl ?_;rw[HV.out];exact⟨HB1.out.alloc HB1.out.size _,rfl⟩
    | ok x =>
     obtain⟨kd,t,rest⟩:=x;have hsuf:=Lx.next_suf hn;have hsm:=Lx.next_small hn;rw[hn] at hf heq;dsimp only at heq;simp only[List.length_cons] at hsm;obtain⟨n,hnn⟩:∃ n,L-rest.length=n:=⟨_,rfl⟩
     have hf2:∀ wx,Calls Tryz.prog 44 #[.string ⟨l.toArray⟩,.int .i64 (k:Int)] wx fun e' w'=>e' = .returned (.tuple #[.agg #[.int .i64 (kd:Int),.string ⟨t.toArray⟩,.int .i64 (k:Int)],.int .i64 (n:Int),.int .i64 0])∧Below wx.heap.size wx w':=fun wx=>by
      have:=hf wx;unfold RN at this;dsimp only at this;rw[hnn] at this;exact this
     by_cases h4:400≤M
     ·obtain rfl:M=400:=(by omega);rw[if_pos h4] at heq;have HV:=yH (show Lx.all l = .error (0,4) by rw[HALL.out,HL.out,heq];rfl);have HB:=yH HR.out.below;have hsz:=HB.out.size;clear hf heq hn HR hown hsuf h4;go_wp2_with fail
      refine(hf2 _).mono ?_;rintro e' w1 ⟨rfl,hb1⟩;have HB1:=yH (HB.out.trans (hb1.mono hsz));clear hb1 hf2;go_wp2;refine bodyPost_ret (v:=.tuple #[.slice none 0 0,.int .i64 0,.int .i64 4]) (by simp[results,Tryz.results26,go_sem]) rfl ?_;rw[HV.out];exact⟨HB1.out.alloc HB1.out.size _,rfl⟩
     ·rw[if_neg h4,show L-(r.length+1)=k by omega] at heq;have h41:((400:Int)≤(M:Int))=False:=yF;have hB:=HR.out.below.size;have hM4:M<400:=(by omega);have HB:=yH HR.out.below;have HEQ:=yH heq;have HSUF:=yH hsuf;have HNN:=yH hnn;have hnL:n≤L:=(by omega);have hnk:k+1≤n:=by omega
      have hrd:l.drop n=rest:=by
       have h1:=Lx.suf_drop hsuf;rw[List.length_cons] at h1;have h2:l.drop n=(l.drop k).drop (n-k):=(by rw[List.drop_drop,show k+(n-k)=n by omega]);rw[h2,HD.out,show n-k=r.length+1-rest.length by omega];exact h1
      have hp:=PA.out n (by rw[HL.out];exact hnL);rw[hrd,HL.out] at hp;obtain⟨m,hm⟩:∃ m,L-(Lx.skip false rest).length=m:=⟨_,rfl⟩;rw[hm] at hp;have hsl:=Lx.skip_len false rest
      have hrm:l.drop m=Lx.skip false rest:=by
       have h1:=Lx.suf_drop (Lx.skip_suf false rest);have h2:l.drop m=(l.drop n).drop (m-n):=(by rw[List.drop_drop,show n+(m-n)=m by omega]);rw[h2,hrd,show m-n=rest.length-(Lx.skip false rest).length by omega];exact h1
      have HRM:=yH hrm;have hmL:m≤L:=(by omega);have hmk:k+1≤m:=(by omega);clear hf heq hn h4 hsuf HR hnn hrd hm hsl hrm;have hnew:∀ wx:World,((wx.alloc (.cells #[.int .i64 (kd:Int),.string ⟨t.toArray⟩,.int .i64 (k:Int)] 65)).alloc (.cells #[.int .i64 (kd:Int),.string ⟨t.toArray⟩,.int .i64 (k:Int)] 65)).heap[wx.heap.size+1]?=some (.cells (tokCells ⟨kd,t,k⟩).toArray 65 (0,0)):=fun wx=>heap_alloc2_new _ _ _
      have hal2:∀ (wx:World) (o o':Obj),Below wx.heap.size wx ((wx.alloc o).alloc o'):=fun wx o o'=>(yA).alloc (by simp) _
      go_wp2_with (first
       | (go_at_call 44;refine(hf2 _).mono ?_;rintro e' w1 ⟨rfl,hb1⟩;have hown1:=hown.below hb1;have HB1:=yH (HB.out.trans (hb1.mono hB));clear hb1 hf2)
       | (at_builtin;refine append_tok ⟨kd,t,k⟩ rfl (.tmp 34) (.tmp 36) rfl rfl (hown1.below (hal2 _ _ _)) rfl (hnew _) ?ca ?cb ?_))
      case ca=>rw[HM.out];omega
      case cb=>have:=HB1.out.size;simp;omega
      intro g2 c2 w2 hown2 hg2;have HW2:=yH ((((HB1.out.trans (((hal2 w1 _ _)).mono HB1.out.size)).grown hg2 (by have:=HB1.out.size;simp;omega) (fun g hg=>(hown1.lt g hg).1)):Below w.heap.size w w2));have HO2:=yH hown2
      have HN:Hid (AS w w2 l m (.slice (some ⟨g2,0,none⟩) (M+1) c2) (ts++[⟨kd,t,k⟩])):=yH
       ⟨HW2.out,HO2.out,by rw[HL.out];exact hmL,by rw[List.length_append,HM.out];simp;omega,by rw[HRM.out];exact Lx.skip_skip false rest,by
        have h:=HEQ.out;rw[Lx.mapE_mapE] at h;rw[HL.out,h,List.length_append,HM.out,HRM.out];rfl⟩
      clear hnew hal2 hown2 hg2 hown1 HEQ hrl HO2 HB1 hown hfew hsm;go_wp2_with fail
      refine(hp _).mono ?_;rintro e' w3 ⟨rfl,he3⟩;obtain rfl:=he3;go_wp2;go_roundw
      case rel=>exact⟨m,_,by first|rfl|go_num,HN⟩
      case measure=>simp[intOf];omega
   ·have hkL:k=L:=(by omega);subst hkL;have heq:=HR.out.eq;rw[List.drop_of_length_le (by rw[HL.out];exact yR),HL.out] at heq
    have HV:=yH (show Lx.all l = .ok (ts++[⟨0,[],k⟩]) by
     rw[HALL.out,HL.out,heq];cases k <;> rfl)
    have HB:=yH HR.out.below;have hsz:=HB.out.size;have hnew:∀ wx:World,(wx.alloc (.cells #[.int .i64 (0:Int),.string ⟨#[]⟩,.int .i64 (k:Int)] 65)).heap[wx.heap.size]?=some (.cells (tokCells ⟨0,[],k⟩).toArray 65 (0,0)):=fun wx=>heap_alloc_new _ _;rw[hM] at hfew hown ⊢;clear heq HR;go_wp2_with (at_builtin;refine append_tok ⟨0,[],k⟩ rfl (.tmp 41) (.tmp 45) rfl rfl (hown.below (yA)) rfl (hnew _) ?ca ?cb ?_)
    case ca=>rw[HM.out];omega
    case cb=>simp;omega
    intro g2 c2 w2 hown2 hg2;have HW2:=yH (((HB.out.alloc hsz _).grown hg2 (by simp;omega) (fun g hg=>(hown.lt g hg).1)):Below w.heap.size w w2);have HO2:=yH hown2;clear hown2 hg2;go_wp2;refine bodyPost_ret (v:=.tuple #[.slice (some ⟨g2,0,none⟩) (M+1) c2,.int .i64 0,.int .i64 0]) (by simp[results,Tryz.results26,go_sem]) rfl ?_;rw[HV.out];exact⟨HW2.out,_,rfl,HO2.out⟩
end Go.Proofs.YtodlhhfcjkjapaaGreatDoor
