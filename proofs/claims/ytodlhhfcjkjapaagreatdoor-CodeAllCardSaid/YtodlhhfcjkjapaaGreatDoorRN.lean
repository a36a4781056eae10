import Derived.Test.YtodlhhfcjkjapaaGreatDoorBA
import Derived.Test.YtodlhhfcjkjapaaGreatDoorPJ
import Derived.Test.YtodlhhfcjkjapaaGreatDoorVB
import Derived.Lib.Hide
import Derived.Test.YtodlhhfcjkjapaaGreatDoorAppendT
set_option maxRecDepth 200000
set_option maxHeartbeats 8000000
namespace Go.Proofs.YtodlhhfcjkjapaaGreatDoor
open Go.RowKit
theorem own_empty (w:World) (B:Nat) (hB:B≤w.heap.size):(w.alloc (.cells #[] 9)).ownsRow B 9 1 (.slice (some ⟨w.heap.size,0,none⟩) 0 0) 0 [] :=
 World.ownsRow_made (base:=B) w #[] 0 hB (Nat.zero_le _) rfl
theorem letter_any (c:UInt8) (first:Bool) (w:World) :
  Calls Tryz.prog 117 #[.int .u8 (c.toNat:Int),.bool first] w fun e w'=>e = .returned (.bool (if first then Va.small c else Va.inName c))∧w=w':=by
 obtain⟨n,hn⟩:∃ n,n=c.toNat:=⟨_,rfl⟩
 have hres:(if first then Va.small c else Va.inName c)=((decide (97≤n) && decide (n≤122)) || (!first && ((decide (48≤n) && decide (n≤57)) || decide (n=95)))):=by
  have h5:(c==95)=decide (n=95):=by
   rw[Bool.eq_iff_iff,beq_iff_eq,decide_eq_true_iff,hn];exact⟨fun h=>by rw[h];rfl,fun h=>UInt8.toNat_inj.1 h⟩
  cases first with
  | true=>simp[Va.small,←hn]
  | false=>simp[Va.inName,Va.small,Va.digit,←hn,h5,Bool.or_assoc]
 rw[hres,←hn];clear hres hn;by_cases h1:97≤n <;> by_cases h2:n≤122 <;> by_cases h3:48≤n <;> by_cases h4:n≤57 <;> by_cases h5:n=95 <;> first|(exfalso;omega)|skip
 all_goals
  have e1:((97:Int)≤(n:Int))=(97≤n):=(by rw[eq_iff_iff];omega);have e2:((n:Int)≤122)=(n≤122):=(by rw[eq_iff_iff];omega);have e3:((48:Int)≤(n:Int))=(48≤n):=(by rw[eq_iff_iff];omega);have e4:((n:Int)≤57)=(n≤57):=(by rw[eq_iff_iff];omega);have e5:((n:Int)==95)=decide (n=95):=by rw[Bool.eq_iff_iff,beq_iff_eq,decide_eq_true_iff];omega
  simp only[h1,h2,h3,h4,h5,decide_true,decide_false,Bool.and_true,Bool.and_false,Bool.or_true,Bool.or_false] at e1 e2 e3 e4 e5 ⊢;cases first
  all_goals
   go_enter Tryz.func117,Tryz.ntmps117;go_wp2;go_ret;exact⟨rfl,rfl⟩
namespace Va
theorem name_at (b:List UInt8) (j:Nat) (c:UInt8) (hj:j≤(name b).length) (hc:b[j]?=some c):(if decide (j=0) then small c else inName c)=decide (j<(name b).length):=by
 cases b with
 | nil=>cases hc
 | cons d r =>
  cases hs:small d with
  | false =>
   have hn:name (d :: r)=[]:=(by unfold name;rw[show (d :: r).headD 0=d from rfl,hs];rfl);rw[hn] at hj ⊢;obtain rfl:j=0:=(by simpa using hj);obtain rfl:d=c:=(by simpa using hc);rw[decide_eq_true rfl,if_pos rfl,hs];rfl
  | true =>
   have hn:name (d :: r)=(d :: r).takeWhile inName:=(by unfold name;rw[show (d :: r).headD 0=d from rfl,hs];rfl);have hd:inName d=true:=(by simp[inName,hs]);have h1:1≤(name (d :: r)).length:=by rw[hn,List.takeWhile_cons,hd,if_pos rfl];simp
   have key:∀ (l:List UInt8) (j:Nat),j≤(l.takeWhile inName).length→l[j]?=some c→inName c=decide (j<(l.takeWhile inName).length):=fun l=>by
    induction l with
    | nil=>intro j _ h;cases h
    | cons x l ih =>
     intro j h1 h2;cases hx:inName x with
     | false =>
      rw[List.takeWhile_cons,hx] at h1 ⊢;obtain rfl:j=0:=(by simpa using h1);obtain rfl:x=c:=(by simpa using h2);rw[hx];rfl
     | true =>
      rw[List.takeWhile_cons,hx,if_pos rfl,List.length_cons] at h1 ⊢;cases j with
      | zero =>
       obtain rfl:x=c:=(by simpa using h2);rw[hx];simp
      | succ j=>rw[ih j (by omega) (by simpa using h2)];simp
   by_cases h0:j=0
   ·subst h0;obtain rfl:d=c:=(by simpa using hc);rw[decide_eq_true rfl,if_pos rfl,hs,decide_eq_true (by omega)]
   ·rw[decide_eq_false h0,if_neg (by simp),hn];rw[hn] at hj;exact key _ j hj hc
def Pa (t0 t:List UInt8) (ps:List Pt):Prop:=parts t0=(parts t).map (ps ++ ·)
section
variable {t0 t r:List UInt8} {ps:List Pt} {c:UInt8}
theorem Pa.start (t:List UInt8):Pa t t []:=by
 unfold Pa;cases parts t <;> rfl
theorem Pa.byte (h:Pa t0 (c :: r) ps) (hc:c≠36):Pa t0 r (ps++[.b c]):=by
 unfold Pa at *;rw[h,parts_byte hc];cases parts r with
 | none=>rfl
 | some q=>show some (ps++(Pt.b c :: q))=some (ps++[Pt.b c]++q);rw[List.append_assoc];rfl
theorem Pa.two (h:Pa t0 (36 :: 36 :: r) ps):Pa t0 r (ps++[.b 36]):=by
 unfold Pa at *;rw[h,parts_two];cases parts r with
 | none=>rfl
 | some q=>show some (ps++(Pt.b 36 :: q))=some (ps++[Pt.b 36]++q);rw[List.append_assoc];rfl
theorem Pa.wrong (h:Pa t0 (36 :: r) ps) (h1:Va.name r=[]) (h2:r.head?≠some 36):parts t0=none:=by
 rw[h];cases r with
 | nil=>rw[parts_end];rfl
 | cons d r =>
  have hs:small d=false:=by
   cases hh:small d with
   | false=>rfl
   | true =>
    have hn:inName d=true:=(by simp[inName,hh]);unfold Va.name at h1;rw[show (d :: r).headD 0=d from rfl,hh,if_pos rfl,List.takeWhile_cons,hn,if_pos rfl] at h1;cases h1
  rw[parts_wrong hs (fun e=>h2 (by rw[e];rfl))];rfl
theorem Pa.name (h:Pa t0 (36 :: r) ps) (h1:Va.name r≠[]):Pa t0 (r.drop (Va.name r).length) (ps++[.n (Va.name r)]):=by
 obtain⟨d,r,rfl,hs,he⟩:=name_some h1;unfold Pa at *;rw[he,drop_len2];rw[h,parts_take hs];cases parts ((d :: r).dropWhile inName) with
 | none=>rfl
 | some q=>show some (ps++(Pt.n _ :: q))=some (ps++[Pt.n _]++q);rw[List.append_assoc];rfl
theorem Pa.end (h:Pa t0 [] ps):parts t0=some ps:=by
 rw[h,parts_nil];show some (ps++[])=_
 rw[List.append_nil]
end
end Va
theorem part_info:(Tryz.prog.info? 141).map (fun i=>(i.zero,i.size,i.bytes))=some (some (.agg #[.string ⟨#[]⟩,.bool false]),2,24):=by kernel_rfl
theorem append_part {ops:Array Oper} {rest:List Oper} {o:Oper} {a:Act} {Q:Exit→Act→World→Prop} {w:World} {B b:Nat} {v:Value} {ts:List Va.Pt} (t:Va.Pt)
  (hgd:o.guard=none) (s x:Operand) (ho:o.op = .call { callee:=.builtin .append,args:=#[s,x],argTypes:=#[137,137] })
  (hs:a.eval s=v) (h:PO w B 141 v ts) (hx:a.eval x = .slice (some ⟨b,0,none⟩) 1 1) (hb:w.heap[b]?=some (.cells (partCells t).toArray 141 (0,0)))
  (hn:ts.length≤1048576) (hB:B≤w.heap.size)
  (h':∀ g cap w',PO w' B 141 (.slice (some ⟨g,0,none⟩) (ts.length+1) cap) (ts++[t])→w.grownBy w' v.ownBlock→wpList Tryz.prog ops Q rest (a.put o.dst (.slice (some ⟨g,0,none⟩) (ts.length+1) cap)) w'):wpList Tryz.prog ops Q (o :: rest) a w:=by
 obtain⟨i0,hi,hz0,hz1,hz2⟩:=info_parts part_info;exact wpList_plain hgd fun _ hK=>wp_append_part t Tryz.underlying137 hi hz0 hz1 hz2 rfl (by decide) s x ho hs h hx hb hn hB fun g cap w' h2 h3 _=>hK _ _ (h' g cap w' h2 h3)
structure RP (w0 wr:World) (t0:List UInt8) (N k:Nat) (v:Value) (ps:List Va.Pt):Prop where
 below:Below w0.heap.size w0 wr
 row:PO wr w0.heap.size 141 v ps
 n:N=ps.length
 le:k≤t0.length
 few:ps.length≤k
 pa:Va.Pa t0 (t0.drop k) ps
theorem RP.push {w0 wr w1 w2:World} {t0:List UInt8} {N k k':Nat} {v v':Value} {ps:List Va.Pt} {t:Va.Pt} (h:RP w0 wr t0 N k v ps) (hb:Below wr.heap.size wr w1) (ho:PO w2 w0.heap.size 141 v' (ps++[t])) (hg:w1.grownBy w2 v.ownBlock)
  (hk:k<k') (hk':k'≤t0.length) (hpa:Va.Pa t0 (t0.drop k') (ps++[t])):RP w0 w2 t0 (N+1) k' v' (ps++[t]) where
 below:=(h.below.trans (hb.mono h.below.size)).grown hg (Nat.le_trans h.below.size hb.size) (fun g hg=>(h.row.lt g hg).1)
 row:=ho
 n:=by rw[List.length_append,h.n];rfl
 le:=hk'
 few:=by have:=h.few;rw[List.length_append];show ps.length+1≤_;omega
 pa:=hpa
def PartsP (r:Option (List Va.Pt)) (w:World) (e:Ending) (w':World):Prop:=Below w.heap.size w w'∧match r with
 | none=>e = .returned (.tuple #[.slice none 0 0,.bool false])
 | some ps=>∃ v,e = .returned (.tuple #[v,.bool true])∧PO w' w.heap.size 141 v ps
theorem rparts_any (l:List UInt8) (hl:l.length≤10000) (w:World) :
  Calls Tryz.prog 102 #[.string ⟨l.toArray⟩] w fun e w'=>PartsP (Va.parts l) w e w':=by
 have hz:(⟨l.toArray⟩:ByteArray).size=l.length:=rfl;have hx:∀ a b,(⟨l.toArray⟩:ByteArray).extract a b=⟨((l.take b).drop a).toArray⟩:=ba_extract l;obtain⟨L,hL⟩:∃ L,l.length=L:=⟨_,rfl⟩;rw[hL] at hz hl;have HX:=yH hx;have HL:=yH hL
 have hst:∀ w',w'=w.alloc (.cells #[] 141)→RP w w' l 0 0 (.slice (some ⟨w.heap.size,0,none⟩) 0 0) []:=fun w' hb=>by
  subst hb;exact⟨yA,World.ownsRow_made (base:=w.heap.size) w #[] 0 yR (Nat.zero_le _) rfl,rfl,Nat.zero_le _,yR,Va.Pa.start l⟩
 have HST:=yH (hst _ rfl);clear hst hx hL;go_enter Tryz.func102,Tryz.ntmps102;go_wp2;go_loopw [4,5,6] (fun s4 s5 _ wr=>∃ (k N cap:Nat) (ao:Option Addr) (ps:List Va.Pt),s5 = .int .i64 k∧s4 = .slice ao N cap∧k≤L∧Hid (RP w wr l N k (.slice ao N cap) ps)) (fun _ s5 _ _=>L-(intOf s5).toNat)
 case atStart=>exact⟨0,0,0,_,[],rfl,rfl,Nat.zero_le _,HST⟩
 case round =>
  obtain⟨k,N,cap,ao,ps,rfl,rfl,hk,HR⟩:=hrel;clear HST;by_cases hlt:k<L
  ·obtain⟨c,r,hd⟩:∃ c r,l.drop k=c :: r:=by
    cases h:l.drop k with
    | nil=>have:=List.drop_eq_nil_iff.1 h;rw[HL.out] at this;omega
    | cons c r=>exact⟨c,r,rfl⟩
   have hck:∀ h,(⟨l.toArray⟩:ByteArray)[k]'h=c:=fun h=>by
    rw[byte_at];have:=congrArg List.head? hd;rw[List.head?_drop] at this;show l.getD k 0=c
    rw[List.getD_eq_getElem?_getD,this];rfl
   have hlti:((k:Int)<(L:Int))=True:=yT;by_cases hc:c=36
   ·subst hc;have h36:((36:UInt8).toNat:Int)=36:=rfl;have hpa:=HR.out.pa;rw[hd] at hpa;obtain⟨K,hK⟩:∃ K,K=(Va.name r).length:=⟨_,rfl⟩
    have hrl:r.length+(k+1)=L:=by
     have:=congrArg List.length hd;rw[List.length_drop,List.length_cons,HL.out] at this;omega
    have hdr:l.drop (k+1)=r:=(by rw[←List.drop_drop,hd];rfl);have hKr:=Va.name_len r;rw[←hK] at hKr
    have hat:∀ j c,r[j]?=some c → ∀ h,(⟨l.toArray⟩:ByteArray)[k+1+j]'h=c:=fun j c hj h=>by
     rw[byte_at];show l.getD (k+1+j) 0=c
     rw[List.getD_eq_getElem?_getD,←List.getElem?_drop,hdr,hj];rfl
    have HAT:=yH hat;have HPA:=yH hpa;have HDR:=yH hdr;have HK:=yH hK;have hk1:((k:Int)<(L:Int)):=(by omega);clear hpa hd hdr hK hat;go_wp2;go_loopw [6] (fun s6 wx=>∃ (j:Nat),s6 = .int .i64 ((k+1+j:Nat):Int)∧j≤K∧wx=wr) (fun s6 _=>L-(intOf s6).toNat)
    case atStart=>exact⟨0,by simp,Nat.zero_le _,rfl⟩
    case round =>
     obtain⟨j,rfl,hj,rfl⟩:=hrel;obtain⟨E,hE⟩:∃ E,E=k+1+j:=⟨_,rfl⟩;rw[←hE];have HEE:=yH hE;have hk1w:(k:Int)+1≤10000:=(by omega);have hEw:(E:Int)+1≤20001:=(by omega);by_cases hend:E<L
     ·obtain⟨c',hc'⟩:∃ c',r[j]?=some c':=⟨r[j]'(by omega),List.getElem?_eq_getElem (by omega)⟩
      have hcE:∀ h,(⟨l.toArray⟩:ByteArray)[E]'h=c':=fun h=>by
       have:=HAT.out j c' hc';simp only[←hE] at this;exact this h
      have hlet:=fun w=>letter_any c' (decide (j=0)) w;rw[Va.name_at r j c' (by rw[←HK.out];exact hj) hc',←HK.out] at hlet;have HLT:=yH hlet;have hendi:((E:Int)<(L:Int))=True:=yT;have HEN:=yH hend;have HC':=yH hc';clear hlet hc';by_cases hjK:j<K
      ·rw[decide_eq_true hjK] at HLT;by_cases h0:j=0
       ·have g1:((E:Int)==(k:Int)+1)=true:=beq_iff_eq.2 (by omega);have g2:((E:Int)=(k:Int)+1)=True:=yT;rw[decide_eq_true h0] at HLT;clear hend hE;go_wp2_with (go_at_call 117;refine(HLT.out _).mono ?_;rintro e w9 ⟨rfl,rfl⟩)
        go_roundw
        case rel=>exact⟨j+1,by rw[show k+1+(j+1)=E+1 by have:=HEE.out;omega];go_num,by omega,trivial⟩
        case measure=>have:=HEN.out;simp[intOf];omega
       ·have g1:((E:Int)==(k:Int)+1)=false:=yB;have g2:((E:Int)=(k:Int)+1)=False:=yF;rw[decide_eq_false h0] at HLT;clear hend hE;go_wp2_with (go_at_call 117;refine(HLT.out _).mono ?_;rintro e w9 ⟨rfl,rfl⟩)
        go_roundw
        case rel=>exact⟨j+1,by rw[show k+1+(j+1)=E+1 by have:=HEE.out;omega];go_num,by omega,trivial⟩
        case measure=>have:=HEN.out;simp[intOf];omega
      ·obtain rfl:j=K:=(by omega);rw[decide_eq_false hjK] at HLT;by_cases h0:j=0
       ·have g1:((E:Int)==(k:Int)+1)=true:=beq_iff_eq.2 (by omega);have g2:((E:Int)=(k:Int)+1)=True:=yT;have hgt:((k:Int)+1<(E:Int))=False:=yF;have hge:((L:Int)≤(E:Int))=False:=yF;rw[decide_eq_true h0] at HLT;have hnm:Va.name r=[]:=List.eq_nil_of_length_eq_zero (by rw[←HK.out];exact h0)
        have hhd:r.head?=some c':=(by have:=HC'.out;rw[h0] at this;rwa [List.head?_eq_getElem?]);by_cases hc3:c'=36
        ·subst hc3
         obtain⟨r',hr'⟩:∃ r',r=36 :: r':=by
          cases r with
          | nil=>cases hhd
          | cons x r =>
           obtain rfl:x=36:=(by simpa using hhd);exact⟨r,rfl⟩
         have hpn:=HPA.out;rw[hr'] at hpn
         have HPN:=yH (show Va.Pa l (l.drop (E+1)) _ from by
          rw[show l.drop (E+1)=r' by
           rw[show E+1=(k+1)+1 by omega,←List.drop_drop,HDR.out,hr'];rfl]
          exact hpn.two)
         have hnew:∀ wx:World,((wx.alloc (.cells #[.string ⟨#[36]⟩,.bool false] 141))).heap[wx.heap.size]?=some (.cells (partCells (.b 36)).toArray 141 (0,0)):=fun wx=>heap_alloc_new _ _;have hfew:=HR.out.few;have hEk:k<E+1:=(by omega);have hEL:E+1≤L:=(by omega);clear hend hpn hr' hhd hnm h0 hjK hE
         go_wp2_with (first|(go_at_call 117;refine(HLT.out _).mono ?_;rintro e w9 ⟨rfl,rfl⟩)|(at_builtin;refine append_part (.b 36) rfl (.tmp 69) (.tmp 71) rfl rfl (HR.out.row.below (yA)) rfl (hnew _) ?ca ?cb ?_))
         case ca=>omega
         case cb=>have:=HR.out.below.size;simp;omega
         intro g2 c2 w2 hown2 hg2;have HN:=yH (HR.out.push (yA) hown2 hg2 hEk (by rw[HL.out];exact hEL) HPN.out);rw[HR.out.n] at HN;clear hown2 hg2;go_wp2;go_roundw
         case rel=>exact⟨E+1,ps.length+1,c2,_,_,by go_num,rfl,by omega,HN⟩
         case measure=>simp[intOf];omega
        ·have hc1:((c'.toNat:Int)==36)=false:=yB (fun e=>hc3 (UInt8.toNat_inj.1 (by show c'.toNat=36;omega)));have hc2:((c'.toNat:Int)=36)=False:=eq_false (fun e=>hc3 (UInt8.toNat_inj.1 (by show c'.toNat=36;omega)));have HW:=yH (HPA.out.wrong hnm (by rw[hhd];exact fun e=>hc3 (by simpa using e)));clear hend hhd hnm h0 hjK hc3 hE;go_wp2_with fail
         refine(HLT.out _).mono ?_;rintro e w9 ⟨rfl,rfl⟩;clear g1 g2;go_wp2;go_ret2;exact⟨HR.out.below,by rw[HW.out];rfl⟩
       ·have g1:((E:Int)==(k:Int)+1)=false:=yB;have g2:((E:Int)=(k:Int)+1)=False:=yF;rw[decide_eq_false h0] at HLT;have hgt:((k:Int)+1<(E:Int))=True:=yT;have hne:Va.name r≠[]:=fun e=>by have:=HK.out;rw[e] at this;simp at this;omega
        have hpn:=HPA.out.name hne;rw[←HK.out] at hpn
        have hx2:(⟨l.toArray⟩:ByteArray).extract (k+1) E=⟨(Va.name r).toArray⟩:=by
         rw[HX.out,List.drop_take,HDR.out,show E-(k+1)=j by omega,HK.out];congr 2
         obtain⟨d,r',hr,_,he⟩:=Va.name_some hne;rw[he];exact Va.take_len _ _
        have HPN:=yH (show Va.Pa l (l.drop E) _ from by
         rw[show l.drop E=r.drop j by rw[←HDR.out,List.drop_drop,←HEE.out]];exact hpn)
        have hi1:(k:Int)+1≤(E:Int):=(by omega);have hi2:(E:Int)≤(L:Int):=(by omega);have hfew:=HR.out.few;obtain⟨M,hM⟩:∃ M,M=Va.name r:=⟨_,rfl⟩;rw[←hM] at hx2 HPN;have hnew:∀ wx:World,((wx.alloc (.cells #[.string ⟨M.toArray⟩,.bool true] 141))).heap[wx.heap.size]?=some (.cells (partCells (.n M)).toArray 141 (0,0)):=fun wx=>heap_alloc_new _ _;have hkE:k<E:=(by omega);have hEL:E≤L:=(by omega);clear hne hpn hM hE
        go_wp2_with (first|(go_at_call 117;refine(HLT.out _).mono ?_;rintro e w9 ⟨rfl,rfl⟩)|(at_builtin;refine append_part (.n M) rfl (.tmp 49) (.tmp 56) rfl rfl (HR.out.row.below (yA)) rfl (hnew _) ?ca ?cb ?_))
        case ca=>omega
        case cb=>have:=HR.out.below.size;simp;omega
        intro g2 c2 w2 hown2 hg2;have HN:=yH (HR.out.push (yA) hown2 hg2 hkE (by rw[HL.out];exact hEL) HPN.out);rw[HR.out.n] at HN;clear hown2 hg2;go_wp2;go_roundw
        case rel=>exact⟨E,ps.length+1,c2,_,_,rfl,rfl,by omega,HN⟩
        case measure=>simp[intOf];omega
     ·obtain rfl:E=L:=(by omega);obtain rfl:j=K:=(by omega);have hendi:((E:Int)<(E:Int))=False:=yF;by_cases h0:j=0
      ·have hgt:((k:Int)+1<(E:Int))=False:=yF;have hnm:Va.name r=[]:=List.eq_nil_of_length_eq_zero (by rw[←HK.out];exact h0);have hr0:r=[]:=List.eq_nil_of_length_eq_zero (by omega);have HW:=yH (HPA.out.wrong hnm (by rw[hr0];simp));clear hend hnm hr0 h0 hE;go_wp2;go_ret2;exact⟨HR.out.below,by rw[HW.out];rfl⟩
      ·clear hend;have hgt:((k:Int)+1<(E:Int))=True:=yT;have hne:Va.name r≠[]:=fun e=>by have:=HK.out;rw[e] at this;simp at this;omega
       have hpn:=HPA.out.name hne;rw[←HK.out] at hpn
       have hx2:(⟨l.toArray⟩:ByteArray).extract (k+1) E=⟨(Va.name r).toArray⟩:=by
        rw[HX.out,List.drop_take,HDR.out,show E-(k+1)=j by omega,HK.out];congr 2
        obtain⟨d,r',hr,_,he⟩:=Va.name_some hne;rw[he];exact Va.take_len _ _
       have HPN:=yH (show Va.Pa l (l.drop E) _ from by
        rw[show l.drop E=r.drop j by rw[←HDR.out,List.drop_drop,←HEE.out]];exact hpn)
       have hi1:(k:Int)+1≤(E:Int):=(by omega);have hfew:=HR.out.few;obtain⟨M,hM⟩:∃ M,M=Va.name r:=⟨_,rfl⟩;rw[←hM] at hx2 HPN;have hnew:∀ wx:World,((wx.alloc (.cells #[.string ⟨M.toArray⟩,.bool true] 141))).heap[wx.heap.size]?=some (.cells (partCells (.n M)).toArray 141 (0,0)):=fun wx=>heap_alloc_new _ _;have hkE:k<E:=(by omega);have hEL:E≤E:=(by omega);clear hne hpn hM hE
       go_wp2_with (at_builtin;refine append_part (.n M) rfl (.tmp 49) (.tmp 56) rfl rfl (HR.out.row.below (yA)) rfl (hnew _) ?ca ?cb ?_)
       case ca=>omega
       case cb=>have:=HR.out.below.size;simp;omega
       intro g2 c2 w2 hown2 hg2;have HN:=yH (HR.out.push (yA) hown2 hg2 hkE (by rw[HL.out];exact hEL) HPN.out);rw[HR.out.n] at HN;clear hown2 hg2;go_wp2;go_roundw
       case rel=>exact⟨E,ps.length+1,c2,_,_,rfl,rfl,by omega,HN⟩
       case measure=>simp[intOf];omega
   ·have hc1:((c.toNat:Int)==36)=false:=yB (fun e=>hc (UInt8.toNat_inj.1 (by show c.toNat=36;omega)));have hc2:((c.toNat:Int)=36)=False:=eq_false (fun e=>hc (UInt8.toNat_inj.1 (by show c.toNat=36;omega)))
    have hx1:(⟨l.toArray⟩:ByteArray).extract k (k+1)=⟨#[c]⟩:=by
     rw[HX.out,List.drop_take,hd,show k+1-k=1 by omega];rfl
    have hk1:(k:Int)+1≤(L:Int):=(by omega);have hpa:=HR.out.pa;rw[hd] at hpa
    have HPA:=yH (show Va.Pa l (l.drop (k+1)) _ from by
     rw[show l.drop (k+1)=r by rw[←List.drop_drop,hd];rfl];exact hpa.byte hc)
    have hnew:∀ wx:World,((wx.alloc (.cells #[.string ⟨#[c]⟩,.bool false] 141))).heap[wx.heap.size]?=some (.cells (partCells (.b c)).toArray 141 (0,0)):=fun wx=>heap_alloc_new _ _;have hfew:=HR.out.few;clear hpa hd hc;go_wp2_with (at_builtin;refine append_part (.b c) rfl (.tmp 16) (.tmp 23) rfl rfl (HR.out.row.below (yA)) rfl (hnew _) ?ca ?cb ?_)
    case ca=>omega
    case cb=>have:=HR.out.below.size;simp;omega
    intro g2 c2 w2 hown2 hg2;have HN:=yH (HR.out.push (yA) hown2 hg2 (Nat.lt_succ_self k) (by rw[HL.out];omega) HPA.out);rw[HR.out.n] at HN;clear hown2 hg2;go_wp2;go_roundw
    case rel=>exact⟨k+1,ps.length+1,c2,_,_,by go_num,rfl,by omega,HN⟩
    case measure=>simp[intOf];omega
  ·obtain rfl:k=L:=(by omega);have hki:((k:Int)<(k:Int))=False:=yF;have hpa:=HR.out.pa;rw[List.drop_eq_nil_of_le (by rw[HL.out];exact yR)] at hpa;have HP:=yH hpa.end;clear hpa hlt;go_wp2;go_ret2;refine⟨HR.out.below,?_⟩;rw[HP.out];exact⟨_,rfl,HR.out.row⟩
structure RNs (w1 wr:World) (ps:List Va.Pt) (k M:Nat) (v:Value):Prop where
 below:Below w1.heap.size w1 wr
 row:wr.ownsRow w1.heap.size 9 1 v M ((Va.names (ps.take k)).map sv)
 le:M≤k
theorem rnames_any (w:World) (t:List UInt8) (ht:t.length≤10000) :
  Calls Tryz.prog 83 #[.string ⟨t.toArray⟩] w fun e w'=>∃ v,e = .returned (.tuple #[v,.bool (Va.parts t).isSome])∧Rd w' v ((((Va.parts t).map Va.names).getD []).map sv)∧Below w.heap.size w w':=by
 have hp:=rparts_any t ht w;cases hps:Va.parts t with
 | none =>
  rw[hps] at hp;have HP:=yH hp;clear hp hps;go_enter Tryz.func83,Tryz.ntmps83;go_wp2_with fail
  refine HP.out.mono ?_;rintro e w1 ⟨hb,rfl⟩;have HB:=yH (hb.trans (((Below.refl w1.heap.size w1).alloc yR (.cells #[] 9)).mono hb.size));have HR:=yH (Rd.of_own (own_empty w1 w1.heap.size yR));clear hb HP;go_wp2;go_loopw [6,7] (fun s6 i wr=>s6 = .slice (some ⟨w1.heap.size,0,none⟩) 0 0∧i = .int .i64 0∧wr=w1.alloc (.cells #[] 9)) (fun _ _ _=>0)
  case atStart=>exact⟨rfl,rfl,rfl⟩
  case round =>
   obtain⟨rfl,rfl,rfl⟩:=hrel;go_wp2;go_ret2;exact⟨_,rfl,HR.out,HB.out⟩
 | some ps =>
  rw[hps] at hp;obtain⟨hfew,htx⟩:=Va.parts_few hps;have HTX:=yH htx;have HP:=yH hp;obtain⟨N,hN⟩:∃ N,N=ps.length:=⟨_,rfl⟩;have HN:=yH hN;rw[←hN] at hfew;have hN1:N≤10000:=(by omega);clear hp hps htx hfew hN;go_enter Tryz.func83,Tryz.ntmps83;go_wp2_with fail
  refine HP.out.mono ?_;rintro e w1 ⟨hb,v,rfl,ho⟩;obtain⟨ao,cap,rfl,hao,hcap,hmax⟩:=ho.form;rw[←HN.out] at ho hcap;rw[←HN.out];unfold maxLen at hmax;have HB:=yH hb;have HO:=yH ho;have HAO:=yH hao;have HST:=yH (show RNs w1 (w1.alloc (.cells #[] 9)) ps 0 0 (.slice (some ⟨w1.heap.size,0,none⟩) 0 0) from ⟨yA,own_empty w1 w1.heap.size yR,yR⟩);clear hb ho hao HP;go_wp2
  go_loopw [6,7] (fun s6 s7 wr=>∃ (k M cap:Nat) (bo:Option Addr),s6 = .slice bo M cap∧s7 = .int .i64 k∧k≤N∧M≤10000∧Hid (RNs w1 wr ps k M (.slice bo M cap))) (fun _ s7 _=>N-(intOf s7).toNat)
  case atStart=>exact⟨0,0,0,_,rfl,rfl,Nat.zero_le _,Nat.zero_le _,HST⟩
  case round =>
   obtain⟨k,M,mcap,bo,rfl,rfl,hk,hM,HR⟩:=hrel;clear HST;by_cases hlt:k<N
   ·obtain⟨p,hpk⟩:∃ p,ps[k]?=some p:=⟨ps[k]'(by rw[←HN.out];exact hlt),List.getElem?_eq_getElem _⟩
    obtain⟨g,rfl⟩:∃ g,ao=some ⟨g,0,none⟩:=by
     rcases HAO.out with h|h
     ·rw[h] at hpk;cases hpk
     ·exact h
    obtain⟨c0,c1⟩:=(HO.out.below HR.out.below).cells rfl k p hpk;have hki:((k:Int)<(N:Int)):=(by omega);have hnm:=Va.names_more hpk;cases hb:p.isName with
    | false =>
     rw[hb] at c1;rw[hb,if_neg (by simp),List.append_nil] at hnm;have HN2:=yH (show RNs w1 wr ps (k+1) M (.slice bo M mcap) from ⟨HR.out.below,by rw[hnm];exact HR.out.row,by have:=HR.out.le;omega⟩);clear hnm hpk hb;go_wp2;go_roundw
     case rel=>exact⟨k+1,M,mcap,bo,rfl,by go_num,by omega,hM,HN2⟩
     case measure=>simp[intOf];omega
    | true =>
     rw[hb] at c1;rw[hb,if_pos rfl] at hnm;have HNM:=yH hnm;have hle:=HR.out.le;obtain⟨x,hx⟩:∃ x,x=p.text:=⟨_,rfl⟩;rw[←hx] at c0 HNM;clear hnm hpk hb hx;go_wp2_with (at_builtin;refine append_str rfl (.tmp 25) (.tmp 31) rfl rfl HR.out.row rfl rfl (b:=sv x) rfl ?ca HR.out.below.size ?_)
     case ca=>omega
     intro v3 w3 ho3 hg3;obtain⟨bo3,cap3,rfl⟩:=own_form ho3;have HN2:=yH (show RNs w1 w3 ps (k+1) (M+1) (.slice bo3 (M+1) cap3) from ⟨HR.out.below.grown hg3 HR.out.below.size (fun k hk=>(HR.out.row.lt k hk).1),by rw[HNM.out,List.map_append];exact ho3,by omega⟩);clear ho3 hg3;go_wp2;go_roundw
     case rel=>exact⟨k+1,M+1,cap3,bo3,rfl,by go_num,by omega,by omega,HN2⟩
     case measure=>simp[intOf];omega
   ·obtain rfl:k=N:=(by omega);have hrow:=HR.out.row;rw[List.take_of_length_le (by rw[←HN.out];exact yR)] at hrow;have HRD:=yH (Rd.of_own hrow);have HB2:=yH (HB.out.trans (HR.out.below.mono HB.out.size));clear hrow;go_wp2;go_ret2;exact⟨_,rfl,HRD.out,HB2.out⟩
end Go.Proofs.YtodlhhfcjkjapaaGreatDoor
