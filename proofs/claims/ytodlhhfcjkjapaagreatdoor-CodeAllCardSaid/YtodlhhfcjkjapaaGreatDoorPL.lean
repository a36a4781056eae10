import Derived.Test.YtodlhhfcjkjapaaGreatDoorTT
import Derived.Test.YtodlhhfcjkjapaaGreatDoorPA
import Derived.Test.YtodlhhfcjkjapaaGreatDoorBA
import Derived.Test.YtodlhhfcjkjapaaGreatDoorShelf
import Derived.Test.YtodlhhfcjkjapaaGreatDoorIT
import Derived.Scope
import Derived.Test.YtodlhhfcjkjapaaGreatDoorByteRow
import Derived.Test.YtodlhhfcjkjapaaGreatDoorPJ
set_option maxRecDepth 200000
set_option maxHeartbeats 8000000
namespace Go.Proofs.YtodlhhfcjkjapaaGreatDoor
open Go.RowKit
namespace Lx
theorem turned_at (e:UInt8):(Lib.indexByte [92,34,110,114,116] e = -1∧turned e=none) ∨ ∃ (k:Nat) (t:UInt8),k<5∧Lib.indexByte [92,34,110,114,116] e=(k:Int)∧turned e=some t ∧ ∀ h,(⟨#[92,34,10,13,9]⟩:ByteArray)[k]'h=t:=by
 by_cases h0:e=92
 ·subst h0;exact .inr ⟨0,92,by decide,rfl,rfl,fun _=>rfl⟩
 by_cases h1:e=34
 ·subst h1;exact .inr ⟨1,34,by decide,rfl,rfl,fun _=>rfl⟩
 by_cases h2:e=110
 ·subst h2;exact .inr ⟨2,10,by decide,rfl,rfl,fun _=>rfl⟩
 by_cases h3:e=114
 ·subst h3;exact .inr ⟨3,13,by decide,rfl,rfl,fun _=>rfl⟩
 by_cases h4:e=116
 ·subst h4;exact .inr ⟨4,9,by decide,rfl,rfl,fun _=>rfl⟩
 refine .inl ⟨?_,by unfold turned;rw[if_neg h0,if_neg h1,if_neg h2,if_neg h3,if_neg h4]⟩;have g:∀ a:UInt8,¬ e=a→(a==e)=false:=fun a h=>yB fun q=>h q.symm;simp[Lib.indexByte,g _ h0,g _ h1,g _ h2,g _ h3,g _ h4]
end Lx
theorem plain_any (c:UInt8) (w:World):Calls Tryz.prog 124 #[.int .u8 (c.toNat:Int)] w fun e w'=>e = .returned (.bool (Lx.pl c))∧w=w':=by
 unfold Lx.pl;obtain⟨n,hn⟩:∃ n,c.toNat=n:=⟨_,rfl⟩;rw[hn];clear hn;by_cases h1:32≤n
 ·by_cases h2:n≤126
  ·have e1:((32:Int)≤(n:Int))=True:=yT;have e2:((n:Int)≤126)=True:=yT;rw[decide_eq_true h1,decide_eq_true h2];clear h1 h2;go_enter Tryz.func124,Tryz.ntmps124;go_wp2;go_ret;exact⟨rfl,rfl⟩
  ·have e1:((32:Int)≤(n:Int))=True:=yT;have e2:((n:Int)≤126)=False:=yF;rw[decide_eq_true h1,decide_eq_false h2];clear h1 h2;go_enter Tryz.func124,Tryz.ntmps124;go_wp2;go_ret;exact⟨rfl,rfl⟩
 ·have e1:((32:Int)≤(n:Int))=False:=yF;rw[decide_eq_false h1,Bool.false_and];clear h1;go_enter Tryz.func124,Tryz.ntmps124;go_wp2;go_ret;exact⟨rfl,rfl⟩
theorem sindex_any (s:ByteArray) (c:UInt8) (w:World):Calls Tryz.prog 123 #[.string s,.int .u8 (c.toNat:Int)] w fun e w'=>e = .returned (.int .i64 (Lib.indexByte s.data.toList c))∧w=w':=by
 have h:=Tryz.stringslite_IndexByte s (c.toNat:Int) w;rw[show ((c.toNat:Int)).toNat.toUInt8=c by simp] at h;go_enter Tryz.func123,Tryz.ntmps123;go_wp2_with (go_at_call 130;refine h.mono ?_;rintro e w' ⟨rfl,hw⟩;rw[hw])
 go_ret;exact⟨rfl,rfl⟩
theorem stands_any (c:UInt8) (r:List UInt8) (hl:r.length≤16777216) (w:World) :
  Calls Tryz.prog 106 #[.string ⟨(c :: r).toArray⟩] w fun e w'=>e = .returned (.tuple #[.int .u8 ((Lx.stand c r).1.toNat:Int),.int .i64 ((Lx.stand c r).2:Int)])∧w=w':=by
 obtain⟨q,hq⟩:∃ q,q=c :: r:=⟨_,rfl⟩;have hz:(⟨q.toArray⟩:ByteArray).size=r.length+1:=(by show q.toArray.size=_;rw[hq];simp);have hx:∀ h,(⟨q.toArray⟩:ByteArray)[0]'h=c:=fun h=>by rw[byte_at,hq];rfl
 rw[←hq];by_cases hc:c=92
 ·subst hc;have h92:((92:UInt8).toNat:Int)=92:=rfl;cases r with
  | nil =>
   show Calls _ _ _ _ fun e w'=>e = .returned (.tuple #[.int .u8 0,.int .i64 0])∧_
   clear hq;simp only[List.length_nil] at hz;go_enter Tryz.func106,Tryz.ntmps106;go_wp2;go_ret2;exact⟨rfl,rfl⟩
  | cons e r =>
   have hx1:∀ h,(⟨q.toArray⟩:ByteArray)[1]'h=e:=fun h=>by rw[byte_at,hq];rfl
   have hz2:(⟨q.toArray⟩:ByteArray).size=r.length+1+1:=hz;have hS:=fun w=>sindex_any ⟨#[92,34,110,114,116]⟩ e w;have hL:((1:Int)<(r.length:Int)+1+1)=True:=yT;have hrl:r.length+1≤16777216:=hl;rcases Lx.turned_at e with ⟨h1,h2⟩|⟨k,t,hk,h1,h2,h3⟩
   ·rw[show (⟨#[92,34,110,114,116]⟩:ByteArray).data.toList=[92,34,110,114,116] from rfl,h1] at hS;have hst:Lx.stand 92 (e :: r)=(0,0):=(by unfold Lx.stand;rw[if_pos rfl];dsimp only;rw[h2]);rw[hst];show Calls _ _ _ _ fun e w'=>e = .returned (.tuple #[.int .u8 0,.int .i64 0])∧_
    clear hq hst h1 h2 hz hl;go_enter Tryz.func106,Tryz.ntmps106;go_wp2_with (go_at_call 123;refine(hS _).mono ?_;rintro e w' ⟨rfl,rfl⟩)
    go_ret2;exact⟨rfl,rfl⟩
   ·rw[show (⟨#[92,34,110,114,116]⟩:ByteArray).data.toList=[92,34,110,114,116] from rfl,h1] at hS;have hst:Lx.stand 92 (e :: r)=(t,2):=(by unfold Lx.stand;rw[if_pos rfl];dsimp only;rw[h2]);rw[hst];show Calls _ _ _ _ fun e w'=>e = .returned (.tuple #[.int .u8 (t.toNat:Int),.int .i64 2])∧_
    have hk0:(0:Int)≤(k:Int):=(by omega);have hk5:(k:Int)<5:=(by omega);clear hq hst h1 h2 hz hl;go_enter Tryz.func106,Tryz.ntmps106;go_wp2_with (go_at_call 123;refine(hS _).mono ?_;rintro e w' ⟨rfl,rfl⟩)
    go_ret2;exact⟨rfl,rfl⟩
 ·have hP:=fun w=>plain_any c w;have hc2:¬ ((c.toNat:Int)=92):=fun e=>hc (UInt8.toNat_inj.1 (by show c.toNat=92;omega));have hc3:((c.toNat:Int)==92)=false:=yB hc2;have hc4:((c.toNat:Int)=92)=False:=eq_false hc2;obtain⟨p,hp⟩:∃ p,Lx.pl c=p:=⟨_,rfl⟩;have hst:Lx.stand c r=if p=true then (c,1) else (0,0):=(by unfold Lx.stand;rw[if_neg hc,hp]);rw[hp] at hP;rw[hst];cases p
  ·show Calls _ _ _ _ fun e w'=>e = .returned (.tuple #[.int .u8 0,.int .i64 0])∧_
   clear hq hst hp hc;go_enter Tryz.func106,Tryz.ntmps106;go_wp2_with (go_at_call 124;refine(hP _).mono ?_;rintro e w' ⟨rfl,rfl⟩)
   go_ret2;exact⟨rfl,rfl⟩
  ·show Calls _ _ _ _ fun e w'=>e = .returned (.tuple #[.int .u8 (c.toNat:Int),.int .i64 1])∧_
   clear hq hst hp hc;go_enter Tryz.func106,Tryz.ntmps106;go_wp2_with (go_at_call 124;refine(hP _).mono ?_;rintro e w' ⟨rfl,rfl⟩)
   go_ret2;exact⟨rfl,rfl⟩
theorem take_drop_len (p:UInt8→Bool) (l:List UInt8):l.length=(l.takeWhile p).length+(l.dropWhile p).length:=by
 conv=>lhs;rw[←List.takeWhile_append_dropWhile (p:=p) (l:=l)]
 rw[List.length_append]
theorem take_take_len (p:UInt8→Bool):∀ l:List UInt8,l.take (l.takeWhile p).length=l.takeWhile p
 | []=>rfl
 | c :: l=>by
  rw[List.takeWhile_cons];split
  ·rw[List.length_cons,List.take_succ_cons,take_take_len p l]
  ·rfl
theorem run_any (l:List UInt8) (hl:l.length≤16777216) (chars:ByteArray) (h2:2≤chars.size) (hcs:chars.size<4294967281) (hascii:∀ (j:Nat) b,chars.data.toList[j]?=some b→b.toNat<128) (w:World) :
  Calls Tryz.prog 87 #[.string ⟨l.toArray⟩,.string chars] w fun e w'=>e = .returned (.string ⟨(l.takeWhile chars.data.toList.contains).toArray⟩)∧Below w.heap.size w w':=by
 have ht:=sTrimLeft lsl l hl chars h2 hcs hascii w;clear hascii h2 hcs;have hsum:=take_drop_len chars.data.toList.contains l
 have hx:(⟨l.toArray⟩:ByteArray).extract 0 (l.takeWhile chars.data.toList.contains).length=⟨(l.takeWhile chars.data.toList.contains).toArray⟩:=by
  rw[ba_extract];simp only[List.drop_zero];rw[take_take_len]
 generalize l.takeWhile chars.data.toList.contains=R at *;generalize l.dropWhile chars.data.toList.contains=D at *;have hz:(⟨l.toArray⟩:ByteArray).size=R.length+D.length:=hsum;have hz2:(⟨D.toArray⟩:ByteArray).size=D.length:=rfl;have hsub3:((R.length:Int)+(D.length:Int)-(D.length:Int))=(R.length:Int):=(by omega);have hsub2:(((R.length+D.length:Nat):Int)-(D.length:Int))=(R.length:Int):=(by omega);have hRl:R.length≤16777216:=by omega
 have hDl:D.length≤16777216:=(by omega);clear hsum hl;go_enter Tryz.func87,Tryz.ntmps87;go_wp2_with (go_at_call 105;refine ht.mono ?_;rintro e w' ⟨rfl,hb⟩)
 go_ret;exact⟨rfl,hb⟩
theorem bounded_any (k:Nat) (l:List UInt8) (_hl:l.length≤16777216) (m f:Nat) (w:World) :
  Calls Tryz.prog 86 #[.int .i64 (k:Int),.string ⟨l.toArray⟩,.int .i64 (m:Int),.int .i64 (f:Int)] w fun e w' =>
   e = .returned (if m<l.length then .tuple #[tkv 0 [] 0,.int .i64 0,.int .i64 (f:Int)] else .tuple #[tkv k l 0,.int .i64 (l.length:Int),.int .i64 0])∧Below w.heap.size w w':=by
 have hz:(⟨l.toArray⟩:ByteArray).size=l.length:=rfl;by_cases h:m<l.length
 ·rw[if_pos h];have h1:((m:Int)<(l.length:Int))=True:=yT;clear h;go_enter Tryz.func86,Tryz.ntmps86;go_wp2;refine bodyPost_ret (v:=.tuple #[tkv 0 [] 0,.int .i64 0,.int .i64 (f:Int)]) (by simp[results,Tryz.results86,go_sem,tkv]) rfl ⟨rfl,(Below.refl _ w).alloc yR _⟩
 ·rw[if_neg h];have h1:((m:Int)<(l.length:Int))=False:=yF;clear h;go_enter Tryz.func86,Tryz.ntmps86;go_wp2;refine bodyPost_ret (v:=.tuple #[tkv k l 0,.int .i64 (l.length:Int),.int .i64 0]) (by simp[results,Tryz.results86,go_sem,tkv]) rfl ⟨rfl,(Below.refl _ w).alloc yR _⟩
namespace Lx
theorem skip_true_free:∀ (l:List UInt8),(∀ x ∈ l,x≠10)→skip true l=[]
 | [],_=>rfl
 | c :: l,h=>by
  rw[skip,if_neg (h c (by simp))];exact skip_true_free l (fun x hx=>h x (by simp[hx]))
theorem skip_cut (r:List UInt8):∃ m,((cut1 10 (35 :: r)).1).length=m+1∧m≤r.length∧skip false ((35 :: r).drop (m+1))=skip false (35 :: r):=by
 have h0:skip false (35 :: r)=skip true r:=(by rw[skip,if_pos rfl]);rcases cut1_at 10 (35 :: r) with ⟨h1,h2⟩|⟨k,h1,h2,h3,h4⟩
 ·refine⟨r.length,by rw[h2];rfl,yR,?_⟩;rw[h0,skip_true_free r (fun x hx=>h1 x (by simp[hx]))];rw[List.drop_of_length_le (by simp)];rfl
 ·cases k with
  | zero=>simp at h3
  | succ m =>
   simp only[List.length_cons] at h1;refine⟨m,by rw[h4];simp;omega,by omega,?_⟩;rw[h0];simp only[List.take_succ_cons,List.drop_succ_cons,List.cons_append,List.cons.injEq,true_and] at h2 h3;rw[List.drop_succ_cons];have e:=skip_remark (r.take m) (fun x hx=>h2 x (by simp[hx])) (r.drop (m+1));rw[←h3] at e;rw[e]
   have e2:r.drop m=10 :: r.drop (m+1):=by
    conv=>lhs;rw[h3]
    rw[List.drop_append_of_le_length (by simp;omega)];rw[List.drop_of_length_le (by simp;omega)];rfl
   rw[e2,skip,if_neg (by decide),if_pos (by decide)]
theorem drop_cons {l:List UInt8} {k:Nat} (h:k<l.length):∃ c r,l.drop k=c :: r∧l.getD k 0=c∧r=l.drop (k+1)∧r.length+k+1=l.length:=by
 refine⟨l[k],l.drop (k+1),List.drop_eq_getElem_cons h,by simp[List.getD,List.getElem?_eq_getElem h],rfl,by rw[List.length_drop];omega⟩
end Lx
theorem take_snoc {l:List UInt8} {k:Nat} {c:UInt8} {r:List UInt8} (h:l.drop k=c :: r):l.take (k+1)=l.take k++[c]:=by
 have hk:k<l.length:=by
  have:=congrArg List.length h;rw[List.length_drop,List.length_cons] at this;omega
 have e:=List.drop_eq_getElem_cons hk;rw[h] at e;rw[List.take_succ_eq_append_getElem hk];cases e
 rfl
theorem below_dn {B:Nat} {a w:World} (h:Below B a w) (q:Nat):Below B a (w.drewN q):=⟨h.os,h.tape,h.output,h.size,h.block⟩
theorem passed_any (l:List UInt8) (hl:l.length≤16777216) (w:World) :
  Calls Tryz.prog 56 #[.string ⟨l.toArray⟩] w fun e w'=>e = .returned (.int .i64 ((l.length-(Lx.skip false l).length:Nat):Int))∧Below w.heap.size w w':=by
 have hz:(⟨l.toArray⟩:ByteArray).size=l.length:=rfl;have CU:=yH (fun (s:List UInt8) (hs:s.length≤16777216) wx=>sCut_any s 10 hs wx);obtain⟨L,hL⟩:∃ L,l.length=L:=⟨_,rfl⟩;have HL:=yH hL;rw[hL] at hl hz ⊢;clear hL;go_enter Tryz.func56,Tryz.ntmps56;go_wp2;refine wp_scope_straight ?_;go_wp2;refine wp_label ?_;go_wp2
 go_loopw [3,4,5,6] (fun s3 s4 s5 s6 wr=>∃ k:Nat,k≤L∧s3 = .int .i64 k∧Hid (Lx.skip false (l.drop k)=Lx.skip false l∧Below w.heap.size w wr)) (fun s3 s4 s5 s6 _=>L-(intOf s3).toNat)
 case atStart=>exact⟨0,by omega,rfl,yH ⟨rfl,Below.refl _ _⟩⟩
 case round =>
  obtain⟨k,hk,rfl,HR⟩:=hrel;by_cases hlt:k<L
  ·obtain⟨c,r,hd,hgc,hr,hrl⟩:=Lx.drop_cons (l:=l) (k:=k) (by rw[HL.out];exact hlt);rw[HL.out] at hrl;have hx:∀ h,(⟨l.toArray⟩:ByteArray)[k]'h=c:=fun h=>by rw[byte_at];exact hgc
   have hE:(⟨l.toArray⟩:ByteArray).extract k L=⟨(c :: r).toArray⟩:=(by rw[ba_extract,List.take_of_length_le (by rw[HL.out];exact yR),hd]);have HD:=yH hd;have HRR:=yH hr;have hk1:(k:Int)<(L:Int):=(by omega);clear hgc hd hr;by_cases hb:Lx.blank c=true
   ·have hcs:c=32∨c=9∨c=10∨c=13:=(by simpa [Lx.blank,or_assoc] using hb);have h35:¬ c=35:=fun e=>by rw[e] at hb;cases hb
    have HN:Hid (Lx.skip false (l.drop (k+1))=Lx.skip false l∧Below w.heap.size w wr):=yH ⟨by
     have h:=HR.out.1;rw[HD.out,Lx.skip,if_neg h35,if_pos hb] at h;rw[←HRR.out];exact h,HR.out.2⟩
    clear hb h35 HR HD HRR;rcases hcs with rfl|rfl|rfl|rfl
    all_goals
     go_wp2;go_roundw
     case rel=>exact⟨k+1,by omega,by first|rfl|go_num,HN⟩
     case measure=>simp[intOf];omega
   ·by_cases h35:c=35
    ·subst h35;obtain⟨m,hm1,hm2,hm3⟩:=Lx.skip_cut r;have hcu:=CU.out (35 :: r) (by simp;omega);obtain⟨ct,hct⟩:∃ ct,cut1 10 (35 :: r)=ct:=⟨_,rfl⟩;rw[hct] at hcu hm1;obtain⟨c1,c2,c3⟩:=ct;dsimp only[sv] at hcu hm1;have hz1:(⟨c1.toArray⟩:ByteArray).size=m+1:=hm1
     have HN:Hid (Lx.skip false (l.drop (k+(m+1)))=Lx.skip false l∧Below w.heap.size w wr):=yH ⟨by
      have h:=HR.out.1;rw[HD.out,←hm3,←HD.out,List.drop_drop] at h;exact h,HR.out.2⟩
     have hm4:k+(m+1)≤L:=(by omega);clear hm1 hm2 hm3 hct hb HR HD HRR hrl;go_wp2_with (go_at_call 84;refine(hcu _).mono ?_;rintro e w' ⟨rfl,q,hw⟩;rw[hw])
     go_roundw
     case rel=>exact⟨k+(m+1),hm4,by first|rfl|go_num,yH ⟨HN.out.1,below_dn HN.out.2 q⟩⟩
     case measure=>simp[intOf];omega
    ·have e1:¬ ((c.toNat:Int)=32):=fun e=>hb (by rw[UInt8.toNat_inj.1 (show c.toNat=(32:UInt8).toNat by show c.toNat=32;omega)];rfl);have e2:¬ ((c.toNat:Int)=9):=fun e=>hb (by rw[UInt8.toNat_inj.1 (show c.toNat=(9:UInt8).toNat by show c.toNat=9;omega)];rfl);have e3:¬ ((c.toNat:Int)=10):=fun e=>hb (by rw[UInt8.toNat_inj.1 (show c.toNat=(10:UInt8).toNat by show c.toNat=10;omega)];rfl)
     have e4:¬ ((c.toNat:Int)=13):=fun e=>hb (by rw[UInt8.toNat_inj.1 (show c.toNat=(13:UInt8).toNat by show c.toNat=13;omega)];rfl);have e5:¬ ((c.toNat:Int)=35):=fun e=>h35 (UInt8.toNat_inj.1 (show c.toNat=(35:UInt8).toNat by show c.toNat=35;omega));have f1:((c.toNat:Int)==32)=false:=yB e1;have f2:((c.toNat:Int)==9)=false:=yB e2;have f3:((c.toNat:Int)==10)=false:=yB e3
     have f4:((c.toNat:Int)==13)=false:=yB e4;have f5:((c.toNat:Int)==35)=false:=yB e5
     have HN:Hid (L-(Lx.skip false l).length=k∧Below w.heap.size w wr):=yH ⟨by
      rw[←HR.out.1,HD.out,Lx.skip,if_neg h35,if_neg hb,List.length_cons];omega,HR.out.2⟩
     clear hb h35 HR HD HRR hrl;go_wp2;simp only[Exit.noGoto];go_ret;exact⟨by rw[HN.out.1];rfl,HN.out.2⟩
  ·have hkL:k=L:=(by omega);subst hkL
   have HN:Hid (k-(Lx.skip false l).length=k∧Below w.heap.size w wr):=yH ⟨by
    rw[←HR.out.1,List.drop_of_length_le (by rw[HL.out];exact yR)];rfl,HR.out.2⟩
   clear HR;go_wp2;simp only[Exit.noGoto];go_ret;exact⟨by rw[HN.out.1];rfl,HN.out.2⟩
def nxv (c:UInt8) (l:List UInt8):Value:=match Lx.next c l with
 | .error e=>.tuple #[tkv 0 [] 0,.int .i64 0,.int .i64 (e:Int)]
 | .ok (k,t,r)=>.tuple #[tkv k t 0,.int .i64 ((l.length+1-r.length:Nat):Int),.int .i64 0]
theorem nxv_err {c:UInt8} {l:List UInt8} {e:Nat} (h:Lx.next c l = .error e):nxv c l = .tuple #[tkv 0 [] 0,.int .i64 0,.int .i64 (e:Int)]:=by unfold nxv;rw[h]
theorem nxv_ok {c:UInt8} {l t r:List UInt8} {k:Nat} (h:Lx.next c l = .ok (k,t,r)):nxv c l = .tuple #[tkv k t 0,.int .i64 ((l.length+1-r.length:Nat):Int),.int .i64 0]:=by unfold nxv;rw[h]
structure TX (w wr:World) (l:List UInt8) (k:Nat) (v:Value) (xs:List UInt8):Prop where
 br:BR w.heap.size (w.heap.size+1) w wr v xs
 res:Tk3 wr w.heap.size 0 [] 0
 hk:1≤k
 hl:k≤l.length+1
 few:xs.length<k
 eq:Lx.txt l=(Lx.txt ((34 :: l).drop k)).map fun p=>(xs++p.1,p.2)
theorem text_any (l:List UInt8) (hl:l.length≤1048576) (w:World) :
  Calls Tryz.prog 88 #[.string ⟨(34 :: l).toArray⟩] w fun e w'=>e = .returned (nxv 34 l)∧Below w.heap.size w w':=by
 obtain⟨q,hq⟩:∃ q,q=34 :: l:=⟨_,rfl⟩;obtain⟨L,hL⟩:∃ L,l.length=L:=⟨_,rfl⟩;have hz:(⟨q.toArray⟩:ByteArray).size=L+1:=(by show q.toArray.size=_;rw[hq];simp[hL]);have hql:q.length=L+1:=(by rw[hq,List.length_cons,hL]);have HQ:=yH hq;have HL:=yH hL;have HQL:=yH hql;have ST:=yH (fun c r h wx=>stands_any c r h wx)
 have hst:TX w (w.alloc (.cells #[.int .i64 0,.string ⟨#[]⟩,.int .i64 0] 65)) l 1 (.slice none 0 0) [] :=
  ⟨⟨(Below.refl _ w).alloc yR _,World.ownsRow_nil _ _ _ _,by simp,by omega⟩,Tk3.new w 0 [] 0,by omega,by omega,by simp,by simp⟩
 have HST:=yH hst;rw[←hq];rw[hL] at hl;clear hst hq hL hql;go_enter Tryz.func88,Tryz.ntmps88;go_wp2;go_loopw [5,6,7,8] (fun s5 s6 s7 s8 wr=>∃ (k:Nat) (xs:List UInt8),s6 = .int .i64 k∧Hid (TX w wr l k s5 xs)) (fun s5 s6 s7 s8 _=>L+1-(intOf s6).toNat)
 case atStart=>exact⟨1,[],rfl,HST⟩
 case round =>
  obtain⟨k,xs,rfl,HR⟩:=hrel;clear HST;have hk1:=HR.out.hk;have hk2:=HR.out.hl;rw[HL.out] at hk2;by_cases hlt:k<L+1
  ·obtain⟨c,r,hd,hgc,hr,hrl⟩:=Lx.drop_cons (l:=q) (k:=k) (by rw[HQL.out];exact hlt);rw[HQL.out] at hrl;have hx:∀ h,(⟨q.toArray⟩:ByteArray)[k]'h=c:=fun h=>by rw[byte_at];exact hgc
   have hE:(⟨q.toArray⟩:ByteArray).extract k (L+1)=⟨(c :: r).toArray⟩:=(by rw[ba_extract,List.take_of_length_le (by rw[HQL.out];exact yR),hd]);have HD:=yH hd;have hk3:(k:Int)<(L:Int)+1:=(by omega);clear hgc hd hr;by_cases h34:c=34
   ·
    subst h34
    have hend:Lx.txt l=some (xs,r):=by
     have h:=HR.out.eq;rw[←HQ.out,HD.out] at h;rw[h];unfold Lx.txt;simp
    have hlenxs:=HR.out.few;obtain⟨so,sc,rfl⟩:=own_form HR.out.br.own;have hcv:=bytes_string HR.out.br.rd;unfold sv at hcv;obtain⟨M,hM⟩:∃ M,xs.length=M:=⟨_,rfl⟩;rw[hM] at hcv hlenxs ⊢;have d0:=HR.out.res.c0;have d1:=HR.out.res.c1;have d2:=HR.out.res.c2;have df:=HR.out.res.fr;by_cases hM1:100<M
    ·have hv:nxv 34 l = .tuple #[tkv 0 [] 0,.int .i64 0,.int .i64 (11:Nat)]:=nxv_err (by unfold Lx.next;rw[if_pos rfl,hend];dsimp only;rw[if_pos (by rw[hM];exact hM1)]);have HZ:=yH (HR.out.res.set 0 [] 0);have HB:=yH (below_set3t HR.out.br.below yR (.int .i64 (0:Nat)) (.string ⟨([]:List UInt8).toArray⟩) (.int .i64 (0:Nat)));have hM2:((100:Int)<(M:Int))=True:=yT;have HV:=yH hv
     clear hend hv HR HD hM HQ hcv hM1;go_wp2;refine bodyPost_ret (v:=.tuple #[tkv 0 [] 0,.int .i64 0,.int .i64 (11:Nat)]) (by have d0:=HZ.out.c0;have d1:=HZ.out.c1;have d2:=HZ.out.c2;simp at d0 d1 d2;simp[results,Tryz.results88,go_sem,d0,d1,d2,tkv]) rfl ⟨by rw[HV.out],HB.out⟩
    ·have hv:nxv 34 l = .tuple #[tkv 3 xs 0,.int .i64 ((k+1:Nat):Int),.int .i64 0]:=by
      rw[nxv_ok (k:=3) (t:=xs) (r:=r) (by unfold Lx.next;rw[if_pos rfl,hend];dsimp only;rw[if_neg (by rw[hM];exact hM1)])];rw[HL.out,show L+1-r.length=k+1 by omega]
     have HZ:=yH (HR.out.res.set 3 xs 0);have HB:=yH (below_set3t HR.out.br.below yR (.int .i64 (3:Nat)) (.string ⟨xs.toArray⟩) (.int .i64 (0:Nat)));have hM2:((100:Int)<(M:Int))=False:=yF;have HV:=yH hv;clear hend hv HR HD hM HQ hM1;go_wp2
     refine bodyPost_ret (v:=.tuple #[tkv 3 xs 0,.int .i64 ((k+1:Nat):Int),.int .i64 0]) (by have d0:=HZ.out.c0;have d1:=HZ.out.c1;have d2:=HZ.out.c2;simp at d0 d1 d2;simp[results,Tryz.results88,go_sem,d0,d1,d2,tkv]) rfl ⟨by rw[HV.out],HB.out⟩
   ·have h34b:¬ ((c.toNat:Int)=34):=fun e=>h34 (UInt8.toNat_inj.1 (show c.toNat=(34:UInt8).toNat by show c.toNat=34;omega));have f1:((c.toNat:Int)==34)=false:=yB h34b;have hs:=ST.out c r (by omega);have hstep:=Lx.txt_step c r h34;have hsl:=Lx.stand_len c r;obtain⟨st,hst⟩:∃ st,Lx.stand c r=st:=⟨_,rfl⟩;rw[hst] at hs hstep hsl;obtain⟨b,n⟩:=st;dsimp only at hs hstep hsl;simp only[List.length_cons] at hsl;clear hst
    by_cases hn:n=0
    ·subst hn;rw[if_pos rfl] at hstep
     have hv:nxv 34 l = .tuple #[tkv 0 [] 0,.int .i64 0,.int .i64 (11:Nat)]:=nxv_err (by
      have h:=HR.out.eq;rw[←HQ.out,HD.out,hstep] at h;unfold Lx.next;rw[if_pos rfl,h];rfl)
     have d0:=HR.out.res.c0;have d1:=HR.out.res.c1;have d2:=HR.out.res.c2;have df:=HR.out.res.fr;have HZ:=yH (HR.out.res.set 0 [] 0);have HB:=yH (below_set3t HR.out.br.below yR (.int .i64 (0:Nat)) (.string ⟨([]:List UInt8).toArray⟩) (.int .i64 (0:Nat)));obtain⟨so,sc,rfl⟩:=own_form HR.out.br.own;have HV:=yH hv;clear hstep hv HR HD HQ;go_wp2_with (go_at_call 106;refine(hs _).mono ?_;rintro e w' ⟨rfl,rfl⟩)
     refine bodyPost_ret (v:=.tuple #[tkv 0 [] 0,.int .i64 0,.int .i64 (11:Nat)]) (by have d0:=HZ.out.c0;have d1:=HZ.out.c1;have d2:=HZ.out.c2;simp at d0 d1 d2;simp[results,Tryz.results88,go_sem,d0,d1,d2,tkv]) rfl ⟨by rw[HV.out],HB.out⟩
    ·rw[if_neg hn] at hstep;have hn1:((n:Int)==0)=false:=yB;have hn2:((n:Int)=0)=False:=yF;have hown:=HR.out.br.own;have hfew:=HR.out.few;have hxl:xs.length+1≤16777216:=(by omega);have hrd:=fun wx=>Rd.byte wx b 5;have hB:=HR.out.br.sz;have HSTEP:=yH hstep;clear hstep
     go_wp2_with (first
      | (go_at_call 106;refine(hs _).mono ?_;rintro e w' ⟨rfl,rfl⟩)
      | (at_builtin;refine append_u8s rfl (.tmp 29) (.tmp 31) rfl rfl (hown.alloc _) ([b].map bv) (hrd _) (bv_cell _) ?ca ?cb ?_))
     case ca=>simp;omega
     case cb=>simp;omega
     intro v' w2 hown2 hg2
     have HN:Hid (TX w w2 l (k+n) v' (xs++[b])):=yH ⟨HR.out.br.push hown2 hg2,HR.out.res.same (HR.out.br.old hg2 _ (by omega)),by omega,by rw[HL.out];omega,by simp;omega,by
      have h:=HR.out.eq;rw[←HQ.out,HD.out,HSTEP.out,←HD.out,List.drop_drop] at h;rw[h,←HQ.out];cases Lx.txt (q.drop (k+n)) <;> simp⟩
     clear hown2 hg2 hown hrd HR HSTEP;go_wp2;go_roundw
     case rel=>exact⟨k+n,xs++[b],by first|rfl|go_num,HN⟩
     case measure=>simp[intOf];omega
  ·have hkL:k=L+1:=(by omega);subst hkL
   have hv:nxv 34 l = .tuple #[tkv 0 [] 0,.int .i64 0,.int .i64 (11:Nat)]:=nxv_err (by
    have h:=HR.out.eq;rw[List.drop_of_length_le (by rw[List.length_cons,HL.out];exact yR)] at h;unfold Lx.next;rw[if_pos rfl,h];rfl)
   have d0:=HR.out.res.c0;have d1:=HR.out.res.c1;have d2:=HR.out.res.c2;have df:=HR.out.res.fr;have HZ:=yH (HR.out.res.set 0 [] 0);have HB:=yH (below_set3t HR.out.br.below yR (.int .i64 (0:Nat)) (.string ⟨([]:List UInt8).toArray⟩) (.int .i64 (0:Nat)));obtain⟨so,sc,rfl⟩:=own_form HR.out.br.own;have HV:=yH hv;clear hv HR HQ;go_wp2
   refine bodyPost_ret (v:=.tuple #[tkv 0 [] 0,.int .i64 0,.int .i64 (11:Nat)]) (by have d0:=HZ.out.c0;have d1:=HZ.out.c1;have d2:=HZ.out.c2;simp at d0 d1 d2;simp[results,Tryz.results88,go_sem,d0,d1,d2,tkv]) rfl ⟨by rw[HV.out],HB.out⟩
def lettersB:ByteArray:=⟨#[97,98,99,100,101,102,103,104,105,106,107,108,109,110,111,112,113,114,115,116,117,118,119,120,121,122]⟩
def digitsB:ByteArray:=⟨#[48,49,50,51,52,53,54,55,56,57]⟩
def signsB:ByteArray:=⟨#[123,125,59,61]⟩
def namesB:ByteArray:=⟨#[97,98,99,100,101,102,103,104,105,106,107,108,109,110,111,112,113,114,115,116,117,118,119,120,121,122,48,49,50,51,52,53,54,55,56,57,95]⟩
theorem all256 {p q:UInt8→Bool} (h:∀ b:Fin 256,p (UInt8.ofNat b.val)=q (UInt8.ofNat b.val)) (b:UInt8):p b=q b:=by
 have:=h ⟨b.toNat,UInt8.toNat_lt b⟩;simpa using this
theorem letters_has (c:UInt8):decide (0≤Lib.indexByte lettersB.data.toList c)=Lx.small c:=all256 (p:=fun c=>decide (0≤Lib.indexByte lettersB.data.toList c)) (q:=Lx.small) (by decide +kernel) c
theorem digits_has (c:UInt8):decide (0≤Lib.indexByte digitsB.data.toList c)=Lx.digit c:=all256 (p:=fun c=>decide (0≤Lib.indexByte digitsB.data.toList c)) (q:=Lx.digit) (by decide +kernel) c
theorem signs_has (c:UInt8):decide (0≤Lib.indexByte signsB.data.toList c)=Lx.sign c:=all256 (p:=fun c=>decide (0≤Lib.indexByte signsB.data.toList c)) (q:=Lx.sign) (by decide +kernel) c
theorem names_has:namesB.data.toList.contains=Lx.inName:=funext (all256 (by decide +kernel))
theorem digits_all:digitsB.data.toList.contains=Lx.digit:=funext (all256 (by decide +kernel))
theorem names_ascii:∀ (j:Nat) b,namesB.data.toList[j]?=some b→b.toNat<128:=fun j b h=>by
 have h2:∀ b ∈ namesB.data.toList,b.toNat<128:=(by decide);exact h2 b (List.mem_of_getElem? h)
theorem digits_ascii:∀ (j:Nat) b,digitsB.data.toList[j]?=some b→b.toNat<128:=fun j b h=>by
 have h2:∀ b ∈ digitsB.data.toList,b.toNat<128:=(by decide);exact h2 b (List.mem_of_getElem? h)
theorem has_letters (c:UInt8) (w:World):Calls Tryz.prog 85 #[.string ⟨#[97,98,99,100,101,102,103,104,105,106,107,108,109,110,111,112,113,114,115,116,117,118,119,120,121,122]⟩,.string ⟨#[c]⟩] w fun e w'=>e = .returned (.bool (Lx.small c))∧w'=w:=by
 have h:=Tryz.strings_Contains_one lettersB c w;rw[letters_has] at h;exact h
theorem has_digits (c:UInt8) (w:World):Calls Tryz.prog 85 #[.string ⟨#[48,49,50,51,52,53,54,55,56,57]⟩,.string ⟨#[c]⟩] w fun e w'=>e = .returned (.bool (Lx.digit c))∧w'=w:=by
 have h:=Tryz.strings_Contains_one digitsB c w;rw[digits_has] at h;exact h
theorem has_signs (c:UInt8) (w:World):Calls Tryz.prog 85 #[.string ⟨#[123,125,59,61]⟩,.string ⟨#[c]⟩] w fun e w'=>e = .returned (.bool (Lx.sign c))∧w'=w:=by
 have h:=Tryz.strings_Contains_one signsB c w;rw[signs_has] at h;exact h
theorem run_names (l:List UInt8) (hl:l.length≤16777216) (w:World):Calls Tryz.prog 87 #[.string ⟨l.toArray⟩,.string ⟨#[97,98,99,100,101,102,103,104,105,106,107,108,109,110,111,112,113,114,115,116,117,118,119,120,121,122,48,49,50,51,52,53,54,55,56,57,95]⟩] w fun e w'=>e = .returned (.string ⟨(l.takeWhile Lx.inName).toArray⟩)∧Below w.heap.size w w':=by
 have h:=run_any l hl namesB (by decide) (by decide) names_ascii w;rw[names_has] at h;exact h
theorem run_digits (l:List UInt8) (hl:l.length≤16777216) (w:World):Calls Tryz.prog 87 #[.string ⟨l.toArray⟩,.string ⟨#[48,49,50,51,52,53,54,55,56,57]⟩] w fun e w'=>e = .returned (.string ⟨(l.takeWhile Lx.digit).toArray⟩)∧Below w.heap.size w w':=by
 have h:=run_any l hl digitsB (by decide) (by decide) digits_ascii w;rw[digits_all] at h;exact h
theorem nxv_form (c:UInt8) (l:List UInt8):∃ (k:Nat) (t:List UInt8) (n e:Nat),nxv c l = .tuple #[.agg #[.int .i64 (k:Int),.string ⟨t.toArray⟩,.int .i64 (0:Nat)],.int .i64 (n:Int),.int .i64 (e:Int)]:=by
 unfold nxv;cases Lx.next c l with
 | error e=>exact⟨0,[],0,e,rfl⟩
 | ok x=>obtain⟨k,t,r⟩:=x;exact⟨k,t,_,0,rfl⟩
theorem bounded_form (k:Nat) (l:List UInt8) (m f:Nat):∃ (k':Nat) (t:List UInt8) (n e:Nat),(if m<l.length then Value.tuple #[tkv 0 [] 0,.int .i64 0,.int .i64 (f:Int)] else .tuple #[tkv k l 0,.int .i64 (l.length:Int),.int .i64 0]) = .tuple #[.agg #[.int .i64 (k':Int),.string ⟨t.toArray⟩,.int .i64 (0:Nat)],.int .i64 (n:Int),.int .i64 (e:Int)]:=by
 by_cases h:m<l.length
 ·rw[if_pos h];exact⟨0,[],0,f,rfl⟩
 ·rw[if_neg h];exact⟨k,l,_,0,rfl⟩
theorem nxv_name {c:UInt8} {l:List UInt8} (h:Lx.small c=true):nxv c l=if 12<((c :: l).takeWhile Lx.inName).length then .tuple #[tkv 0 [] 0,.int .i64 0,.int .i64 (13:Nat)] else .tuple #[tkv 1 ((c :: l).takeWhile Lx.inName) 0,.int .i64 (((c :: l).takeWhile Lx.inName).length:Int),.int .i64 0]:=by
 have h34:¬ c=34:=fun e=>by rw[e] at h;cases h
 have hl:=take_drop_len Lx.inName (c :: l);simp only[List.length_cons] at hl;by_cases hb:12<((c :: l).takeWhile Lx.inName).length
 ·rw[if_pos hb,nxv_err (e:=13) (by unfold Lx.next;rw[if_neg h34,if_pos h,if_pos hb])]
 ·rw[if_neg hb,nxv_ok (k:=1) (t:=(c :: l).takeWhile Lx.inName) (r:=(c :: l).dropWhile Lx.inName) (by unfold Lx.next;rw[if_neg h34,if_pos h,if_neg hb]),hl,Nat.add_sub_cancel]
theorem nxv_int {c:UInt8} {l:List UInt8} (h:Lx.digit c=true):nxv c l=if 9<((c :: l).takeWhile Lx.digit).length then .tuple #[tkv 0 [] 0,.int .i64 0,.int .i64 (12:Nat)] else .tuple #[tkv 2 ((c :: l).takeWhile Lx.digit) 0,.int .i64 (((c :: l).takeWhile Lx.digit).length:Int),.int .i64 0]:=by
 have h34:¬ c=34:=fun e=>by rw[e] at h;cases h
 have hs:¬ Lx.small c=true:=fun e=>by simp[Lx.small,Lx.digit] at e h;omega
 have hl:=take_drop_len Lx.digit (c :: l);simp only[List.length_cons] at hl;by_cases hb:9<((c :: l).takeWhile Lx.digit).length
 ·rw[if_pos hb,nxv_err (e:=12) (by unfold Lx.next;rw[if_neg h34,if_neg hs,if_pos h,if_pos hb])]
 ·rw[if_neg hb,nxv_ok (k:=2) (t:=(c :: l).takeWhile Lx.digit) (r:=(c :: l).dropWhile Lx.digit) (by unfold Lx.next;rw[if_neg h34,if_neg hs,if_pos h,if_neg hb]),hl,Nat.add_sub_cancel]
theorem first_name (c:UInt8) (l:List UInt8) (hl:l.length≤1048576) (hc:Lx.small c=true) (w:World) :
  Calls Tryz.prog 57 #[.string ⟨(c :: l).toArray⟩] w fun e w'=>e = .returned (nxv c l)∧Below w.heap.size w w':=by
 obtain⟨q,hq⟩:∃ q,q=c :: l:=⟨_,rfl⟩;have hz:(⟨q.toArray⟩:ByteArray).size=l.length+1:=(by show q.toArray.size=_;rw[hq];simp);have hE:(⟨q.toArray⟩:ByteArray).extract 0 1=⟨#[c]⟩:=(by rw[ba_extract,hq];simp);have hp:(0:Int)≤(l.length:Int):=(by omega);have hp1:(1:Int)≤(l.length:Int)+1:=(by omega);have C1:=fun wx=>has_letters c wx;have C2:=fun wx=>has_digits c wx;have C3:=fun wx=>has_signs c wx;rw[hc] at C1
 have hv:=nxv_name hc (l:=l);have hr:=fun wx=>run_names (c :: l) (by simp;omega) wx;have hT:((c :: l).takeWhile Lx.inName).length≤l.length+1:=(by have:=take_drop_len Lx.inName (c :: l);simp only[List.length_cons] at this;omega);rw[←hq] at hr hv hT ⊢;generalize q.takeWhile Lx.inName=R at *;have hbd:=fun wx=>bounded_any 1 R (by omega) 12 13 wx;obtain⟨k,t,n,e,hf⟩:=bounded_form 1 R 12 13;rw[hf] at hbd hv;have HV:=yH hv;clear hq hc hv hf C3;clear C2
 go_enter Tryz.func57,Tryz.ntmps57
 go_wp2_with (first
  | (go_at_call 85;refine(C1 _).mono ?_;rintro e w' ⟨rfl,hw⟩;rw[hw];clear hw C1)
  | (go_at_call 87;refine(hr _).mono ?_;rintro e w1 ⟨rfl,hb1⟩;clear hr)
  | (go_at_call 86;refine(hbd _).mono ?_;rintro e w2 ⟨rfl,hb2⟩;have hres:=((Tk3.new w 0 [] 0).below hb1).below hb2;have hbl:=((Below.refl _ w).alloc yR _).trans ((hb1.trans (hb2.mono hb1.size)).mono (by simp));have d0:=hres.c0;have d1:=hres.c1;have d2:=hres.c2;have df:=hres.fr;clear hbd))
 have HZ:=yH (hres.set k t 0);have HB:=yH (below_set3t hbl yR (.int .i64 (k:Int)) (.string ⟨t.toArray⟩) (.int .i64 (0:Nat)));clear hres hbl;refine bodyPost_ret (v:=.tuple #[.agg #[.int .i64 (k:Int),.string ⟨t.toArray⟩,.int .i64 (0:Nat)],.int .i64 (n:Int),.int .i64 (e:Int)]) (by have d0:=HZ.out.c0;have d1:=HZ.out.c1;have d2:=HZ.out.c2;simp at d0 d1 d2;simp[results,Tryz.results57,go_sem,d0,d1,d2]) rfl ⟨by rw[HV.out],HB.out⟩
theorem first_int (c:UInt8) (l:List UInt8) (hl:l.length≤1048576) (hc:Lx.digit c=true) (w:World) :
  Calls Tryz.prog 57 #[.string ⟨(c :: l).toArray⟩] w fun e w'=>e = .returned (nxv c l)∧Below w.heap.size w w':=by
 obtain⟨q,hq⟩:∃ q,q=c :: l:=⟨_,rfl⟩;have hz:(⟨q.toArray⟩:ByteArray).size=l.length+1:=(by show q.toArray.size=_;rw[hq];simp);have hE:(⟨q.toArray⟩:ByteArray).extract 0 1=⟨#[c]⟩:=(by rw[ba_extract,hq];simp);have hp:(0:Int)≤(l.length:Int):=(by omega);have hp1:(1:Int)≤(l.length:Int)+1:=(by omega);have C1:=fun wx=>has_letters c wx;have C2:=fun wx=>has_digits c wx;have C3:=fun wx=>has_signs c wx;rw[hc] at C2
 rw[show Lx.small c=false by rw[Bool.eq_false_iff];intro e;simp[Lx.small,Lx.digit] at e hc;omega] at C1;have hv:=nxv_int hc (l:=l);have hr:=fun wx=>run_digits (c :: l) (by simp;omega) wx;have hT:((c :: l).takeWhile Lx.digit).length≤l.length+1:=(by have:=take_drop_len Lx.digit (c :: l);simp only[List.length_cons] at this;omega);rw[←hq] at hr hv hT ⊢;generalize q.takeWhile Lx.digit=R at *;have hbd:=fun wx=>bounded_any 2 R (by omega) 9 12 wx
 obtain⟨k,t,n,e,hf⟩:=bounded_form 2 R 9 12;rw[hf] at hbd hv;have HV:=yH hv;clear hq hc hv hf C3;go_enter Tryz.func57,Tryz.ntmps57
 go_wp2_with (first
  | (go_at_call 85;refine(C1 _).mono ?_;rintro e w' ⟨rfl,hw⟩;rw[hw];clear hw C1)
  | (go_at_call 85;refine(C2 _).mono ?_;rintro e w' ⟨rfl,hw⟩;rw[hw];clear hw C2)
  | (go_at_call 87;refine(hr _).mono ?_;rintro e w1 ⟨rfl,hb1⟩;clear hr)
  | (go_at_call 86;refine(hbd _).mono ?_;rintro e w2 ⟨rfl,hb2⟩;have hres:=((Tk3.new w 0 [] 0).below hb1).below hb2;have hbl:=((Below.refl _ w).alloc yR _).trans ((hb1.trans (hb2.mono hb1.size)).mono (by simp));have d0:=hres.c0;have d1:=hres.c1;have d2:=hres.c2;have df:=hres.fr;clear hbd))
 have HZ:=yH (hres.set k t 0);have HB:=yH (below_set3t hbl yR (.int .i64 (k:Int)) (.string ⟨t.toArray⟩) (.int .i64 (0:Nat)));clear hres hbl;refine bodyPost_ret (v:=.tuple #[.agg #[.int .i64 (k:Int),.string ⟨t.toArray⟩,.int .i64 (0:Nat)],.int .i64 (n:Int),.int .i64 (e:Int)]) (by have d0:=HZ.out.c0;have d1:=HZ.out.c1;have d2:=HZ.out.c2;simp at d0 d1 d2;simp[results,Tryz.results57,go_sem,d0,d1,d2]) rfl ⟨by rw[HV.out],HB.out⟩
theorem first_sign (c:UInt8) (l:List UInt8) (hl:l.length≤1048576) (hc:Lx.sign c=true) (w:World) :
  Calls Tryz.prog 57 #[.string ⟨(c :: l).toArray⟩] w fun e w'=>e = .returned (nxv c l)∧Below w.heap.size w w':=by
 obtain⟨q,hq⟩:∃ q,q=c :: l:=⟨_,rfl⟩;have hz:(⟨q.toArray⟩:ByteArray).size=l.length+1:=(by show q.toArray.size=_;rw[hq];simp);have hE:(⟨q.toArray⟩:ByteArray).extract 0 1=⟨#[c]⟩:=(by rw[ba_extract,hq];simp);have hp:(0:Int)≤(l.length:Int):=(by omega);have hp1:(1:Int)≤(l.length:Int)+1:=(by omega);have C1:=fun wx=>has_letters c wx;have C2:=fun wx=>has_digits c wx;have C3:=fun wx=>has_signs c wx;rw[hc] at C3
 have c4:c=123∨c=125∨c=59∨c=61:=(by simpa [Lx.sign,or_assoc] using hc);rw[show Lx.small c=false by rcases c4 with rfl|rfl|rfl|rfl <;> rfl] at C1
 rw[show Lx.digit c=false by rcases c4 with rfl|rfl|rfl|rfl <;> rfl] at C2
 have hv:nxv c l = .tuple #[.agg #[.int .i64 (4:Nat),.string ⟨[c].toArray⟩,.int .i64 (0:Nat)],.int .i64 (1:Nat),.int .i64 (0:Nat)]:=by
  rw[nxv_ok (k:=4) (t:=[c]) (r:=l) (by rcases c4 with rfl|rfl|rfl|rfl <;> rfl),show l.length+1-l.length=1 by omega];rfl
 have HV:=yH hv;have hres:=Tk3.new w 0 [] 0;have hbl:=(Below.refl _ w).alloc yR (.cells #[.int .i64 0,.string ⟨#[]⟩,.int .i64 0] 65);have d0:=hres.c0;have d1:=hres.c1;have d2:=hres.c2;have df:=hres.fr;have HZ:=yH (hres.set 4 [c] 0);have HB:=yH (below_set3t hbl yR (.int .i64 (4:Nat)) (.string ⟨[c].toArray⟩) (.int .i64 (0:Nat)));obtain⟨k,hk⟩:∃ k:Nat,k=4:=⟨_,rfl⟩;rw[←hq];clear hq hc hv c4
 go_enter Tryz.func57,Tryz.ntmps57
 go_wp2_with (first
  | (go_at_call 85;refine(C1 _).mono ?_;rintro e w' ⟨rfl,hw⟩;rw[hw];clear hw C1)
  | (go_at_call 85;refine(C2 _).mono ?_;rintro e w' ⟨rfl,hw⟩;rw[hw];clear hw C2)
  | (go_at_call 85;refine(C3 _).mono ?_;rintro e w' ⟨rfl,hw⟩;rw[hw];clear hw C3))
 refine bodyPost_ret (v:=.tuple #[.agg #[.int .i64 (4:Nat),.string ⟨[c].toArray⟩,.int .i64 (0:Nat)],.int .i64 (1:Nat),.int .i64 (0:Nat)]) (by simp[results,Tryz.results57,go_sem]) rfl ⟨by rw[HV.out],(Below.refl _ w).alloc yR _⟩
theorem first_text (c:UInt8) (l:List UInt8) (hl:l.length≤1048576) (hc:c=34) (w:World) :
  Calls Tryz.prog 57 #[.string ⟨(c :: l).toArray⟩] w fun e w'=>e = .returned (nxv c l)∧Below w.heap.size w w':=by
 obtain⟨q,hq⟩:∃ q,q=c :: l:=⟨_,rfl⟩;have hz:(⟨q.toArray⟩:ByteArray).size=l.length+1:=(by show q.toArray.size=_;rw[hq];simp);have hE:(⟨q.toArray⟩:ByteArray).extract 0 1=⟨#[c]⟩:=(by rw[ba_extract,hq];simp);have hp:(0:Int)≤(l.length:Int):=(by omega);have hp1:(1:Int)≤(l.length:Int)+1:=(by omega);have C1:=fun wx=>has_letters c wx;have C2:=fun wx=>has_digits c wx;have C3:=fun wx=>has_signs c wx;subst hc
 rw[show Lx.small 34=false from rfl] at C1;rw[show Lx.digit 34=false from rfl] at C2;rw[show Lx.sign 34=false from rfl] at C3;have ht:=fun wx=>text_any l hl wx;obtain⟨k,t,n,e,hv⟩:=nxv_form 34 l;rw[hv] at ht;have HV:=yH hv;rw[←hq] at ht ⊢;clear hq hv;go_enter Tryz.func57,Tryz.ntmps57
 go_wp2_with (first
  | (go_at_call 85;refine(C1 _).mono ?_;rintro e w' ⟨rfl,hw⟩;rw[hw];clear hw C1)
  | (go_at_call 85;refine(C2 _).mono ?_;rintro e w' ⟨rfl,hw⟩;rw[hw];clear hw C2)
  | (go_at_call 85;refine(C3 _).mono ?_;rintro e w' ⟨rfl,hw⟩;rw[hw];clear hw C3)
  | (go_at_call 88;refine(ht _).mono ?_;rintro e w1 ⟨rfl,hb1⟩;have hres:=((Tk3.new w 0 [] 0).below hb1);have hbl:=((Below.refl _ w).alloc yR _).trans (hb1.mono (by simp));have d0:=hres.c0;have d1:=hres.c1;have d2:=hres.c2;have df:=hres.fr;clear ht))
 have HZ:=yH (hres.set k t 0);have HB:=yH (below_set3t hbl yR (.int .i64 (k:Int)) (.string ⟨t.toArray⟩) (.int .i64 (0:Nat)));clear hres hbl;refine bodyPost_ret (v:=.tuple #[.agg #[.int .i64 (k:Int),.string ⟨t.toArray⟩,.int .i64 (0:Nat)],.int .i64 (n:Int),.int .i64 (e:Int)]) (by have d0:=HZ.out.c0;have d1:=HZ.out.c1;have d2:=HZ.out.c2;simp at d0 d1 d2;simp[results,Tryz.results57,go_sem,d0,d1,d2]) rfl ⟨by rw[HV.out],HB.out⟩
theorem first_none (c:UInt8) (l:List UInt8) (hl:l.length≤1048576) (hc:Lx.small c=false∧Lx.digit c=false∧Lx.sign c=false ∧ ¬ c=34) (w:World) :
  Calls Tryz.prog 57 #[.string ⟨(c :: l).toArray⟩] w fun e w'=>e = .returned (nxv c l)∧Below w.heap.size w w':=by
 obtain⟨q,hq⟩:∃ q,q=c :: l:=⟨_,rfl⟩;have hz:(⟨q.toArray⟩:ByteArray).size=l.length+1:=(by show q.toArray.size=_;rw[hq];simp);have hE:(⟨q.toArray⟩:ByteArray).extract 0 1=⟨#[c]⟩:=(by rw[ba_extract,hq];simp);have hp:(0:Int)≤(l.length:Int):=(by omega);have hp1:(1:Int)≤(l.length:Int)+1:=(by omega);have C1:=fun wx=>has_letters c wx;have C2:=fun wx=>has_digits c wx;have C3:=fun wx=>has_signs c wx;obtain⟨h1,h2,h3,h4⟩:=hc
 rw[h1] at C1;rw[h2] at C2;rw[h3] at C3
 have hv:nxv c l = .tuple #[.agg #[.int .i64 (0:Nat),.string ⟨#[]⟩,.int .i64 (0:Nat)],.int .i64 (0:Nat),.int .i64 (10:Nat)]:=by
  rw[nxv_err (e:=10) (by unfold Lx.next;rw[if_neg h4,if_neg (by simp[h1]),if_neg (by simp[h2]),if_neg (by simp[h3])])];rfl
 have HV:=yH hv;have f1:((c.toNat:Int)==34)=false:=yB fun e=>h4 (UInt8.toNat_inj.1 (show c.toNat=(34:UInt8).toNat by show c.toNat=34;omega));have hx:∀ h,(⟨#[c]⟩:ByteArray)[0]'h=c:=fun h=>rfl;rw[←hq];clear hq h1 h2 h3 h4 hv;go_enter Tryz.func57,Tryz.ntmps57
 go_wp2_with (first
  | (go_at_call 85;refine(C1 _).mono ?_;rintro e w' ⟨rfl,hw⟩;rw[hw];clear hw C1)
  | (go_at_call 85;refine(C2 _).mono ?_;rintro e w' ⟨rfl,hw⟩;rw[hw];clear hw C2)
  | (go_at_call 85;refine(C3 _).mono ?_;rintro e w' ⟨rfl,hw⟩;rw[hw];clear hw C3))
 refine bodyPost_ret (v:=.tuple #[.agg #[.int .i64 (0:Nat),.string ⟨#[]⟩,.int .i64 (0:Nat)],.int .i64 (0:Nat),.int .i64 (10:Nat)]) (by simp[results,Tryz.results57,go_sem]) rfl ⟨by rw[HV.out],(Below.refl _ w).alloc yR _⟩
theorem first_any (c:UInt8) (l:List UInt8) (hl:l.length≤1048576) (w:World) :
  Calls Tryz.prog 57 #[.string ⟨(c :: l).toArray⟩] w fun e w'=>e = .returned (nxv c l)∧Below w.heap.size w w':=by
 by_cases h1:Lx.small c=true
 ·exact first_name c l hl h1 w
 by_cases h2:Lx.digit c=true
 ·exact first_int c l hl h2 w
 by_cases h3:Lx.sign c=true
 ·exact first_sign c l hl h3 w
 by_cases h4:c=34
 ·exact first_text c l hl h4 w
 exact first_none c l hl ⟨by simpa using h1,by simpa using h2,by simpa using h3,h4⟩ w
theorem tok_info:(Tryz.prog.info? 65).map (fun i=>(i.zero,i.size,i.bytes))=some (some (.agg #[.int .i64 0,.string ⟨#[]⟩,.int .i64 0]),3,32):=by kernel_rfl
theorem append_tok {ops:Array Oper} {rest:List Oper} {o:Oper} {a:Act} {Q:Exit→Act→World→Prop} {w:World} {B b:Nat} {v:Value} {ts:List Lx.Tok} (t:Lx.Tok)
  (hgd:o.guard=none) (s x:Operand) (ho:o.op = .call { callee:=.builtin .append,args:=#[s,x],argTypes:=#[55,55] })
  (hs:a.eval s=v) (h:TO w B 65 v ts) (hx:a.eval x = .slice (some ⟨b,0,none⟩) 1 1) (hb:w.heap[b]?=some (.cells (tokCells t).toArray 65 (0,0)))
  (hn:ts.length≤1048576) (hB:B≤w.heap.size)
  (h':∀ g cap w',TO w' B 65 (.slice (some ⟨g,0,none⟩) (ts.length+1) cap) (ts++[t])→w.grownBy w' v.ownBlock→wpList Tryz.prog ops Q rest (a.put o.dst (.slice (some ⟨g,0,none⟩) (ts.length+1) cap)) w'):wpList Tryz.prog ops Q (o :: rest) a w:=by
 obtain⟨i0,hi,hz0,hz1,hz2⟩:=info_parts tok_info;exact wpList_plain hgd fun _ hK=>wp_append_tok t Tryz.underlying55 hi hz0 hz1 hz2 rfl (by decide) s x ho hs h hx hb hn hB fun g cap w' h2 h3 _=>hK _ _ (h' g cap w' h2 h3)
structure AS (w wr:World) (l:List UInt8) (k:Nat) (v:Value) (ts:List Lx.Tok):Prop where
 below:Below w.heap.size w wr
 row:TO wr w.heap.size 65 v ts
 hk:k≤l.length
 few:ts.length≤400
 fix:Lx.skip false (l.drop k)=l.drop k
 eq:Lx.go l.length l.length 0 (Lx.skip false l)=Lx.mapE ts (Lx.go l.length l.length ts.length (l.drop k))
def AllP (r:Except (Nat × Nat) (List Lx.Tok)) (w:World) (e:Ending) (w':World):Prop:=Below w.heap.size w w'∧match r with
 | .error (p,f)=>e = .returned (.tuple #[.slice none 0 0,.int .i64 (p:Int),.int .i64 (f:Int)])
 | .ok ts=>∃ v,e = .returned (.tuple #[v,.int .i64 0,.int .i64 0])∧TO w' w.heap.size 65 v ts
theorem all_any (l:List UInt8) (hl:l.length≤1048576) (w:World) :
  Calls Tryz.prog 35 #[.string ⟨l.toArray⟩] w fun e w'=>AllP (Lx.all l) w e w':=by
 have hz:(⟨l.toArray⟩:ByteArray).size=l.length:=rfl;have PA:=yH (fun s h wx=>passed_any s h wx);have FI:=yH (fun c s h wx=>first_any c s h wx);obtain⟨L,hL⟩:∃ L,l.length=L:=⟨_,rfl⟩;by_cases hbig:2000<L
 ·have hall:Lx.all l = .error (0,4):=(by unfold Lx.all;rw[hL,if_pos hbig]);have hb1:((2000:Int)<(L:Int))=True:=yT;rw[hL] at hz;rw[hall];show Calls _ _ _ _ fun e w'=>Below w.heap.size w w'∧e = .returned (.tuple #[.slice none 0 0,.int .i64 0,.int .i64 4])
  clear hall hbig hL hl;go_enter Tryz.func35,Tryz.ntmps35;go_wp2;refine bodyPost_ret (v:=.tuple #[.slice none 0 0,.int .i64 0,.int .i64 4]) (by simp[results,Tryz.results35,go_sem]) rfl ⟨Below.refl _ _,rfl⟩
 ·have hb1:((2000:Int)<(L:Int))=False:=yF;have hL2:L≤2000:=(by omega);have hall:Lx.all l=Lx.go l.length l.length 0 (Lx.skip false l):=(by unfold Lx.all;rw[if_neg (by rw[hL];exact hbig)]);have hsl:=Lx.skip_len false l;have hp:=PA.out l (by omega) w;obtain⟨k0,hk0⟩:∃ k0,l.length-(Lx.skip false l).length=k0:=⟨_,rfl⟩;have hd0:l.drop k0=Lx.skip false l:=by rw[←hk0];exact Lx.suf_drop (Lx.skip_suf false l)
  have hst:∀ w',Below w.heap.size w w'→AS w w' l k0 (.slice none 0 0) []:=fun w' hb=>⟨hb,TO.nil _ _ _,by omega,by simp,by rw[hd0];exact Lx.skip_skip false l,by rw[Lx.mapE_nil,hd0];rfl⟩;rw[hk0] at hp;have HST:=yH hst;have HALL:=yH hall;have HL:=yH hL;have hk0L:k0≤L:=(by omega);rw[hL] at hz;clear hst hk0 hd0 hsl hall hL hl hbig;go_enter Tryz.func35,Tryz.ntmps35
  go_wp2_with (go_at_call 56;refine hp.mono ?_;rintro e w1 ⟨rfl,hb1⟩;have HS1:=yH (HST.out w1 hb1);clear hb1)
  clear hp HST;go_loopw [5,6,7,8,9] (fun s5 s6 s7 s8 s9 wr=>∃ (k:Nat) (ts:List Lx.Tok),s6 = .int .i64 k∧Hid (AS w wr l k s5 ts)) (fun s5 s6 s7 s8 s9 _=>L-(intOf s6).toNat)
  case atStart=>exact⟨k0,[],rfl,HS1⟩
  case round =>
   obtain⟨k,ts,rfl,HR⟩:=hrel;clear HS1;have hk2:=HR.out.hk;rw[HL.out] at hk2;have hown:=HR.out.row;obtain⟨so,sc,hform,hcells⟩:=hown.form;subst hform;clear hcells;obtain⟨M,hM⟩:∃ M,ts.length=M:=⟨_,rfl⟩;have hfew:=HR.out.few;have HM:=yH hM;by_cases hlt:k<L
   ·obtain⟨c,r,hd,hgc,hr,hrl⟩:=Lx.drop_cons (l:=l) (k:=k) (by rw[HL.out];exact hlt);rw[HL.out] at hrl;have hE:(⟨l.toArray⟩:ByteArray).extract k L=⟨(c :: r).toArray⟩:=(by rw[ba_extract,List.take_of_length_le (by rw[HL.out];exact yR),hd]);have hk3:(k:Int)<(L:Int):=(by omega);have hf:=FI.out c r (by omega);have heq:=HR.out.eq;rw[hd,HL.out,Lx.go_step L _ c r (by omega),hM] at heq;rw[hM] at hfew hown ⊢;have HD:=yH hd;clear hgc hr hd
    cases hn:Lx.next c r with
    | error e =>
     have he:=Lx.next_err0 hn;have hf2:=fun wx=>hf wx;rw[nxv_err hn] at hf2;unfold tkv at hf2;have HV:=yH (show Lx.all l = .error (k,e) by rw[HALL.out,HL.out,heq,hn];show Except.error (L-(r.length+1),e)=_;rw[show L-(r.length+1)=k by omega]);have he1:((e:Int)==0)=false:=yB;have he2:((e:Int)=0)=False:=yF;have HB:=yH HR.out.below;have hsz:=HB.out.size;clear hf heq hn HR hown HD
     go_wp2_with (go_at_call 57;refine(hf2 _).mono ?_;rintro e w1 ⟨rfl,hb1⟩)
     refine bodyPost_ret (v:=.tuple #[.slice none 0 0,.int .i64 (k:Int),.int .i64 (e:Int)]) (by simp[results,Tryz.results35,go_sem]) rfl ?_;rw[HV.out];exact⟨(HB.out.trans (hb1.mono hsz)).alloc (Nat.le_trans hsz hb1.size) _,rfl⟩
    | ok x =>
     obtain⟨kd,t,rest⟩:=x;have hsuf:=Lx.next_suf hn;have hsm:=Lx.next_small hn;have hf2:=fun wx=>hf wx;rw[nxv_ok hn] at hf2;unfold tkv at hf2;rw[hn] at heq;dsimp only at heq;obtain⟨n,hnn⟩:∃ n,r.length+1-rest.length=n:=⟨_,rfl⟩;rw[hnn] at hf2;simp only[List.length_cons] at hsm;by_cases h4:400≤M
     ·obtain rfl:M=400:=(by omega);rw[if_pos h4] at heq;have HV:=yH (show Lx.all l = .error (0,4) by rw[HALL.out,HL.out,heq];rfl);have HB:=yH HR.out.below;have hsz:=HB.out.size;clear hf heq hn HR hown HD hsuf h4;go_wp2_with (go_at_call 57;refine(hf2 _).mono ?_;rintro e w1 ⟨rfl,hb1⟩)
      refine bodyPost_ret (v:=.tuple #[.slice none 0 0,.int .i64 0,.int .i64 4]) (by simp[results,Tryz.results35,go_sem]) rfl ?_;rw[HV.out];exact⟨(HB.out.trans (hb1.mono hsz)).alloc (Nat.le_trans hsz hb1.size) _,rfl⟩
     ·rw[if_neg h4,show L-(r.length+1)=k by omega] at heq;have h41:((M:Int)==400)=false:=yB;have h42:((M:Int)=400)=False:=yF;have hB:=HR.out.below.size;have hM4:M<400:=(by omega);have HB:=yH HR.out.below;have HEQ:=yH heq;have HSUF:=yH hsuf;clear hf heq hn h4 hsuf HR
      have hnew:∀ wx:World,((wx.alloc (.cells #[.int .i64 (kd:Int),.string ⟨t.toArray⟩,.int .i64 (k:Int)] 65)).alloc (.cells #[.int .i64 (kd:Int),.string ⟨t.toArray⟩,.int .i64 (k:Int)] 65)).heap[wx.heap.size+1]?=some (.cells (tokCells ⟨kd,t,k⟩).toArray 65 (0,0)):=fun wx=>heap_alloc2_new _ _ _;have hal2:∀ (wx:World) (o o':Obj),Below wx.heap.size wx ((wx.alloc o).alloc o'):=fun wx o o'=>(yA).alloc (by simp) _
      go_wp2_with (first
       | (go_at_call 57;refine(hf2 _).mono ?_;rintro e w1 ⟨rfl,hb1⟩;have hown1:=hown.below hb1;have HB1:=yH (HB.out.trans (hb1.mono hB));clear hb1 hf2)
       | (at_builtin;refine append_tok ⟨kd,t,k⟩ rfl (.tmp 36) (.tmp 38) rfl rfl (hown1.below (hal2 _ _ _)) rfl (hnew _) ?ca ?cb ?_))
      case ca=>rw[HM.out];omega
      case cb=>have:=HB1.out.size;simp;omega
      intro g2 c2 w2 hown2 hg2;have HW2:=yH ((((HB1.out.trans (((hal2 w1 _ _)).mono HB1.out.size)).grown hg2 (by have:=HB1.out.size;simp;omega) (fun g hg=>(hown1.lt g hg).1)):Below w.heap.size w w2));have HO2:=yH hown2
      have hrd:l.drop (k+n)=rest:=by
       rw[←List.drop_drop,HD.out];have:=Lx.suf_drop HSUF.out;rw[List.length_cons,hnn] at this;exact this
      have hE2:(⟨l.toArray⟩:ByteArray).extract (k+n) L=⟨rest.toArray⟩:=(by rw[ba_extract,List.take_of_length_le (by rw[HL.out];exact yR),hrd]);have hkn:k+n≤L:=(by omega);have hrl2:rest.length+(k+n)=L:=(by rw[←hrd,List.length_drop,HL.out];omega);have hp:=PA.out rest (by omega) w2;have hsl:=Lx.skip_len false rest;obtain⟨m,hm⟩:∃ m,rest.length-(Lx.skip false rest).length=m:=⟨_,rfl⟩;rw[hm] at hp
      have hrm:l.drop (k+n+m)=Lx.skip false rest:=by
       rw[←List.drop_drop,hrd,←hm];exact Lx.suf_drop (Lx.skip_suf false rest)
      have hfix:Lx.skip false (l.drop (k+n+m))=l.drop (k+n+m):=by rw[hrm];exact Lx.skip_skip false rest
      have HN:Hid (∀ w3,Below w2.heap.size w2 w3→AS w w3 l (k+n+m) (.slice (some ⟨g2,0,none⟩) (M+1) c2) (ts++[⟨kd,t,k⟩])):=yH fun w3 hb3 =>
       ⟨HW2.out.trans (hb3.mono HW2.out.size),HO2.out.below hb3,by rw[HL.out];omega,by rw[List.length_append,HM.out];simp;omega,hfix,by
        have h:=HEQ.out;rw[Lx.mapE_mapE] at h;rw[HL.out,h,List.length_append,HM.out,hrm];rfl⟩
      have hkm:k+n+m≤L:=(by omega);have hn1:1≤n:=(by omega);clear hnew hal2 hfix hrm hm hsl hrl2 hrd hown2 hg2 hown1 HSUF HD HEQ hrl HO2 HB1 hown hfew hnn hsm hE;have hkn0:(k:Int)+(n:Int)≤(L:Int):=(by omega);go_wp2_with (go_at_call 56;refine hp.mono ?_;rintro e w3 ⟨rfl,hb3⟩;have HN3:=yH (HN.out w3 hb3))
      go_roundw
      case rel=>exact⟨k+n+m,_,by first|rfl|go_num,HN3⟩
      case measure=>simp[intOf];omega
   ·have hkL:k=L:=(by omega);subst hkL;have heq:=HR.out.eq;rw[List.drop_of_length_le (by rw[HL.out];exact yR),HL.out] at heq
    have HV:=yH (show Lx.all l = .ok (ts++[⟨0,[],k⟩]) by
     rw[HALL.out,HL.out,heq];cases k <;> rfl)
    have HB:=yH HR.out.below;have hsz:=HB.out.size;have hnew:∀ wx:World,(wx.alloc (.cells #[.int .i64 (0:Int),.string ⟨#[]⟩,.int .i64 (k:Int)] 65)).heap[wx.heap.size]?=some (.cells (tokCells ⟨0,[],k⟩).toArray 65 (0,0)):=fun wx=>heap_alloc_new _ _;rw[hM] at hfew hown ⊢;clear heq HR;go_wp2_with (at_builtin;refine append_tok ⟨0,[],k⟩ rfl (.tmp 49) (.tmp 52) rfl rfl (hown.below (yA)) rfl (hnew _) ?ca ?cb ?_)
    case ca=>rw[HM.out];omega
    case cb=>simp;omega
    intro g2 c2 w2 hown2 hg2;have HW2:=yH (((HB.out.alloc hsz _).grown hg2 (by simp;omega) (fun g hg=>(hown.lt g hg).1)):Below w.heap.size w w2);have HO2:=yH hown2;clear hown2 hg2;go_wp2;refine bodyPost_ret (v:=.tuple #[.slice (some ⟨g2,0,none⟩) (M+1) c2,.int .i64 0,.int .i64 0]) (by simp[results,Tryz.results35,go_sem]) rfl ?_;rw[HV.out];exact⟨HW2.out,_,rfl,HO2.out⟩
end Go.Proofs.YtodlhhfcjkjapaaGreatDoor
