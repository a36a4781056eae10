import Derived.Test.YtodlhhfcjkjapaaGreatDoorWB
import Derived.Test.YtodlhhfcjkjapaaGreatDoorBA
import Derived.Test.YtodlhhfcjkjapaaGreatDoorPN
import Derived.Test.YtodlhhfcjkjapaaGreatDoorRd
namespace Go.Proofs.YtodlhhfcjkjapaaGreatDoor
open Go.RowKit
structure RW (B:Nat) (w wr:World) (s:ByteArray) (v:Value) (start pos:Nat) (ws:List (List UInt8)):Prop where
 own:wr.ownsRow B 9 1 v ws.length (ws.map sv)
 below:Below B w wr
 hB:B≤wr.heap.size
 h1:start≤pos
 h2:pos≤s.size+1
 few:ws.length≤start
 sum:pos≤s.size→ws++Tx.wordsGo ((s.data.toList.drop start).take (pos-start)) (s.data.toList.drop pos)=Tx.words s.data.toList
 fin:s.size<pos→ws=Tx.words s.data.toList
theorem drop_at (s:ByteArray) (k:Nat) (h:k<s.size):s.data.toList.drop k=(s[k]'h) :: s.data.toList.drop (k+1):=by
 rw[List.drop_eq_getElem_cons (by rw[←Lib.size_eq];exact h)];rfl
theorem cut_at (s:ByteArray) (a k:Nat) (ha:a≤k) (h:k<s.size):(s.data.toList.drop a).take (k+1-a)=(s.data.toList.drop a).take (k-a)++[s[k]'h]:=by
 rw[show k+1-a=(k-a)+1 from by omega,List.take_add,List.drop_drop,show a+(k-a)=k from by omega,drop_at s k h];rfl
theorem RW.skip {B:Nat} {w wr:World} {s:ByteArray} {v:Value} {start pos:Nat} {ws:List (List UInt8)} (h:RW B w wr s v start pos ws) (hp:pos<s.size) (hb:Tx.blk (s[pos]'hp)=false) :
  RW B w wr s v start (pos+1) ws:=by
 refine⟨h.own,h.below,h.hB,by have:=h.h1;omega,by omega,h.few,fun _=>?_,fun h3=>absurd h3 (by omega)⟩;have hs:=h.sum (by omega);rw[drop_at s pos hp] at hs;rw[cut_at s start pos h.h1 hp,←hs];congr 1
 exact(Tx.wordsGo_run [s[pos]'hp] _ _ (fun b hb2=>by simp at hb2;subst hb2;exact hb)).symm
theorem RW.none {B:Nat} {w wr:World} {s:ByteArray} {v:Value} {pos:Nat} {ws:List (List UInt8)} (h:RW B w wr s v pos pos ws) (hp:pos≤s.size) (hb:∀ h2:pos<s.size,Tx.blk (s[pos]'h2)=true) :
  RW B w wr s v (pos+1) (pos+1) ws:=by
 have hs:=h.sum hp;rw[Nat.sub_self,List.take_zero] at hs;refine⟨h.own,h.below,h.hB,yR,by omega,by have:=h.few;omega,fun h3=>?_,fun h3=>?_⟩
 ·have hlt:pos<s.size:=(by omega);rw[drop_at s pos hlt,Tx.wordsGo_blank _ _ _ (hb hlt)] at hs;rw[Nat.sub_self,List.take_zero];simpa using hs
 ·obtain rfl:pos=s.size:=(by omega);rw[List.drop_of_length_le (by rw[Lib.size_eq];exact yR),Tx.wordsGo,if_pos rfl,List.append_nil] at hs;exact hs
theorem RW.word {B:Nat} {w wr w':World} {s:ByteArray} {v v':Value} {start pos:Nat} {ws:List (List UInt8)} (h:RW B w wr s v start pos ws) (hp:pos≤s.size) (hb:∀ h2:pos<s.size,Tx.blk (s[pos]'h2)=true)
  (hlt:start<pos) (hown:w'.ownsRow B 9 1 v' (ws.length+1) (ws.map sv++[.string (s.extract start pos)])) (hg:wr.grownBy w' v.ownBlock) :
  RW B w w' s v' (pos+1) (pos+1) (ws++[(s.data.toList.drop start).take (pos-start)]):=by
 have hl:s.data.toList.length=s.size:=(Lib.size_eq s).symm;have hs:=h.sum hp
 have hne:(s.data.toList.drop start).take (pos-start)≠[]:=fun e=>by
  have:=congrArg List.length e;rw[List.length_take,List.length_drop,hl,List.length_nil] at this;omega
 refine⟨?_,h.below.grown hg h.hB (fun k hk=>(h.own.lt k hk).1),Nat.le_trans h.hB hg.size,yR,by omega,by have:=h.few;simp;omega,fun h3=>?_,fun h3=>?_⟩
 ·rw[Lib.extract_eq] at hown;simpa [sv] using hown
 ·have hlt2:pos<s.size:=(by omega);rw[drop_at s pos hlt2,Tx.wordsGo_blank _ _ _ (hb hlt2),if_neg hne] at hs;rw[Nat.sub_self,List.take_zero,←hs];simp
 ·obtain rfl:pos=s.size:=(by omega);have hd:s.data.toList.drop s.size=[]:=List.drop_of_length_le (by omega);rw[hd,Tx.wordsGo,if_neg hne] at hs;exact hs
theorem blk_not {s:ByteArray} {k:Nat} {h:k<s.size} (h1:(s[k]'h).toNat≠32) (h2:(s[k]'h).toNat≠9):Tx.blk (s[k]'h)=false:=by
 simp[Tx.blk];omega
theorem ref_words (s:ByteArray) (w:World) (hs:s.size≤1048576) :
  Calls Tryz.prog 77 #[.string s] w fun e w'=>∃ v,e = .returned v∧w'.ownsRow w.heap.size 9 1 v (Tx.words s.data.toList).length ((Tx.words s.data.toList).map sv)∧Below w.heap.size w w':=by
 have hst:RW w.heap.size w (w.alloc (.cells #[] 9)) s (.slice (some ⟨w.heap.size,0,none⟩) 0 0) 0 0 [] :=
  ⟨World.ownsRow_made w #[] 0 yR (Nat.zero_le _) rfl,yA,by simp,yR,by omega,yR,fun _=>by simp[Tx.words],fun h=>absurd h (by omega)⟩
 have HST:=yH hst;clear hst;go_enter Tryz.func77,Tryz.ntmps77;go_wp2;go_loopw [3,4,5] (fun v st i wr=>∃ (start pos:Nat) (ws:List (List UInt8)),st = .int .i64 start∧i = .int .i64 pos∧RW w.heap.size w wr s v start pos ws) (fun _ _ i _=>s.size+1-(intOf i).toNat)
 case atStart=>exact⟨0,0,[],rfl,rfl,HST.out⟩
 case round =>
  obtain⟨start,pos,ws,rfl,rfl,hR⟩:=hrel;have g1:=hR.h1;have g2:=hR.h2;have g3:=hR.few;by_cases hle:pos≤s.size
  ·by_cases hnb:∃ h:pos<s.size,(s[pos]'h).toNat≠32∧(s[pos]'h).toNat≠9
   ·obtain⟨hlt,hb1,hb2⟩:=hnb;have RS:=yH (hR.skip hlt (blk_not hb1 hb2));have q1:(((s[pos]'hlt).toNat:Int) != 32)=true:=(by simp;omega);have q2:(((s[pos]'hlt).toNat:Int) != 9)=true:=(by simp;omega);clear hb1 hb2;go_wp2;go_roundw
    case rel=>exact⟨start,pos+1,ws,rfl,by go_num,RS.out⟩
    case measure=>simp[intOf];omega
   ·have hbl:∀ h2:pos<s.size,Tx.blk (s[pos]'h2)=true:=fun h2=>by
     cases h:Tx.blk (s[pos]'h2)
     ·exfalso;simp[Tx.blk] at h;exact hnb ⟨h2,h.1,h.2⟩
     ·rfl
    have HBL:=yH hbl;clear hnb hbl;rcases Nat.lt_or_ge pos s.size with hlt|hge
    ·have hb:=HBL.out hlt;have hcase:(s[pos]'hlt).toNat=32∨(s[pos]'hlt).toNat=9:=(by simpa [Tx.blk] using hb);clear hb;by_cases h3:start<pos
     ·rcases hcase with hc|hc
      ·have q1:(((s[pos]'hlt).toNat:Int) != 32)=false:=(by simp[hc]);clear hc;go_wp2_with (at_builtin;refine append_str rfl (.tmp 32) (.tmp 37) rfl rfl hR.own rfl rfl ?_ ?_ ?_ ?_)
       case refine_1=>rfl
       case refine_2=>omega
       case refine_3=>exact hR.hB
       intro v' w' hown hgrow;have RS:=yH (hR.word hle HBL.out h3 hown hgrow);clear hown hgrow;go_wp2;go_roundw
       case rel=>exact⟨pos+1,pos+1,_,by go_num,by go_num,RS.out⟩
       case measure=>simp[intOf];omega
      ·have q1:(((s[pos]'hlt).toNat:Int) != 32)=true:=(by simp[hc]);have q2:(((s[pos]'hlt).toNat:Int) != 9)=false:=(by simp[hc]);clear hc;go_wp2_with (at_builtin;refine append_str rfl (.tmp 32) (.tmp 37) rfl rfl hR.own rfl rfl ?_ ?_ ?_ ?_)
       case refine_1=>rfl
       case refine_2=>omega
       case refine_3=>exact hR.hB
       intro v' w' hown hgrow;have RS:=yH (hR.word hle HBL.out h3 hown hgrow);clear hown hgrow;go_wp2;go_roundw
       case rel=>exact⟨pos+1,pos+1,_,by go_num,by go_num,RS.out⟩
       case measure=>simp[intOf];omega
     ·obtain rfl:start=pos:=(by omega);have RS:=yH (hR.none hle HBL.out);rcases hcase with hc|hc
      ·have q1:(((s[start]'hlt).toNat:Int) != 32)=false:=(by simp[hc]);clear hc;go_wp2;go_roundw
       case rel=>exact⟨start+1,start+1,_,by go_num,by go_num,RS.out⟩
       case measure=>simp[intOf];omega
      ·have q1:(((s[start]'hlt).toNat:Int) != 32)=true:=(by simp[hc]);have q2:(((s[start]'hlt).toNat:Int) != 9)=false:=(by simp[hc]);clear hc;go_wp2;go_roundw
       case rel=>exact⟨start+1,start+1,_,by go_num,by go_num,RS.out⟩
       case measure=>simp[intOf];omega
    ·by_cases h3:start<pos
     ·go_wp2_with (at_builtin;refine append_str rfl (.tmp 32) (.tmp 37) rfl rfl hR.own rfl rfl ?_ ?_ ?_ ?_)
      case refine_1=>rfl
      case refine_2=>omega
      case refine_3=>exact hR.hB
      intro v' w' hown hgrow;have RS:=yH (hR.word hle HBL.out h3 hown hgrow);clear hown hgrow;go_wp2;go_roundw
      case rel=>exact⟨pos+1,pos+1,_,by go_num,by go_num,RS.out⟩
      case measure=>simp[intOf];omega
     ·obtain rfl:start=pos:=(by omega);have RS:=yH (hR.none hle HBL.out);go_wp2;go_roundw
      case rel=>exact⟨start+1,start+1,_,by go_num,by go_num,RS.out⟩
      case measure=>simp[intOf];omega
  ·go_wp2;go_ret;have hf:=hR.fin (by omega);subst hf;exact⟨_,rfl,hR.own,hR.below⟩
theorem ref_number_no (s:ByteArray) (k:Nat) (h:k<s.size) (most:Int) (hb:¬ (48≤(s[k]'h).toNat∧(s[k]'h).toNat≤57)):Tx.number s.data.toList most=(0,false):=by
 refine Tx.number_bad fun e=>?_;have h3:=e.2.2;rw[tail_at s k h,Tx.digits_app] at h3;have:Tx.dig (s[k]'h)=false:=(by simp[Tx.dig];omega);simp[Tx.digits,this] at h3
theorem ref_number (s:ByteArray) (most:Int) (w:World) (hs:s.size≤1048576) :
  Calls Tryz.prog 79 #[.string s,.int .i64 most] w fun e w'=>e = .returned (two (Tx.number s.data.toList most))∧w=w':=by
 have hl:s.data.toList.length=s.size:=(Lib.size_eq s).symm;by_cases hsz:1≤s.size∧s.size≤9
 ·obtain⟨hs1,hs9⟩:=hsz;have HL:=yH hl;clear hl;go_enter Tryz.func79,Tryz.ntmps79;go_wp2;go_loop [6,7] (fun n i=>∃ k v:Nat,k≤s.size∧i = .int .i64 k∧n = .int .i64 v∧Tx.digits (s.data.toList.take k)=true∧v=Tx.val (s.data.toList.take k)) (fun _ i=>s.size-(intOf i).toNat)
  case atStart=>exact⟨0,0,Nat.zero_le _,rfl,rfl,rfl,rfl⟩
  case round =>
   obtain⟨k,v,hk,rfl,rfl,hd,hv⟩:=hrel
   have gv:v<1000000000:=by
    rw[hv];exact Tx.val_lt (by rw[List.length_take];omega) hd
   have HDD:=yH hd;have HV:=yH hv;clear hd hv;by_cases hlt:k<s.size
   ·by_cases h1:48≤(s[k]'hlt).toNat
    ·by_cases h2:(s[k]'hlt).toNat≤57
     ·go_wp2;go_round
      case rel =>
       refine⟨k+1,v*10+((s[k]'hlt).toNat-48),by omega,by go_num,by go_num,?_,?_⟩
       ·rw[snoc_at s k hlt,Tx.digits_app,HDD.out];simp[Tx.digits,Tx.dig,h1,h2]
       ·rw[snoc_at s k hlt,Tx.val_snoc,HV.out]
      case measure=>simp[intOf];omega
     ·have HF:=yH (ref_number_no s k hlt most (by omega));go_wp2;go_ret2;exact⟨by rw[HF.out];rfl,rfl⟩
    ·have HF:=yH (ref_number_no s k hlt most (by omega));go_wp2;go_ret2;exact⟨by rw[HF.out];rfl,rfl⟩
   ·obtain rfl:k=s.size:=(by omega);have hd:=HDD.out;have hv:=HV.out;rw[all_take] at hd hv;by_cases hm:(v:Int)≤most
    ·have HE:=yH (show Tx.number s.data.toList most=((v:Int),true) by rw[hv] at hm ⊢;exact if_pos ⟨⟨by have:=HL.out;omega,by have:=HL.out;omega,hd⟩,hm⟩);clear hd hv;go_wp2;go_ret2;exact⟨by rw[HE.out];rfl,rfl⟩
    ·have HE:=yH (show Tx.number s.data.toList most=(0,false) by rw[hv] at hm;exact if_neg (fun e=>hm e.2));clear hd hv;go_wp2;go_ret2;exact⟨by rw[HE.out];rfl,rfl⟩
 ·have HE:=yH (Tx.number_bad (l:=s.data.toList) (most:=most) (fun e=>hsz ⟨by omega,by omega⟩));clear hl;rcases(show s.size<1∨9<s.size from by omega) with h0|h9
  iterate 2
   ·clear hsz;go_enter Tryz.func79,Tryz.ntmps79;go_wp2;go_ret2;exact⟨by rw[HE.out];rfl,rfl⟩
end Go.Proofs.YtodlhhfcjkjapaaGreatDoor
