import Derived.Test.YtodlhhfcjkjapaaGreatDoorPN
import Derived.Test.YtodlhhfcjkjapaaGreatDoorPJ
import Derived.WalkKit
import Derived.WalkSpells
import Derived.WalkSmall
import Derived.WalkLawsBesides
import Derived.Outline
import Derived.Lib.Hide
namespace Go.Proofs.YtodlhhfcjkjapaaGreatDoor
open Go.RowKit
theorem seg_dig {s:ByteArray} {pos r n:Nat} {seg:List UInt8} (h:Tx.Rune s pos r n seg):Tx.digits seg=digitB r:=by
 by_cases hr:r<128
 ·obtain⟨b,rfl,rfl⟩:=h.low hr;rw[Tx.digits,List.all_cons,List.all_nil,Bool.and_true,Tx.dig,digitB];congr 1 <;> exact decide_eq_decide.2 (by omega)
 ·have hh:=h.high (by omega);have:seg≠[]:=fun e=>by have:=h.one;have:=h.len;rw[e] at this;simp at this;omega
  obtain⟨b,t,rfl⟩:=List.exists_cons_of_ne_nil this;have hb:=hh b (by simp);have e1:decide (b.toNat≤57)=false:=decide_eq_false (by omega);have e2:decide ((r:Int)≤57)=false:=decide_eq_false (by omega);rw[Tx.digits,List.all_cons,Tx.dig,digitB,e1,e2,Bool.and_false,Bool.and_false,Bool.false_and]
structure NRel (B:Nat) (w wr:World) (s:ByteArray) (v:Nat) (pos:Nat):Prop where
 iter:wr.heap[B]?=some (.stringIter s pos)
 below:Below B w wr
 h2:pos≤s.size
 all:Tx.digits (s.data.toList.take pos)=true
 v:v=Tx.val (s.data.toList.take pos)
theorem NRel.bad {B:Nat} {w wr:World} {s:ByteArray} {v pos r n:Nat} {seg:List UInt8} (_h:NRel B w wr s v pos) (hU:Tx.Rune s pos r n seg) (hd:digitB r=false) :
  ¬ (1≤s.data.toList.length∧s.data.toList.length≤9∧Tx.digits s.data.toList=true):=by
 rintro⟨_,_,h3⟩;have e:s.data.toList=s.data.toList.take (pos+n)++s.data.toList.drop (pos+n):=(List.take_append_drop _ _).symm;rw[e,hU.take,Tx.digits_app,Tx.digits_app,seg_dig hU,hd,Bool.and_false,Bool.false_and] at h3;cases h3
theorem NRel.step {B:Nat} {w wr:World} {s:ByteArray} {v pos r n:Nat} {seg:List UInt8} (h:NRel B w wr s v pos) (hU:Tx.Rune s pos r n seg) (hd:digitB r=true) :
  48≤r∧r≤57∧n=1∧NRel B w (wr.iterAt B s (pos+n)) s (v*10+(r-48)) (pos+n):=by
 have h0:=seg_dig hU;simp only[digitB,Bool.and_eq_true,decide_eq_true_eq] at hd;obtain⟨b,rfl,rfl⟩:=hU.low (by omega);have hn:n=1:=(by have:=hU.len;simpa using this.symm);refine⟨by omega,by omega,hn,Lib.iterAt_heap _ _ _ _ _ h.iter,Lib.below_iterAt h.below yR _ _,hU.fits,?_,?_⟩
 ·rw[hU.take,Tx.digits_app,h.all,h0];simp[digitB];omega
 ·rw[hU.take,Tx.val_snoc,h.v]
theorem NRel.stop {B:Nat} {w wr:World} {s:ByteArray} {v:Nat} (h:NRel B w wr s v s.size) (hl:s.data.toList.length=s.size) (h1:1≤s.size) (h9:s.size≤9) (most:Int) :
  ((v:Int)≤most→Tx.number s.data.toList most=((v:Int),true))∧(¬ (v:Int)≤most→Tx.number s.data.toList most=(0,false)):=by
 have ha:=h.all;have hv:=h.v;rw[←hl,List.take_length] at ha hv;subst hv;exact⟨fun hm=>if_pos ⟨⟨by omega,by omega,ha⟩,hm⟩,fun hm=>if_neg (fun e=>hm e.2)⟩
theorem number_any (s:ByteArray) (most:Int) (w:World) (hs:s.size≤1048576) :
  Calls Tryz.prog 92 #[.string s,.int .i64 most] w fun e w'=>e = .returned (two (Tx.number s.data.toList most))∧Below w.heap.size w w':=by
 have hl:s.data.toList.length=s.size:=(Lib.size_eq s).symm;by_cases hsz:1≤s.size∧s.size≤9
 ·obtain⟨hs1,hs9⟩:=hsz;have HL:=yH hl;clear hl;go_enter Tryz.func92,Tryz.ntmps92;go_wp2;go_loopw [6] (fun n wr=>∃ pos v:Nat,n = .int .i64 v∧NRel w.heap.size w wr s v pos) (fun _ wr=>s.size-wr.iterPos w.heap.size)
  case atStart=>exact⟨0,0,rfl,World.iter_heap _ _ _,yA,Nat.zero_le _,rfl,rfl⟩
  case round =>
   obtain⟨pos,v,rfl,hR⟩:=hrel;have g2:=hR.h2
   have gv:v<1000000000:=by
    rw[hR.v];exact Tx.val_lt (by rw[List.length_take];omega) hR.all
   by_cases hlt:pos<s.size
   ·obtain⟨r,n,seg,hU,hnx⟩:=Tx.next_rune (P:=Tryz.prog) wr w.heap.size s pos hR.iter hlt;have HN:=yH (iterPos_of hR.iter);have hn:=hU.one;have hf:=hU.fits;cases hd:digitB r
    ·have HB:=yH (hR.bad hU hd);go_wp2_with (go_at_call 109;refine(digit_any _ _).mono ?_;rintro e w' ⟨rfl,rfl⟩)
     go_ret2;exact⟨by rw[Tx.number_bad HB.out];rfl,Lib.below_iterAt hR.below yR _ _⟩
    ·obtain⟨r1,r2,hn1,RS⟩:=hR.step hU hd;subst hn1;go_wp2_with (go_at_call 109;refine(digit_any _ _).mono ?_;rintro e w' ⟨rfl,rfl⟩)
     go_roundw
     case rel=>exact⟨pos+1,v*10+(r-48),by go_num,RS⟩
     case measure =>
      rw[iterPos_of RS.iter,HN.out];omega
   ·have hnx:=fun ty=>Lib.run_next_end_at (P:=Tryz.prog) wr w.heap.size s pos ty hR.iter hlt;obtain rfl:pos=s.size:=(by omega);obtain⟨e1,e2⟩:=hR.stop HL.out hs1 hs9 most;by_cases hm:(v:Int)≤most
    ·have HE:=yH (e1 hm);clear e1 e2;go_wp2;go_ret2;exact⟨by rw[HE.out];rfl,hR.below⟩
    ·have HE:=yH (e2 hm);clear e1 e2;go_wp2;go_ret2;exact⟨by rw[HE.out];rfl,hR.below⟩
 ·have HE:=yH (Tx.number_bad (l:=s.data.toList) (most:=most) (fun e=>hsz ⟨by omega,by omega⟩));clear hl;rcases(show s.size=0∨9<s.size from by omega) with h0|h9
  ·have h0':s.size<1:=(by omega);clear h0 hsz;go_enter Tryz.func92,Tryz.ntmps92;go_wp2;go_ret2;exact⟨by rw[HE.out];rfl,Below.refl _ _⟩
  ·clear hsz;go_enter Tryz.func92,Tryz.ntmps92;go_wp2;go_ret2;exact⟨by rw[HE.out];rfl,Below.refl _ _⟩
end Go.Proofs.YtodlhhfcjkjapaaGreatDoor
