import Derived.Test.YtodlhhfcjkjapaaGreatDoorPB
import Derived.Test.YtodlhhfcjkjapaaGreatDoorTT
import Derived.Test.YtodlhhfcjkjapaaGreatDoorQA
import Derived.Test.YtodlhhfcjkjapaaGreatDoorShelf
set_option maxRecDepth 200000
set_option maxHeartbeats 8000000
namespace Go.Proofs.YtodlhhfcjkjapaaGreatDoor
open Go.RowKit
def SHP (w:World):Prop:=∀ i,i<18→w.cell? ⟨0,i,none⟩=some (.string ⟨(Ps.shapeS i).toArray⟩)
theorem SHP.trn {F:Nat→Prop} {w w':World} (h:SHP w) (ht:Trn F w w') (hF:¬ F 0):SHP w':=fun i hi=>(World.cell?_of_block (ht.block _ (World.block_lt_of_cell? w _ (h i hi)) hF)).trans (h i hi)
theorem SHP.below {w w':World} (h:SHP w) (hb:Below w.heap.size w w'):SHP w':=fun i hi=>(hb.cell (World.block_lt_of_cell? w _ (h i hi))).trans (h i hi)
theorem str_beq (l m:List UInt8):((⟨l.toArray⟩:ByteArray).toList==(⟨m.toArray⟩:ByteArray).toList)=(l==m):=by rw[Lib.toList_data,Lib.toList_data]
theorem pmode_any (l:List UInt8) (w:World):Calls Tryz.prog 37 #[.string ⟨l.toArray⟩] w fun e w'=>e = .returned (.int .i64 (Ps.mode l:Int))∧w=w':=by
 by_cases c1:l=[115,109,116,112]
 ·
  have ec1:(l==[115,109,116,112])=true:=beq_iff_eq.2 c1;have fc1:(l=[115,109,116,112])=True:=eq_true c1;have hm:Ps.mode l=1:=(by unfold Ps.mode;rw[if_pos c1]);rw[hm];clear hm c1;go_enter Tryz.func37,Tryz.ntmps37;go_wp2;go_ret;exact⟨rfl,rfl⟩
 by_cases c2:l=[112,111,112,51]
 ·
  have ec1:(l==[115,109,116,112])=false:=yB c1;have fc1:(l=[115,109,116,112])=False:=eq_false c1;have ec2:(l==[112,111,112,51])=true:=beq_iff_eq.2 c2;have fc2:(l=[112,111,112,51])=True:=eq_true c2;have hm:Ps.mode l=2:=(by unfold Ps.mode;rw[if_neg c1,if_pos c2]);rw[hm];clear hm c1 c2;go_enter Tryz.func37,Tryz.ntmps37;go_wp2;go_ret;exact⟨rfl,rfl⟩
 by_cases c3:l=[102,116,112]
 ·
  have ec1:(l==[115,109,116,112])=false:=yB c1;have fc1:(l=[115,109,116,112])=False:=eq_false c1;have ec2:(l==[112,111,112,51])=false:=yB c2;have fc2:(l=[112,111,112,51])=False:=eq_false c2;have ec3:(l==[102,116,112])=true:=beq_iff_eq.2 c3;have fc3:(l=[102,116,112])=True:=eq_true c3;have hm:Ps.mode l=3:=(by unfold Ps.mode;rw[if_neg c1,if_neg c2,if_pos c3]);rw[hm];clear hm c1 c2 c3
  go_enter Tryz.func37,Tryz.ntmps37;go_wp2;go_ret;exact⟨rfl,rfl⟩
 have ec1:(l==[115,109,116,112])=false:=yB c1;have fc1:(l=[115,109,116,112])=False:=eq_false c1;have ec2:(l==[112,111,112,51])=false:=yB c2;have fc2:(l=[112,111,112,51])=False:=eq_false c2;have ec3:(l==[102,116,112])=false:=yB c3;have fc3:(l=[102,116,112])=False:=eq_false c3;have hm:Ps.mode l=0:=(by unfold Ps.mode;rw[if_neg c1,if_neg c2,if_neg c3]);rw[hm]
 clear hm c1 c2 c3;go_enter Tryz.func37,Tryz.ntmps37;go_wp2;go_ret;exact⟨rfl,rfl⟩
theorem pshape_any (k:Nat) (hk:k<18) (w:World) (hS:SHP w):Calls Tryz.prog 63 #[.int .i64 (k:Int)] w fun e w'=>e = .returned (.string ⟨(Ps.shapeS k).toArray⟩)∧w=w':=by
 have hc:=hS k hk;have h1:((k:Int)<0)=False:=yF;have h2:((18:Int)≤(k:Int))=False:=yF;have h3:(k:Int)<18:=(by omega);generalize Ps.shapeS k=T at hc ⊢;go_enter Tryz.func63,Tryz.ntmps63;go_wp2;go_ret;exact⟨rfl,rfl⟩
theorem kind_beq (k n:Nat):(((k:Int))==((n:Nat):Int))=(k==n):=by
 by_cases h:k=n
 ·subst h;simp
 ·rw[yB h,beq_eq_false_iff_ne];omega
theorem three_names (t:List UInt8):Lib.containsS [⟨#[99,97,112]⟩,⟨#[99,111,100,101]⟩,⟨#[116,101,120,116]⟩] ⟨t.toArray⟩=(t==Ps.wCap || t==Ps.wCode || t==Ps.wText):=by
 have key:∀ m:List UInt8,((⟨t.toArray⟩:ByteArray)=⟨m.toArray⟩) ↔ t=m:=fun m=>⟨fun e=>by simpa using congrArg (fun x:ByteArray=>x.data.toList) e,fun e=>by rw[e]⟩;rw[Bool.eq_iff_iff,Lib.containsS_iff];simp only[List.mem_cons,List.mem_nil_iff,or_false,Bool.or_eq_true,beq_iff_eq]
 rw[show (⟨#[99,97,112]⟩:ByteArray)=⟨Ps.wCap.toArray⟩ from rfl,show (⟨#[99,111,100,101]⟩:ByteArray)=⟨Ps.wCode.toArray⟩ from rfl,show (⟨#[116,101,120,116]⟩:ByteArray)=⟨Ps.wText.toArray⟩ from rfl,key,key,key,or_assoc]
theorem fits_any (k:Nat) (t:List UInt8) (p:Nat) (wd:List UInt8) (w:World):Calls Tryz.prog 58 #[tkv k t p,.string ⟨wd.toArray⟩] w fun e w'=>e = .returned (.bool (Ps.fitsT wd ⟨k,t,p⟩))∧Below w.heap.size w w':=by
 unfold tkv;by_cases c0:wd=[116]
 ·
  have ec0:(wd==[116])=true:=beq_iff_eq.2 c0;have fc0:(wd=[116])=True:=eq_true c0;have hm:Ps.fitsT wd ⟨k,t,p⟩=(k==3):=(by unfold Ps.fitsT;rw[if_pos c0]);rw[hm];clear c0;clear hm;have hkb:=kind_beq k 3;go_enter Tryz.func58,Tryz.ntmps58;go_wp2;go_ret;exact⟨ret_b (by first|exact hkb|rfl|simp),yA⟩
 by_cases c1:wd=[105]
 ·
  have ec0:(wd==[116])=false:=yB c0;have fc0:(wd=[116])=False:=eq_false c0;have ec1:(wd==[105])=true:=beq_iff_eq.2 c1;have fc1:(wd=[105])=True:=eq_true c1;have hm:Ps.fitsT wd ⟨k,t,p⟩=(k==2):=(by unfold Ps.fitsT;rw[if_neg c0,if_pos c1]);rw[hm];clear c0 c1;clear hm;have hkb:=kind_beq k 2;go_enter Tryz.func58,Tryz.ntmps58;go_wp2;go_ret;exact⟨ret_b (by first|exact hkb|rfl|simp),yA⟩
 by_cases c2:wd=[110]
 ·
  have ec0:(wd==[116])=false:=yB c0;have fc0:(wd=[116])=False:=eq_false c0;have ec1:(wd==[105])=false:=yB c1;have fc1:(wd=[105])=False:=eq_false c1;have ec2:(wd==[110])=true:=beq_iff_eq.2 c2;have fc2:(wd=[110])=True:=eq_true c2;have hm:Ps.fitsT wd ⟨k,t,p⟩=(k==1):=(by unfold Ps.fitsT;rw[if_neg c0,if_neg c1,if_pos c2]);rw[hm];clear c0 c1 c2;clear hm;have hkb:=kind_beq k 1
  go_enter Tryz.func58,Tryz.ntmps58;go_wp2;go_ret;exact⟨ret_b (by first|exact hkb|rfl|simp),yA⟩
 by_cases c3:wd=[119]
 ·
  have ec0:(wd==[116])=false:=yB c0;have fc0:(wd=[116])=False:=eq_false c0;have ec1:(wd==[105])=false:=yB c1;have fc1:(wd=[105])=False:=eq_false c1;have ec2:(wd==[110])=false:=yB c2;have fc2:(wd=[110])=False:=eq_false c2;have ec3:(wd==[119])=true:=beq_iff_eq.2 c3;have fc3:(wd=[119])=True:=eq_true c3
  have hm:Ps.fitsT wd ⟨k,t,p⟩=(k==1 && (t==Ps.wCap || t==Ps.wCode || t==Ps.wText)):=(by unfold Ps.fitsT;rw[if_neg c0,if_neg c1,if_neg c2,if_pos c3]);rw[hm];clear c0 c1 c2 c3;clear hm;by_cases hk:k=1
  ·subst hk;obtain⟨R,hR⟩:∃ R,(t==Ps.wCap || t==Ps.wCode || t==Ps.wText)=R:=⟨_,rfl⟩;rw[show ((1:Nat)==1 && (t==Ps.wCap || t==Ps.wCode || t==Ps.wText))=R by rw[hR];rfl];rw[←three_names] at hR
   have CN:=fun (wx:World) (b:Nat) (hb:wx.heap[b]?=some (.cells #[.string ⟨#[99,97,112]⟩,.string ⟨#[99,111,100,101]⟩,.string ⟨#[116,101,120,116]⟩] 9 (0,0)))=>Tryz.slices_Contains_string b 0 3 3 [⟨#[99,97,112]⟩,⟨#[99,111,100,101]⟩,⟨#[116,101,120,116]⟩] ⟨t.toArray⟩ wx (by decide) (by decide) (fun j hj=>by
    rw[Nat.zero_add,yC hb]
    match j,hj with
    | 0,_=>rfl
    | 1,_=>rfl
    | 2,_=>rfl
    | j+3,h=>exact absurd h (by simp))
   rw[show List.take 3 [(⟨#[99,97,112]⟩:ByteArray),⟨#[99,111,100,101]⟩,⟨#[116,101,120,116]⟩]=[⟨#[99,97,112]⟩,⟨#[99,111,100,101]⟩,⟨#[116,101,120,116]⟩] from rfl,hR] at CN;clear hR;go_enter Tryz.func58,Tryz.ntmps58;go_wp2_with fail
   refine(CN _ (w.heap.size+1) (heap_alloc2_new _ _ _)).mono ?_;rintro e w1 ⟨rfl,rfl⟩;go_wp2;go_ret;exact⟨rfl,(yA).alloc (by simp) _⟩
  ·have k1:((k:Int)==1)=false:=yB;have k2:((k:Int)=1)=False:=yF;rw[show (k==1)=false from yB hk,Bool.false_and];go_enter Tryz.func58,Tryz.ntmps58;go_wp2;go_ret;exact⟨rfl,yA⟩
 by_cases c4:wd=[109]
 ·
  have ec0:(wd==[116])=false:=yB c0;have fc0:(wd=[116])=False:=eq_false c0;have ec1:(wd==[105])=false:=yB c1;have fc1:(wd=[105])=False:=eq_false c1;have ec2:(wd==[110])=false:=yB c2;have fc2:(wd=[110])=False:=eq_false c2;have ec3:(wd==[119])=false:=yB c3;have fc3:(wd=[119])=False:=eq_false c3;have ec4:(wd==[109])=true:=beq_iff_eq.2 c4
  have fc4:(wd=[109])=True:=eq_true c4;have hm:Ps.fitsT wd ⟨k,t,p⟩=(k==1 && Ps.mode t != 0):=(by unfold Ps.fitsT;rw[if_neg c0,if_neg c1,if_neg c2,if_neg c3,if_pos c4]);rw[hm];clear c0 c1 c2 c3 c4;clear hm;have PM:=fun wx=>pmode_any t wx;generalize Ps.mode t=M at PM ⊢
  have hmb:(((M:Int)) != 0)=(M != 0):=by
   have:=kind_beq M 0;simp only[bne,←this];rfl
  by_cases hk:k=1
  ·subst hk;rw[show ((1:Nat)==1 && M != 0)=(M != 0) from rfl];go_enter Tryz.func58,Tryz.ntmps58;go_wp2_with fail
   refine(PM _).mono ?_;rintro e w1 ⟨rfl,rfl⟩;go_wp2;go_ret;exact⟨ret_b (by first|exact hmb|rfl|simp),yA⟩
  ·have k1:((k:Int)==1)=false:=yB;have k2:((k:Int)=1)=False:=yF;rw[show (k==1)=false from yB hk,Bool.false_and];clear PM;go_enter Tryz.func58,Tryz.ntmps58;go_wp2;go_ret;exact⟨rfl,yA⟩
 have ec0:(wd==[116])=false:=yB c0;have fc0:(wd=[116])=False:=eq_false c0;have ec1:(wd==[105])=false:=yB c1;have fc1:(wd=[105])=False:=eq_false c1;have ec2:(wd==[110])=false:=yB c2;have fc2:(wd=[110])=False:=eq_false c2;have ec3:(wd==[119])=false:=yB c3;have fc3:(wd=[119])=False:=eq_false c3;have ec4:(wd==[109])=false:=yB c4
 have fc4:(wd=[109])=False:=eq_false c4;have hm:Ps.fitsT wd ⟨k,t,p⟩=(k != 3 && t==wd):=(by unfold Ps.fitsT;rw[if_neg c0,if_neg c1,if_neg c2,if_neg c3,if_neg c4]);rw[hm];clear c0 c1 c2 c3 c4;clear hm;have htw:=str_beq t wd;by_cases hk:k=3
 ·subst hk;rw[show ((3:Nat) != 3 && t==wd)=false from rfl];go_enter Tryz.func58,Tryz.ntmps58;go_wp2;go_ret;exact⟨rfl,yA⟩
 ·have k1:((k:Int)==3)=false:=yB;have k3:((k:Int) != 3)=true:=(by rw[bne,k1];rfl);have k2:((k:Int)=3)=False:=yF;rw[show (k != 3)=true by rw[bne,yB hk];rfl,Bool.true_and];go_enter Tryz.func58,Tryz.ntmps58;go_wp2;go_ret;exact⟨ret_b (by first|rfl|exact htw|simp),yA⟩
end Go.Proofs.YtodlhhfcjkjapaaGreatDoor
