import Derived.Test.YtodlhhfcjkjapaaGreatDoorPG
import Derived.Test.YtodlhhfcjkjapaaGreatDoorPE
import Derived.Test.YtodlhhfcjkjapaaGreatDoorPB
import Derived.Test.YtodlhhfcjkjapaaGreatDoorPJ
import Derived.BigQuiet
import Derived.Deep.CutRange
import Derived.Test.YtodlhhfcjkjapaaGreatDoorPO
set_option maxRecDepth 200000
set_option maxHeartbeats 8000000
namespace Go.Proofs.YtodlhhfcjkjapaaGreatDoor
open Go.RowKit
def RX (w:World) (g:Nat) (lv rv:Value) (a e f:Nat):Prop:=w.heap[g]?=some (.cells #[lv,.int .i64 (a:Int),rv,.int .i64 (e:Int),.int .i64 (f:Int)] 60 (0,0))
section
variable {w w':World} {g a e f:Nat} {lv rv:Value} {F:Nat→Prop}
theorem RX.c0 (h:RX w g lv rv a e f):w.cell? ⟨g,0,none⟩=some lv:=by unfold RX at h;simp[World.cell?,h]
theorem RX.c1 (h:RX w g lv rv a e f):w.cell? ⟨g,1,none⟩=some (.int .i64 (a:Int)):=by unfold RX at h;simp[World.cell?,h]
theorem RX.c2 (h:RX w g lv rv a e f):w.cell? ⟨g,2,none⟩=some rv:=by unfold RX at h;simp[World.cell?,h]
theorem RX.c3 (h:RX w g lv rv a e f):w.cell? ⟨g,3,none⟩=some (.int .i64 (e:Int)):=by unfold RX at h;simp[World.cell?,h]
theorem RX.c4 (h:RX w g lv rv a e f):w.cell? ⟨g,4,none⟩=some (.int .i64 (f:Int)):=by unfold RX at h;simp[World.cell?,h]
theorem RX.fr (h:RX w g lv rv a e f) (i:Nat):w.frozen? ⟨g,i,none⟩=false:=by unfold RX at h;simp[World.frozen?,h]
theorem RX.lt (h:RX w g lv rv a e f):g<w.heap.size:=(yD h).1
theorem RX.same (h:RX w g lv rv a e f) (hw:w'.heap[g]?=w.heap[g]?):RX w' g lv rv a e f:=hw.trans h
theorem RX.below (h:RX w g lv rv a e f) (hb:Below w.heap.size w w'):RX w' g lv rv a e f:=h.same (hb.block _ h.lt)
theorem RX.set1 (h:RX w g lv rv a e f) (n:Nat):RX (w.setCell ⟨g,1,none⟩ (.int .i64 (n:Int))) g lv rv n e f:=by unfold RX at *;rw[setCell_row h];rfl
theorem RX.set2 (h:RX w g lv rv a e f) (u:Value):RX (w.setCell ⟨g,2,none⟩ u) g lv u a e f:=by unfold RX at *;rw[setCell_row h];rfl
theorem RX.set3 (h:RX w g lv rv a e f) (n:Nat):RX (w.setCell ⟨g,3,none⟩ (.int .i64 (n:Int))) g lv rv a n f:=by unfold RX at *;rw[setCell_row h];rfl
theorem RX.set4 (h:RX w g lv rv a e f) (n:Nat):RX (w.setCell ⟨g,4,none⟩ (.int .i64 (n:Int))) g lv rv a e n:=by unfold RX at *;rw[setCell_row h];rfl
end
structure RS (w:World) (B g b o cap:Nat) (L:List Lx.Tok) (a:Nat) (rv:Value) (cs:List SA) (e f:Nat):Prop where
 rx:RX w g (.slice (some ⟨b,o,none⟩) L.length cap) rv a e f
 tr:TR w b (.slice (some ⟨b,o,none⟩) L.length cap) L
 os:OS w B 41 rv cs
 ends:Ps.Ends L
 al:a<L.length
 gB:g<B
 bB:b<B
 ne:b≠g
 sz:B≤w.heap.size
 few:cs.length≤a
 most:L.length≤401
section
variable {w w':World} {B g b o cap a e f:Nat} {L:List Lx.Tok} {rv:Value} {cs:List SA}
theorem RS.tok (h:RS w B g b o cap L a rv cs e f):∃ t,L[a]?=some t:=⟨_,List.getElem?_eq_getElem h.al⟩
theorem RS.cells (h:RS w B g b o cap L a rv cs e f) {t:Lx.Tok} (ht:L[a]?=some t):w.cell? ⟨b,o+a*3,none⟩=some (.int .i64 (t.kind:Int))∧w.cell? ⟨b,o+a*3+1,none⟩=some (.string ⟨t.text.toArray⟩)∧w.cell? ⟨b,o+a*3+2,none⟩=some (.int .i64 (t.place:Int)):=by
 obtain⟨o',cap',e1,_,_,hc⟩:=h.tr;simp only[Value.slice.injEq,Option.some.injEq,Addr.mk.injEq,true_and,and_true] at e1;obtain⟨rfl,rfl⟩:=e1;exact hc a t ht
theorem RS.below (h:RS w B g b o cap L a rv cs e f) (hb:Below w.heap.size w w'):RS w' B g b o cap L a rv cs e f :=
 ⟨h.rx.below hb,h.tr.below hb,h.os.below hb,h.ends,h.al,h.gB,h.bB,h.ne,Nat.le_trans h.sz hb.size,h.few,h.most⟩
theorem RS.more (h:RS w B g b o cap L a rv cs e f) {t:Lx.Tok} (ht:L[a]?=some t) (hk:t.kind≠0):a+1<L.length:=by
 obtain⟨_,r,z,e1,hz,_,_⟩:=h.ends;have:=h.al;rcases Nat.lt_or_ge (a+1) L.length with h1|h1
 ·exact h1
 ·exfalso;rw[e1] at ht;have hl:L.length=r.length+1:=(by rw[e1,List.length_append];rfl);rw[show a=r.length by omega,List.getElem?_append_right yR,Nat.sub_self] at ht;exact hk (by rw[←Option.some.inj ht];exact hz)
theorem OS.trn {F:Nat→Prop} (h:OS w B 41 rv cs) (ht:Trn F w w') (hF:∀ k,F k→k<B):OS w' B 41 rv cs:=by
 have far:∀ (u:Value) (xs:List Nat),In w B rv u xs→In w' B rv u xs:=fun u xs hu=>⟨ht.rd hu.rd (fun k hk e=>by have:=(hu.ap k hk).2.1;have:=hF k e;omega),fun k hk=>⟨(hu.ap k hk).1,(hu.ap k hk).2.1,Nat.lt_of_lt_of_le (hu.ap k hk).2.2 ht.size⟩,hu.one⟩;refine⟨?_,fun c hc=>far _ _ (h.l c hc),fun c hc=>far _ _ (h.m c hc)⟩;refine⟨h.own.1,?_⟩;rcases h.own.2 with hn|⟨b,cp,cur,rfl,hb,hh,r⟩
 ·exact .inl hn
 ·refine .inr ⟨b,cp,cur,rfl,hb,?_,r⟩;rw[ht.block b (yD hh).1 (fun e=>by have:=hF b e;omega)];exact hh
theorem RS.turned {a' e' f':Nat} (h:RS w B g b o cap L a rv cs e f) (ht:Trn (only g) w w') (hr:RX w' g (.slice (some ⟨b,o,none⟩) L.length cap) rv a' e' f') (ha:a'<L.length) (haa:a≤a'):RS w' B g b o cap L a' rv cs e' f' :=
 ⟨hr,h.tr.trn ht h.ne,h.os.trn ht (fun k hk=>by rw[show k=g from hk];exact h.gB),h.ends,ha,h.gB,h.bB,h.ne,Nat.le_trans h.sz ht.size,Nat.le_trans h.few haa,h.most⟩
end
theorem ris_any (kd:Nat) (tx:List UInt8) {w:World} {B g b o cap a e f:Nat} {L:List Lx.Tok} {rv:Value} {cs:List SA} (h:RS w B g b o cap L a rv cs e f) (t:Lx.Tok) (ht:L[a]?=some t) :
  Calls Tryz.prog 27 #[.pointer (some ⟨g,0,none⟩),.int .i64 (kd:Int),.string ⟨tx.toArray⟩] w fun e w'=>e = .returned (.bool (t.kind==kd && t.text==tx))∧Below w.heap.size w w':=by
 obtain⟨q0,q1,q2⟩:=h.cells ht;have p0:∀ q,(w.drewN q).cell? ⟨g,0,none⟩=some (.slice (some ⟨b,o,none⟩) L.length cap):=fun _=>h.rx.c0;have p1:∀ q,(w.drewN q).cell? ⟨g,1,none⟩=some (.int .i64 (a:Int)):=fun _=>h.rx.c1;have k0:∀ q,(w.drewN q).cell? ⟨b,o+a*3,none⟩=some (.int .i64 (t.kind:Int)):=fun _=>q0;have k1:∀ q,(w.drewN q).cell? ⟨b,o+a*3+1,none⟩=some (.string ⟨t.text.toArray⟩):=fun _=>q1;have r0:=p0 0;have r1:=p1 0
 have al:(a:Int)<(L.length:Int):=(by have:=h.al;omega);have al2:a<L.length:=h.al;obtain⟨N,hN⟩:∃ N,L.length=N:=⟨_,rfl⟩;rw[hN] at p0 al al2;clear q0 q1 q2 r0 r1 h ht hN;obtain⟨tk,tt,tp⟩:=t;dsimp only at k0 k1;by_cases hk:tk=kd
 ·have f1:((tk:Int)==(kd:Int))=true:=beq_iff_eq.2 (by omega);have f2:((tk:Int)=(kd:Int))=True:=yT;have f3:(tk=kd)=True:=eq_true hk;have hr:(tk==kd && tt==tx)=(tt==tx):=(by rw[beq_iff_eq.2 hk,Bool.true_and]);dsimp only;rw[hr];clear hr hk;by_cases hx:tt=tx
  ·have g1:(tt==tx)=true:=beq_iff_eq.2 hx;have g2:(tt=tx)=True:=eq_true hx;rw[g1];clear hx;go_enter Tryz.func27,Tryz.ntmps27;go_wp2;go_quiet (fail)
   go_wp2;go_ret;exact⟨by first|rfl|simp,⟨rfl,rfl,rfl,yR,fun _ _=>rfl⟩⟩
  ·have g1:(tt==tx)=false:=yB hx;have g2:(tt=tx)=False:=eq_false hx;rw[g1];clear hx;go_enter Tryz.func27,Tryz.ntmps27;go_wp2;go_quiet (fail)
   go_wp2;go_ret;exact⟨by first|rfl|simp,⟨rfl,rfl,rfl,yR,fun _ _=>rfl⟩⟩
 ·have f1:((tk:Int)==(kd:Int))=false:=yB;have f2:((tk:Int)=(kd:Int))=False:=yF;have f3:(tk=kd)=False:=eq_false hk;have hr:(tk==kd && tt==tx)=false:=(by rw[yB hk,Bool.false_and]);dsimp only;rw[hr];clear hr hk;go_enter Tryz.func27,Tryz.ntmps27;go_wp2;go_quiet (fail)
  go_wp2;go_ret;exact⟨by first|rfl|simp,⟨rfl,rfl,rfl,yR,fun _ _=>rfl⟩⟩
theorem rfail_ok (c:Nat) {w:World} {B g b o cap a f:Nat} {L:List Lx.Tok} {rv:Value} {cs:List SA} (h:RS w B g b o cap L a rv cs 0 f) (t:Lx.Tok) (ht:L[a]?=some t) :
  Calls Tryz.prog 28 #[.pointer (some ⟨g,0,none⟩),.int .i64 (c:Int)] w fun e w'=>e = .returned (.tuple #[])∧RS w' B g b o cap L a rv cs c t.place∧Trn (only g) w w':=by
 obtain⟨q0,q1,q2⟩:=h.cells ht;have HH:=yH h;have c3:w.cell? ⟨g,3,none⟩=some (.int .i64 0):=h.rx.c3;have f3:=h.rx.fr 3;have hw1:=h.rx.set3 c;obtain⟨w1,hw1e⟩:∃ w1,w.setCell ⟨g,3,none⟩ (.int .i64 (c:Int))=w1:=⟨_,rfl⟩;rw[hw1e] at hw1;have ht1:Trn (only g) w w1:=(by rw[←hw1e];exact Trn.setCell (F:=only g) (g:=g) (Trn.refl _ w) rfl _);have hne:=h.ne
 have kb:∀ i u,w.cell? ⟨b,i,none⟩=some u→w1.cell? ⟨b,i,none⟩=some u:=fun i u hu=>(World.cell?_of_block (ht1.block b (World.block_lt_of_cell? w _ hu) hne)).trans hu;have HW1:=yH hw1;have HT1:=yH ht1;have HE:=yH hw1e;obtain⟨k,t,p⟩:=t;obtain⟨N,hN⟩:∃ N,L.length=N:=⟨_,rfl⟩
 have hs0:(w1.cell? ⟨g,0,none⟩=some (.slice (some ⟨b,o,none⟩) N cap)∧w1.cell? ⟨g,1,none⟩=some (.int .i64 (a:Int)))∧w1.cell? ⟨b,o+a*3+2,none⟩=some (.int .i64 (p:Int)):=⟨⟨by rw[←hN];exact hw1.c0,hw1.c1⟩,kb _ _ q2⟩;have al:(a:Int)<(N:Int):=(by have:=h.al;omega);have al2:a<N:=(by have:=h.al;omega);have HAL:=yH h.al;have HN:=yH hN;clear q0 q1 q2 h ht hw1 ht1 kb hw1e hN;go_enter Tryz.func28,Tryz.ntmps28
 go_upto_region 2 with fail
 rw[HE.out];refine wp_region_held_drew (S:=fun w'=>(w'.cell? ⟨g,0,none⟩=some (.slice (some ⟨b,o,none⟩) N cap)∧w'.cell? ⟨g,1,none⟩=some (.int .i64 (a:Int)))∧w'.cell? ⟨b,o+a*3+2,none⟩=some (.int .i64 (p:Int))) (by kernel_rfl) hs0 (fun hH=>?_);have hfz:w1.drew.frozen? ⟨g,4,none⟩=false:=HW1.out.fr 4;have hcz:w1.drew.cell? ⟨g,4,none⟩=some (.int .i64 (f:Int)):=HW1.out.c4
 have hw2:RX (w1.drew.setCell ⟨g,4,none⟩ (.int .i64 (p:Int))) g (.slice (some ⟨b,o,none⟩) L.length cap) rv a c p:=RX.set4 (w:=w1.drew) HW1.out p;have HW2:=yH hw2;have HT2:=yH (Trn.setCell (F:=only g) (g:=g) (show Trn (only g) w w1.drew from ⟨HT1.out.os,HT1.out.tape,HT1.out.output,HT1.out.size,HT1.out.block⟩) (i:=4) rfl (.int .i64 (p:Int)))
 have HS1:=yH (show ((w1.drew.setCell ⟨g,4,none⟩ (.int .i64 (p:Int))).cell? ⟨g,0,none⟩=some (.slice (some ⟨b,o,none⟩) N cap)∧(w1.drew.setCell ⟨g,4,none⟩ (.int .i64 (p:Int))).cell? ⟨g,1,none⟩=some (.int .i64 (a:Int)))∧(w1.drew.setCell ⟨g,4,none⟩ (.int .i64 (p:Int))).cell? ⟨b,o+a*3+2,none⟩=some (.int .i64 (p:Int)) from ⟨⟨by rw[←HN.out];exact hw2.c0,hw2.c1⟩,(World.cell?_of_block (Below.heap_setCell _ _ _ _ hne)).trans hs0.2⟩);clear hw2
 refine heldT (i:=0) ?_;refine heldT (i:=1) ?_;refine heldT (i:=2) ?_;refine heldT (i:=3) ?_;refine heldT (i:=4) ?_;refine heldT (i:=5) ?_;refine heldT (i:=6) ?_;refine heldT (i:=7) ?_;refine heldT (i:=8) ?_;refine heldT (i:=9) ?_;refine heldT (i:=10) ?_;refine heldT (i:=11) ?_;refine heldT (i:=12) ?_;refine heldT (i:=13) ?_;refine heldNext (i:=14) rfl (by kernel_rfl) (by rfl) (fun K hK=>?_);go_simp;refine hK.out _ _ HS1.out ?_;clear hK K
 (try simp only[Act.put,zLa,zLb,zLc]);refine wpAnyH_done (by kernel_rfl) ?_ _
 skip
 go_wp2;go_end0
 exact⟨rfl,HH.out.turned HT2.out HW2.out HAL.out yR,HT2.out⟩
theorem rfail_err (c:Nat) {w:World} {B g b o cap a e f:Nat} {L:List Lx.Tok} {rv:Value} {cs:List SA} (h:RS w B g b o cap L a rv cs e f) (he:e≠0) :
  Calls Tryz.prog 28 #[.pointer (some ⟨g,0,none⟩),.int .i64 (c:Int)] w fun e w'=>e = .returned (.tuple #[])∧w=w':=by
 have c3:=h.rx.c3;have f1:((e:Int)==0)=false:=yB;have f2:((e:Int)=0)=False:=yF;have f3:(e=0)=False:=eq_false he;clear h he;go_enter Tryz.func28,Tryz.ntmps28;go_wp2;go_end0
 exact⟨rfl,rfl⟩
theorem rtake_ok (kd:Nat) {w:World} {B g b o cap a f:Nat} {L:List Lx.Tok} {rv:Value} {cs:List SA} (h:RS w B g b o cap L a rv cs 0 f) (t:Lx.Tok) (ht:L[a]?=some t) (hk:t.kind=kd) (h0:kd≠0) :
  Calls Tryz.prog 29 #[.pointer (some ⟨g,0,none⟩),.int .i64 (kd:Int)] w fun e w'=>e = .returned (.string ⟨t.text.toArray⟩)∧RS w' B g b o cap L (a+1) rv cs 0 f∧Trn (only g) w w':=by
 have hmore:=h.more ht (by rw[hk];exact h0);obtain⟨q0,q1,q2⟩:=h.cells ht;have HH:=yH h;obtain⟨k,t,p⟩:=t;obtain⟨N,hN⟩:∃ N,L.length=N:=⟨_,rfl⟩;have al:(a:Int)<(N:Int):=(by have:=h.al;omega);have al2:a<N:=(by have:=h.al;omega);have ha63:a≤401:=(by have:=h.al;have:=h.most;omega);dsimp only at q0 q1 q2;have g0:w.cell? ⟨g,0,none⟩=some (.slice (some ⟨b,o,none⟩) N cap):=by rw[←hN];exact h.rx.c0
 have hs0:(w.drew.cell? ⟨g,0,none⟩=some (.slice (some ⟨b,o,none⟩) N cap)∧w.drew.cell? ⟨g,1,none⟩=some (.int .i64 (a:Int)))∧w.drew.cell? ⟨b,o+a*3,none⟩=some (.int .i64 (k:Int))∧w.drew.cell? ⟨b,o+a*3+1,none⟩=some (.string ⟨t.toArray⟩)∧w.drew.cell? ⟨b,o+a*3+2,none⟩=some (.int .i64 (p:Int)):=⟨⟨g0,h.rx.c1⟩,q0,q1,q2⟩
 have HSA:Hid (∀ o',((w.drew.alloc o').cell? ⟨g,0,none⟩=some (.slice (some ⟨b,o,none⟩) N cap)∧(w.drew.alloc o').cell? ⟨g,1,none⟩=some (.int .i64 (a:Int)))∧(w.drew.alloc o').cell? ⟨b,o+a*3,none⟩=some (.int .i64 (k:Int))∧(w.drew.alloc o').cell? ⟨b,o+a*3+1,none⟩=some (.string ⟨t.toArray⟩)∧(w.drew.alloc o').cell? ⟨b,o+a*3+2,none⟩=some (.int .i64 (p:Int))):=yH fun o'=>by
  have kp:∀ k i v,w.cell? ⟨k,i,none⟩=some v→(w.drew.alloc o').cell? ⟨k,i,none⟩=some v:=fun k i v hv=>(World.cell?_of_block (w:=w.drew) (a:=⟨k,i,none⟩) (Below.heap_alloc _ _ _ (World.block_lt_of_cell? w _ hv))).trans hv;exact⟨⟨kp _ _ _ g0,kp _ _ _ h.rx.c1⟩,kp _ _ _ q0,kp _ _ _ q1,kp _ _ _ q2⟩
 obtain⟨w1,hw1⟩:∃ w1,(w.alloc (.cells #[.int .i64 (k:Int),.string ⟨t.toArray⟩,.int .i64 (p:Int)] 65)).drew=w1:=⟨_,rfl⟩;have hb1:Below w.heap.size w w1:=(by rw[←hw1];exact(yA).drew);have hn1:w1.heap[w.heap.size]?=some (.cells #[.int .i64 (k:Int),.string ⟨t.toArray⟩,.int .i64 (p:Int)] 65 (0,0)):=(by rw[←hw1];exact heap_alloc_new w _);have HR1:=yH (h.below hb1);have HB1:=yH hb1;have HN1:=yH hn1
 have HW1:=yH hw1;have HT:=yH ht;have HN:=yH hN;clear q0 q1 q2 g0 h ht hw1 hb1 hn1 hN;have f1:((k:Int) != (kd:Int))=false:=(by rw[bne_eq_false_iff_eq];dsimp only at hk;omega);have f2:((k:Int)==(kd:Int))=true:=beq_iff_eq.2 (by dsimp only at hk;omega);have f3:((k:Int)=(kd:Int))=True:=eq_true (by dsimp only at hk;omega);have f4:(k=kd)=True:=eq_true hk;have HM:=yH hmore;clear hk h0 hmore;go_enter Tryz.func29,Tryz.ntmps29
 go_wp2_with fail
 refine wp_region_held_drew (S:=fun w'=>(w'.cell? ⟨g,0,none⟩=some (.slice (some ⟨b,o,none⟩) N cap)∧w'.cell? ⟨g,1,none⟩=some (.int .i64 (a:Int)))∧w'.cell? ⟨b,o+a*3,none⟩=some (.int .i64 (k:Int))∧w'.cell? ⟨b,o+a*3+1,none⟩=some (.string ⟨t.toArray⟩)∧w'.cell? ⟨b,o+a*3+2,none⟩=some (.int .i64 (p:Int))) (by kernel_rfl) hs0 (fun hH=>?_);refine heldT (i:=0) ?_;refine heldT (i:=1) ?_;refine heldT (i:=2) ?_;refine heldT (i:=3) ?_
 refine heldT (i:=4) ?_;refine heldT (i:=5) ?_;refine heldT (i:=6) ?_;refine heldT (i:=7) ?_;refine heldT (i:=8) ?_;refine heldT (i:=9) ?_;refine heldNext (i:=10) rfl (by kernel_rfl) (by rfl) (fun K hK=>?_);go_simp;refine hK.out _ _ (HSA.out _) ?_;clear hK K;(try simp only[Act.put,zLa,zLb,zLc]);refine heldNext (i:=11) rfl (by kernel_rfl) (by rfl) (fun K hK=>?_);go_simp;refine hK.out _ _ (HSA.out _) ?_;clear hK K;try simp only[Act.put,zLa,zLb,zLc]
 refine wpAnyH_done (by kernel_rfl) ?_ _
 skip
 rw[HW1.out];have b0:w1.cell? ⟨w.heap.size,0,none⟩=some (.int .i64 (k:Int)):=(yC HN1.out).trans rfl;have b1:w1.cell? ⟨w.heap.size,1,none⟩=some (.string ⟨t.toArray⟩):=(yC HN1.out).trans rfl;have r1:=HR1.out.rx.c1;have r3:=HR1.out.rx.c3;have fr1:=HR1.out.rx.fr 1
 have b1':∀ v,(w1.setCell ⟨g,1,none⟩ v).cell? ⟨w.heap.size,1,none⟩=some (.string ⟨t.toArray⟩):=fun v=>(World.cell?_of_block (Below.heap_setCell _ _ _ _ (fun e=>by have:=HH.out.rx.lt;dsimp only at e;omega))).trans b1;go_wp2;go_ret;exact⟨rfl,HR1.out.turned (Trn.setCell (F:=only g) (g:=g) (Trn.refl _ w1) rfl _) (HR1.out.rx.set1 (a+1)) HM.out (Nat.le_succ _),Trn.setCell (F:=only g) (g:=g) (Trn.of_below HB1.out) rfl _⟩
theorem rtake_no (kd:Nat) {w:World} {B g b o cap a f:Nat} {L:List Lx.Tok} {rv:Value} {cs:List SA} (h:RS w B g b o cap L a rv cs 0 f) (t:Lx.Tok) (ht:L[a]?=some t) (hk:t.kind≠kd) :
  Calls Tryz.prog 29 #[.pointer (some ⟨g,0,none⟩),.int .i64 (kd:Int)] w fun e w'=>e = .returned (.string ⟨#[]⟩)∧RS w' B g b o cap L a rv cs 20 t.place∧Trn (only g) w w':=by
 obtain⟨q0,q1,q2⟩:=h.cells ht;have HH:=yH h;obtain⟨k,t,p⟩:=t;obtain⟨N,hN⟩:∃ N,L.length=N:=⟨_,rfl⟩;have al:(a:Int)<(N:Int):=(by have:=h.al;omega);have al2:a<N:=(by have:=h.al;omega);have ha63:a≤401:=(by have:=h.al;have:=h.most;omega);dsimp only at q0 q1 q2;have g0:w.cell? ⟨g,0,none⟩=some (.slice (some ⟨b,o,none⟩) N cap):=by rw[←hN];exact h.rx.c0
 have hs0:(w.drew.cell? ⟨g,0,none⟩=some (.slice (some ⟨b,o,none⟩) N cap)∧w.drew.cell? ⟨g,1,none⟩=some (.int .i64 (a:Int)))∧w.drew.cell? ⟨b,o+a*3,none⟩=some (.int .i64 (k:Int))∧w.drew.cell? ⟨b,o+a*3+1,none⟩=some (.string ⟨t.toArray⟩)∧w.drew.cell? ⟨b,o+a*3+2,none⟩=some (.int .i64 (p:Int)):=⟨⟨g0,h.rx.c1⟩,q0,q1,q2⟩
 have HSA:Hid (∀ o',((w.drew.alloc o').cell? ⟨g,0,none⟩=some (.slice (some ⟨b,o,none⟩) N cap)∧(w.drew.alloc o').cell? ⟨g,1,none⟩=some (.int .i64 (a:Int)))∧(w.drew.alloc o').cell? ⟨b,o+a*3,none⟩=some (.int .i64 (k:Int))∧(w.drew.alloc o').cell? ⟨b,o+a*3+1,none⟩=some (.string ⟨t.toArray⟩)∧(w.drew.alloc o').cell? ⟨b,o+a*3+2,none⟩=some (.int .i64 (p:Int))):=yH fun o'=>by
  have kp:∀ k i v,w.cell? ⟨k,i,none⟩=some v→(w.drew.alloc o').cell? ⟨k,i,none⟩=some v:=fun k i v hv=>(World.cell?_of_block (w:=w.drew) (a:=⟨k,i,none⟩) (Below.heap_alloc _ _ _ (World.block_lt_of_cell? w _ hv))).trans hv;exact⟨⟨kp _ _ _ g0,kp _ _ _ h.rx.c1⟩,kp _ _ _ q0,kp _ _ _ q1,kp _ _ _ q2⟩
 obtain⟨w1,hw1⟩:∃ w1,(w.alloc (.cells #[.int .i64 (k:Int),.string ⟨t.toArray⟩,.int .i64 (p:Int)] 65)).drew=w1:=⟨_,rfl⟩;have hb1:Below w.heap.size w w1:=(by rw[←hw1];exact(yA).drew);have hn1:w1.heap[w.heap.size]?=some (.cells #[.int .i64 (k:Int),.string ⟨t.toArray⟩,.int .i64 (p:Int)] 65 (0,0)):=(by rw[←hw1];exact heap_alloc_new w _);have HR1:=yH (h.below hb1);have HB1:=yH hb1;have HN1:=yH hn1
 have HW1:=yH hw1;have HT:=yH ht;have HN:=yH hN;clear q0 q1 q2 g0 h ht hw1 hb1 hn1 hN;have f1:((k:Int) != (kd:Int))=true:=(by rw[bne_iff_ne];dsimp only at hk;omega);have f2:((k:Int)==(kd:Int))=false:=yB (by dsimp only at hk;omega);have f3:((k:Int)=(kd:Int))=False:=eq_false (by dsimp only at hk;omega);have f4:(k=kd)=False:=eq_false hk;clear hk;go_enter Tryz.func29,Tryz.ntmps29;go_wp2_with fail
 refine wp_region_held_drew (S:=fun w'=>(w'.cell? ⟨g,0,none⟩=some (.slice (some ⟨b,o,none⟩) N cap)∧w'.cell? ⟨g,1,none⟩=some (.int .i64 (a:Int)))∧w'.cell? ⟨b,o+a*3,none⟩=some (.int .i64 (k:Int))∧w'.cell? ⟨b,o+a*3+1,none⟩=some (.string ⟨t.toArray⟩)∧w'.cell? ⟨b,o+a*3+2,none⟩=some (.int .i64 (p:Int))) (by kernel_rfl) hs0 (fun hH=>?_);refine heldT (i:=0) ?_;refine heldT (i:=1) ?_;refine heldT (i:=2) ?_;refine heldT (i:=3) ?_
 refine heldT (i:=4) ?_;refine heldT (i:=5) ?_;refine heldT (i:=6) ?_;refine heldT (i:=7) ?_;refine heldT (i:=8) ?_;refine heldT (i:=9) ?_;refine heldNext (i:=10) rfl (by kernel_rfl) (by rfl) (fun K hK=>?_);go_simp;refine hK.out _ _ (HSA.out _) ?_;clear hK K;(try simp only[Act.put,zLa,zLb,zLc]);refine heldNext (i:=11) rfl (by kernel_rfl) (by rfl) (fun K hK=>?_);go_simp;refine hK.out _ _ (HSA.out _) ?_;clear hK K;try simp only[Act.put,zLa,zLb,zLc]
 refine wpAnyH_done (by kernel_rfl) ?_ _
 skip
 rw[HW1.out];have b0:w1.cell? ⟨w.heap.size,0,none⟩=some (.int .i64 (k:Int)):=(yC HN1.out).trans rfl;have b1:w1.cell? ⟨w.heap.size,1,none⟩=some (.string ⟨t.toArray⟩):=(yC HN1.out).trans rfl;have r1:=HR1.out.rx.c1;have r3:=HR1.out.rx.c3;have fr1:=HR1.out.rx.fr 1;have FA:=rfail_ok 20 HR1.out _ HT.out;go_wp2_with fail
 refine FA.mono ?_;rintro e w2 ⟨rfl,hr2,ht2⟩;have HR2:=yH hr2;have HT2:=yH ht2;clear hr2 ht2 FA;go_wp2;go_ret;exact⟨rfl,HR2.out,(Trn.of_below HB1.out).then HT2.out⟩
theorem rtake_err (kd:Nat) {w:World} {B g b o cap a e0 f:Nat} {L:List Lx.Tok} {rv:Value} {cs:List SA} (h:RS w B g b o cap L a rv cs e0 f) (t:Lx.Tok) (ht:L[a]?=some t) (he:e0≠0) :
  Calls Tryz.prog 29 #[.pointer (some ⟨g,0,none⟩),.int .i64 (kd:Int)] w fun e w'=>e = .returned (.string ⟨#[]⟩)∧RS w' B g b o cap L a rv cs e0 f∧Trn (only g) w w':=by
 obtain⟨q0,q1,q2⟩:=h.cells ht;have HH:=yH h;obtain⟨k,t,p⟩:=t;obtain⟨N,hN⟩:∃ N,L.length=N:=⟨_,rfl⟩;have al:(a:Int)<(N:Int):=(by have:=h.al;omega);have al2:a<N:=(by have:=h.al;omega);have ha63:a≤401:=(by have:=h.al;have:=h.most;omega);dsimp only at q0 q1 q2;have g0:w.cell? ⟨g,0,none⟩=some (.slice (some ⟨b,o,none⟩) N cap):=by rw[←hN];exact h.rx.c0
 have hs0:(w.drew.cell? ⟨g,0,none⟩=some (.slice (some ⟨b,o,none⟩) N cap)∧w.drew.cell? ⟨g,1,none⟩=some (.int .i64 (a:Int)))∧w.drew.cell? ⟨b,o+a*3,none⟩=some (.int .i64 (k:Int))∧w.drew.cell? ⟨b,o+a*3+1,none⟩=some (.string ⟨t.toArray⟩)∧w.drew.cell? ⟨b,o+a*3+2,none⟩=some (.int .i64 (p:Int)):=⟨⟨g0,h.rx.c1⟩,q0,q1,q2⟩
 have HSA:Hid (∀ o',((w.drew.alloc o').cell? ⟨g,0,none⟩=some (.slice (some ⟨b,o,none⟩) N cap)∧(w.drew.alloc o').cell? ⟨g,1,none⟩=some (.int .i64 (a:Int)))∧(w.drew.alloc o').cell? ⟨b,o+a*3,none⟩=some (.int .i64 (k:Int))∧(w.drew.alloc o').cell? ⟨b,o+a*3+1,none⟩=some (.string ⟨t.toArray⟩)∧(w.drew.alloc o').cell? ⟨b,o+a*3+2,none⟩=some (.int .i64 (p:Int))):=yH fun o'=>by
  have kp:∀ k i v,w.cell? ⟨k,i,none⟩=some v→(w.drew.alloc o').cell? ⟨k,i,none⟩=some v:=fun k i v hv=>(World.cell?_of_block (w:=w.drew) (a:=⟨k,i,none⟩) (Below.heap_alloc _ _ _ (World.block_lt_of_cell? w _ hv))).trans hv;exact⟨⟨kp _ _ _ g0,kp _ _ _ h.rx.c1⟩,kp _ _ _ q0,kp _ _ _ q1,kp _ _ _ q2⟩
 obtain⟨w1,hw1⟩:∃ w1,(w.alloc (.cells #[.int .i64 (k:Int),.string ⟨t.toArray⟩,.int .i64 (p:Int)] 65)).drew=w1:=⟨_,rfl⟩;have hb1:Below w.heap.size w w1:=(by rw[←hw1];exact(yA).drew);have hn1:w1.heap[w.heap.size]?=some (.cells #[.int .i64 (k:Int),.string ⟨t.toArray⟩,.int .i64 (p:Int)] 65 (0,0)):=(by rw[←hw1];exact heap_alloc_new w _);have HR1:=yH (h.below hb1);have HB1:=yH hb1;have HN1:=yH hn1
 have HW1:=yH hw1;have HT:=yH ht;have HN:=yH hN;clear q0 q1 q2 g0 h ht hw1 hb1 hn1 hN;have f1:((e0:Int) != 0)=true:=(by rw[bne_iff_ne];omega);have f2:((e0:Int)==0)=false:=yB;have f3:((e0:Int)=0)=False:=yF;have f4:(e0=0)=False:=eq_false he;have HE:=yH he;clear he;go_enter Tryz.func29,Tryz.ntmps29;go_wp2_with fail
 refine wp_region_held_drew (S:=fun w'=>(w'.cell? ⟨g,0,none⟩=some (.slice (some ⟨b,o,none⟩) N cap)∧w'.cell? ⟨g,1,none⟩=some (.int .i64 (a:Int)))∧w'.cell? ⟨b,o+a*3,none⟩=some (.int .i64 (k:Int))∧w'.cell? ⟨b,o+a*3+1,none⟩=some (.string ⟨t.toArray⟩)∧w'.cell? ⟨b,o+a*3+2,none⟩=some (.int .i64 (p:Int))) (by kernel_rfl) hs0 (fun hH=>?_);refine heldT (i:=0) ?_;refine heldT (i:=1) ?_;refine heldT (i:=2) ?_;refine heldT (i:=3) ?_
 refine heldT (i:=4) ?_;refine heldT (i:=5) ?_;refine heldT (i:=6) ?_;refine heldT (i:=7) ?_;refine heldT (i:=8) ?_;refine heldT (i:=9) ?_;refine heldNext (i:=10) rfl (by kernel_rfl) (by rfl) (fun K hK=>?_);go_simp;refine hK.out _ _ (HSA.out _) ?_;clear hK K;(try simp only[Act.put,zLa,zLb,zLc]);refine heldNext (i:=11) rfl (by kernel_rfl) (by rfl) (fun K hK=>?_);go_simp;refine hK.out _ _ (HSA.out _) ?_;clear hK K;try simp only[Act.put,zLa,zLb,zLc]
 refine wpAnyH_done (by kernel_rfl) ?_ _
 skip
 rw[HW1.out];have b0:w1.cell? ⟨w.heap.size,0,none⟩=some (.int .i64 (k:Int)):=(yC HN1.out).trans rfl;have b1:w1.cell? ⟨w.heap.size,1,none⟩=some (.string ⟨t.toArray⟩):=(yC HN1.out).trans rfl;have r1:=HR1.out.rx.c1;have r3:=HR1.out.rx.c3;have fr1:=HR1.out.rx.fr 1;have FA:=rfail_err 20 HR1.out HE.out;go_wp2_with fail
 refine FA.mono ?_;rintro e w2 ⟨rfl,hw⟩;subst hw;clear FA;go_wp2;go_ret;exact⟨rfl,HR1.out,Trn.of_below HB1.out⟩
theorem rsign_ok (tx:List UInt8) {w:World} {B g b o cap a f:Nat} {L:List Lx.Tok} {rv:Value} {cs:List SA} (h:RS w B g b o cap L a rv cs 0 f) (t:Lx.Tok) (ht:L[a]?=some t) (hk:(t.kind==4 && t.text==tx)=true) :
  Calls Tryz.prog 31 #[.pointer (some ⟨g,0,none⟩),.string ⟨tx.toArray⟩] w fun e w'=>e = .returned (.tuple #[])∧RS w' B g b o cap L (a+1) rv cs 0 f∧Trn (only g) w w':=by
 have IS:=ris_any 4 tx h t ht;rw[hk] at IS;have TK:=yH (fun wx (hb:Below w.heap.size w wx)=>rtake_ok 4 (h.below hb) t ht (by simp at hk;exact hk.1) (by decide));clear hk h ht;go_enter Tryz.func31,Tryz.ntmps31;go_wp2_with fail
 refine IS.mono ?_;rintro e w1 ⟨rfl,hb1⟩;have HB1:=yH hb1;clear hb1 IS;go_wp2_with fail
 refine(TK.out w1 HB1.out).mono ?_;rintro e w2 ⟨rfl,hr2,ht2⟩;have HR2:=yH hr2;have HT2:=yH ht2;clear hr2 ht2;go_wp2;go_end0
 exact⟨rfl,HR2.out,(Trn.of_below HB1.out).then HT2.out⟩
theorem rsign_no (tx:List UInt8) {w:World} {B g b o cap a f:Nat} {L:List Lx.Tok} {rv:Value} {cs:List SA} (h:RS w B g b o cap L a rv cs 0 f) (t:Lx.Tok) (ht:L[a]?=some t) (hk:(t.kind==4 && t.text==tx)=false) :
  Calls Tryz.prog 31 #[.pointer (some ⟨g,0,none⟩),.string ⟨tx.toArray⟩] w fun e w'=>e = .returned (.tuple #[])∧RS w' B g b o cap L a rv cs 20 t.place∧Trn (only g) w w':=by
 have IS:=ris_any 4 tx h t ht;rw[hk] at IS;have TK:=yH (fun wx (hb:Below w.heap.size w wx)=>rfail_ok 20 (h.below hb) t ht);clear hk h ht;go_enter Tryz.func31,Tryz.ntmps31;go_wp2_with fail
 refine IS.mono ?_;rintro e w1 ⟨rfl,hb1⟩;have HB1:=yH hb1;clear hb1 IS;go_wp2_with fail
 refine(TK.out w1 HB1.out).mono ?_;rintro e w2 ⟨rfl,hr2,ht2⟩;have HR2:=yH hr2;have HT2:=yH ht2;clear hr2 ht2;go_wp2;refine bodyPost_ret (v:=.tuple #[]) (by simp[results,Tryz.results31,go_sem]) rfl ?_;exact⟨rfl,HR2.out,(Trn.of_below HB1.out).then HT2.out⟩
theorem rsign_err (tx:List UInt8) {w:World} {B g b o cap a e0 f:Nat} {L:List Lx.Tok} {rv:Value} {cs:List SA} (h:RS w B g b o cap L a rv cs e0 f) (he:e0≠0) :
  Calls Tryz.prog 31 #[.pointer (some ⟨g,0,none⟩),.string ⟨tx.toArray⟩] w fun e w'=>e = .returned (.tuple #[])∧RS w' B g b o cap L a rv cs e0 f∧Trn (only g) w w':=by
 obtain⟨t,ht⟩:=h.tok;have IS:=ris_any 4 tx h t ht;have HH:=yH h;have FL:=yH (fun wx (hb:Below w.heap.size w wx)=>rfail_err 20 (h.below hb) he);have TK:=yH (fun wx (hb:Below w.heap.size w wx)=>rtake_err 4 (h.below hb) t ht he);clear h ht he;cases hk:(t.kind==4 && t.text==tx) with
 | true =>
  rw[hk] at IS;clear hk;go_enter Tryz.func31,Tryz.ntmps31;go_wp2_with fail
  refine IS.mono ?_;rintro e w1 ⟨rfl,hb1⟩;have HB1:=yH hb1;clear hb1 IS;go_wp2_with fail
  refine(TK.out w1 HB1.out).mono ?_;rintro e w2 ⟨rfl,hr2,ht2⟩;have HR2:=yH hr2;have HT2:=yH ht2;clear hr2 ht2;go_wp2;go_end0
  exact⟨rfl,HR2.out,(Trn.of_below HB1.out).then HT2.out⟩
 | false =>
  rw[hk] at IS;clear hk;go_enter Tryz.func31,Tryz.ntmps31;go_wp2_with fail
  refine IS.mono ?_;rintro e w1 ⟨rfl,hb1⟩;have HB1:=yH hb1;clear hb1 IS;go_wp2_with fail
  refine(FL.out w1 HB1.out).mono ?_;rintro e w2 ⟨rfl,hw⟩;subst hw;go_wp2;refine bodyPost_ret (v:=.tuple #[]) (by simp[results,Tryz.results31,go_sem]) rfl ?_;exact⟨rfl,HH.out.below HB1.out,Trn.of_below HB1.out⟩
theorem rmode_any (l:List UInt8) (w:World):Calls Tryz.prog 30 #[.string ⟨l.toArray⟩] w fun e w'=>e = .returned (.int .i64 (Ps.mode l:Int))∧w=w':=by
 by_cases c1:l=[115,109,116,112]
 ·
  have ec1:(l==[115,109,116,112])=true:=beq_iff_eq.2 c1;have fc1:(l=[115,109,116,112])=True:=eq_true c1;have hm:Ps.mode l=1:=(by unfold Ps.mode;rw[if_pos c1]);rw[hm];clear hm c1;go_enter Tryz.func30,Tryz.ntmps30;go_wp2;go_ret;exact⟨rfl,rfl⟩
 by_cases c2:l=[112,111,112,51]
 ·
  have ec1:(l==[115,109,116,112])=false:=yB c1;have fc1:(l=[115,109,116,112])=False:=eq_false c1;have ec2:(l==[112,111,112,51])=true:=beq_iff_eq.2 c2;have fc2:(l=[112,111,112,51])=True:=eq_true c2;have hm:Ps.mode l=2:=(by unfold Ps.mode;rw[if_neg c1,if_pos c2]);rw[hm];clear hm c1 c2;go_enter Tryz.func30,Tryz.ntmps30;go_wp2;go_ret;exact⟨rfl,rfl⟩
 by_cases c3:l=[102,116,112]
 ·
  have ec1:(l==[115,109,116,112])=false:=yB c1;have fc1:(l=[115,109,116,112])=False:=eq_false c1;have ec2:(l==[112,111,112,51])=false:=yB c2;have fc2:(l=[112,111,112,51])=False:=eq_false c2;have ec3:(l==[102,116,112])=true:=beq_iff_eq.2 c3;have fc3:(l=[102,116,112])=True:=eq_true c3;have hm:Ps.mode l=3:=(by unfold Ps.mode;rw[if_neg c1,if_neg c2,if_pos c3]);rw[hm];clear hm c1 c2 c3
  go_enter Tryz.func30,Tryz.ntmps30;go_wp2;go_ret;exact⟨rfl,rfl⟩
 have ec1:(l==[115,109,116,112])=false:=yB c1;have fc1:(l=[115,109,116,112])=False:=eq_false c1;have ec2:(l==[112,111,112,51])=false:=yB c2;have fc2:(l=[112,111,112,51])=False:=eq_false c2;have ec3:(l==[102,116,112])=false:=yB c3;have fc3:(l=[102,116,112])=False:=eq_false c3;have hm:Ps.mode l=0:=(by unfold Ps.mode;rw[if_neg c1,if_neg c2,if_neg c3]);rw[hm]
 clear hm c1 c2 c3;go_enter Tryz.func30,Tryz.ntmps30;go_wp2;go_ret;exact⟨rfl,rfl⟩
theorem shape_row {w:World} {g:Nat} {t:TypeId} (h:w.heap[g]?=some (.cells #[.string ⟨#[]⟩,.string ⟨#[108,101,116,32,110,32,61,32,116,32,59]⟩,.string ⟨#[103,114,101,101,116,32,116,32,59]⟩,.string ⟨#[115,101,110,100,32,116,32,116,32,59]⟩,.string ⟨#[99,97,112,115,32,116,32,116,32,59]⟩,.string ⟨#[105,102,32,119,32,116,32,123]⟩,.string ⟨#[112,105,112,101,32,105,32,123]⟩,.string ⟨#[97,117,116,104,32,110,32,116,32,116,32,59]⟩,.string ⟨#[100,97,116,97,32,116,32,116,32,59]⟩,.string ⟨#[98,111,100,121,32,110,32,116,32,116,32,59]⟩,.string ⟨#[103,101,116,32,110,32,116,32,59]⟩,.string ⟨#[112,117,116,32,116,32,116,32,59]⟩,.string ⟨#[116,105,109,101,111,117,116,32,105,32,59]⟩,.string ⟨#[108,97,98,101,108,32,110,32,59]⟩,.string ⟨#[103,111,116,111,32,110,32,59]⟩,.string ⟨#[111,110,32,110,32,59]⟩,.string ⟨#[112,114,105,110,116,32,116,32,59]⟩,.string ⟨#[115,116,111,112,32,59]⟩] t (0,0))) (k:Nat) (hk:k<18):w.cell? ⟨g,k,none⟩=some (.string ⟨(Ps.shapeS k).toArray⟩):=by
 rw[yC h];have hks:k=0∨k=1∨k=2∨k=3∨k=4∨k=5∨k=6∨k=7∨k=8∨k=9∨k=10∨k=11∨k=12∨k=13∨k=14∨k=15∨k=16∨k=17:=(by omega);rcases hks with rfl|rfl|rfl|rfl|rfl|rfl|rfl|rfl|rfl|rfl|rfl|rfl|rfl|rfl|rfl|rfl|rfl|rfl <;> rfl
theorem rshape_any (k:Nat) (hk:k<18) (w:World):Calls Tryz.prog 78 #[.int .i64 (k:Int)] w fun e w'=>e = .returned (.string ⟨(Ps.shapeS k).toArray⟩)∧Below w.heap.size w w':=by
 obtain⟨W5,hW5⟩:∃ W5,w.alloc (.cells #[.string ⟨#[]⟩,.string ⟨#[108,101,116,32,110,32,61,32,116,32,59]⟩,.string ⟨#[103,114,101,101,116,32,116,32,59]⟩,.string ⟨#[115,101,110,100,32,116,32,116,32,59]⟩,.string ⟨#[99,97,112,115,32,116,32,116,32,59]⟩,.string ⟨#[105,102,32,119,32,116,32,123]⟩,.string ⟨#[112,105,112,101,32,105,32,123]⟩,.string ⟨#[97,117,116,104,32,110,32,116,32,116,32,59]⟩,.string ⟨#[100,97,116,97,32,116,32,116,32,59]⟩,.string ⟨#[98,111,100,121,32,110,32,116,32,116,32,59]⟩,.string ⟨#[103,101,116,32,110,32,116,32,59]⟩,.string ⟨#[112,117,116,32,116,32,116,32,59]⟩,.string ⟨#[116,105,109,101,111,117,116,32,105,32,59]⟩,.string ⟨#[108,97,98,101,108,32,110,32,59]⟩,.string ⟨#[103,111,116,111,32,110,32,59]⟩,.string ⟨#[111,110,32,110,32,59]⟩,.string ⟨#[112,114,105,110,116,32,116,32,59]⟩,.string ⟨#[115,116,111,112,32,59]⟩] 9)=W5:=⟨_,rfl⟩
 have hx5:W5.heap[w.heap.size]?=some (.cells #[.string ⟨#[]⟩,.string ⟨#[108,101,116,32,110,32,61,32,116,32,59]⟩,.string ⟨#[103,114,101,101,116,32,116,32,59]⟩,.string ⟨#[115,101,110,100,32,116,32,116,32,59]⟩,.string ⟨#[99,97,112,115,32,116,32,116,32,59]⟩,.string ⟨#[105,102,32,119,32,116,32,123]⟩,.string ⟨#[112,105,112,101,32,105,32,123]⟩,.string ⟨#[97,117,116,104,32,110,32,116,32,116,32,59]⟩,.string ⟨#[100,97,116,97,32,116,32,116,32,59]⟩,.string ⟨#[98,111,100,121,32,110,32,116,32,116,32,59]⟩,.string ⟨#[103,101,116,32,110,32,116,32,59]⟩,.string ⟨#[112,117,116,32,116,32,116,32,59]⟩,.string ⟨#[116,105,109,101,111,117,116,32,105,32,59]⟩,.string ⟨#[108,97,98,101,108,32,110,32,59]⟩,.string ⟨#[103,111,116,111,32,110,32,59]⟩,.string ⟨#[111,110,32,110,32,59]⟩,.string ⟨#[112,114,105,110,116,32,116,32,59]⟩,.string ⟨#[115,116,111,112,32,59]⟩] 9 (0,0)):=by rw[←hW5];exact heap_alloc_new _ _
 have HB:=yH (show Below w.heap.size w W5 by rw[←hW5];exact yA);have hc:=shape_row hx5 k hk;have h1:((k:Int)<0)=False:=yF;have h2:((18:Int)≤(k:Int))=False:=yF;have h3:(k:Int)<18:=(by omega);generalize Ps.shapeS k=T at hc ⊢;clear hx5;go_enter Tryz.func78,Tryz.ntmps78;go_wp2;go_ret;exact⟨rfl,HB.out⟩
theorem rwk_any (k:Nat) (h1:1≤k) (h2:k≤17) (w:World):Calls Tryz.prog 77 #[.string ⟨(Ps.shapeS k).toArray⟩] w fun e w' =>
  ∃ g n cap,e = .returned (.slice (some ⟨g,0,none⟩) n cap)∧n=(Ps.fw k :: Ps.tailW k).length∧(∀ j x,(Ps.fw k :: Ps.tailW k)[j]?=some x→w'.cell? ⟨g,j,none⟩=some (.string ⟨x.toArray⟩))∧Below w.heap.size w w':=by
 have hl:=Ps.shapeS_len ⟨k,by omega⟩;refine(ref_words ⟨(Ps.shapeS k).toArray⟩ w (by show (Ps.shapeS k).length≤_;simp only at hl;omega)).mono ?_;rintro e w' ⟨v,rfl,ho,hb⟩;rw[show (⟨(Ps.shapeS k).toArray⟩:ByteArray).data.toList=Ps.shapeS k from rfl,Ps.words_of h1 h2] at ho;obtain⟨g,cap,rfl,hg,_,_,hc⟩:=own_pos ho (by simp);exact⟨g,_,cap,rfl,rfl,fun j x hx=>hc j _ (by rw[List.getElem?_map,hx];rfl),hb⟩
theorem rkind_any {w:World} {B g b o cap a e f:Nat} {L:List Lx.Tok} {rv:Value} {cs:List SA} (h:RS w B g b o cap L a rv cs e f) (t:Lx.Tok) (ht:L[a]?=some t) :
  Calls Tryz.prog 45 #[.pointer (some ⟨g,0,none⟩)] w fun e w'=>e = .returned (.int .i64 ((if t.kind=1 then Ps.kindOf t.text else 0:Nat):Int))∧Below w.heap.size w w':=by
 have HH:=yH h;have HT:=yH ht;obtain⟨k,tx,p⟩:=t;obtain⟨N,hN⟩:∃ N,L.length=N:=⟨_,rfl⟩;have al:(a:Int)<(N:Int):=(by have:=h.al;omega);have al2:a<N:=(by have:=h.al;omega);have HN:=yH hN
 have K:=yH (fun (wx:World) (hb:Below w.heap.size w wx)=>(by
  have r:=h.below hb;obtain⟨q0,q1,_⟩:=r.cells ht;exact⟨by rw[←hN];exact r.rx.c0,r.rx.c1,q0,q1⟩:wx.cell? ⟨g,0,none⟩=some (.slice (some ⟨b,o,none⟩) N cap)∧wx.cell? ⟨g,1,none⟩=some (.int .i64 (a:Int))∧wx.cell? ⟨b,o+a*3,none⟩=some (.int .i64 (k:Int))∧wx.cell? ⟨b,o+a*3+1,none⟩=some (.string ⟨tx.toArray⟩)))
 obtain⟨c0,c1,c2,c3⟩:=K.out w (Below.refl _ _);have d0:∀ q,(w.drewN q).cell? ⟨g,0,none⟩=some (.slice (some ⟨b,o,none⟩) N cap):=fun _=>c0;have d1:∀ q,(w.drewN q).cell? ⟨g,1,none⟩=some (.int .i64 (a:Int)):=fun _=>c1;have d2:∀ q,(w.drewN q).cell? ⟨b,o+a*3,none⟩=some (.int .i64 (k:Int)):=fun _=>c2;clear h ht hN c0 c1 c2 c3;by_cases hk:k=1
 ·have f1:((k:Int) != 1)=false:=(by rw[bne_eq_false_iff_eq];omega);have f2:((k:Int)==1)=true:=beq_iff_eq.2 (by omega);have f3:((k:Int)=1)=True:=yT;have f4:(k=1)=True:=eq_true hk;obtain⟨R,hR⟩:∃ R,Ps.kindOf tx=R:=⟨_,rfl⟩;dsimp only;rw[if_pos hk,hR];have HR:=yH hR;clear hk hR;go_enter Tryz.func45,Tryz.ntmps45;go_wp2;go_quiet (fail)
  generalize hwq:w.drewN nq=wq;have HBQ:=yH (show Below w.heap.size w wq by rw[←hwq];exact⟨rfl,rfl,rfl,yR,fun _ _=>rfl⟩);clear hwq d0 d1 d2;go_wp2;go_loopw [3,4] (fun s3 s4 wr=>∃ j:Nat,1≤j∧j≤18∧s3 = .int .i64 (j:Int)∧Hid (Below w.heap.size w wr)∧Hid (R=Ps.kindIn tx j (Ps.firsts.drop (j-1)))) (fun s3 s4 _=>18-(intOf s3).toNat)
  case atStart=>exact⟨1,by omega,by omega,rfl,HBQ,yH HR.out.symm⟩
  case round =>
   obtain⟨j,hj1,hj2,rfl,HB,HQ⟩:=hrel;by_cases hlt:j≤17
   ·have hq:=HQ.out;rw[Ps.kind_from tx j hj1 hlt] at hq;have hj3:(j:Int)≤17:=(by omega);have SH:=rshape_any j (by omega) wr;have WD:=yH (fun wx=>rwk_any j hj1 hlt wx);have HQQ:=yH hq;clear hq HQ;go_wp2_with fail
    refine SH.mono ?_;rintro e w1 ⟨rfl,hb1⟩;have HB1:=yH (HB.out.trans (hb1.mono HB.out.size));clear hb1 SH;go_wp2_with fail
    refine(WD.out w1).mono ?_;rintro e w2 ⟨gw,nw,cw,rfl,hnw,hcw,hb2⟩;have HB2:=yH (HB1.out.trans (hb2.mono HB1.out.size));have hn0:(0:Int)<(nw:Int):=(by rw[hnw];simp only[List.length_cons];omega);have hn1:0<nw:=(by omega);have c4:=hcw 0 _ rfl;obtain⟨x0,x1,x2,x3⟩:=K.out w2 HB2.out;have d0:∀ q,(w2.drewN q).cell? ⟨g,0,none⟩=some (.slice (some ⟨b,o,none⟩) N cap):=fun _=>x0
    have d1:∀ q,(w2.drewN q).cell? ⟨g,1,none⟩=some (.int .i64 (a:Int)):=fun _=>x1;have d3:∀ q,(w2.drewN q).cell? ⟨b,o+a*3+1,none⟩=some (.string ⟨tx.toArray⟩):=fun _=>x3;have d4:∀ q,(w2.drewN q).cell? ⟨gw,0,none⟩=some (.string ⟨(Ps.fw j).toArray⟩):=fun _=>c4;clear hnw hcw hb2 c4 x0 x1 x2 x3;by_cases he:tx=Ps.fw j
    ·have e1:(Ps.fw j==tx)=true:=beq_iff_eq.2 he.symm;have e2:(Ps.fw j=tx)=True:=eq_true he.symm;have hv:R=j:=(by rw[HQQ.out,if_pos he]);subst hv;clear he;go_wp2;go_quiet (fail)
     go_wp2;go_ret;exact⟨rfl,HB2.out.trans ⟨rfl,rfl,rfl,yR,fun _ _=>rfl⟩⟩
    ·have e1:(Ps.fw j==tx)=false:=yB (fun e=>he e.symm);have e2:(Ps.fw j=tx)=False:=eq_false (fun e=>he e.symm);have HV:=yH (show R=Ps.kindIn tx (j+1) (Ps.firsts.drop (j+1-1)) by rw[HQQ.out,if_neg he];rfl);clear he;go_wp2;go_quiet (fail)
     generalize hwq:w2.drewN nq=wq;have HB3:=yH (show Below w.heap.size w wq by rw[←hwq];exact HB2.out.trans ⟨rfl,rfl,rfl,yR,fun _ _=>rfl⟩);clear hwq d0 d1 d3 d4;go_wp2;go_roundw
     case rel=>exact⟨j+1,by omega,by omega,by first|rfl|go_num,HB3,HV⟩
     case measure=>simp[intOf];omega
   ·obtain rfl:j=18:=(by omega);have hv:R=0:=HQ.out;subst hv;go_wp2;go_ret;exact⟨rfl,HB.out⟩
 ·have f1:((k:Int) != 1)=true:=(by rw[bne_iff_ne];omega);have f2:((k:Int)==1)=false:=yB;have f3:((k:Int)=1)=False:=yF;have f4:(k=1)=False:=eq_false hk;dsimp only;rw[if_neg hk];clear hk;go_enter Tryz.func45,Tryz.ntmps45;go_wp2;go_quiet (fail)
  go_wp2;go_ret;exact⟨rfl,⟨rfl,rfl,rfl,yR,fun _ _=>rfl⟩⟩
def TKU (e0 f0 kd a:Nat) (t:Lx.Tok) (x:List UInt8) (a' e' f':Nat):Prop :=
 (e0=0∧t.kind=kd∧x=t.text∧a'=a+1∧e'=0)∨(e0=0∧t.kind≠kd∧x=[]∧a'=a∧e'=20∧f'=t.place)∨(e0≠0∧x=[]∧a'=a∧e'=e0∧f'=f0)
theorem rtake_u (kd:Nat) (h0:kd≠0) {w:World} {B g b o cap a e0 f:Nat} {L:List Lx.Tok} {rv:Value} {cs:List SA} (h:RS w B g b o cap L a rv cs e0 f) (t:Lx.Tok) (ht:L[a]?=some t) :
  Calls Tryz.prog 29 #[.pointer (some ⟨g,0,none⟩),.int .i64 (kd:Int)] w fun e w'=>∃ (x:List UInt8) (a' e' f':Nat),e = .returned (.string ⟨x.toArray⟩)∧RS w' B g b o cap L a' rv cs e' f'∧Trn (only g) w w'∧TKU e0 f kd a t x a' e' f':=by
 by_cases he:e0=0
 ·subst he;by_cases hk:t.kind=kd
  ·refine(rtake_ok kd h t ht hk h0).mono ?_;rintro e w' ⟨h1,h2,h3⟩;exact⟨_,_,_,_,h1,h2,h3,.inl ⟨rfl,hk,rfl,rfl,rfl⟩⟩
  ·refine(rtake_no kd h t ht hk).mono ?_;rintro e w' ⟨h1,h2,h3⟩;exact⟨[],_,_,_,h1,h2,h3,.inr (.inl ⟨rfl,hk,rfl,rfl,rfl,rfl⟩)⟩
 ·refine(rtake_err kd h t ht he).mono ?_;rintro e w' ⟨h1,h2,h3⟩;exact⟨[],_,_,_,h1,h2,h3,.inr (.inr ⟨he,rfl,rfl,rfl,rfl⟩)⟩
def FLU (e0 f0 c:Nat) (t:Lx.Tok) (e' f':Nat):Prop:=(e0=0∧e'=c∧f'=t.place)∨(e0≠0∧e'=e0∧f'=f0)
theorem rfail_u (c:Nat) {w:World} {B g b o cap a e0 f:Nat} {L:List Lx.Tok} {rv:Value} {cs:List SA} (h:RS w B g b o cap L a rv cs e0 f) (t:Lx.Tok) (ht:L[a]?=some t) :
  Calls Tryz.prog 28 #[.pointer (some ⟨g,0,none⟩),.int .i64 (c:Int)] w fun e w'=>∃ e' f':Nat,e = .returned (.tuple #[])∧RS w' B g b o cap L a rv cs e' f'∧Trn (only g) w w'∧FLU e0 f c t e' f':=by
 by_cases he:e0=0
 ·subst he;refine(rfail_ok c h t ht).mono ?_;rintro e w' ⟨h1,h2,h3⟩;exact⟨_,_,h1,h2,h3,.inl ⟨rfl,rfl,rfl⟩⟩
 ·refine(rfail_err c h he).mono ?_;rintro e w' ⟨h1,h2⟩;subst h2;exact⟨_,_,h1,h,Trn.refl _ _,.inr ⟨he,rfl,rfl⟩⟩
def SGU (e0 f0:Nat) (tx:List UInt8) (a:Nat) (t:Lx.Tok) (a' e' f':Nat):Prop :=
 (e0=0∧(t.kind==4 && t.text==tx)=true∧a'=a+1∧e'=0)∨(e0=0∧(t.kind==4 && t.text==tx)=false∧a'=a∧e'=20∧f'=t.place)∨(e0≠0∧a'=a∧e'=e0∧f'=f0)
theorem rsign_u (tx:List UInt8) {w:World} {B g b o cap a e0 f:Nat} {L:List Lx.Tok} {rv:Value} {cs:List SA} (h:RS w B g b o cap L a rv cs e0 f) (t:Lx.Tok) (ht:L[a]?=some t) :
  Calls Tryz.prog 31 #[.pointer (some ⟨g,0,none⟩),.string ⟨tx.toArray⟩] w fun e w'=>∃ a' e' f':Nat,e = .returned (.tuple #[])∧RS w' B g b o cap L a' rv cs e' f'∧Trn (only g) w w'∧SGU e0 f tx a t a' e' f':=by
 by_cases he:e0=0
 ·subst he;cases hk:(t.kind==4 && t.text==tx) with
  | true =>
   refine(rsign_ok tx h t ht hk).mono ?_;rintro e w' ⟨h1,h2,h3⟩;exact⟨_,_,_,h1,h2,h3,.inl ⟨rfl,hk,rfl,rfl⟩⟩
  | false =>
   refine(rsign_no tx h t ht hk).mono ?_;rintro e w' ⟨h1,h2,h3⟩;exact⟨_,_,_,h1,h2,h3,.inr (.inl ⟨rfl,hk,rfl,rfl,rfl⟩)⟩
 ·refine(rsign_err tx h he).mono ?_;rintro e w' ⟨h1,h2,h3⟩;exact⟨_,_,_,h1,h2,h3,.inr (.inr ⟨he,rfl,rfl,rfl⟩)⟩
end Go.Proofs.YtodlhhfcjkjapaaGreatDoor
