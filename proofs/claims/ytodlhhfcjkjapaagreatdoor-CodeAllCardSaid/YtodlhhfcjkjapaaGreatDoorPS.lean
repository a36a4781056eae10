import Derived.Test.YtodlhhfcjkjapaaGreatDoorPG
import Derived.Test.YtodlhhfcjkjapaaGreatDoorPD
namespace Go.Proofs.YtodlhhfcjkjapaaGreatDoor
open Go.RowKit
def setN (w:World) (q:Nat):Nat→List Value→World
 | _,[]=>w
 | i,v :: vs=>setN (w.setCell ⟨q,i,none⟩ v) q (i+1) vs
theorem setN_trn {F:Nat→Prop} {q:Nat} (hq:F q):∀ (vs:List Value) (i:Nat) {w w':World},Trn F w w'→Trn F w (setN w' q i vs)
 | [],_,_,_,h=>h
 | v :: vs,i,_,_,h=>setN_trn hq vs (i+1) (h.setCell hq v)
theorem setN_other {q k:Nat} (hk:k≠q):∀ (vs:List Value) (i:Nat) {w:World},(setN w q i vs).heap[k]?=w.heap[k]?
 | [],_,_=>rfl
 | _ :: vs,i,_=>(setN_other hk vs (i+1)).trans (Below.heap_setCell _ _ _ _ hk)
theorem setN_heap {q:Nat} {t:TypeId}:∀ (vs pre C:List Value) (w:World),w.heap[q]?=some (.cells (pre++C).toArray t (0,0))→C.length=vs.length→(setN w q pre.length vs).heap[q]?=some (.cells (pre++vs).toArray t (0,0))
 | [],pre,C,w,h,hl=>by
  obtain rfl:C=[]:=List.length_eq_zero_iff.1 hl;exact h
 | v :: vs,pre,C,w,h,hl=>by
  cases C with
  | nil=>simp at hl
  | cons c C =>
   have h2:=setCell_row (i:=pre.length) (u:=v) h;rw[List.setIfInBounds_toArray,List.set_append_right _ _ yR,Nat.sub_self,List.set_cons_zero,show pre++v :: C=(pre++[v])++C by simp] at h2;have:=setN_heap vs (pre++[v]) C _ h2 (by simpa using hl);rw[List.length_append] at this;rw[show pre++v :: vs=(pre++[v])++vs by simp];exact this
theorem IR.form3 {w:World} {B:Nat} {e:TypeId} {v:Value} {xs:List Nat} (h:IR w B e v xs):∃ ao n cap,v = .slice ao n cap:=by
 obtain⟨ao,cap,e⟩:=h.form;exact⟨ao,_,cap,e⟩
def H9 (w:World) (q:Nat) (vs:List Value):Prop:=w.heap[q]?=some (.cells vs.toArray 105 (0,0))
theorem H9.set {w:World} {q:Nat} {vs us:List Value} (h:H9 w q us) (hl:us.length=vs.length):H9 (setN w q 0 vs) q vs:=setN_heap vs [] us w h hl
theorem H9.cell {w:World} {q:Nat} {vs:List Value} (h:H9 w q vs) {i:Nat} {u:Value} (hu:vs[i]?=some u):w.cell? ⟨q,i,none⟩=some u:=by
 unfold H9 at h;rw[yC h];simpa using hu
theorem H9.fr {w:World} {q:Nat} {vs:List Value} (h:H9 w q vs) (i:Nat):w.frozen? ⟨q,i,none⟩=false:=by unfold H9 at h;simp[World.frozen?,h]
theorem H9.lt {w:World} {q:Nat} {vs:List Value} (h:H9 w q vs):q<w.heap.size:=(yD h).1
theorem H9.same {w w':World} {q:Nat} {vs:List Value} (h:H9 w q vs) (e:w'.heap[q]?=w.heap[q]?):H9 w' q vs:=e.trans h
theorem H9.trn {F:Nat→Prop} {w w':World} {q:Nat} {vs:List Value} (h:H9 w q vs) (ht:Trn F w w') (hF:¬ F q):H9 w' q vs:=h.same (ht.block _ h.lt hF)
def hagg (x:HA):Value:=.agg (hCells x).toArray
set_option maxRecDepth 20000 in
set_option maxHeartbeats 4000000 in
theorem pop_any {B g b q md a f:Nat} {lv ov sv' tv:Value} {ts:List Lx.Tok} {hs:List HA} {cs:List SA} {top:List Nat} (x:HA) (w:World) (h:PX w B g b q lv ov sv' tv md a f ts (hs++[x]) [] cs top) (hn:hs.length≤1048576) :
  Calls Tryz.prog 65 #[.pointer (some ⟨g,0,none⟩)] w fun e w'=>e = .returned (hagg x) ∧ ∃ ov',PX w' B g b q lv ov' sv' tv md a f ts hs [x] cs top∧Trn (only g) w w'∧Below B w w':=by
 obtain⟨og,cap,rfl,hc1,hc2⟩:=h.form;obtain⟨N,hN⟩:∃ N,hs.length=N:=⟨_,rfl⟩;have hlast:=h.last;have hPX:=h;rw[hN] at h hn hc1 hlast;have HH:=yH hPX;have HN:=yH hN;obtain⟨st,lv1,mv1,els⟩:=x;obtain⟨i1,i2⟩:=HH.out.hl ⟨st,lv1,mv1,els⟩ (by simp);obtain⟨la,ll,lc,hl1⟩:=i1.form3;obtain⟨ma,ml,mc,hm1⟩:=i2.form3;dsimp only at hl1 hm1;subst hl1 hm1;clear i1 i2;obtain⟨k,s,t,u,n,p,pl,pm⟩:=st
 obtain⟨T,hT⟩:∃ T,w.alloc (.cells #[.int .i64 0,.string ⟨#[]⟩,.string ⟨#[]⟩,.string ⟨#[]⟩,.int .i64 0,.int .i64 0,.slice none 0 0,.slice none 0 0,.bool false] 105)=T:=⟨_,rfl⟩;have hz:H9 T w.heap.size [.int .i64 0,.string ⟨#[]⟩,.string ⟨#[]⟩,.string ⟨#[]⟩,.int .i64 0,.int .i64 0,.slice none 0 0,.slice none 0 0,.bool false]:=(by rw[←hT];exact heap_alloc_new _ _);have hbT:Below w.heap.size w T:=by rw[←hT];exact yA
 have hsz:T.heap.size=w.heap.size+1:=(by rw[←hT];simp);have hxc:∀ i v,(hCells ⟨⟨k,s,t,u,n,p,pl,pm⟩,.slice la ll lc,.slice ma ml mc,els⟩)[i]?=some v→T.cell? ⟨og,N*9+i,none⟩=some v:=fun i v hv=>(hbT.cell (World.block_lt_of_cell? w _ (hlast i v hv).1)).trans (hlast i v hv).1;have o0:=hxc 0 _ rfl;have o1:=hxc 1 _ rfl;have o2:=hxc 2 _ rfl;have o3:=hxc 3 _ rfl;have o4:=hxc 4 _ rfl;have o5:=hxc 5 _ rfl;have o6:=hxc 6 _ rfl;have o7:=hxc 7 _ rfl
 have o8:=hxc 8 _ rfl;have gT:=(h.rb.below hbT).c1;obtain⟨T2,hT2⟩:∃ T2,T.alloc (.cells #[.int .i64 (k:Int),.string ⟨s.toArray⟩,.string ⟨t.toArray⟩,.string ⟨u.toArray⟩,.int .i64 (n:Int),.int .i64 (p:Int),.slice la ll lc,.slice ma ml mc,.bool els] 105)=T2:=⟨_,rfl⟩
 have hy:H9 T2 (w.heap.size+1) [.int .i64 (k:Int),.string ⟨s.toArray⟩,.string ⟨t.toArray⟩,.string ⟨u.toArray⟩,.int .i64 (n:Int),.int .i64 (p:Int),.slice la ll lc,.slice ma ml mc,.bool els]:=(by rw[←hT2,←hsz];exact heap_alloc_new _ _);have hbT2:Below w.heap.size w T2:=by rw[←hT2];exact hbT.alloc hbT.size _
 have hz2:H9 T2 w.heap.size [.int .i64 0,.string ⟨#[]⟩,.string ⟨#[]⟩,.string ⟨#[]⟩,.int .i64 0,.int .i64 0,.slice none 0 0,.slice none 0 0,.bool false]:=(by rw[←hT2];exact hz.same (Below.heap_alloc _ _ _ hz.lt));have hr2:=h.rb.below hbT2;have g1:=hr2.c1;have gf:=hr2.fr 1;obtain⟨T3,hT3⟩:∃ T3,T2.setCell ⟨g,1,none⟩ (.slice (some ⟨og,0,none⟩) N cap)=T3:=⟨_,rfl⟩;have hgl:=h.rb.lt
 have hr3:RB T3 g lv (.slice (some ⟨og,0,none⟩) N cap) md sv' tv a f:=(by rw[←hT3];exact hr2.set1 _);have ht3:Trn (only g) T2 T3:=(by rw[←hT3];exact Trn.setCell (F:=only g) (Trn.refl _ _) (show g=g from rfl) _);have hy3:=hy.trn ht3 (show ¬ (w.heap.size+1=g) by omega);have hz3:=hz2.trn ht3 (show ¬ (w.heap.size=g) by omega);have htw:Trn (only g) w T3:=(Trn.of_below hbT2).then ht3;have y0:=hy3.cell (i:=0) rfl;have y1:=hy3.cell (i:=1) rfl
 have y2:=hy3.cell (i:=2) rfl;have y3:=hy3.cell (i:=3) rfl;have y4:=hy3.cell (i:=4) rfl;have y5:=hy3.cell (i:=5) rfl;have y6:=hy3.cell (i:=6) rfl;have y7:=hy3.cell (i:=7) rfl;have y8:=hy3.cell (i:=8) rfl;have z0:=hz3.cell (i:=0) rfl;have z1:=hz3.cell (i:=1) rfl;have z2:=hz3.cell (i:=2) rfl;have z3:=hz3.cell (i:=3) rfl;have z4:=hz3.cell (i:=4) rfl;have z5:=hz3.cell (i:=5) rfl;have z6:=hz3.cell (i:=6) rfl;have z7:=hz3.cell (i:=7) rfl
 have z8:=hz3.cell (i:=8) rfl;have zf0:=hz3.fr 0;have zf1:=hz3.fr 1;have zf2:=hz3.fr 2;have zf3:=hz3.fr 3;have zf4:=hz3.fr 4;have zf5:=hz3.fr 5;have zf6:=hz3.fr 6;have zf7:=hz3.fr 7;have zf8:=hz3.fr 8;have n1:((N+1:Nat):Int)-1=(N:Int):=(by omega);have n2:(N:Int)≤(cap:Int):=(by omega);have n3:(N:Int)<((N+1:Nat):Int):=by omega
 have hset:=hz3.set (vs:=[.int .i64 (k:Int),.string ⟨s.toArray⟩,.string ⟨t.toArray⟩,.string ⟨u.toArray⟩,.int .i64 (n:Int),.int .i64 (p:Int),.slice la ll lc,.slice ma ml mc,.bool els]) rfl
 have hsetT:Trn (fun k=>k=g∨w.heap.size≤k) w (setN T3 w.heap.size 0 [.int .i64 (k:Int),.string ⟨s.toArray⟩,.string ⟨t.toArray⟩,.string ⟨u.toArray⟩,.int .i64 (n:Int),.int .i64 (p:Int),.slice la ll lc,.slice ma ml mc,.bool els]):=setN_trn (.inr yR) _ _ (htw.more (fun k hk=>.inl hk));have HS:=yH hset;have HST:=yH hsetT;have HR3:=yH hr3;rw[Nat.add_zero] at o0;clear hxc hz hz2 hz3 hy hy3 hbT hbT2 h hPX hN hlast hr2 hr3 ht3 htw hset hsetT
 go_enter Tryz.func65,Tryz.ntmps65;go_wp2;change bodyPost _ _ _ _ _ (setN T3 w.heap.size 0 [.int .i64 (k:Int),.string ⟨s.toArray⟩,.string ⟨t.toArray⟩,.string ⟨u.toArray⟩,.int .i64 (n:Int),.int .i64 (p:Int),.slice la ll lc,.slice ma ml mc,.bool els]);have hs:=HS.out;have ht:=HST.out
 have hr:=HR3.out.same (w':=setN T3 w.heap.size 0 [.int .i64 (k:Int),.string ⟨s.toArray⟩,.string ⟨t.toArray⟩,.string ⟨u.toArray⟩,.int .i64 (n:Int),.int .i64 (p:Int),.slice la ll lc,.slice ma ml mc,.bool els]) (setN_other (by omega) _ _);generalize setN T3 w.heap.size 0 [.int .i64 (k:Int),.string ⟨s.toArray⟩,.string ⟨t.toArray⟩,.string ⟨u.toArray⟩,.int .i64 (n:Int),.int .i64 (p:Int),.slice la ll lc,.slice ma ml mc,.bool els]=W at hs ht hr ⊢
 have r0:=hs.cell (i:=0) rfl;have r1:=hs.cell (i:=1) rfl;have r2:=hs.cell (i:=2) rfl;have r3:=hs.cell (i:=3) rfl;have r4:=hs.cell (i:=4) rfl;have r5:=hs.cell (i:=5) rfl;have r6:=hs.cell (i:=6) rfl;have r7:=hs.cell (i:=7) rfl;have r8:=hs.cell (i:=8) rfl;have htw:Trn (only g) w W:=⟨ht.os,ht.tape,ht.output,ht.size,fun j hj hF=>ht.block j hj (fun e=>e.elim hF (fun e=>by omega))⟩;rw[←HN.out] at hr;obtain⟨q1,q2⟩:=HH.out.pop htw hr
 refine bodyPost_ret (v:=.agg #[.int .i64 (k:Int),.string ⟨s.toArray⟩,.string ⟨t.toArray⟩,.string ⟨u.toArray⟩,.int .i64 (n:Int),.int .i64 (p:Int),.slice la ll lc,.slice ma ml mc,.bool els]) (by simp[results,Tryz.results65,go_sem,r0,r1,r2,r3,r4,r5,r6,r7,r8]) rfl ⟨rfl,⟨_,q1⟩,htw,q2⟩
end Go.Proofs.YtodlhhfcjkjapaaGreatDoor
