/- CodeCounts walked (layer 18). Laid by wip/tools/gen_ccnt.py. -/
import Derived.Test.YtodlhhfcjkjapaaGreatDoorDO
import Derived.Test.YtodlhhfcjkjapaaGreatDoorCR
import Derived.Test.YtodlhhfcjkjapaaGreatDoorBA
namespace Go.Proofs.YtodlhhfcjkjapaaGreatDoor
open Go.RowKit
def K20 (w:World) (b:Nat) (f:Nat→Int):Prop:=w.heap[b]?=some (.cells ((List.range 20).map fun k=>Value.int .i64 (f k)).toArray 39 (0,0))
section
variable {w w':World} {b:Nat} {f g:Nat→Int}
theorem K20.lt (h:K20 w b f):b<w.heap.size:=(Array.getElem?_eq_some_iff.1 h).1
theorem K20.below (h:K20 w b f) (hb:Below w.heap.size w w'):K20 w' b f:=(hb.block b h.lt).trans h
theorem K20.c (h:K20 w b f) {k:Nat} (hk:k<20):w.cell? ⟨b,k,none⟩=some (.int .i64 (f k)):=by
 unfold K20 at h;rw [cell_of_row _ _ _ _ _ _ h];simp [hk]
theorem K20.fr (h:K20 w b f) (k:Nat):w.frozen? ⟨b,k,none⟩=false:=frozen_of_row _ _ _ _ _ h
theorem K20.congr (h:K20 w b f) (hfg:∀ k,k<20→f k=g k):K20 w b g:=by
 unfold K20 at *;rw [h];have:(List.range 20).map (fun k=>Value.int .i64 (f k))=(List.range 20).map (fun k=>Value.int .i64 (g k)):=List.map_congr_left fun k hk=>by rw [hfg k (by simpa using hk)]
 rw [this]
theorem K20.set (h:K20 w b f) {k:Nat} (hk:k<20) (x:Int) (hg:∀ j,j<20→g j=if j=k then x else f j):K20 (w.setCell ⟨b,k,none⟩ (.int .i64 x)) b g:=by
 have h2:K20 (w.setCell ⟨b,k,none⟩ (.int .i64 x)) b (fun j=>if j=k then x else f j):=by
  unfold K20 at *;rw [setCell_row h]
  have:((List.range 20).map fun k=>Value.int .i64 (f k)).toArray.setIfInBounds k (.int .i64 x)=((List.range 20).map fun j=>Value.int .i64 (if j=k then x else f j)).toArray:=by
   apply Array.ext_getElem?
   intro i;rw [List.setIfInBounds_toArray,List.getElem?_toArray,List.getElem?_toArray,List.getElem?_set,List.getElem?_map,List.getElem?_map];by_cases hi:k=i
   ·subst hi;simp [hk]
   ·rw [if_neg hi];cases hr:(List.range 20)[i]? with
    | none=>rfl
    | some j =>
     have:j=i:=by
      obtain ⟨h1,h2⟩:=List.getElem?_eq_some_iff.1 hr;simpa using h2.symm
     subst this;simp only [Option.map_some];rw [if_neg (fun e=>hi e.symm)]
  rw [this]
 exact h2.congr fun j hj=>(hg j hj).symm
end
def f1 (row:List Ps.St) (k j:Nat):Int:=(Cd.cnt j (row.take k):Int) + if j=18 then ((row.take k).countP Cd.hasElse:Int) else 0
def wantN (row:List Ps.St) (k:Nat):Nat:=1 + (row.take k).countP (fun s=>!(s.kind==13)) + (row.take k).countP Cd.hasElse
def f2 (row:List Ps.St) (ops:List Cd.Op) (k j:Nat):Int:=f1 row row.length j - (Cd.cntO j (ops.take k):Int)
theorem take_at {α:Type} {l:List α} {k:Nat} {x:α} (h:l[k]?=some x):l.take (k + 1)=l.take k++[x]:=by rw [List.take_add_one,h]; rfl
theorem f1_step {row:List Ps.St} {k:Nat} {st:Ps.St} (h:row[k]?=some st) (j:Nat):f1 row (k + 1) j=f1 row k j + (if st.kind=j then 1 else 0) + if j=18∧st.m≠[] then 1 else 0:=by
 unfold f1;rw [take_at h,Cd.cnt_append,List.countP_append,Cd.cnt_cons,List.countP_cons];have h0:Cd.cnt j ([]:List Ps.St)=0:=rfl;have he:Cd.hasElse st=true ↔ st.m≠[]:=(by unfold Cd.hasElse; cases st.m <;> simp);rw [h0,List.countP_nil];by_cases hj:j=18
 ·by_cases hm:st.m=[]
  ·have:¬ Cd.hasElse st=true:=fun e=>he.1 e hm;simp only [hj,hm,this,if_true,if_false,ne_eq,not_true,and_false,Bool.false_eq_true];split <;> omega
  ·have:Cd.hasElse st=true:=he.2 hm;simp only [hj,this,hm,if_true,ne_eq,not_false_eq_true,and_self];split <;> omega
 ·simp only [hj,if_false,false_and];split <;> omega
theorem want_step {row:List Ps.St} {k:Nat} {st:Ps.St} (h:row[k]?=some st):wantN row (k + 1)=wantN row k + (if st.kind=13 then 0 else 1) + if st.m=[] then 0 else 1:=by
 unfold wantN;rw [take_at h,List.countP_append,List.countP_append,List.countP_cons,List.countP_cons,List.countP_nil,List.countP_nil];have he:Cd.hasElse st = !st.m.isEmpty:=rfl;rw [he];by_cases h13:st.kind=13
 ·cases hm:st.m <;> simp [h13] <;> omega
 ·have:(st.kind==13)=false:=yB h13;cases hm:st.m <;> simp [h13] <;> omega
theorem f1_small {row:List Ps.St} (h:row.length≤100) (k j:Nat):0≤f1 row k j∧f1 row k j≤200:=by
 unfold f1;have h1:Cd.cnt j (row.take k)≤(row.take k).length:=List.countP_le_length;have h2:(row.take k).countP Cd.hasElse≤(row.take k).length:=List.countP_le_length;have h3:(row.take k).length≤100:=(by rw [List.length_take]; omega);split <;> omega
theorem want_small {row:List Ps.St} (h:row.length≤100) (k:Nat):wantN row k≤300:=by
 unfold wantN;have h1:(row.take k).countP (fun s=>!(s.kind==13))≤(row.take k).length:=List.countP_le_length;have h2:(row.take k).countP Cd.hasElse≤(row.take k).length:=List.countP_le_length;have h3:(row.take k).length≤100:=(by rw [List.length_take]; omega);omega
theorem f2_step {row:List Ps.St} {ops:List Cd.Op} {k:Nat} {o:Cd.Op} (h:ops[k]?=some o) (j:Nat):f2 row ops (k + 1) j=f2 row ops k j - if o.kind=j then 1 else 0:=by
 unfold f2;rw [take_at h,Cd.cntO_append,Cd.cntO_cons];have h0:Cd.cntO j ([]:List Cd.Op)=0:=rfl;rw [h0];split <;> omega
theorem f2_small {row:List Ps.St} {ops:List Cd.Op} (h:row.length≤100) (ho:ops.length≤2000) (k j:Nat):-2000≤f2 row ops k j∧f2 row ops k j≤200:=by
 unfold f2;have h1:=f1_small h row.length j;have h2:Cd.cntO j (ops.take k)≤(ops.take k).length:=List.countP_le_length;have h3:(ops.take k).length≤2000:=(by rw [List.length_take]; omega);omega
theorem counts_end {src:List UInt8} {md:Nat} {row:List Ps.St} {top:List Nat} (h:Ck.source src = .ok (md,row,top)) :
  (∀ j,j≠13→j≠14→j≤17→f2 row (Cd.of row top) (Cd.of row top).length j=0)∧f2 row (Cd.of row top) (Cd.of row top).length 18 + f2 row (Cd.of row top) (Cd.of row top).length 14=0∧f2 row (Cd.of row top) (Cd.of row top).length 19 = -1∧(Cd.of row top).length=wantN row row.length∧row.length≤100∧(Cd.of row top).length≤2000∧(∀ st ∈ row,1≤st.kind∧st.kind≤17) ∧ ∀ o ∈ Cd.of row top,1≤o.kind∧o.kind≤19:=by
 obtain ⟨c1,c2,c3,c4⟩:=Cd.counts_law h;obtain ⟨hM,hl,hr,hne⟩:=tree_small h
 have hk:∀ st ∈ row,1≤st.kind∧st.kind≤17:=fun st hst=>by
  obtain ⟨j,hj⟩:=List.getElem?_of_mem hst;exact (hr j st hj).kd
 have hs:Cd.source src = .ok (Cd.of row top,md):=(by unfold Cd.source; rw [h]);obtain ⟨_,A,hA,hg⟩:=Cd.goes_law hs
 have hz:∀ k,17<k→Cd.cnt k row=0:=fun k h17=>by
  unfold Cd.cnt;rw [List.countP_eq_zero];intro s hs;have:=(hk s hs).2;simp; omega
 have hkd:∀ o ∈ Cd.of row top,1≤o.kind∧o.kind≤19∧o.kind≠14:=fun o ho=>by
  rw [hA] at ho;rcases List.mem_append.1 ho with ho | ho
  ·obtain ⟨i,hi⟩:=List.getElem?_of_mem ho;have:=(hg.ok i o hi).kd;exact ⟨this.1,by omega,this.2.2.2⟩
  ·rw [List.mem_singleton.1 ho];exact ⟨by decide,by decide,by decide⟩
 have h14:Cd.cntO 14 (Cd.of row top)=0:=by
  unfold Cd.cntO;rw [List.countP_eq_zero];intro o ho;have:=(hkd o ho).2.2;simp [this]
 have hlen:=hne.few
 have h2k:(Cd.of row top).length≤2000:=by
  have:row.countP Cd.hasElse≤row.length:=List.countP_le_length;omega
 refine ⟨fun j j13 j14 j17=>?_,?_,?_,?_,hlen,h2k,hk,fun o ho=>⟨(hkd o ho).1,(hkd o ho).2.1⟩⟩
 ·unfold f2 f1;rw [List.take_length,List.take_length,c1 j j13 j14 j17,if_neg (by omega)];omega
 ·unfold f2 f1;rw [List.take_length,List.take_length,c2,h14,hz 18 (by decide)];simp;omega
 ·unfold f2 f1;rw [List.take_length,List.take_length,c3,hz 19 (by decide)];rfl
 ·unfold wantN;rw [List.take_length]
  have hc:Cd.cnt 13 row + row.countP (fun s=>!(s.kind==13))=row.length:=by
   unfold Cd.cnt;have:=List.length_eq_countP_add_countP (fun s:Ps.St=>s.kind==13) (l:=row);rw [this];congr 1
   refine List.countP_congr fun s _=>?_;cases s.kind==13 <;> simp
  omega
structure CR (w5 wr:World) (kb:Nat) (f:Nat→Int):Prop where
 b:Below w5.heap.size w5 wr
 k:K20 wr kb f
 kB:w5.heap.size≤kb
theorem CR.below {w5 wr w':World} {kb:Nat} {f:Nat→Int} (h:CR w5 wr kb f) (hb:Below wr.heap.size wr w'):CR w5 w' kb f:=⟨h.b.trans (hb.mono h.b.size),h.k.below hb,h.kB⟩
theorem CR.set {w5 wr:World} {kb:Nat} {f g:Nat→Int} (h:CR w5 wr kb f) {k:Nat} (hk:k<20) (x:Int) (hg:∀ j,j<20→g j=if j=k then x else f j):CR w5 (wr.setCell ⟨kb,k,none⟩ (.int .i64 x)) kb g :=
 ⟨h.b.setCell (p:=⟨kb,k,none⟩) h.kB _,h.k.set hk x hg,h.kB⟩
set_option maxRecDepth 200000 in
set_option maxHeartbeats 8000000 in
theorem lawCountsC (s:ByteArray) (hs:s.size≤maxLen) (w:World) (hS:SHP w) :
  Calls Tryz.prog 5 #[.string s] w fun e w'=>e = .returned (.bool true)∧Below w.heap.size w w':=by
 have SW:=shown_any w hS;have SH:=yH (fun wx=>short_any s hs wx);obtain ⟨l,hl⟩:∃ l,s.data.toList.take 2100=l:=⟨_,rfl⟩;rw [hl] at SH;have hll:l.length≤1048576:=(by rw [←hl,List.length_take]; omega);have SRC:=yH (fun wx=>rsource_any l hll wx);clear hS hl hs hll;go_enter Tryz.func5,Tryz.ntmps5;go_wp2_with fail
 refine SW.mono ?_;rintro e wa ⟨rfl,hba⟩;have HBA:=yH hba;clear SW hba;go_wp2_with fail
 refine (SH.out _).mono ?_;rintro e w1 ⟨rfl,hw⟩;obtain rfl:=hw.symm;clear hw;go_wp2_with fail
 refine (SRC.out _).mono ?_;rintro e w2 hP;obtain ⟨hb2,hP⟩:=hP;have HB2:=yH (HBA.out.trans (hb2.mono HBA.out.size));clear SRC SH hb2;rcases code_cases l with ⟨p,c,hs,_⟩ | ⟨md,row,top,hs,_⟩
 ·rw [hs] at hP;obtain ⟨rfl,hc⟩:=hP;obtain ⟨f1,f2,f3⟩:=neF c hc;have HF:=yH (fun o=>HB2.out.alloc HB2.out.size o);clear hs hc;go_wp2;go_ret;exact ⟨rfl,HF.out _⟩
 ·rw [hs] at hP;obtain ⟨sv',tv,rfl,hpr⟩:=hP;obtain ⟨z1,z2,z3,z4,z5,z6,z7,z8⟩:=counts_end hs;obtain ⟨ao,cap,uo,uc,rfl,rfl,_,_⟩:=pr_cp hpr hs;obtain ⟨W3,hW3⟩:∃ W3,w2.alloc (.cells #[.int .i64 (md:Int),.slice ao row.length cap,.slice uo top.length uc] 32)=W3:=⟨_,rfl⟩;obtain ⟨pb,hpb⟩:∃ b,w2.heap.size=b:=⟨_,rfl⟩;have hb3:Below w2.heap.size w2 W3:=by rw [←hW3]; exact (Below.refl _ _).alloc yR _
  have hz:H3 W3 pb [.int .i64 (md:Int),.slice ao row.length cap,.slice uo top.length uc]:=(by rw [←hW3,←hpb]; exact heap_alloc_new _ _);have hpr3:=hpr.below hb3;have OFC:=yH (of_told hpr3 hs);have hsr:=hpr3.sr;obtain ⟨ops,hops⟩:∃ ops,Cd.of row top=ops:=⟨_,rfl⟩;rw [hops] at OFC z1 z2 z3 z4 z6 z8;obtain ⟨N,hN⟩:∃ N,row.length=N:=⟨_,rfl⟩;obtain ⟨TN,hTN⟩:∃ N,top.length=N:=⟨_,rfl⟩;rw [hN,hTN] at OFC hW3 hz ⊢;rw [hN] at hsr;have HSR3:=yH hsr
  have HB3:=yH (HB2.out.trans (hb3.mono HB2.out.size));have HZ:=yH hz;have HW3:=yH hW3;have HPB:=yH hpb;have HN0:=yH hN;have Z1:Hid (∀ j,j≠13→j≠14→j≤17→f2 row ops ops.length j=0):=yH z1;have Z23:=yH (And.intro z2 z3);have Z4:=yH z4;have Z56:=yH (And.intro z5 z6);have Z7:Hid (∀ st ∈ row,1≤st.kind∧st.kind≤17):=yH z7;have Z8:Hid (∀ o ∈ ops,1≤o.kind∧o.kind≤19):=yH z8
  have p0:=hz.cell (i:=0) rfl;have p1:=hz.cell (i:=1) rfl;have p2:=hz.cell (i:=2) rfl;clear hpr hpr3 hb3 hz hsr hW3 hpb hN hTN z1 z2 z3 z4 z5 z6 z7 z8 hops hs;go_upto_region 5 with fail
  rw [HW3.out,HPB.out];go_wp2_with fail
  refine OFC.out.mono ?_;rintro e w4 ⟨hb4,ov,rfl,ho⟩;have hor:=OR.of ho rfl;obtain ⟨oo,oc,rfl⟩:=hor.form;obtain ⟨NO,hNO⟩:∃ N,ops.length=N:=⟨_,rfl⟩;rw [hNO] at hor ⊢;obtain ⟨kb,hkb⟩:∃ b,w4.heap.size=b:=⟨_,rfl⟩;have HB4:=yH (HB3.out.trans (hb4.mono HB3.out.size));have HP4:=yH (HZ.out.below hb4 HZ.out.lt);have HS4:=yH (HSR3.out.below hb4);have HO4:=yH hor;have HNO:=yH hNO;have HKB:=yH hkb;clear OFC ho hb4 hor hNO hkb p0 p1 p2
  go_upto_region 7 with fail
  go_wp2_with (refine wpList_store_at rfl 39 _ _ rfl w4.heap.size [.int .i64 0,.int .i64 0,.int .i64 0,.int .i64 0,.int .i64 0,.int .i64 0,.int .i64 0,.int .i64 0,.int .i64 0,.int .i64 0,.int .i64 0,.int .i64 0,.int .i64 0,.int .i64 0,.int .i64 0,.int .i64 0,.int .i64 0,.int .i64 0,.int .i64 0,.int .i64 0] rfl rfl 39 _ (heap_alloc_new w4 _) ?cb ?ci ?cj ?_)
  case cb=>rfl
  case ci=>kernel_rfl
  case cj=>decide
  intro W6 HG6 hgr6;have hb6:Below w4.heap.size w4 W6:=((Below.refl w4.heap.size w4).alloc yR _).grown hgr6 (by simp) (fun k hk=>by cases hk; exact yR);have hk6:K20 W6 kb (fun _=>0):=(by rw [←HKB.out]; exact HG6.out);have HC6:Hid (CR w4 W6 kb (f1 row 0)):=yH ⟨hb6,hk6.congr (fun k _=>by unfold f1; rw [List.take_zero]; simp [Cd.cnt]),Nat.le_of_eq HKB.out⟩;rw [HKB.out];clear hb6 hk6 hgr6 HG6
  have pc:W6.cell? ⟨pb,1,none⟩=some (.slice ao N cap):=(HP4.out.below HC6.out.b HP4.out.lt).cell (i:=1) rfl;go_wp2;clear pc;go_loopw [8,10] (fun s8 s10 wr=>∃ k Wn:Nat,k≤N∧s10 = .int .i64 k∧s8 = .int .i64 Wn∧Hid (Wn=wantN row k)∧Hid (CR w4 wr kb (f1 row k))) (fun _ s10 _=>N - (intOf s10).toNat)
  case atStart=>exact ⟨0,1,Nat.zero_le _,rfl,rfl,by show _=_; rfl,HC6⟩
  case round =>
   obtain ⟨k,Wn,hk,rfl,rfl,HWN,HC⟩:=hrel;have pc:wr.cell? ⟨pb,1,none⟩=some (.slice ao N cap):=(HP4.out.below HC.out.b HP4.out.lt).cell (i:=1) rfl;have hWs:Wn≤300:=(by rw [HWN.out]; exact want_small Z56.out.1 k);by_cases hlt:k<N
   ·obtain ⟨st,hst⟩:∃ st,row[k]?=some st:=⟨_,List.getElem?_eq_getElem (by rw [HN0.out]; exact hlt)⟩;obtain ⟨q,lo,lc,mo,mc,rfl,_,_,c8⟩:=(HS4.out.below HC.out.b).at8 hst;have hkd:=Z7.out st (List.mem_of_getElem? hst);have hfs:=f1_small Z56.out.1 k st.kind;have hstep:=f1_step hst;have hwst:=want_step hst;obtain ⟨K,SS,TT,UU,n0,p0,LL,MM⟩:=st;dsimp only at hkd hfs hstep hwst;obtain ⟨ML,hML⟩:∃ x,MM.length=x:=⟨_,rfl⟩
    have d0:wr.cell? ⟨q,k * 8,none⟩=some (.int .i64 (K:Int)):=c8.c0;have d1:wr.cell? ⟨q,k * 8 + 1,none⟩=some (.string ⟨SS.toArray⟩):=c8.c1;have d2:wr.cell? ⟨q,k * 8 + 2,none⟩=some (.string ⟨TT.toArray⟩):=c8.c2;have d3:wr.cell? ⟨q,k * 8 + 3,none⟩=some (.string ⟨UU.toArray⟩):=c8.c3;have d4:wr.cell? ⟨q,k * 8 + 4,none⟩=some (.int .i64 (n0:Int)):=c8.c4;have d5:wr.cell? ⟨q,k * 8 + 5,none⟩=some (.int .i64 (p0:Int)):=c8.c5
    have d6:wr.cell? ⟨q,k * 8 + 6,none⟩=some (.slice lo LL.length lc):=c8.c6;have d7:wr.cell? ⟨q,k * 8 + 7,none⟩=some (.slice mo ML mc):=(by rw [←hML]; exact c8.c7);obtain ⟨V,hV⟩:∃ V,wr.alloc (.cells #[.int .i64 (K:Int),.string ⟨SS.toArray⟩,.string ⟨TT.toArray⟩,.string ⟨UU.toArray⟩,.int .i64 (n0:Int),.int .i64 (p0:Int),.slice lo LL.length lc,.slice mo ML mc] 41)=V:=⟨_,rfl⟩;obtain ⟨sb,hsb⟩:∃ b,wr.heap.size=b:=⟨_,rfl⟩
    have hbV:Below wr.heap.size wr V:=(by rw [←hV]; exact (Below.refl _ _).alloc yR _);have hnV:V.heap[sb]?=some (.cells #[.int .i64 (K:Int),.string ⟨SS.toArray⟩,.string ⟨TT.toArray⟩,.string ⟨UU.toArray⟩,.int .i64 (n0:Int),.int .i64 (p0:Int),.slice lo LL.length lc,.slice mo ML mc] 41 (0,0)):=(by rw [←hsb,←hV]; exact heap_alloc_new _ _);have hcV:=HC.out.below hbV;have hne:sb≠kb:=by have:=HC.out.k.lt; omega
    obtain ⟨FK,hFK⟩:∃ x,f1 row k K=x:=⟨_,rfl⟩;rw [hFK] at hfs;have kc:V.cell? ⟨kb,K,none⟩=some (.int .i64 FK):=(by rw [←hFK]; exact hcV.k.c (by omega));have kf:V.frozen? ⟨kb,K,none⟩=false:=hcV.k.fr K;have s0v:V.cell? ⟨sb,0,none⟩=some (.int .i64 (K:Int)):=cell_of_row _ _ _ _ _ _ hnV;obtain ⟨W7,hW7⟩:∃ W7,V.setCell ⟨kb,K,none⟩ (.int .i64 (FK + 1))=W7:=⟨_,rfl⟩
    have hn7:W7.heap[sb]?=some (.cells #[.int .i64 (K:Int),.string ⟨SS.toArray⟩,.string ⟨TT.toArray⟩,.string ⟨UU.toArray⟩,.int .i64 (n0:Int),.int .i64 (p0:Int),.slice lo LL.length lc,.slice mo ML mc] 41 (0,0)):=(by rw [←hW7]; exact (Below.heap_setCell _ _ _ _ hne).trans hnV);have s0:W7.cell? ⟨sb,0,none⟩=some (.int .i64 (K:Int)):=cell_of_row _ _ _ _ _ _ hn7;have s7:W7.cell? ⟨sb,7,none⟩=some (.slice mo ML mc):=cell_of_row _ _ _ _ _ _ hn7
    have hc7:CR w4 W7 kb (fun j=>if j=K then FK + 1 else f1 row k j):=(by rw [←hW7]; exact hcV.set (by omega) _ (fun _ _=>rfl));have x1:(K:Int)<20:=(by omega);have x2:(k:Int)<(N:Int):=(by omega);have x9:N≤100:=(by rw [←HN0.out]; exact Z56.out.1);have x3:K<20:=(by omega);have hF1:-2000≤FK:=(by omega);have hF2:FK≤2000:=(by omega);have HV:=yH hV;have HSB:=yH hsb;have HW7:=yH hW7;have HC7:=yH hc7
    have HFK:=yH hFK;have HST:Hid (∀ j,f1 row (k + 1) j=f1 row k j + (if K=j then 1 else 0) + if j=18∧MM≠[] then 1 else 0):=yH hstep;have HWS:=yH hwst;have HML:=yH hML;have HKD:=yH hkd;clear hV hsb hbV hnV hcV hne hFK hn7 hW7 hc7 hstep hwst hML hkd c8 hst hfs;by_cases h13:K=13
    ·by_cases hmm:MM=[]
     ·subst h13;replace s0:W7.cell? ⟨sb,0,none⟩=some (.int .i64 13):=s0;replace s0v:V.cell? ⟨sb,0,none⟩=some (.int .i64 13):=s0v;replace d0:wr.cell? ⟨q,k * 8,none⟩=some (.int .i64 13):=d0;replace HV:Hid (wr.alloc (.cells #[.int .i64 13,.string ⟨SS.toArray⟩,.string ⟨TT.toArray⟩,.string ⟨UU.toArray⟩,.int .i64 (n0:Int),.int .i64 (p0:Int),.slice lo LL.length lc,.slice mo ML mc] 41)=V):=HV
      have HNW:Hid (Wn + 0=wantN row (k + 1)):=yH (by rw [HWS.out,←HWN.out,if_pos rfl,if_pos hmm])
      have HN:Hid (CR w4 W7 kb (f1 row (k + 1))):=yH ⟨HC7.out.b,HC7.out.k.congr (fun j _=>by
       rw [HST.out j,if_neg (show ¬ (j=18∧MM≠[]) from fun e=>e.2 hmm)];by_cases hi:j=13
       ·subst hi; rw [if_pos rfl,if_pos rfl,HFK.out]; omega
       ·rw [if_neg hi,if_neg (fun e=>hi e.symm)]; omega),HC7.out.kB⟩
      subst hmm;obtain rfl:0=ML:=HML.out;go_upto_region 12 with fail
      rw [HV.out,HSB.out];clear d0 d1 d2 d3 d4 d5 d6 d7;go_upto_region 13 with fail
      rw [HW7.out];clear s0v kc kf;go_wp2;go_roundw
      case rel=>exact ⟨k + 1,Wn + 0,by omega,by go_num,by go_num,HNW,HN⟩
      case measure=>simp [intOf]; omega
     ·subst h13;replace s0:W7.cell? ⟨sb,0,none⟩=some (.int .i64 13):=s0;replace s0v:V.cell? ⟨sb,0,none⟩=some (.int .i64 13):=s0v;replace d0:wr.cell? ⟨q,k * 8,none⟩=some (.int .i64 13):=d0;replace HV:Hid (wr.alloc (.cells #[.int .i64 13,.string ⟨SS.toArray⟩,.string ⟨TT.toArray⟩,.string ⟨UU.toArray⟩,.int .i64 (n0:Int),.int .i64 (p0:Int),.slice lo LL.length lc,.slice mo ML mc] 41)=V):=HV
      have HNW:Hid (Wn + 1=wantN row (k + 1)):=yH (by rw [HWS.out,←HWN.out,if_pos rfl,if_neg hmm]);have hmp:(0:Int)<(ML:Int):=(by have:=HML.out; have:=List.length_pos_iff.2 hmm; omega);obtain ⟨F8,hF8⟩:∃ x,(if 18=13 then FK + 1 else f1 row k 18)=x:=⟨_,rfl⟩;have hf8:=f1_small Z56.out.1 k 18;have hF3:-2000≤F8:=(by rw [←hF8]; split <;> omega);have hF4:F8≤2001:=by rw [←hF8]; split <;> omega
      have kc8:W7.cell? ⟨kb,18,none⟩=some (.int .i64 F8):=(by rw [←hF8]; exact HC7.out.k.c (by decide));have kf8:W7.frozen? ⟨kb,18,none⟩=false:=HC7.out.k.fr 18
      have HN:Hid (CR w4 (W7.setCell ⟨kb,18,none⟩ (.int .i64 (F8 + 1))) kb (f1 row (k + 1))):=yH (HC7.out.set (by decide) _ (fun j _=>by
       have hk:=HKD.out;rw [HST.out j];by_cases h18:j=18
       ·subst h18;rw [if_pos rfl,if_neg (by omega),if_pos ⟨rfl,hmm⟩,←hF8,if_neg (by omega)]; omega
       ·rw [if_neg h18,if_neg (show ¬ (j=18∧MM≠[]) from fun e=>h18 e.1)];by_cases hi:j=13
        ·subst hi; rw [if_pos rfl,if_pos rfl,HFK.out]; omega
        ·rw [if_neg hi,if_neg (fun e=>hi e.symm)]; omega))
      clear hF8 hf8;clear hmm;go_upto_region 12 with fail
      rw [HV.out,HSB.out];clear d0 d1 d2 d3 d4 d5 d6 d7;go_upto_region 13 with fail
      rw [HW7.out];clear s0v kc kf;go_wp2;go_roundw
      case rel=>exact ⟨k + 1,Wn + 1,by omega,by go_num,by go_num,HNW,HN⟩
      case measure=>simp [intOf]; omega
    ·by_cases hmm:MM=[]
     ·have k13:((K:Int) != 13)=true:=(by rw [bne_iff_ne]; omega);have j13:((K:Int)==13)=false:=yB;have l13:((K:Int)=13)=False:=yF;have HNW:Hid (Wn + 1=wantN row (k + 1)):=yH (by rw [HWS.out,←HWN.out,if_neg h13,if_pos hmm])
      have HN:Hid (CR w4 W7 kb (f1 row (k + 1))):=yH ⟨HC7.out.b,HC7.out.k.congr (fun j _=>by
       rw [HST.out j,if_neg (show ¬ (j=18∧MM≠[]) from fun e=>e.2 hmm)];by_cases hi:j=K
       ·subst hi; rw [if_pos rfl,if_pos rfl,HFK.out]; omega
       ·rw [if_neg hi,if_neg (fun e=>hi e.symm)]; omega),HC7.out.kB⟩
      subst hmm;obtain rfl:0=ML:=HML.out;clear h13;go_upto_region 12 with fail
      rw [HV.out,HSB.out];clear d0 d1 d2 d3 d4 d5 d6 d7;go_upto_region 13 with fail
      rw [HW7.out];clear s0v kc kf;go_wp2;go_roundw
      case rel=>exact ⟨k + 1,Wn + 1,by omega,by go_num,by go_num,HNW,HN⟩
      case measure=>simp [intOf]; omega
     ·have k13:((K:Int) != 13)=true:=(by rw [bne_iff_ne]; omega);have j13:((K:Int)==13)=false:=yB;have l13:((K:Int)=13)=False:=yF;have HNW:Hid (Wn + 2=wantN row (k + 1)):=yH (by rw [HWS.out,←HWN.out,if_neg h13,if_neg hmm]);have hmp:(0:Int)<(ML:Int):=(by have:=HML.out; have:=List.length_pos_iff.2 hmm; omega);obtain ⟨F8,hF8⟩:∃ x,(if 18=K then FK + 1 else f1 row k 18)=x:=⟨_,rfl⟩
      have hf8:=f1_small Z56.out.1 k 18;have hF3:-2000≤F8:=(by rw [←hF8]; split <;> omega);have hF4:F8≤2001:=(by rw [←hF8]; split <;> omega);have kc8:W7.cell? ⟨kb,18,none⟩=some (.int .i64 F8):=(by rw [←hF8]; exact HC7.out.k.c (by decide));have kf8:W7.frozen? ⟨kb,18,none⟩=false:=HC7.out.k.fr 18
      have HN:Hid (CR w4 (W7.setCell ⟨kb,18,none⟩ (.int .i64 (F8 + 1))) kb (f1 row (k + 1))):=yH (HC7.out.set (by decide) _ (fun j _=>by
       have hk:=HKD.out;rw [HST.out j];by_cases h18:j=18
       ·subst h18;rw [if_pos rfl,if_neg (by omega),if_pos ⟨rfl,hmm⟩,←hF8,if_neg (by omega)]; omega
       ·rw [if_neg h18,if_neg (show ¬ (j=18∧MM≠[]) from fun e=>h18 e.1)];by_cases hi:j=K
        ·subst hi; rw [if_pos rfl,if_pos rfl,HFK.out]; omega
        ·rw [if_neg hi,if_neg (fun e=>hi e.symm)]; omega))
      clear hF8 hf8;clear h13 hmm;go_upto_region 12 with fail
      rw [HV.out,HSB.out];clear d0 d1 d2 d3 d4 d5 d6 d7;go_upto_region 13 with fail
      rw [HW7.out];clear s0v kc kf;go_wp2;go_roundw
      case rel=>exact ⟨k + 1,Wn + 2,by omega,by go_num,by go_num,HNW,HN⟩
      case measure=>simp [intOf]; omega
   ·obtain rfl:k=N:=(by omega);have x2:((k:Int)<(k:Int))=False:=yF;have HC2:Hid (CR w4 wr kb (f2 row ops 0)):=yH ⟨HC.out.b,HC.out.k.congr (fun j _=>by unfold f2; rw [HN0.out,List.take_zero]; simp [Cd.cntO]),HC.out.kB⟩;have HWE:=yH (show Wn=NO by rw [HWN.out,←HNO.out,Z4.out,HN0.out]);clear HC;go_wp2;clear pc x2
    go_loopw [12] (fun s12 wr=>∃ j:Nat,j≤NO∧s12 = .int .i64 j∧Hid (CR w4 wr kb (f2 row ops j))) (fun s12 _=>NO - (intOf s12).toNat)
    case atStart=>exact ⟨0,Nat.zero_le _,rfl,HC2⟩
    case round =>
     obtain ⟨j,hj,rfl,HC⟩:=hrel;by_cases hlt:j<NO
     ·obtain ⟨o,ho⟩:∃ o,ops[j]?=some o:=⟨_,List.getElem?_eq_getElem (by rw [HNO.out]; exact hlt)⟩;obtain ⟨q2,rfl,c6⟩:=(HO4.out.below HC.out.b).at ho;have hkd:=Z8.out o (List.mem_of_getElem? ho);have hfs:=f2_small Z56.out.1 Z56.out.2 j o.kind;have hstep:=f2_step (row:=row) ho;obtain ⟨K,SS,TT,UU,n0,T⟩:=o;dsimp only at hkd hfs hstep;have d0:wr.cell? ⟨q2,j * 6,none⟩=some (.int .i64 (K:Int)):=c6.c0;obtain ⟨FK,hFK⟩:∃ x,f2 row ops j K=x:=⟨_,rfl⟩
      rw [hFK] at hfs;have kc:wr.cell? ⟨kb,K,none⟩=some (.int .i64 FK):=(by rw [←hFK]; exact HC.out.k.c (by omega));have kf:wr.frozen? ⟨kb,K,none⟩=false:=HC.out.k.fr K
      have HN:Hid (CR w4 (wr.setCell ⟨kb,K,none⟩ (.int .i64 (FK - 1))) kb (f2 row ops (j + 1))):=yH (HC.out.set (by omega) _ (fun i _=>by
       rw [hstep i];by_cases hi:i=K
       ·subst hi; rw [if_pos rfl,if_pos rfl,hFK]
       ·rw [if_neg (fun e=>hi e.symm),if_neg hi]; omega))
      have x1:(K:Int)<20:=(by omega);have x2:(j:Int)<(NO:Int):=(by omega);have x9:NO≤2000:=(by rw [←HNO.out]; exact Z56.out.2);have x3:K<20:=(by omega);have x4:((K:Int)<1)=False:=yF;have x5:((19:Int)<(K:Int))=False:=yF;have hF1:-2000≤FK:=(by omega);have hF2:FK≤2000:=(by omega);clear hkd hfs hstep hFK c6 ho HC;go_wp2;go_roundw
      case rel=>exact ⟨j + 1,by omega,by go_num,HN⟩
      case measure=>simp [intOf]; omega
     ·obtain rfl:j=NO:=(by omega);have HCE:=HC;clear HC;go_wp2;go_loopw [13] (fun s13 wx=>∃ m:Nat,1≤m∧m≤18∧s13 = .int .i64 m∧wx=wr) (fun s13 _=>18 - (intOf s13).toNat)
      case atStart=>exact ⟨1,yR,by decide,rfl,rfl⟩
      case round =>
       obtain ⟨m,hm1,hm2,rfl,rfl⟩:=hrel;by_cases hm:m≤17
       ·by_cases h13:m=13∨m=14
        ·obtain ⟨FK,hFK⟩:∃ x,f2 row ops j m=x:=⟨_,rfl⟩;have kc:wr.cell? ⟨kb,m,none⟩=some (.int .i64 FK):=(by rw [←hFK]; exact HCE.out.k.c (by omega));clear hFK;by_cases hF0:FK=0
         ·subst hF0;rcases h13 with rfl | rfl
          ·go_wp2;go_roundw
           case rel=>exact ⟨14,by decide,by decide,by first | rfl | go_num,by first | rfl | trivial⟩
           case measure=>simp [intOf]
          ·go_wp2;go_roundw
           case rel=>exact ⟨15,by decide,by decide,by first | rfl | go_num,by first | rfl | trivial⟩
           case measure=>simp [intOf]
         ·have y1:(FK != 0)=true:=(by rw [bne_iff_ne]; exact hF0);have y2:(FK==0)=false:=yB hF0;have y3:(FK=0)=False:=eq_false hF0;clear hF0;rcases h13 with rfl | rfl
          ·go_wp2;go_roundw
           case rel=>exact ⟨14,by decide,by decide,by first | rfl | go_num,by first | rfl | trivial⟩
           case measure=>simp [intOf]
          ·go_wp2;go_roundw
           case rel=>exact ⟨15,by decide,by decide,by first | rfl | go_num,by first | rfl | trivial⟩
           case measure=>simp [intOf]
        ·have kc:wr.cell? ⟨kb,m,none⟩=some (.int .i64 0):=by
          have:=HCE.out.k.c (show m<20 by omega);have hz:=Z1.out m (by omega) (by omega) hm;rw [HNO.out] at hz
          rwa [hz] at this
         have x1:(m:Int)≤17:=(by omega);have x3:(m:Int)<20:=(by omega);have x4:m<20:=(by omega);clear h13 hm;go_wp2;go_roundw
         case rel=>exact ⟨m + 1,by omega,by omega,by go_num,by first | rfl | trivial⟩
         case measure=>simp [intOf]; omega
       ·obtain rfl:m=18:=(by omega);have z2:=Z23.out.1;have z3:=Z23.out.2;rw [HNO.out] at z2 z3;obtain ⟨F18,h18⟩:∃ x,f2 row ops j 18=x:=⟨_,rfl⟩;obtain ⟨F14,h14⟩:∃ x,f2 row ops j 14=x:=⟨_,rfl⟩;have k18:wr.cell? ⟨kb,18,none⟩=some (.int .i64 F18):=(by rw [←h18]; exact HCE.out.k.c (by decide));have k14:wr.cell? ⟨kb,14,none⟩=some (.int .i64 F14):=by rw [←h14]; exact HCE.out.k.c (by decide)
        have k19:wr.cell? ⟨kb,19,none⟩=some (.int .i64 (-1)):=(by rw [←z3]; exact HCE.out.k.c (by decide));have b18:=f2_small Z56.out.1 Z56.out.2 j 18;rw [h18] at b18;have b14:=f2_small Z56.out.1 Z56.out.2 j 14;rw [h14] at b14;rw [h18,h14] at z2;have y1:((j:Int)==(Wn:Int))=true:=(by rw [beq_iff_eq,HWE.out]);have y2:((j:Int)=(Wn:Int))=True:=eq_true (by rw [HWE.out]);have HF:=yH (HB4.out.trans (HCE.out.b.mono HB4.out.size));have a1:=b18.1
        have a2:=b18.2;have a3:=b14.1;have a4:=b14.2;clear z3 h18 h14 b18 b14 hm hm1 hm2;go_wp2;go_ret;exact ⟨rfl,HF.out⟩
end Go.Proofs.YtodlhhfcjkjapaaGreatDoor
