import Derived.Test.YtodlhhfcjkjapaaGreatDoorPT
import Derived.Test.YtodlhhfcjkjapaaGreatDoorCA
import Derived.Test.YtodlhhfcjkjapaaGreatDoorQA
import Derived.Test.YtodlhhfcjkjapaaGreatDoorBS
import Derived.Test.YtodlhhfcjkjapaaGreatDoorBA
import Derived.Carry
import Derived.Maps.Range
import Derived.Laws.Externs
import Derived.Deep.CutRange
namespace Go.Proofs.YtodlhhfcjkjapaaGreatDoor
open Go.RowKit
def SR (w:World) (v:Value) (row:List Ps.St):Prop:=∃ ao cap,v = .slice ao row.length cap ∧ ∀ (k:Nat) st,row[k]?=some st → ∃ g lo lc mo mc,ao=some ⟨g,0,none⟩ ∧
 Rd w (.slice lo st.l.length lc) (st.l.map nv)∧Rd w (.slice mo st.m.length mc) (st.m.map nv) ∧ ∀ i u,(stCells ⟨st,.slice lo st.l.length lc,.slice mo st.m.length mc⟩)[i]?=some u→w.cell? ⟨g,k*8+i,none⟩=some u
theorem SR.below {w w':World} {v:Value} {row:List Ps.St} (h:SR w v row) (hb:Below w.heap.size w w'):SR w' v row:=by
 obtain⟨ao,cap,e,h⟩:=h;refine⟨ao,cap,e,fun k st hk=>?_⟩;obtain⟨g,lo,lc,mo,mc,e,r1,r2,hc⟩:=h k st hk;exact⟨g,lo,lc,mo,mc,e,r1.below hb,r2.below hb,fun i u hu=>(hb.cell (World.block_lt_of_cell? w _ (hc i u hu))).trans (hc i u hu)⟩
theorem PR.sr {B:Nat} {w:World} {sv tv:Value} {row:List Ps.St} {top:List Nat} (h:PR B w sv tv row top):SR w sv row:=by
 obtain⟨cs,rfl,⟨ao,cap,rfl,h3⟩,h4,_,_⟩:=h;have hl:(rowOf cs).length=cs.length:=(by unfold rowOf;rw[List.length_map]);refine⟨ao,cap,by rw[hl],fun k st hk=>?_⟩;unfold rowOf at hk;rw[List.getElem?_map] at hk;cases hc:cs[k]? with
 | none=>rw[hc] at hk;cases hk
 | some c =>
  rw[hc] at hk;obtain rfl:c.st=st:=(by simpa using hk);obtain⟨g,e,_,hcell⟩:=h3 k c hc;obtain⟨⟨r1,r2⟩,_⟩:=h4 c (List.mem_of_getElem? hc);obtain⟨lo,lc,e1,_⟩:=r1.formV;obtain⟨mo,mc,e2,_⟩:=r2.formV;rw[List.length_map] at e1 e2;rw[e1] at r1;rw[e2] at r2;refine⟨g,lo,lc,mo,mc,e,r1,r2,fun i u hu=>hcell i u ?_⟩;rw[←e1,←e2] at hu;exact hu
structure C8 (w:World) (g k:Nat) (st:Ps.St) (lo:Option Addr) (lc:Nat) (mo:Option Addr) (mc:Nat):Prop where
 c0:w.cell? ⟨g,k*8,none⟩=some (.int .i64 (st.kind:Int))
 c1:w.cell? ⟨g,k*8+1,none⟩=some (.string ⟨st.s.toArray⟩)
 c2:w.cell? ⟨g,k*8+2,none⟩=some (.string ⟨st.t.toArray⟩)
 c3:w.cell? ⟨g,k*8+3,none⟩=some (.string ⟨st.u.toArray⟩)
 c4:w.cell? ⟨g,k*8+4,none⟩=some (.int .i64 (st.n:Int))
 c5:w.cell? ⟨g,k*8+5,none⟩=some (.int .i64 (st.place:Int))
 c6:w.cell? ⟨g,k*8+6,none⟩=some (.slice lo st.l.length lc)
 c7:w.cell? ⟨g,k*8+7,none⟩=some (.slice mo st.m.length mc)
theorem C8.below {w w':World} {g k:Nat} {st:Ps.St} {lo:Option Addr} {lc:Nat} {mo:Option Addr} {mc:Nat} (h:C8 w g k st lo lc mo mc) (hb:Below w.heap.size w w'):C8 w' g k st lo lc mo mc :=
  ⟨(hb.cell (World.block_lt_of_cell? w _ h.c0)).trans h.c0,(hb.cell (World.block_lt_of_cell? w _ h.c1)).trans h.c1,(hb.cell (World.block_lt_of_cell? w _ h.c2)).trans h.c2,(hb.cell (World.block_lt_of_cell? w _ h.c3)).trans h.c3,
   (hb.cell (World.block_lt_of_cell? w _ h.c4)).trans h.c4,(hb.cell (World.block_lt_of_cell? w _ h.c5)).trans h.c5,(hb.cell (World.block_lt_of_cell? w _ h.c6)).trans h.c6,(hb.cell (World.block_lt_of_cell? w _ h.c7)).trans h.c7⟩
theorem SR.at8 {w:World} {ao:Option Addr} {N cap:Nat} {row:List Ps.St} (h:SR w (.slice ao N cap) row) {k:Nat} {st:Ps.St} (hk:row[k]?=some st):∃ g lo lc mo mc,ao=some ⟨g,0,none⟩ ∧
  Rd w (.slice lo st.l.length lc) (st.l.map nv)∧Rd w (.slice mo st.m.length mc) (st.m.map nv)∧C8 w g k st lo lc mo mc:=by
 obtain⟨ao',cap',e,h⟩:=h;cases e
 obtain⟨g,lo,lc,mo,mc,e,r1,r2,hc⟩:=h k st hk;exact⟨g,lo,lc,mo,mc,e,r1,r2,⟨hc 0 _ rfl,hc 1 _ rfl,hc 2 _ rfl,hc 3 _ rfl,hc 4 _ rfl,hc 5 _ rfl,hc 6 _ rfl,hc 7 _ rfl⟩⟩
theorem SR.len {w:World} {ao:Option Addr} {N cap:Nat} {row:List Ps.St} (h:SR w (.slice ao N cap) row):N=row.length:=by
 obtain⟨ao',cap',e,h⟩:=h;cases e
 rfl
theorem rd_nv {w:World} {lo:Option Addr} {n lc:Nat} {xs:List Nat} (h:Rd w (.slice lo n lc) (xs.map nv)) (i:Nat) (hi:i<xs.length):∃ b o,lo=some ⟨b,o,none⟩∧n≤maxLen∧w.cell? ⟨b,o+i,none⟩=some (.int .i64 ((xs.getD i 0:Nat):Int)):=by
 rcases h with ⟨e,_⟩|⟨b,o,cap,e,g1,g2,h⟩
 ·have:xs=[]:=(by simpa using e);rw[this] at hi;exact absurd hi (by simp)
 ·cases e
  refine⟨b,o,rfl,by omega,h i _ ?_⟩;rw[List.getElem?_map,List.getElem?_eq_getElem hi,List.getD_eq_getElem?_getD,List.getElem?_eq_getElem hi];rfl
end Go.Proofs.YtodlhhfcjkjapaaGreatDoor
namespace Go.Proofs.YtodlhhfcjkjapaaGreatDoor
open Go.RowKit
open Ck (Fenv hitF lookF)
theorem ba_same (l m:List UInt8):((⟨l.toArray⟩:ByteArray)==⟨m.toArray⟩)=decide (l=m):=by
 rw[beq_toListBytes,Lib.toList_data,Lib.toList_data];show (l==m)=_
 rw[Bool.eq_iff_iff];simp
def entF:Fenv→Nat→List MapEntry
 | [],_=>[]
 | (x,p) :: σ,i=>{ key:=.string ⟨x.toArray⟩,val:=.int .i64 (p:Int),born:=i } :: entF σ (i+1)
def entsF (σ:Fenv):Array MapEntry:=(entF σ 0).toArray
theorem find_entF (x:List UInt8):∀ (σ:Fenv) (i j:Nat),Instr.findNow .string (.string ⟨x.toArray⟩) (entF σ i) j=some ((hitF σ x).map fun p=>(j+p.1,.int .i64 (p.2:Int)))
 | [],_,_=>rfl
 | (y,v) :: σ,i,j=>by
  rw[entF,hitF];simp only[Instr.findNow,Instr.sameNow];rw[ba_same];by_cases h:y=x
  ·subst h;rw[decide_eq_true rfl,if_pos rfl];rfl
  ·rw[decide_eq_false (fun e=>h e.symm),if_neg h];show Instr.findNow _ _ _ (j+1)=_
   rw[find_entF x σ (i+1) (j+1)];cases hitF σ x with
   | none=>rfl
   | some p=>show some (some (j+1+p.1,_))=some (some (j+(p.1+1),_));rw[show j+1+p.1=j+(p.1+1) by omega]
theorem pushF (x:List UInt8) (p:Nat):∀ (σ:Fenv) (i:Nat),entF σ i++[{ key:=.string ⟨x.toArray⟩,val:=.int .i64 (p:Int),born:=i+σ.length }]=entF (σ++[(x,p)]) i
 | [],_=>rfl
 | (y,u) :: σ,i=>by
  have ih:=pushF x p σ (i+1);rw[entF,List.cons_append,List.cons_append,entF,←ih,List.length_cons,show i+(σ.length+1)=i+1+σ.length by omega]
def setF (w:World) (m:Nat) (σ:Fenv):World:={ w with heap:=w.heap.setIfInBounds m (.map (entsF σ) σ.length) }
section
variable {w:World} {m:Nat} {σ:Fenv}
theorem setF_at (w:World) (m:Nat) (σ:Fenv) (h:m<w.heap.size):(setF w m σ).heap[m]?=some (.map (entsF σ) σ.length):=by
 simp[setF,h]
theorem setF_other (w:World) (m:Nat) (σ:Fenv) {k:Nat} (h:k≠m):(setF w m σ).heap[k]?=w.heap[k]?:=by
 simp only[setF];rw[Array.getElem?_setIfInBounds_ne (Ne.symm h)]
theorem setF_size (w:World) (m:Nat) (σ:Fenv):(setF w m σ).heap.size=w.heap.size:=by simp[setF]
theorem setF_below {B:Nat} {w0:World} (h:Below B w0 w) (hm:B≤m):Below B w0 (setF w m σ) :=
 ⟨h.os,h.tape,h.output,by rw[setF_size];exact h.size,fun k hk=>(setF_other w m σ (by omega)).trans (h.block k hk)⟩
theorem look_two (hb:w.heap[m]?=some (.map (entsF σ) σ.length)) (x:List UInt8) (hx:x.length≤16777216) :
  (Instr.lookup 77 (.map (some m)) (.string ⟨x.toArray⟩) true).run Tryz.prog w = .ok (.tuple #[.int .i64 (((lookF σ x).getD 0:Nat):Int),.bool (lookF σ x).isSome]) w:=by
 have hc:=fun e=>(Maps.string_keyed Tryz.underlying9).check w e (v:=.string ⟨x.toArray⟩) (WideMaps.keyOf_string_mk Tryz.underlying9 (show x.toArray.size≤maxLen by unfold maxLen;simp;omega));have hz:=Tryz.zeroValue3 w;have hf:=find_entF x σ 0 0;have he:(entsF σ).toList=entF σ 0:=rfl;unfold lookF;cases hh:hitF σ x with
 | none =>
  rw[hh] at hf;simp[Instr.lookup,run_underlying Tryz.underlying77,MapKept.run_getObj_map hb,hc,Instr.findKey,run_underlying Tryz.underlying9,he,hf,hz,Result.andThen]
 | some p =>
  rw[hh] at hf;simp[Instr.lookup,run_underlying Tryz.underlying77,MapKept.run_getObj_map hb,hc,Instr.findKey,run_underlying Tryz.underlying9,he,hf,Result.andThen]
theorem look_one (hb:w.heap[m]?=some (.map (entsF σ) σ.length)) (x:List UInt8) (hx:x.length≤16777216) :
  (Instr.lookup 77 (.map (some m)) (.string ⟨x.toArray⟩) false).run Tryz.prog w = .ok (.int .i64 (((lookF σ x).getD 0:Nat):Int)) w:=by
 have hc:=fun e=>(Maps.string_keyed Tryz.underlying9).check w e (v:=.string ⟨x.toArray⟩) (WideMaps.keyOf_string_mk Tryz.underlying9 (show x.toArray.size≤maxLen by unfold maxLen;simp;omega));have hz:=Tryz.zeroValue3 w;have hf:=find_entF x σ 0 0;have he:(entsF σ).toList=entF σ 0:=rfl;unfold lookF;cases hh:hitF σ x with
 | none =>
  rw[hh] at hf;simp[Instr.lookup,run_underlying Tryz.underlying77,MapKept.run_getObj_map hb,hc,Instr.findKey,run_underlying Tryz.underlying9,he,hf,hz,Result.andThen]
 | some p =>
  rw[hh] at hf;simp[Instr.lookup,run_underlying Tryz.underlying77,MapKept.run_getObj_map hb,hc,Instr.findKey,run_underlying Tryz.underlying9,he,hf,Result.andThen]
theorem upd_push (hb:w.heap[m]?=some (.map (entsF σ) σ.length)) (x:List UInt8) (p:Nat) (hx:x.length≤16777216) (hn:lookF σ x=none) :
  (Instr.mapUpdate 77 (.map (some m)) (.string ⟨x.toArray⟩) (.int .i64 (p:Int))).run Tryz.prog w = .ok () (setF w m (σ++[(x,p)])):=by
 have hc:=fun e=>(Maps.string_keyed Tryz.underlying9).check w e (v:=.string ⟨x.toArray⟩) (WideMaps.keyOf_string_mk Tryz.underlying9 (show x.toArray.size≤maxLen by unfold maxLen;simp;omega));have hf:=find_entF x σ 0 0;have he:(entsF σ).toList=entF σ 0:=rfl
 have hh:hitF σ x=none:=by
  unfold lookF at hn;cases h:hitF σ x with
  | none=>rfl
  | some q=>rw[h] at hn;cases hn
 rw[hh] at hf;have h1:=pushF x p σ 0
 have hp:(entsF σ).push { key:=.string ⟨x.toArray⟩,val:=.int .i64 (p:Int),born:=σ.length } = entsF (σ++[(x,p)]):=by
  apply Array.toList_inj.1
  rw[Array.toList_push];show entF σ 0++_=entF _ 0
  rw[←h1,Nat.zero_add]
 have hl:(σ++[(x,p)]).length=σ.length+1:=(by simp);simp[Instr.mapUpdate,run_underlying Tryz.underlying77,MapKept.run_getObj_map hb,hc,Instr.findKey,run_underlying Tryz.underlying9,he,hf,MapKept.run_setObj_map _ hb,Result.andThen,hp,setF,hl]
end
end Go.Proofs.YtodlhhfcjkjapaaGreatDoor
namespace Go.Proofs.YtodlhhfcjkjapaaGreatDoor
open Go.RowKit
open Ck (kLabel kSet env)
structure CK (w:World) (ao:Option Addr) (N cap m1 m2:Nat) (row:List Ps.St):Prop where
 sr:SR w (.slice ao N cap) row
 l:w.heap[m1]?=some (.map (entsF (env kLabel row)) (env kLabel row).length)
 s:w.heap[m2]?=some (.map (entsF (env kSet row)) (env kSet row).length)
 neat:Ps.Neat row
theorem CK.below {w w':World} {ao:Option Addr} {N cap m1 m2:Nat} {row:List Ps.St} (h:CK w ao N cap m1 m2 row) (hb:Below w.heap.size w w'):CK w' ao N cap m1 m2 row :=
 ⟨h.sr.below hb,(hb.block _ (yD h.l).1).trans h.l,(hb.block _ (yD h.s).1).trans h.s,h.neat⟩
def KB (w:World) (q:Nat) (md:Nat) (ao:Option Addr) (N cap m1 m2:Nat):Prop:=w.heap[q]?=some (.cells #[.int .i64 (md:Int),.slice ao N cap,.map (some m1),.map (some m2)] 80 (0,0))
section
variable {w w':World} {q md:Nat} {ao:Option Addr} {N cap m1 m2:Nat}
theorem KB.lt (h:KB w q md ao N cap m1 m2):q<w.heap.size:=(yD h).1
theorem KB.below (h:KB w q md ao N cap m1 m2) (hb:Below w.heap.size w w'):KB w' q md ao N cap m1 m2:=(hb.block q h.lt).trans h
theorem KB.c0 (h:KB w q md ao N cap m1 m2):w.cell? ⟨q,0,none⟩=some (.int .i64 (md:Int)):=yC h
theorem KB.c1 (h:KB w q md ao N cap m1 m2):w.cell? ⟨q,1,none⟩=some (.slice ao N cap):=yC h
theorem KB.c2 (h:KB w q md ao N cap m1 m2):w.cell? ⟨q,2,none⟩=some (.map (some m1)):=yC h
theorem KB.c3 (h:KB w q md ao N cap m1 m2):w.cell? ⟨q,3,none⟩=some (.map (some m2)):=yC h
end
def SB (w:World) (b:Nat) (st:Ps.St) (lo:Option Addr) (lc:Nat) (mo:Option Addr) (mc:Nat):Prop :=
 w.heap[b]?=some (.cells #[.int .i64 (st.kind:Int),.string ⟨st.s.toArray⟩,.string ⟨st.t.toArray⟩,.string ⟨st.u.toArray⟩,.int .i64 (st.n:Int),.int .i64 (st.place:Int),.slice lo st.l.length lc,.slice mo st.m.length mc] 41 (0,0))
section
variable {w w':World} {b:Nat} {st:Ps.St} {lo:Option Addr} {lc:Nat} {mo:Option Addr} {mc:Nat}
theorem SB.lt (h:SB w b st lo lc mo mc):b<w.heap.size:=(yD h).1
theorem SB.below (h:SB w b st lo lc mo mc) (hb:Below w.heap.size w w'):SB w' b st lo lc mo mc:=(hb.block b h.lt).trans h
theorem SB.c0 (h:SB w b st lo lc mo mc):w.cell? ⟨b,0,none⟩=some (.int .i64 (st.kind:Int)):=yC h
theorem SB.c1 (h:SB w b st lo lc mo mc):w.cell? ⟨b,1,none⟩=some (.string ⟨st.s.toArray⟩):=yC h
theorem SB.c2 (h:SB w b st lo lc mo mc):w.cell? ⟨b,2,none⟩=some (.string ⟨st.t.toArray⟩):=yC h
theorem SB.c3 (h:SB w b st lo lc mo mc):w.cell? ⟨b,3,none⟩=some (.string ⟨st.u.toArray⟩):=yC h
theorem SB.c4 (h:SB w b st lo lc mo mc):w.cell? ⟨b,4,none⟩=some (.int .i64 (st.n:Int)):=yC h
theorem SB.c5 (h:SB w b st lo lc mo mc):w.cell? ⟨b,5,none⟩=some (.int .i64 (st.place:Int)):=yC h
theorem SB.c6 (h:SB w b st lo lc mo mc):w.cell? ⟨b,6,none⟩=some (.slice lo st.l.length lc):=yC h
end
theorem ck_enter {w:World} {md:Nat} {ao:Option Addr} {N cap m1 m2:Nat} {row:List Ps.St} (h:CK w ao N cap m1 m2 row) {k:Nat} {st:Ps.St} (hk:row[k]?=some st) :
  ∃ g lo lc mo mc T U q,ao=some ⟨g,0,none⟩∧w.heap.size=q∧w.alloc (.cells #[.int .i64 (md:Int),.slice ao N cap,.map (some m1),.map (some m2)] 80)=T ∧
   T.alloc (.cells #[.int .i64 (st.kind:Int),.string ⟨st.s.toArray⟩,.string ⟨st.t.toArray⟩,.string ⟨st.u.toArray⟩,.int .i64 (st.n:Int),.int .i64 (st.place:Int),.slice lo st.l.length lc,.slice mo st.m.length mc] 41)=U ∧
   T.heap.size=q+1∧k<N∧N=row.length∧Below q w U∧KB T q md ao N cap m1 m2∧KB U q md ao N cap m1 m2∧SB U (q+1) st lo lc mo mc∧C8 T g k st lo lc mo mc∧Rd U (.slice lo st.l.length lc) (st.l.map nv)∧CK U ao N cap m1 m2 row:=by
 obtain⟨g,lo,lc,mo,mc,e,r1,r2,c8⟩:=h.sr.at8 hk;have hN:=h.sr.len;have hb1:Below w.heap.size w (w.alloc (.cells #[.int .i64 (md:Int),.slice ao N cap,.map (some m1),.map (some m2)] 80)):=yA;have hk1:KB (w.alloc (.cells #[.int .i64 (md:Int),.slice ao N cap,.map (some m1),.map (some m2)] 80)) w.heap.size md ao N cap m1 m2:=heap_alloc_new _ _
 have hs1:(w.alloc (.cells #[.int .i64 (md:Int),.slice ao N cap,.map (some m1),.map (some m2)] 80)).heap.size=w.heap.size+1:=(by simp);generalize w.alloc (.cells #[.int .i64 (md:Int),.slice ao N cap,.map (some m1),.map (some m2)] 80)=T at hb1 hk1 hs1 ⊢
 have hb2:=(Below.refl T.heap.size T).alloc yR (.cells #[.int .i64 (st.kind:Int),.string ⟨st.s.toArray⟩,.string ⟨st.t.toArray⟩,.string ⟨st.u.toArray⟩,.int .i64 (st.n:Int),.int .i64 (st.place:Int),.slice lo st.l.length lc,.slice mo st.m.length mc] 41)
 have hk2:SB (T.alloc (.cells #[.int .i64 (st.kind:Int),.string ⟨st.s.toArray⟩,.string ⟨st.t.toArray⟩,.string ⟨st.u.toArray⟩,.int .i64 (st.n:Int),.int .i64 (st.place:Int),.slice lo st.l.length lc,.slice mo st.m.length mc] 41)) T.heap.size st lo lc mo mc:=heap_alloc_new _ _;rw[hs1] at hk2;have hb3:=hb1.trans (hb2.mono (by omega))
 exact⟨g,lo,lc,mo,mc,T,_,_,e,rfl,rfl,rfl,hs1,by rw[hN];exact(yE hk).1,hN,hb3,hk1,hk1.below hb2,hk2,c8.below hb1,r1.below hb3,h.below hb3⟩
end Go.Proofs.YtodlhhfcjkjapaaGreatDoor
