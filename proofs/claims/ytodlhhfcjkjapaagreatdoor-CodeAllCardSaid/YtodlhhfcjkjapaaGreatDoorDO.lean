import Derived.Test.YtodlhhfcjkjapaaGreatDoorDS
import Derived.Test.YtodlhhfcjkjapaaGreatDoorDP
import Derived.Test.YtodlhhfcjkjapaaGreatDoorCA
import Derived.Test.YtodlhhfcjkjapaaGreatDoorCheckSource
set_option maxRecDepth 200000
set_option maxHeartbeats 8000000
namespace Go.Proofs.YtodlhhfcjkjapaaGreatDoor
open Go.RowKit
theorem hitL_at {σ:List LA} (h:Once σ) {i:Nat} {e:LA} (he:σ[i]?=some e):hitL σ e.x=some (i,e):=by
 cases hh:hitL σ e.x with
 | none=>exact absurd rfl (hitL_none hh e (List.mem_of_getElem? he))
 | some p =>
  obtain⟨h1,h2⟩:=hitL_mem hh;have e1:(σ.map (·.x))[p.1]?=some e.x:=(by rw[List.getElem?_map,h1];exact congrArg some h2);have e2:(σ.map (·.x))[i]?=some e.x:=(by rw[List.getElem?_map,he];rfl);have hnd:=List.pairwise_iff_getElem.1 h;have g1:=(yE e1);have g2:=(yE e2)
  have hij:p.1=i:=by
   rcases Nat.lt_trichotomy p.1 i with hl|hl|hl
   ·exact absurd (g1.2.trans g2.2.symm) (hnd _ _ g1.1 g2.1 hl)
   ·exact hl
   ·exact absurd (g2.2.trans g1.2.symm) (hnd _ _ g2.1 g1.1 hl)
  rw[hij,he] at h1;cases h1
  obtain⟨a,b⟩:=p;cases hij
  rfl
def doneB (seen:Array Nat) (σ:List LA) (x:List UInt8):Bool:=match hitL σ x with
 | some p=>seen.contains p.1
 | none=>false
def fixS (seen:Array Nat) (σ:List LA) (L:List Cd.Lb) (o:Cd.MOp):Cd.Op:=match o.2 with
 | none=>o.1
 | some x=>if doneB seen σ x then Cd.toP (Cd.last x L:Int) o.1 else o.1
def turnAll (p:Int) (gs:List Nat) (O:List Cd.Op):List Cd.Op:=gs.foldl (fun O f=>O.modify f (Cd.toP p)) O
theorem turnAll_len (p:Int):∀ (gs:List Nat) (O:List Cd.Op),(turnAll p gs O).length=O.length
 | [],_=>rfl
 | f :: gs,O=>by
  show (turnAll p gs (O.modify f (Cd.toP p))).length=_
  rw[turnAll_len p gs,List.length_modify]
theorem turnAll_get (p:Int) (j:Nat):∀ (gs:List Nat) (O:List Cd.Op),(turnAll p gs O)[j]?=if j ∈ gs then (O[j]?).map (Cd.toP p) else O[j]?
 | [],O=>by simp[turnAll]
 | f :: gs,O=>by
  show (turnAll p gs (O.modify f (Cd.toP p)))[j]?=_
  rw[turnAll_get p j gs,List.getElem?_modify];by_cases hf:f=j
  ·subst hf;have e1:(fun a:Cd.Op=>if f=f then Cd.toP p a else a)=Cd.toP p:=(by funext a;rw[if_pos rfl]);rw[e1,if_pos (List.mem_cons_self ..)];by_cases hj:f ∈ gs
   ·rw[if_pos hj];cases O[f]? <;> rfl
   ·rw[if_neg hj];cases O[f]? <;> rfl
  ·have e1:(fun a:Cd.Op=>if f=j then Cd.toP p a else a)=id:=(by funext a;rw[if_neg hf];rfl);rw[e1];have:(j ∈ f :: gs) ↔ j ∈ gs:=(by rw[List.mem_cons];exact⟨fun h=>h.elim (fun e=>absurd e.symm hf) id,.inr⟩);simp only[this];cases O[j]? <;> rfl
theorem turnAll_take (p:Int) (gs:List Nat) (O:List Cd.Op) (k f:Nat) (h:gs[k]?=some f):turnAll p (gs.take (k+1)) O=(turnAll p (gs.take k) O).modify f (Cd.toP p):=by
 unfold turnAll;rw[List.take_add_one,h,List.foldl_append];rfl
theorem fix_step {σ:List LA} {M:List Cd.MOp} {L:List Cd.Lb} (ht:Tells σ M L) (seen:Array Nat) {i:Nat} {e:LA} (he:σ[i]?=some e):turnAll (e.p:Int) e.gs (M.map (fixS seen σ L))=M.map (fixS (seen.push i) σ L):=by
 have hl:=lookL_of ht.1 (List.mem_of_getElem? he);obtain⟨h1,h2⟩:=ht.2 e.x;rw[hl] at h1 h2;have hh:=hitL_at ht.1 he;apply List.ext_getElem?
 intro j;rw[turnAll_get,List.getElem?_map,List.getElem?_map,h2];have hm:=Cd.pos_mem e.x M 0 j;rw[Nat.sub_zero] at hm;cases hj:M[j]? with
 | none =>
  rw[hj] at hm;rw[if_neg (fun h=>by obtain⟨o,_,h⟩:=hm.1 h;cases h)];rfl
 | some o =>
  obtain⟨o,y⟩:=o;rw[hj] at hm;show (if j ∈ Cd.pos e.x M 0 then some (Cd.toP (e.p:Int) (fixS seen σ L (o,y))) else some (fixS seen σ L (o,y)))=some (fixS (seen.push i) σ L (o,y))
  cases y with
  | none=>rw[if_neg (fun h=>by obtain⟨o',_,h⟩:=hm.1 h;cases h)];rfl
  | some x =>
   by_cases hx:x=e.x
   ·subst hx;rw[if_pos (hm.2 ⟨o,Nat.zero_le _,rfl⟩),h1];have hd:doneB (seen.push i) σ e.x=true:=(by unfold doneB;rw[hh];simp);congr 1
    unfold fixS;dsimp only;rw[hd];cases doneB seen σ e.x <;> rfl
   ·rw[if_neg (fun h=>by obtain⟨o',_,h⟩:=hm.1 h;simp at h;exact hx h.2)]
    have hd:doneB (seen.push i) σ x=doneB seen σ x:=by
     unfold doneB;cases hq:hitL σ x with
     | none=>rfl
     | some q =>
      obtain⟨q1,q2⟩:=hitL_mem hq;have:q.1≠i:=fun e2=>by rw[e2,he] at q1;cases q1;exact hx q2.symm
      dsimp only;rw[contains_push];simp[this]
    unfold fixS;dsimp only;rw[hd]
theorem fix_none (σ:List LA) (M:List Cd.MOp) (L:List Cd.Lb):M.map (fixS #[] σ L)=M.map (·.1):=by
 refine List.map_congr_left fun o _=>?_;unfold fixS;cases o.2 with
 | none=>rfl
 | some x =>
  have:doneB #[] σ x=false:=(by unfold doneB;cases hitL σ x <;> simp);simp only[this];rfl
theorem fix_end {σ:List LA} {M:List Cd.MOp} {L:List Cd.Lb} (ht:Tells σ M L) (seen:Array Nat) (h:∀ i e,σ[i]?=some e→seen.contains i=true):M.map (fixS seen σ L)=M.map (Cd.fix fun x=>(Cd.last x L:Int)):=by
 refine List.map_congr_left fun o ho=>?_;unfold fixS Cd.fix;cases ho2:o.2 with
 | none=>rfl
 | some x =>
  have hd:doneB seen σ x=true:=by
   unfold doneB;cases hq:hitL σ x with
   | some q=>exact h _ _ (hitL_mem hq).1
   | none =>
    have h2:=(ht.2 x).2;unfold lookL at h2;rw[hq] at h2;obtain⟨j,hj⟩:=List.getElem?_of_mem ho;have:j ∈ Cd.pos x M 0:=(Cd.pos_mem x M 0 j).2 ⟨o.1,Nat.zero_le _,by rw[Nat.sub_zero,hj,←ho2]⟩;rw[←h2] at this;cases this
  simp only[hd];rfl
theorem entL_mem {σ:List LA} {E:MapEntry} (h:E ∈ (entsL σ).toList):∃ i e,σ[i]?=some e∧E = { key:=.string ⟨e.x.toArray⟩,val:=laV e,born:=i }:=by
 obtain⟨k,hk⟩:=List.getElem?_of_mem (show E ∈ entL σ 0 from h);rw[entL_get] at hk;cases hs:σ[k]? with
 | none=>rw[hs] at hk;cases hk
 | some e =>
  rw[hs] at hk;refine⟨k,e,hs,?_⟩;have:_=E:=Option.some.inj hk;rw[←this,Nat.zero_add]
theorem entL_born:∀ (σ:List LA) (i:Nat),(entL σ i).map (·.born)=List.range' i σ.length
 | [],_=>rfl
 | e :: σ,i=>by rw[entL,List.map_cons,entL_born σ (i+1),List.length_cons,List.range'_succ]
section
variable {w0 w wr w2:World} {B g m r:Nat} {rv ov:Value} {O:List Cd.Op} {M:List Cd.MOp} {L:List Cd.Lb} {σ:List LA}
theorem WS.iter {a:Option Nat} {b d:Nat} {c:Array Nat} (h:WS w0 w B g m rv ov O σ) (hit:w.heap[r]?=some (.mapIter a b c d)) (hr:B≤r) (t:Trn (only r) w w2):WS w0 w2 B g m rv ov O σ:=by
 have n1:∀ k C ty fr,w.heap[k]?=some (.cells C ty fr) → ¬ only r k:=fun k C ty fr hk e=>by rw[show k=r from e,hit] at hk;cases hk
 refine⟨(t.block g h.glt (n1 g _ _ _ h.wb)).trans h.wb,(t.block m h.mlt (fun e=>?_)).trans h.mp,own_trn h.op t (fun k hk=>?_),fun e he=>own_trn (h.go e he) t (fun k hk=>?_),h.ap,h.gB,h.mB,h.base.trans (t.below (fun k hk=>by rw[show k=r from hk];exact hr) h.bsz),Nat.le_trans h.bsz t.size⟩
 ·have h1:=h.mp;rw[show m=r from e,hit] at h1;cases h1
 ·obtain⟨cur,hc⟩:=own_cells h.op hk;exact n1 k _ _ _ hc
 ·obtain⟨cur,hc⟩:=own_cells (h.go e he) hk;exact n1 k _ _ _ hc
structure JH (w0 w wr:World) (B g m r:Nat) (rv ov:Value) (M:List Cd.MOp) (L:List Cd.Lb) (σ:List LA) (seen:Array Nat) (c0:Nat):Prop where
 it:wr.heap[r]?=some (.mapIter (some m) σ.length seen c0)
 c0:σ.length≤c0
 ws:WS w0 wr B g m rv ov (M.map (fixS seen σ L)) σ
 kp:Keep w wr
 rB:B≤r
theorem set_trn {w1:World} (hw:w1=wr∨w1=wr.drew) (r:Nat) (o:Obj):Trn (only r) wr (ChangeMaps.setBlock w1 r o):=by
 refine⟨?_,?_,?_,?_,fun k _ hk=>?_⟩
 ·rcases hw with rfl|rfl <;> rfl
 ·rcases hw with rfl|rfl <;> rfl
 ·rcases hw with rfl|rfl <;> rfl
 ·show wr.heap.size≤(w1.heap.setIfInBounds _ _).size
  rw[Array.size_setIfInBounds];rcases hw with rfl|rfl <;> exact yR
 ·show (w1.heap.setIfInBounds _ _)[k]?=_
  rw[Array.getElem?_setIfInBounds_ne (fun e=>hk (show k=r from e.symm))];rcases hw with rfl|rfl <;> rfl
theorem JH.step {seen:Array Nat} {c0:Nat} (h:JH w0 w wr B g m r rv ov M L σ seen c0) (ht:Tells σ M L) :
  ((∀ ty,(Instr.next (.pointer (some ⟨r,0,none⟩)) false ty).run Tryz.prog wr = .ok (.tuple #[.bool false]) wr)∧M.map (fixS seen σ L)=M.map (Cd.fix fun x=>(Cd.last x L:Int))) ∨
  ∃ i e W2,σ[i]?=some e∧(∀ ty,(Instr.next (.pointer (some ⟨r,0,none⟩)) false ty).run Tryz.prog wr = .ok (.tuple #[.bool true,.string ⟨e.x.toArray⟩,.agg #[.int .i64 (e.p:Int),e.v]]) W2)∧(Instr.entry (.pointer (some ⟨r,0,none⟩))).run Tryz.prog W2 = .ok (.tuple #[.string ⟨e.x.toArray⟩,.agg #[.int .i64 (e.p:Int),e.v]]) W2 ∧
   W2.heap[r]?=some (.mapIter (some m) σ.length (seen.push i) σ.length)∧WS w0 W2 B g m rv ov (M.map (fixS seen σ L)) σ∧Keep w W2∧(leftOf (entsL σ) (seen.push i)).size<(leftOf (entsL σ) seen).size∧wr.heap.size≤W2.heap.size:=by
 have hold:∀ x ∈ (entsL σ).toList,x.born<σ.length:=fun x hx=>by
  obtain⟨i,e,hi,rfl⟩:=entL_mem hx;exact(yE hi).1
 rcases run_next_at (P:=Tryz.prog) wr 0 r m σ.length c0 seen (entsL σ) σ.length h.it h.ws.mp hold h.c0 with ⟨h0,hn⟩|⟨E,hE,w1,hw1,hn⟩
 ·refine .inl ⟨fun _=>hn,fix_end ht seen fun i e hi=>?_⟩
  have:=all_seen (entsL σ) seen h0 { key:=.string ⟨e.x.toArray⟩,val:=laV e,born:=i } (by
   refine List.mem_of_getElem? (i:=i) (show (entL σ 0)[i]?=_ from ?_);rw[entL_get,hi,Nat.zero_add];rfl)
  exact this
 ·obtain⟨hem,hes⟩:=mem_left hE;have hsh:=left_shrinks (entsL σ) seen E hE;obtain⟨i,e,hi,rfl⟩:=entL_mem hem;have t:=set_trn (wr:=wr) hw1 r (.mapIter (some m) σ.length (seen.push i) σ.length);have hlt:r<wr.heap.size:=(yD h.it).1
  have hit2:(ChangeMaps.setBlock w1 r (.mapIter (some m) σ.length (seen.push i) σ.length)).heap[r]?=some (.mapIter (some m) σ.length (seen.push i) σ.length):=by
   show (w1.heap.setIfInBounds _ _)[_]?=_
   have:w1.heap.size=wr.heap.size:=(by rcases hw1 with rfl|rfl <;> rfl);simp[this,hlt]
  have hw2:=h.ws.iter h.it h.rB t
  have hen:=run_entry_at (P:=Tryz.prog) _ r m σ.length seen (entsL σ) σ.length _ hit2 hw2.mp hem (by
   show ((entL σ 0).map (·.born)).Nodup
   rw[entL_born];exact List.nodup_range' ..)
  refine .inr ⟨i,e,_,hi,fun _=>hn,hen,hit2,hw2,h.kp.trans ⟨t.os,t.tape,t.output,t.size,fun k C ty fr hk _ _ _=>(t.block k (yD hk).1 (fun e2=>?_)).trans hk⟩,hsh,t.size⟩;rw[show k=r from e2,h.it] at hk;cases hk
structure JI (w0 w wr:World) (B g m r t k:Nat) (rv ov:Value) (M:List Cd.MOp) (L:List Cd.Lb) (σ:List LA) (seen:Array Nat) (i:Nat) (e:LA):Prop where
 it:wr.heap[r]?=some (.mapIter (some m) σ.length (seen.push i) σ.length)
 ws:WS w0 wr B g m rv ov (turnAll (e.p:Int) (e.gs.take k) (M.map (fixS seen σ L))) σ
 tb:wr.heap[t]?=some (.cells #[.int .i64 (e.p:Int),e.v] 72 (0,0))
 kp:Keep w wr
theorem JI.turn {t k f:Nat} {seen:Array Nat} {i:Nat} {e:LA} {q j:Nat} {u:Value} (h:JI w0 w wr B g m r t k rv ov M L σ seen i e) (hf:e.gs[k]?=some f) (hw:WS w0 (wr.drew.setCell ⟨q,j,none⟩ u) B g m rv ov ((turnAll (e.p:Int) (e.gs.take k) (M.map (fixS seen σ L))).modify f (Cd.toP (e.p:Int))) σ) (hk:Keep wr (wr.drew.setCell ⟨q,j,none⟩ u)) (hq:ov.ownBlock=some q) :
  JI w0 w (wr.drew.setCell ⟨q,j,none⟩ u) B g m r t (k+1) rv ov M L σ seen i e:=by
 refine⟨(Below.heap_setCell _ _ _ _ (fun e2=>?_)).trans h.it,by rw[turnAll_take _ _ _ _ _ hf];exact hw,hk.blk _ _ _ _ h.tb (by decide) (by decide) (by decide),h.kp.trans hk⟩;obtain⟨cur,hc⟩:=own_cells h.ws.op hq;have e3:r=q:=e2;rw[←e3,h.it] at hc;cases hc
theorem join_any (h:WS w0 w B g m rv ov (M.map (·.1)) σ) (ht:Tells σ M L) (hM:M.length≤100000) :
  Calls Tryz.prog 22 #[.pointer (some ⟨g,0,none⟩)] w fun e w'=>e = .returned (.tuple #[])∧WS w0 w' B g m rv ov (M.map (Cd.fix fun x=>(Cd.last x L:Int))) σ∧Keep w w':=by
 have hr:=run_range_map (P:=Tryz.prog) w 49 9 72 m (entsL σ) σ.length Tryz.underlying49 h.mp;have e2:=h.c.2.2.1;obtain⟨r,hrr⟩:∃ r,w.heap.size=r:=⟨_,rfl⟩;obtain⟨T,hT⟩:∃ T,w.alloc (.mapIter (some m) σ.length #[] σ.length)=T:=⟨_,rfl⟩;have hb:Below w.heap.size w T:=by rw[←hT];exact yA
 have HJ:Hid (JH w0 w T B g m r rv ov M L σ #[] σ.length):=yH ⟨by rw[←hT,←hrr];exact heap_alloc_new _ _,yR,by rw[fix_none];exact h.below hb,Keep.of_below hb,by rw[←hrr];exact h.bsz⟩;have HTL:=yH ht;have HT:=yH hT;have HR:=yH hrr;clear h hb ht hT hrr;go_enter Tryz.func22,Tryz.ntmps22;go_wp2;rw[HT.out,HR.out]
 go_loopw [5] (fun _ wr=>∃ seen c0,Hid (JH w0 w wr B g m r rv ov M L σ seen c0)) (fun _ wr=>(leftOf (entsL σ) (wr.iterSeen r)).size)
 case atStart=>exact⟨_,_,HJ⟩
 case round =>
  clear HJ hr e2;obtain⟨seen,c0,HJ⟩:=hrel;rcases HJ.out.step HTL.out with ⟨hn,hfin⟩|⟨i,e,W2,hi,hn,hen,hit2,hw2,hk2,hsh,hsz⟩
  ·have HF:=yH (hfin ▸ HJ.out.ws);have HK:=yH HJ.out.kp;clear hfin;go_wp2;go_end0
   exact⟨rfl,HF.out,HK.out⟩
  ·have hme:=List.mem_of_getElem? hi
   have hgs:e.gs.length≤100000:=by
    have h1:=(HTL.out.2 e.x).2;rw[lookL_of HTL.out.1 hme] at h1;rw[h1];exact Nat.le_trans (pos_len _ _ _) hM
   have hlt:∀ (k f:Nat),e.gs[k]?=some f→f<M.length:=fun k f hk=>by
    have h1:=(HTL.out.2 e.x).2;rw[lookL_of HTL.out.1 hme] at h1;obtain⟨o,_,h2⟩:=(Cd.pos_mem e.x M 0 f).1 (h1 ▸ List.mem_of_getElem? hk);exact(yE h2).1
   have hst:=fix_step HTL.out seen hi;obtain⟨vo,vc,hv⟩:=(hw2.go e hme).form;obtain⟨t,htt⟩:∃ t,W2.heap.size=t:=⟨_,rfl⟩;obtain⟨T2,hT2⟩:∃ T2,W2.alloc (.cells #[.int .i64 (e.p:Int),e.v] 72)=T2:=⟨_,rfl⟩;have hb2:Below W2.heap.size W2 T2:=by rw[←hT2];exact yA
   have HI:Hid (JI w0 w T2 B g m r t 0 rv ov M L σ seen i e):=yH ⟨(hb2.block r (yD hit2).1).trans hit2,by rw[List.take_zero];exact hw2.below hb2,by rw[←hT2,←htt];exact heap_alloc_new _ _,hk2.trans (Keep.of_below hb2)⟩;have hseen:wr.iterSeen r=seen:=(by unfold World.iterSeen;rw[HJ.out.it]);have HRB:=yH HJ.out.rB;have HME:=yH hme;have HLT:Hid (∀ (k f:Nat),e.gs[k]?=some f→f<M.length):=yH hlt
   have HST:=yH hst;have HSH:=yH (And.intro hsh hseen);obtain⟨ex,P,ev,G⟩:=e;dsimp only at hv hgs hn hen hT2;subst hv;have HT2:=yH hT2;have HTT:=yH htt;clear hi hme hlt hst hw2 hk2 hit2 hsh hsz hb2 hseen HJ;have tc1:T2.cell? ⟨t,1,none⟩=some (.slice vo G.length vc):=yC HI.out.tb;go_wp2;clear tc1 hn hen
   go_loopw [5,18] (fun _ s18 wx=>∃ k:Nat,k≤G.length∧s18 = .int .i64 k∧Hid (JI w0 w wx B g m r t k rv ov M L σ seen i ⟨ex,P,.slice vo G.length vc,G⟩)) (fun _ s18 _=>G.length-(intOf s18).toNat)
   case atStart=>exact⟨0,Nat.zero_le _,rfl,HI⟩
   case round =>
    clear HI hT2;obtain⟨k,hk,rfl,HI⟩:=hrel;by_cases hlt:k<G.length
    ·obtain⟨f,hf⟩:∃ f,G[k]?=some f:=⟨_,List.getElem?_eq_getElem hlt⟩;obtain⟨bb,oo,rfl,_,hc⟩:=rd_nv (IR.rd (HI.out.ws.go _ HME.out)) k hlt;have hfd:G.getD k 0=f:=(by rw[List.getD_eq_getElem?_getD,hf];rfl);rw[hfd] at hc;have hfM:=HLT.out k f hf;have hlen:(turnAll (P:Int) (G.take k) (M.map (fixS seen σ L))).length=M.length:=(by rw[turnAll_len,List.length_map]);have hD:=HI.out.ws.below (below_drew (Below.refl wr.heap.size wr))
     obtain⟨q,cp,hov,hq,hfr,⟨u0,hu0⟩,hput⟩:=hD.turn (k:=f) (by dsimp only;rw[hlen];exact hfM);dsimp only at hput hov;rw[hlen] at hov;subst hov;have e1:=hD.c.2.1;obtain⟨hW,hKp⟩:=hput (P:Int);have hJ:=HI.out.turn hf hW ((Keep.of_below (below_drew (Below.refl wr.heap.size wr))).trans hKp) rfl;have c1:=hJ.ws.c.2.1;have ct0:(wr.drew.setCell ⟨q,f*6+5,none⟩ (.int .i64 (P:Int))).cell? ⟨t,0,none⟩=some (.int .i64 (P:Int)):=yC hJ.tb
     have t0:wr.drew.cell? ⟨t,0,none⟩=some (.int .i64 (P:Int)):=yC (show wr.drew.heap[t]?=_ from HI.out.tb);have ef:=hfr (f*6+5);have HN:=yH hJ;obtain⟨NM,hNM⟩:∃ NM,M.length=NM:=⟨_,rfl⟩;have HC:=yH hc;rw[hNM] at e1 c1 hfM;have b1:((NM:Int)≤(f:Int))=False:=yF;have b2:(f:Int)<(NM:Int):=by omega
     have hs0:wr.drew.cell? ⟨g,1,none⟩=some (.slice (some ⟨q,0,none⟩) NM cp)∧wr.drew.cell? ⟨t,0,none⟩=some (.int .i64 (P:Int)):=⟨e1,t0⟩;have HSL:=yH (And.intro c1 ct0);have hx:((k:Int)<(G.length:Int)):=(by omega);have HNM:=yH hNM;clear hW hKp hJ hput hD hfr hq hlen hfd e1 c1 t0 ct0 hNM;go_upto_region 6 with fail
     refine wp_region_held_drew (S:=fun w'=>w'.cell? ⟨g,1,none⟩=some (.slice (some ⟨q,0,none⟩) NM cp)∧w'.cell? ⟨t,0,none⟩=some (.int .i64 (P:Int))) (by kernel_rfl) hs0 (fun hH=>?_);refine heldT (i:=0) ?_;refine heldT (i:=1) ?_;refine heldT (i:=2) ?_;refine heldT (i:=3) ?_;refine heldT (i:=4) ?_;refine heldT (i:=5) ?_;refine heldT (i:=6) ?_;refine heldT (i:=7) ?_;refine heldT (i:=8) ?_
     refine heldNext (i:=9) rfl (by kernel_rfl) (by rfl) (fun K hK=>?_);go_simp;refine hK.out _ _ HSL.out ?_;clear hK K;(try simp only[Act.put,zLa,zLb,zLc]);refine wpAnyH_done (by kernel_rfl) ?_ _;clear hH hs0;go_wp2;go_roundw
     case rel=>exact⟨k+1,by omega,by go_num,HN⟩
     case measure=>simp[intOf];omega
    ·obtain rfl:k=G.length:=(by omega);have hws:=HI.out.ws;dsimp only at hws;rw[List.take_length] at hws;have hst:=HST.out;rw[hst] at hws;have hit:=HI.out.it;have hs2:wr.iterSeen r=seen.push i:=(by unfold World.iterSeen;rw[hit]);have HJ2:Hid (JH w0 w wr B g m r rv ov M L σ (seen.push i) σ.length):=yH ⟨hit,yR,hws,HI.out.kp,HRB.out⟩;have HS2:=yH hs2;clear hws hst hit hs2;go_wp2;go_roundw
     case rel=>exact⟨_,_,HJ2⟩
     case measure=>rw[HS2.out,HSH.out.2];exact HSH.out.1
end
theorem tree_small {src:List UInt8} {md:Nat} {row:List Ps.St} {top:List Nat} (h:Ck.source src = .ok (md,row,top)):(Cd.mops (Cd.tree row top) 0).length≤1000∧Cd.LOk row.length top∧Cd.RowOk row∧Ps.Neat row:=by
 obtain⟨ha,_⟩:=Ck.source_ok h;have hne:=Ps.all_neat ha;obtain⟨_,_,h3,h4,h5,h6⟩:=Ps.all_in ha;have hr:Cd.RowOk row:=h3;have hl:Cd.LOk row.length top:=⟨h5,h4⟩;have hf:=Cd.tree_fits hr hl;have hn:=(Cd.nodes_all hr hl h6).length_eq;have hs:=Cd.size_cnt _ hf;have he:=Cd.els_nodes hr hl;have hc:(Cd.nodes (Cd.tree row top)).countP Cd.hasElse≤(Cd.nodes (Cd.tree row top)).length:=List.countP_le_length;have:=hne.few;rw[Cd.mops_len hf];exact⟨by omega,hl,hr,hne⟩
theorem Tells.none:Tells [] [] []:=⟨List.nodup_nil,fun _=>⟨rfl,rfl⟩⟩
theorem WS.new {w T:World} {B g m:Nat} {rv:Value} (hb:Below B w T) (hB:B≤T.heap.size) (hg:B≤g) (hm:B≤m) (h1:T.heap[g]?=some (.cells #[rv,.slice none 0 0,.map (some m)] 51 (0,0))) (h2:T.heap[m]?=some (.map #[] 0)):WS w T B g m rv (.slice none 0 0) (([]:List Cd.MOp).map (·.1)) [] :=
 ⟨h1,h2,World.ownsRow_nil _ _ _ _,fun e he=>(by cases he),fun e he=>(by cases he),hg,hm,hb,hB⟩
theorem of_any {w:World} {ao uo:Option Addr} {N cap uc md:Nat} {row:List Ps.St} {top:List Nat} (E:CP w ao N cap row) (hrd:Rd w (.slice uo top.length uc) (top.map nv)) (hl:Cd.LOk N top) (hM:(Cd.mops (Cd.tree row top) 0).length≤1000) :
  Calls Tryz.prog 14 #[.agg #[.int .i64 (md:Int),.slice ao N cap,.slice uo top.length uc]] w fun e w'=>Below w.heap.size w w' ∧ ∃ ov,e = .returned ov∧w'.ownsRow w.heap.size 38 6 ov ((Cd.mops (Cd.tree row top) 0++[(Cd.opEnd,none)]).map (Cd.fix fun x=>(Cd.last x (Cd.labs (Cd.tree row top) 0):Int))).length (opRow ((Cd.mops (Cd.tree row top) 0++[(Cd.opEnd,none)]).map (Cd.fix fun x=>(Cd.last x (Cd.labs (Cd.tree row top) 0):Int)))):=by
 have hmm:=@run_makeMap Tryz.prog;obtain⟨q,hq⟩:∃ q,w.heap.size=q:=⟨_,rfl⟩;obtain⟨T,hT⟩:∃ T,((w.alloc (.cells #[.int .i64 (md:Int),.slice ao N cap,.slice uo top.length uc] 32)).alloc (.map #[] 0)).alloc (.cells #[.slice ao N cap,.slice none 0 0,.map (some (q+1))] 51)=T:=⟨_,rfl⟩;have hb0:Below w.heap.size w (w.alloc (.cells #[.int .i64 (md:Int),.slice ao N cap,.slice uo top.length uc] 32)):=yA
 have hb1:Below w.heap.size w ((w.alloc (.cells #[.int .i64 (md:Int),.slice ao N cap,.slice uo top.length uc] 32)).alloc (.map #[] 0)):=hb0.alloc (by simp) _;have hbT:Below w.heap.size w T:=by rw[←hT];exact hb1.alloc (by simp;omega) _
 have h3:H3 T q [.int .i64 (md:Int),.slice ao N cap,.slice uo top.length uc]:=by
  rw[←hT,←hq];exact(Below.heap_alloc _ _ _ (by simp;omega)).trans ((Below.heap_alloc _ _ _ (by simp)).trans (heap_alloc_new w _))
 have hm:T.heap[q+1]?=some (.map #[] 0):=by
  rw[←hT];refine(Below.heap_alloc _ _ _ (by simp;omega)).trans ?_;have:=heap_alloc_new (w.alloc (.cells #[.int .i64 (md:Int),.slice ao N cap,.slice uo top.length uc] 32)) (.map #[] 0)
  rwa [World.size_alloc,hq] at this
 have hg:T.heap[q+1+1]?=some (.cells #[.slice ao N cap,.slice none 0 0,.map (some (q+1))] 51 (0,0)):=by
  rw[←hT];have:=heap_alloc_new ((w.alloc (.cells #[.int .i64 (md:Int),.slice ao N cap,.slice uo top.length uc] 32)).alloc (.map #[] 0)) (.cells #[.slice ao N cap,.slice none 0 0,.map (some (q+1))] 51)
  rwa [World.size_alloc,World.size_alloc,hq] at this
 have hW:=WS.new hbT hbT.size (by omega) (by omega) hg hm;have c1:=h3.cell (i:=1) rfl;have c2:=h3.cell (i:=2) rfl;have LST:=yH (lists_any E N top uo uc T (q+1+1) (q+1) _ [] [] [] yR hl hrd hW Tells.none (by rw[List.nil_append];exact Nat.le_trans hM (by decide)));obtain⟨X,hX⟩:∃ X,Cd.mops (Cd.tree row top) 0=X:=⟨_,rfl⟩;obtain⟨Y,hY⟩:∃ Y,Cd.labs (Cd.tree row top) 0=Y:=⟨_,rfl⟩;rw[hX] at hM ⊢;rw[hY]
 simp only[List.length_nil,List.nil_append,hX,hY] at LST;have HT:=yH hT;have HQ:=yH hq;have HB:=yH (show Below w.heap.size w T from hbT);clear hT hb0 hb1 hbT h3 hm hg hW hX hY E hrd hl;go_enter Tryz.func14,Tryz.ntmps14;go_upto_region 2 with fail
 rw[HT.out];go_wp2_with fail
 refine LST.out.mono ?_;rintro e w2 ⟨rfl,⟨ov2,σ2,h2,t2⟩,k2⟩;have PUT:=yH (wput_any h2 19 [] [] [] 0 0 (by rw[List.length_map];omega));have HT2:=yH t2;clear c1 c2 LST h2 k2 t2;go_wp2_with fail
 refine PUT.out.mono ?_;rintro e w3 ⟨rfl,⟨ov3,h3⟩,k3⟩;have h3':WS w w3 w.heap.size (q+1+1) (q+1) (.slice ao N cap) ov3 ((X++([(Cd.opEnd,none)]:List Cd.MOp)).map (·.1)) σ2:=(by rw[List.map_append];exact h3);have JN:=yH (join_any h3' (HT2.out.plain Cd.opEnd) (by rw[List.length_append,List.length_singleton];omega));clear PUT h3 h3' k3;go_wp2_with fail
 refine JN.out.mono ?_;rintro e w4 ⟨rfl,h4,k4⟩;have d1:=h4.c.2.1;have HR:=yH (And.intro h4.base h4.op);clear JN h4 k4;go_wp2;go_ret;rw[HQ.out];have:=HR.out;rw[HQ.out] at this;exact⟨this.1,_,rfl,this.2⟩
def CSrc (r:Ps.Res (List Cd.Op × Nat)) (w:World) (e:Ending) (w':World):Prop:=Below w.heap.size w w'∧match r with
 | .error (p,c)=>e = .returned (.tuple #[.slice none 0 0,.int .i64 0,.int .i64 (p:Int),.int .i64 (c:Int)])∧c≠0
 | .ok (l,md)=>∃ ov,e = .returned (.tuple #[ov,.int .i64 (md:Int),.int .i64 0,.int .i64 0])∧w'.ownsRow w.heap.size 38 6 ov l.length (opRow l)
theorem pr_cp {src:List UInt8} {B md:Nat} {w:World} {sv tv:Value} {row:List Ps.St} {top:List Nat} (h:PR B w sv tv row top) (hs:Ck.source src = .ok (md,row,top)) :
  ∃ ao cap uo uc,sv = .slice ao row.length cap∧tv = .slice uo top.length uc∧CP w ao row.length cap row∧Rd w (.slice uo top.length uc) (top.map nv):=by
 obtain⟨ao,cap,uo,uc,rfl,rfl⟩:=pr_formed h;obtain⟨_,_,hr,hne⟩:=tree_small hs;refine⟨ao,cap,uo,uc,rfl,rfl,⟨h.sr,hr,fun st hst=>?_,Nat.le_trans hne.few (by decide)⟩,?_⟩
 ·have:=(hne.sm st hst).1;omega
 ·obtain⟨_,_,_,_,ht,_⟩:=h;exact ht
theorem of_told {src:List UInt8} {B md:Nat} {w:World} {sv tv:Value} {row:List Ps.St} {top:List Nat} (h:PR B w sv tv row top) (hs:Ck.source src = .ok (md,row,top)) :
  Calls Tryz.prog 14 #[.agg #[.int .i64 (md:Int),sv,tv]] w fun e w'=>Below w.heap.size w w' ∧ ∃ ov,e = .returned ov∧w'.ownsRow w.heap.size 38 6 ov (Cd.of row top).length (opRow (Cd.of row top)):=by
 obtain⟨ao,cap,uo,uc,rfl,rfl,E,hrd⟩:=pr_cp h hs;obtain⟨hM,hl,_,_⟩:=tree_small hs;have:=of_any (md:=md) E hrd hl hM;rw[←Cd.of_mops hs] at this;exact this
theorem code_cases (l:List UInt8):(∃ p c,Ck.source l = .error (p,c)∧Cd.source l = .error (p,c)) ∨ ∃ md row top,Ck.source l = .ok (md,row,top)∧Cd.source l = .ok (Cd.of row top,md):=by
 unfold Cd.source;cases h:Ck.source l with
 | error e=>exact .inl ⟨e.1,e.2,rfl,rfl⟩
 | ok p=>exact .inr ⟨p.1,p.2.1,p.2.2,rfl,rfl⟩
theorem csource_any (l:List UInt8) (hl:l.length≤1048576) (w:World) (hS:SHP w) :
  Calls Tryz.prog 10 #[.string ⟨l.toArray⟩] w fun e w'=>CSrc (Cd.source l) w e w':=by
 have CK:=yH (source_any l hl w hS);have hcs:=code_cases l;clear hS;go_enter Tryz.func10,Tryz.ntmps10;go_wp2_with fail
 refine CK.out.mono ?_;rintro e w2 hP;obtain⟨hb2,hP⟩:=hP;clear CK;rcases hcs with ⟨p,c,ha,hs⟩|⟨md,row,top,ha,hs⟩
 ·rw[ha] at hP;have HSRC:=yH hs;obtain⟨rfl,hc⟩:=hP;obtain⟨f1,f2,f3⟩:=neF c hc;have HB:=yH (hb2.alloc hb2.size (.cells #[.int .i64 0,.slice none 0 0,.slice none 0 0] 32));have HC:=yH hc;clear hb2 ha hs hc;go_wp2;refine bodyPost_ret (v:=.tuple #[.slice none 0 0,.int .i64 0,.int .i64 (p:Int),.int .i64 (c:Int)]) (by simp[results,Tryz.results10,go_sem]) rfl ?_;rw[HSRC.out];exact⟨HB.out,rfl,HC.out⟩
 ·rw[ha] at hP;have HSRC:=yH hs;obtain⟨sv',tv,rfl,hpr⟩:=hP;obtain⟨ao,cap,uo,uc,rfl,rfl,_,_⟩:=pr_cp hpr ha;obtain⟨W3,hW3⟩:∃ W3,w2.alloc (.cells #[.int .i64 (md:Int),.slice ao row.length cap,.slice uo top.length uc] 32)=W3:=⟨_,rfl⟩;obtain⟨b,hb⟩:∃ b,w2.heap.size=b:=⟨_,rfl⟩;have hb3:Below w2.heap.size w2 W3:=by rw[←hW3];exact yA
  have hz:H3 W3 b [.int .i64 (md:Int),.slice ao row.length cap,.slice uo top.length uc]:=(by rw[←hW3,←hb];exact heap_alloc_new _ _);have OFC:=yH (of_told (w:=W3.drew) ((hpr.below hb3).below (below_drew (Below.refl W3.heap.size W3))) ha);have HB3:=yH (below_drew (hb2.trans (hb3.mono hb2.size)));have HZ:=yH hz;have HW3:=yH hW3;have HBB:=yH hb;clear hW3 hb hb3 hz hpr hb2 ha hs;go_upto_region 4 with fail
  rw[HW3.out,HBB.out];have hs0:(W3.drew.cell? ⟨b,0,none⟩=some (.int .i64 (md:Int))∧W3.drew.cell? ⟨b,1,none⟩=some (.slice ao row.length cap))∧W3.drew.cell? ⟨b,2,none⟩=some (.slice uo top.length uc):=⟨⟨HZ.out.cell (i:=0) rfl,HZ.out.cell (i:=1) rfl⟩,HZ.out.cell (i:=2) rfl⟩
  refine wp_region_held_drew (S:=fun w'=>(w'.cell? ⟨b,0,none⟩=some (.int .i64 (md:Int))∧w'.cell? ⟨b,1,none⟩=some (.slice ao row.length cap))∧w'.cell? ⟨b,2,none⟩=some (.slice uo top.length uc)) (by kernel_rfl) hs0 (fun hH=>?_);refine heldT (i:=0) ?_;refine heldT (i:=2) ?_;refine heldT (i:=3) ?_;refine heldNext (i:=1) rfl (by kernel_rfl) (by rfl) (fun K hK=>?_);go_simp;go_at_call 14
  refine OFC.out.mono ?_;rintro e w4 ⟨hb4,ov,rfl,ho⟩;have hz4:H3 w4 b _:=(hb4.block b (show b<W3.heap.size from HZ.out.lt)).trans HZ.out;have hs4:(w4.cell? ⟨b,0,none⟩=some (.int .i64 (md:Int))∧w4.cell? ⟨b,1,none⟩=some (.slice ao row.length cap))∧w4.cell? ⟨b,2,none⟩=some (.slice uo top.length uc):=⟨⟨hz4.cell (i:=0) rfl,hz4.cell (i:=1) rfl⟩,hz4.cell (i:=2) rfl⟩;have HB4:=yH hb4;have HO:=yH ho;clear hb4 ho hz4
  refine hK.out _ _ hs4 ?_;clear hK K;(try simp only[Act.put,zLa,zLb,zLc]);refine heldT (i:=4) ?_;refine heldT (i:=5) ?_;refine heldT (i:=6) ?_;refine heldT (i:=7) ?_;refine wpAnyH_done (by kernel_rfl) ?_ _;clear hH hs0 hs4;go_wp2;refine bodyPost_ret (v:=.tuple #[ov,.int .i64 (md:Int),.int .i64 0,.int .i64 0]) (by simp[results,Tryz.results10,go_sem]) rfl ?_;rw[HSRC.out];exact⟨HB3.out.trans (HB4.out.mono HB3.out.size),_,rfl,ownsRow_lower HO.out HB3.out.size⟩
def OR (w:World) (ov:Value) (l:List Cd.Op):Prop:=w.ownsRow 0 38 6 ov l.length (opRow l)
structure C6 (w:World) (q k:Nat) (o:Cd.Op):Prop where
 c0:w.cell? ⟨q,k*6,none⟩=some (.int .i64 (o.kind:Int))
 c1:w.cell? ⟨q,k*6+1,none⟩=some (.string ⟨o.s.toArray⟩)
 c2:w.cell? ⟨q,k*6+2,none⟩=some (.string ⟨o.t.toArray⟩)
 c3:w.cell? ⟨q,k*6+3,none⟩=some (.string ⟨o.u.toArray⟩)
 c4:w.cell? ⟨q,k*6+4,none⟩=some (.int .i64 (o.n:Int))
 c5:w.cell? ⟨q,k*6+5,none⟩=some (.int .i64 o.to)
section
variable {w w':World} {ov:Value} {l:List Cd.Op}
theorem OR.of {B n:Nat} (h:w.ownsRow B 38 6 ov n (opRow l)) (hn:n=l.length):OR w ov l:=by subst hn;exact ownsRow_lower h (Nat.zero_le _)
theorem OR.nil (w:World):OR w (.slice none 0 0) []:=World.ownsRow_nil _ _ _ _
theorem OR.below (h:OR w ov l) (hb:Below w.heap.size w w'):OR w' ov l:=own_trn h (F:=fun _=>False) (Trn.of_below hb) (fun _ _ e=>e)
theorem OR.form (h:OR w ov l):∃ ao cap,ov = .slice ao l.length cap:=own_form9 h
theorem OR.len (h:OR w ov l):l.length≤maxLen:=by
 rcases h.2 with ⟨_,h0⟩|⟨_,cap,_,_,_,_,h1,h2,_⟩
 ·omega
 ·omega
theorem OR.at {ao:Option Addr} {n cap:Nat} (h:OR w (.slice ao n cap) l) {k:Nat} {o:Cd.Op} (hk:l[k]?=some o):∃ q,ao=some ⟨q,0,none⟩∧C6 w q k o:=by
 have hlt:=(yE hk).1;rcases h.2 with ⟨_,h0⟩|⟨q,cap',cur,hv,_,hh,_,_,h3,h4⟩
 ·omega
 ·cases hv
  have key:∀ i v,(opCells o)[i]?=some v→w.cell? ⟨q,k*6+i,none⟩=some v:=fun i v hv=>by
   have hi:i<6:=(yE hv).1;have hx:=opRow_at l k o hk i v hv;rw[yC hh,←Array.getElem?_toList];rw[←h4,List.getElem?_take_of_lt (by omega)] at hx;exact hx
  exact⟨q,rfl,⟨key 0 _ rfl,key 1 _ rfl,key 2 _ rfl,key 3 _ rfl,key 4 _ rfl,key 5 _ rfl⟩⟩
end
theorem short_any (s:ByteArray) (hs:s.size≤maxLen) (w:World) :
  Calls Tryz.prog 9 #[.string s] w fun e w'=>e = .returned (.string ⟨(s.data.toList.take 2100).toArray⟩)∧w=w':=by
 unfold maxLen at hs;have hl:=Lib.size_eq s;obtain⟨L,hL⟩:∃ L,s.size=L:=⟨_,rfl⟩;rw[hL] at hs;have hz:s.size=L:=hL;by_cases hlt:2100<L
 ·have hx:s.extract 0 2100=⟨(s.data.toList.take 2100).toArray⟩:=by
   have:=ba_extract s.data.toList 0 2100;simpa using this
  have h1:((2100:Int)<(L:Int))=True:=yT;have h2:(2100:Int)≤(L:Int):=(by omega);rw[←hx];clear hx hlt hL hl;go_enter Tryz.func9,Tryz.ntmps9;go_wp2;go_ret;exact⟨rfl,rfl⟩
 ·have e:(⟨(s.data.toList.take 2100).toArray⟩:ByteArray)=s:=by
   rw[List.take_of_length_le (by rw[←hl];omega)]
  have h1:((2100:Int)<(L:Int))=False:=yF;rw[e];clear e hlt hL hl;go_enter Tryz.func9,Tryz.ntmps9;go_wp2;go_ret;exact⟨rfl,rfl⟩
def shownT:List UInt8:=[109,111,100,101,32,115,109,116,112,59,32,108,97,98,101,108,32,97,59,32,103,111,116,111,32,97,59]
theorem cd_shown:Cd.source shownT = .ok ([Cd.jump 0,Cd.opEnd],1):=by
 have h:(match Cd.source shownT with
  | .ok (l,md)=>decide (l=[Cd.jump 0,Cd.opEnd]) && decide (md=1)
  | .error _=>false)=true:=by decide +kernel
 cases hs:Cd.source shownT with
 | error e=>rw[hs] at h;cases h
 | ok p =>
  rw[hs] at h;obtain⟨l,md⟩:=p;simp only[Bool.and_eq_true,decide_eq_true_eq] at h;rw[h.1,h.2]
theorem shown_any (w:World) (hS:SHP w):Calls Tryz.prog 8 #[] w fun e w'=>e = .returned (.bool true)∧Below w.heap.size w w':=by
 have ha:=csource_any shownT (by decide) w hS;unfold CSrc at ha;rw[cd_shown] at ha;unfold shownT at ha;clear hS;go_enter Tryz.func8,Tryz.ntmps8;go_wp2_with fail
 refine ha.mono ?_;rintro e w1 ⟨hb,ov,rfl,ho⟩;have hor:=OR.of ho rfl;obtain⟨ao,cap,rfl⟩:=hor.form;obtain⟨q,rfl,c6⟩:=hor.at (k:=0) (o:=Cd.jump 0) rfl;obtain⟨q',e,d6⟩:=hor.at (k:=1) (o:=Cd.opEnd) rfl;cases e
 have c0:w1.cell? ⟨q,0,none⟩=some (.int .i64 18):=c6.c0;have c5:w1.cell? ⟨q,5,none⟩=some (.int .i64 0):=c6.c5;have d0:w1.cell? ⟨q,6,none⟩=some (.int .i64 19):=d6.c0;have HB:=yH hb;clear ha hb ho hor c6 d6;go_wp2;go_ret;exact⟨rfl,HB.out⟩
end Go.Proofs.YtodlhhfcjkjapaaGreatDoor
