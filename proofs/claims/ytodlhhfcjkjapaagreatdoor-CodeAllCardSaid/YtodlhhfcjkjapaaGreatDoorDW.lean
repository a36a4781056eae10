import Derived.Test.YtodlhhfcjkjapaaGreatDoorDP
import Derived.Test.YtodlhhfcjkjapaaGreatDoorCB
import Derived.Test.YtodlhhfcjkjapaaGreatDoorPE
import Derived.Test.YtodlhhfcjkjapaaGreatDoorParsePut
namespace Go.Proofs.YtodlhhfcjkjapaaGreatDoor
open Go.RowKit
structure LA where
 x:List UInt8
 p:Nat
 v:Value
 gs:List Nat
def laV (e:LA):Value:=.agg #[.int .i64 (e.p:Int),e.v]
def entL:List LA→Nat→List MapEntry
 | [],_=>[]
 | e :: σ,i=>{ key:=.string ⟨e.x.toArray⟩,val:=laV e,born:=i } :: entL σ (i+1)
def entsL (σ:List LA):Array MapEntry:=(entL σ 0).toArray
def hitL:List LA→List UInt8→Option (Nat × LA)
 | [],_=>none
 | e :: σ,x=>if e.x=x then some (0,e) else (hitL σ x).map fun p=>(p.1+1,p.2)
def lookL (σ:List LA) (x:List UInt8):LA:=match hitL σ x with
 | some p=>p.2
 | none=>⟨x,0,.slice none 0 0,[]⟩
def putL:List LA→LA→List LA
 | [],e=>[e]
 | d :: σ,e=>if d.x=e.x then e :: σ else d :: putL σ e
theorem entL_get:∀ (σ:List LA) (i k:Nat),(entL σ i)[k]?=(σ[k]?).map fun e=>{ key:=.string ⟨e.x.toArray⟩,val:=laV e,born:=i+k }
 | [],_,_=>by simp[entL]
 | e :: σ,i,0=>by simp[entL]
 | e :: σ,i,k+1=>by
  rw[entL,List.getElem?_cons_succ,List.getElem?_cons_succ,entL_get σ (i+1) k,show i+1+k=i+(k+1) by omega]
theorem find_entL (x:List UInt8):∀ (σ:List LA) (i j:Nat),Instr.findNow .string (.string ⟨x.toArray⟩) (entL σ i) j=some ((hitL σ x).map fun p=>(j+p.1,laV p.2))
 | [],_,_=>rfl
 | e :: σ,i,j=>by
  rw[entL,hitL];simp only[Instr.findNow,Instr.sameNow];rw[ba_same];by_cases h:e.x=x
  ·subst h;rw[decide_eq_true rfl,if_pos rfl];rfl
  ·rw[decide_eq_false (fun e=>h e.symm),if_neg h];show Instr.findNow _ _ _ (j+1)=_
   rw[find_entL x σ (i+1) (j+1)];cases hitL σ x with
   | none=>rfl
   | some p=>show some (some (j+1+p.1,_))=some (some (j+(p.1+1),_));rw[show j+1+p.1=j+(p.1+1) by omega]
theorem putL_push (e:LA):∀ (σ:List LA) (i:Nat),hitL σ e.x=none→entL σ i++[{ key:=.string ⟨e.x.toArray⟩,val:=laV e,born:=i+σ.length }]=entL (putL σ e) i∧(putL σ e).length=σ.length+1
 | [],_,_=>⟨rfl,rfl⟩
 | d :: σ,i,h=>by
  rw[hitL] at h;by_cases hd:d.x=e.x
  ·rw[if_pos hd] at h;cases h
  ·rw[if_neg hd] at h
   obtain⟨h1,h2⟩:=putL_push e σ (i+1) (by cases hh:hitL σ e.x with
    | none=>rfl
    | some p=>rw[hh] at h;cases h)
   rw[putL,if_neg hd,entL,entL,List.cons_append,List.length_cons,List.length_cons,←h1,h2];refine⟨?_,rfl⟩;rw[show i+(σ.length+1)=i+1+σ.length by omega]
theorem putL_at (e:LA):∀ (σ:List LA) (i k:Nat) (u:LA),hitL σ e.x=some (k,u) →
  (entL σ i).modify k (fun d=>{ d with key:=.string ⟨e.x.toArray⟩,val:=laV e })=entL (putL σ e) i∧(putL σ e).length=σ.length∧((entL σ i)[k]?).map (·.key)=some (.string ⟨e.x.toArray⟩)
 | [],_,_,_,h=>by cases h
 | d :: σ,i,k,u,h=>by
  rw[hitL] at h;by_cases hd:d.x=e.x
  ·rw[if_pos hd] at h;cases h
   rw[putL,if_pos hd];refine⟨rfl,rfl,?_⟩;rw[←hd];rfl
  ·rw[if_neg hd] at h;cases hh:hitL σ e.x with
   | none=>rw[hh] at h;cases h
   | some p =>
    rw[hh] at h;obtain⟨k',u'⟩:=p;cases h
    obtain⟨h1,h2,h3⟩:=putL_at e σ (i+1) k' _ hh;rw[putL,if_neg hd,entL,entL,List.length_cons,List.length_cons,h2,←h1];exact⟨rfl,rfl,h3⟩
def Once (σ:List LA):Prop:=(σ.map (·.x)).Nodup
theorem hitL_mem {x:List UInt8}:∀ {σ:List LA} {p:Nat × LA},hitL σ x=some p→σ[p.1]?=some p.2∧p.2.x=x
 | [],_,h=>by cases h
 | e :: σ,p,h=>by
  rw[hitL] at h;by_cases hd:e.x=x
  ·rw[if_pos hd] at h;cases h;exact⟨rfl,hd⟩
  ·rw[if_neg hd] at h;cases hh:hitL σ x with
   | none=>rw[hh] at h;cases h
   | some q =>
    rw[hh] at h;cases h
    exact hitL_mem (σ:=σ) hh
theorem hitL_none {x:List UInt8}:∀ {σ:List LA},hitL σ x=none → ∀ e ∈ σ,e.x≠x
 | [],_,_,he=>by cases he
 | d :: σ,h,e,he=>by
  rw[hitL] at h;by_cases hd:d.x=x
  ·rw[if_pos hd] at h;cases h
  ·rw[if_neg hd] at h;rcases List.mem_cons.1 he with rfl|he
   ·exact hd
   ·refine hitL_none (σ:=σ) ?_ e he;cases hh:hitL σ x with
    | none=>rfl
    | some p=>rw[hh] at h;cases h
theorem lookL_x (σ:List LA) (x:List UInt8):(lookL σ x).x=x:=by
 unfold lookL;cases h:hitL σ x with
 | none=>rfl
 | some p=>exact(hitL_mem h).2
theorem lookL_of {σ:List LA} (h:Once σ) {e:LA} (he:e ∈ σ):lookL σ e.x=e:=by
 unfold lookL;cases hh:hitL σ e.x with
 | none=>exact absurd rfl (hitL_none hh e he)
 | some p =>
  obtain⟨h1,h2⟩:=hitL_mem hh;obtain⟨i,hi⟩:=List.getElem?_of_mem he;have e1:(σ.map (·.x))[p.1]?=some e.x:=(by rw[List.getElem?_map,h1];exact congrArg some h2);have e2:(σ.map (·.x))[i]?=some e.x:=(by rw[List.getElem?_map,hi];rfl);have hnd:=List.pairwise_iff_getElem.1 h;have g1:=(yE e1);have g2:=(yE e2)
  have hij:p.1=i:=by
   rcases Nat.lt_trichotomy p.1 i with hl|hl|hl
   ·exact absurd (g1.2.trans g2.2.symm) (hnd _ _ g1.1 g2.1 hl)
   ·exact hl
   ·exact absurd (g2.2.trans g1.2.symm) (hnd _ _ g2.1 g1.1 hl)
  rw[hij,hi] at h1;cases h1
  rfl
theorem lookL_putL (σ:List LA) (e:LA) (y:List UInt8):lookL (putL σ e) y=if e.x=y then e else lookL σ y:=by
 have key:hitL (putL σ e) y=if e.x=y then some ((hitL (putL σ e) y).elim 0 (·.1),e) else (hitL (putL σ e) y).map fun p=>(p.1,lookL σ y):=by
  induction σ with
  | nil =>
   rw[putL,hitL];by_cases h:e.x=y
   ·rw[if_pos h,if_pos h];rfl
   ·rw[if_neg h,if_neg h];rfl
  | cons d σ ih =>
   rw[putL];by_cases hd:d.x=e.x
   ·rw[if_pos hd,hitL];by_cases h:e.x=y
    ·rw[if_pos h,if_pos h];rfl
    ·rw[if_neg h,if_neg h];unfold lookL;rw[hitL,if_neg (by rw[hd];exact h)];cases hitL σ y <;> rfl
   ·rw[if_neg hd,hitL];by_cases h:d.x=y
    ·rw[if_pos h,if_neg (fun h'=>hd (h.trans h'.symm))];unfold lookL;rw[hitL,if_pos h];rfl
    ·rw[if_neg h];by_cases he:e.x=y
     ·rw[if_pos he] at ih ⊢;rw[ih];rfl
     ·rw[if_neg he] at ih ⊢
      have:lookL (d :: σ) y=lookL σ y:=by
       unfold lookL;rw[hitL,if_neg h];cases hitL σ y <;> rfl
      rw[this];cases hq:hitL (putL σ e) y with
      | none=>rfl
      | some q =>
       rw[hq] at ih;have:q=(q.1,lookL σ y):=(by simpa using ih);rw[this];rfl
 have none_iff:hitL (putL σ e) y=none→e.x≠y∧hitL σ y=none:=by
  intro h;rw[h] at key;by_cases he:e.x=y
  ·rw[if_pos he] at key;cases key
  ·refine⟨he,?_⟩;clear key;induction σ with
   | nil=>rfl
   | cons d σ ih =>
    rw[putL] at h;rw[hitL];by_cases hd:d.x=e.x
    ·rw[if_pos hd,hitL,if_neg he] at h;rw[if_neg (by rw[hd];exact he)];exact h
    ·rw[if_neg hd,hitL] at h;by_cases hy:d.x=y
     ·rw[if_pos hy] at h;cases h
     ·rw[if_neg hy] at h ⊢;cases hq:hitL (putL σ e) y with
      | none=>rw[ih hq];rfl
      | some q=>rw[hq] at h;cases h
 conv=>lhs;unfold lookL
 cases hh:hitL (putL σ e) y with
 | none =>
  obtain⟨h1,h2⟩:=none_iff hh;rw[if_neg h1];unfold lookL;rw[h2]
 | some q =>
  rw[hh] at key;by_cases he:e.x=y
  ·rw[if_pos he] at key ⊢;exact congrArg Prod.snd (Option.some.inj key)
  ·rw[if_neg he] at key ⊢;exact congrArg Prod.snd (Option.some.inj key)
theorem putL_once (e:LA):∀ {σ:List LA},Once σ→Once (putL σ e)∧(∀ y,y ∈ (putL σ e).map (·.x)→y=e.x∨y ∈ σ.map (·.x)) ∧ ∀ f ∈ putL σ e,f=e∨f ∈ σ∧f.x≠e.x
 | [],_=>⟨by simp[Once,putL],by simp[putL],by simp[putL]⟩
 | d :: σ,h=>by
  have h':d.x ∉ σ.map (·.x)∧Once σ:=List.nodup_cons.1 h;obtain⟨h1,h2,h3⟩:=putL_once e h'.2;rw[putL];by_cases hd:d.x=e.x
  ·rw[if_pos hd];refine⟨?_,fun y hy=>?_,fun f hf=>?_⟩
   ·show (e.x :: σ.map (·.x)).Nodup
    rw[←hd];exact h
   ·rw[List.map_cons,List.mem_cons] at hy;rcases hy with hy|hy
    ·exact .inl hy
    ·exact .inr (List.mem_cons_of_mem _ hy)
   ·rcases List.mem_cons.1 hf with rfl|hf
    ·exact .inl rfl
    ·exact .inr ⟨List.mem_cons_of_mem _ hf,fun e2=>h'.1 (by rw[hd,←e2];exact List.mem_map.2 ⟨f,hf,rfl⟩)⟩
  ·rw[if_neg hd];refine⟨List.nodup_cons.2 ⟨fun hm=>?_,h1⟩,fun y hy=>?_,fun f hf=>?_⟩
   ·rcases h2 _ hm with e1|e1
    ·exact hd e1
    ·exact h'.1 e1
   ·rw[List.map_cons,List.mem_cons] at hy;rcases hy with hy|hy
    ·exact .inr (by rw[hy];exact List.mem_cons_self ..)
    ·exact(h2 y hy).imp id (fun h=>List.mem_cons_of_mem _ h)
   ·rcases List.mem_cons.1 hf with rfl|hf
    ·exact .inr ⟨List.mem_cons_self ..,hd⟩
    ·exact(h3 f hf).imp id (fun h=>⟨List.mem_cons_of_mem _ h.1,h.2⟩)
def Tells (σ:List LA) (M:List Cd.MOp) (L:List Cd.Lb):Prop:=Once σ ∧ ∀ x,(lookL σ x).p=Cd.last x L∧(lookL σ x).gs=Cd.pos x M 0
theorem Tells.plain {σ:List LA} {M:List Cd.MOp} {L:List Cd.Lb} (h:Tells σ M L) (o:Cd.Op):Tells σ (M++[(o,none)]) L:=⟨h.1,fun x=>⟨(h.2 x).1,by
 rw[(h.2 x).2,Cd.pos_append];show _=_++([]++[])
 simp⟩⟩
theorem Tells.turn {σ:List LA} {A B:List Cd.MOp} {L:List Cd.Lb} {o:Cd.Op} (h:Tells σ (A++(o,none) :: B) L) (o':Cd.Op):Tells σ (A++(o',none) :: B) L:=⟨h.1,fun x=>⟨(h.2 x).1,by rw[(h.2 x).2];exact Cd.pos_plain x A B o o' 0⟩⟩
theorem Tells.goes {σ:List LA} {M:List Cd.MOp} {L:List Cd.Lb} (h:Tells σ M L) (x:List UInt8) (o:Cd.Op) (v:Value):Tells (putL σ ⟨x,(lookL σ x).p,v,(lookL σ x).gs++[M.length]⟩) (M++[(o,some x)]) L:=by
 refine⟨(putL_once _ h.1).1,fun y=>?_⟩;rw[lookL_putL,Cd.pos_append];obtain⟨h1,h2⟩:=h.2 y;by_cases hy:x=y
 ·subst hy;rw[if_pos rfl];refine⟨h1,?_⟩;show (lookL σ x).gs++[M.length]=_
  rw[h2,Cd.pos,if_pos rfl,Nat.zero_add];rfl
 ·rw[if_neg hy];refine⟨h1,?_⟩;rw[h2,Cd.pos,if_neg (fun e=>hy (by simpa using e))];simp[Cd.pos]
theorem Tells.label {σ:List LA} {M:List Cd.MOp} {L:List Cd.Lb} (h:Tells σ M L) (x:List UInt8):Tells (putL σ ⟨x,M.length,(lookL σ x).v,(lookL σ x).gs⟩) M (L++[(x,M.length)]):=by
 refine⟨(putL_once _ h.1).1,fun y=>?_⟩;rw[lookL_putL,Cd.last_snoc];obtain⟨h1,h2⟩:=h.2 y;by_cases hy:x=y
 ·subst hy;rw[if_pos rfl,if_pos rfl];exact⟨rfl,h2⟩
 ·rw[if_neg hy,if_neg hy];exact⟨h1,h2⟩
def setL (w:World) (m:Nat) (σ:List LA):World:={ w with heap:=w.heap.setIfInBounds m (.map (entsL σ) σ.length) }
section
variable {w:World} {m:Nat} {σ:List LA}
theorem setL_at (w:World) (m:Nat) (σ:List LA) (h:m<w.heap.size):(setL w m σ).heap[m]?=some (.map (entsL σ) σ.length):=by
 simp[setL,h]
theorem setL_other (w:World) (m:Nat) (σ:List LA) {k:Nat} (h:k≠m):(setL w m σ).heap[k]?=w.heap[k]?:=by
 simp only[setL];rw[Array.getElem?_setIfInBounds_ne (Ne.symm h)]
theorem setL_size (w:World) (m:Nat) (σ:List LA):(setL w m σ).heap.size=w.heap.size:=by simp[setL]
theorem look_entL (hb:w.heap[m]?=some (.map (entsL σ) σ.length)) (x:List UInt8) (hx:x.length≤16777216) :
  (Instr.lookup 49 (.map (some m)) (.string ⟨x.toArray⟩) false).run Tryz.prog w = .ok (.agg #[.int .i64 ((lookL σ x).p:Int),(lookL σ x).v]) w:=by
 have hc:=fun e=>(Maps.string_keyed Tryz.underlying9).check w e (v:=.string ⟨x.toArray⟩) (WideMaps.keyOf_string_mk Tryz.underlying9 (show x.toArray.size≤maxLen by unfold maxLen;simp;omega));have hz:=Tryz.zeroValue72 w;have hf:=find_entL x σ 0 0;have he:(entsL σ).toList=entL σ 0:=rfl;unfold lookL;cases hh:hitL σ x with
 | none =>
  rw[hh] at hf;simp[Instr.lookup,run_underlying Tryz.underlying49,MapKept.run_getObj_map hb,hc,Instr.findKey,run_underlying Tryz.underlying9,he,hf,hz,Result.andThen]
 | some p =>
  rw[hh] at hf;simp[Instr.lookup,run_underlying Tryz.underlying49,MapKept.run_getObj_map hb,hc,Instr.findKey,run_underlying Tryz.underlying9,he,hf,Result.andThen,laV]
theorem upd_entL (hb:w.heap[m]?=some (.map (entsL σ) σ.length)) (e:LA) (hx:e.x.length≤16777216) :
  (Instr.mapUpdate 49 (.map (some m)) (.string ⟨e.x.toArray⟩) (.agg #[.int .i64 (e.p:Int),e.v])).run Tryz.prog w = .ok () (setL w m (putL σ e)):=by
 have hc:=fun f=>(Maps.string_keyed Tryz.underlying9).check w f (v:=.string ⟨e.x.toArray⟩) (WideMaps.keyOf_string_mk Tryz.underlying9 (show e.x.toArray.size≤maxLen by unfold maxLen;simp;omega));have hf:=find_entL e.x σ 0 0;have he:(entsL σ).toList=entL σ 0:=rfl;cases hh:hitL σ e.x with
 | none =>
  rw[hh] at hf;obtain⟨h1,h2⟩:=putL_push e σ 0 hh
  have hp:(entsL σ).push { key:=.string ⟨e.x.toArray⟩,val:=.agg #[.int .i64 (e.p:Int),e.v],born:=σ.length } = entsL (putL σ e):=by
   apply Array.toList_inj.1
   rw[Array.toList_push];show entL σ 0++_=entL _ 0
   rw[←h1,Nat.zero_add];rfl
  simp[Instr.mapUpdate,run_underlying Tryz.underlying49,MapKept.run_getObj_map hb,hc,Instr.findKey,run_underlying Tryz.underlying9,he,hf,MapKept.run_setObj_map _ hb,Result.andThen,hp,setL,h2]
 | some p =>
  obtain⟨k,u⟩:=p;rw[hh] at hf;obtain⟨h1,h2,h3⟩:=putL_at e σ 0 k u hh
  have hp:(entsL σ).modify k (fun d=>{ d with key:=.string ⟨e.x.toArray⟩,val:=.agg #[.int .i64 (e.p:Int),e.v] })=entsL (putL σ e):=by
   apply Array.toList_inj.1
   rw[Array.toList_modify];exact h1
  have hk:(((entsL σ)[k]?).map (·.key)).getD (.string ⟨e.x.toArray⟩) = .string ⟨e.x.toArray⟩:=by
   rw[show (entsL σ)[k]?=(entL σ 0)[k]? by simp[entsL],h3];rfl
  have hs:=MapKept.run_keyThatStays (P:=Tryz.prog) (w:=w) (d:=.string) (k:=.string ⟨e.x.toArray⟩) trivial;simp only[Option.map_some,Nat.zero_add] at hf;simp[Instr.mapUpdate,run_underlying Tryz.underlying49,MapKept.run_getObj_map hb,hc,Instr.findKey,run_underlying Tryz.underlying9,he,hf,hk,hs,MapKept.run_setObj_map _ hb,Result.andThen,hp,setL,h2]
end
def opCells (o:Cd.Op):List Value:=[.int .i64 (o.kind:Int),.string ⟨o.s.toArray⟩,.string ⟨o.t.toArray⟩,.string ⟨o.u.toArray⟩,.int .i64 (o.n:Int),.int .i64 o.to]
def opRow (l:List Cd.Op):List Value:=l.flatMap opCells
theorem opRow_len:∀ l:List Cd.Op,(opRow l).length=l.length*6
 | []=>rfl
 | t :: ts=>by
  have ih:=opRow_len ts;rw[show opRow (t :: ts)=opCells t++opRow ts from rfl,List.length_append,ih,List.length_cons];show 6+_=_
  omega
theorem opRow_app (a b:List Cd.Op):opRow (a++b)=opRow a++opRow b:=by simp[opRow]
theorem opRow_at:∀ (cs:List Cd.Op) (k:Nat) (c:Cd.Op),cs[k]?=some c → ∀ i v,(opCells c)[i]?=some v→(opRow cs)[k*6+i]?=some v
 | [],k,c,h,i,v,_=>by cases h
 | x :: cs,0,c,h,i,v,hv=>by
  have e:x=c:=(by simpa using h);rw[←e] at hv;have hi:i<(opCells x).length:=(yE hv).1;rw[show opRow (x :: cs)=opCells x++opRow cs from rfl,Nat.zero_mul,Nat.zero_add,List.getElem?_append_left hi];exact hv
 | x :: cs,k+1,c,h,i,v,hv=>by
  have ih:=opRow_at cs k c (by simpa using h) i v hv;have e:(opCells x).length=6:=rfl;rw[show opRow (x :: cs)=opCells x++opRow cs from rfl,List.getElem?_append_right (by omega),e,show (k+1)*6+i-6=k*6+i by omega];exact ih
theorem opRow_set (p:Int):∀ (l:List Cd.Op) (k:Nat),k<l.length→(opRow l).set (k*6+5) (.int .i64 p)=opRow (l.modify k (Cd.toP p))
 | [],k,h=>absurd h (Nat.not_lt_zero _)
 | x :: l,0,_=>rfl
 | x :: l,k+1,h=>by
  have ih:=opRow_set p l k (by simpa using h);rw[List.modify_succ_cons,show opRow (x :: l)=opCells x++opRow l from rfl,show opRow (x :: l.modify k (Cd.toP p))=opCells x++opRow (l.modify k (Cd.toP p)) from rfl,←ih];have e:(opCells x).length=6:=rfl;rw[List.set_append_right _ _ (by omega),e,show (k+1)*6+5-6=k*6+5 by omega]
theorem own_cells {w:World} {B n size:Nat} {e:TypeId} {v:Value} {xs:List Value} (h:w.ownsRow B e size v n xs) {k:Nat} (hk:v.ownBlock=some k):∃ cur,w.heap[k]?=some (.cells cur e (0,0)):=by
 rcases h.2 with ⟨rfl,_⟩|⟨b,cap,cur,rfl,_,hh,_⟩
 ·cases hk
 ·cases hk;exact⟨cur,hh⟩
structure Keep (w w':World):Prop where
 os:w'.os=w.os
 tape:w'.tape=w.tape
 output:w'.output=w.output
 size:w.heap.size≤w'.heap.size
 blk:∀ (k:Nat) (C:Array Value) (t:TypeId) (fr:Nat × Nat),w.heap[k]?=some (.cells C t fr)→t≠51→t≠38→t≠3→w'.heap[k]?=some (.cells C t fr)
theorem Keep.refl (w:World):Keep w w:=⟨rfl,rfl,rfl,yR,fun _ _ _ _ h _ _ _=>h⟩
theorem Keep.trans {a b c:World} (h:Keep a b) (k:Keep b c):Keep a c:=⟨k.os.trans h.os,k.tape.trans h.tape,k.output.trans h.output,Nat.le_trans h.size k.size,fun i C t fr hi h1 h2 h3=>k.blk i C t fr (h.blk i C t fr hi h1 h2 h3) h1 h2 h3⟩
theorem Keep.of_below {w w':World} (h:Below w.heap.size w w'):Keep w w':=⟨h.os,h.tape,h.output,h.size,fun k _ _ _ hk _ _ _=>(h.block k (yD hk).1).trans hk⟩
theorem Keep.sb {w w':World} (h:Keep w w') {b:Nat} {st:Ps.St} {lo:Option Addr} {lc:Nat} {mo:Option Addr} {mc:Nat} (hs:SB w b st lo lc mo mc):SB w' b st lo lc mo mc:=h.blk _ _ _ _ hs (by decide) (by decide) (by decide)
structure WS (w0 w:World) (B g m:Nat) (rv ov:Value) (O:List Cd.Op) (σ:List LA):Prop where
 wb:w.heap[g]?=some (.cells #[rv,ov,.map (some m)] 51 (0,0))
 mp:w.heap[m]?=some (.map (entsL σ) σ.length)
 op:w.ownsRow B 38 6 ov O.length (opRow O)
 go:∀ e ∈ σ,IR w B 3 e.v e.gs
 ap:∀ e ∈ σ,∀ f ∈ σ,∀ k,e.v.ownBlock=some k→f.v.ownBlock=some k→e.x=f.x
 gB:B≤g
 mB:B≤m
 base:Below B w0 w
 bsz:B≤w.heap.size
section
variable {w0 w w2 w3:World} {B g m:Nat} {rv ov ov':Value} {O:List Cd.Op} {σ:List LA}
theorem WS.glt (h:WS w0 w B g m rv ov O σ):g<w.heap.size:=(yD h.wb).1
theorem WS.mlt (h:WS w0 w B g m rv ov O σ):m<w.heap.size:=(yD h.mp).1
theorem WS.gm (h:WS w0 w B g m rv ov O σ):g≠m:=fun e=>by
 have h1:=h.wb;rw[e,h.mp] at h1;cases h1
def Free (w:World) (k:Nat):Prop:=∃ (C:Array Value) (t:TypeId) (fr:Nat × Nat),w.heap[k]?=some (.cells C t fr)∧t≠51∧t≠38∧t≠3
theorem WS.far_ov (h:WS w0 w B g m rv ov O σ) {k:Nat} (hk:ov.ownBlock=some k):k≠g∧k≠m∧(∀ e ∈ σ,e.v.ownBlock≠some k) ∧ ¬ Free w k:=by
 obtain⟨cur,hc⟩:=own_cells h.op hk;refine⟨fun e=>?_,fun e=>?_,fun f hf e=>?_,fun ⟨C,t,fr,e,_,h2,_⟩=>?_⟩
 ·rw[e,h.wb] at hc;simp at hc
 ·rw[e,h.mp] at hc;cases hc
 ·obtain⟨c2,h2⟩:=own_cells (h.go f hf) e;rw[h2] at hc;simp at hc
 ·rw[hc] at e;simp only[Option.some.injEq,Obj.cells.injEq] at e;exact h2 e.2.1.symm
theorem WS.far_gv (h:WS w0 w B g m rv ov O σ) {f:LA} (hf:f ∈ σ) {k:Nat} (hk:f.v.ownBlock=some k):k≠g∧k≠m∧ov.ownBlock≠some k ∧ ¬ Free w k:=by
 obtain⟨cur,hc⟩:=own_cells (h.go f hf) hk;refine⟨fun e=>?_,fun e=>?_,fun e=>((h.far_ov e).2.2.1 f hf hk),fun ⟨C,t,fr,e,_,_,h3⟩=>?_⟩
 ·rw[e,h.wb] at hc;simp at hc
 ·rw[e,h.mp] at hc;cases hc
 ·rw[hc] at e;simp only[Option.some.injEq,Obj.cells.injEq] at e;exact h3 e.2.1.symm
theorem WS.free_g (h:WS w0 w B g m rv ov O σ):¬ Free w g:=fun ⟨C,t,fr,e,h1,_,_⟩=>by
 rw[h.wb] at e;simp only[Option.some.injEq,Obj.cells.injEq] at e;exact h1 e.2.1.symm
theorem WS.free_m (h:WS w0 w B g m rv ov O σ):¬ Free w m:=fun ⟨C,t,fr,e,_,_,_⟩=>by
 rw[h.mp] at e;cases e
theorem WS.below (h:WS w0 w B g m rv ov O σ) (hb:Below w.heap.size w w2):WS w0 w2 B g m rv ov O σ :=
 have t:Trn (fun _=>False) w w2:=Trn.of_below hb
 ⟨(hb.block g h.glt).trans h.wb,(hb.block m h.mlt).trans h.mp,own_trn h.op t (fun _ _ e=>e),fun e he=>own_trn (h.go e he) t (fun _ _ e=>e),h.ap,h.gB,h.mB,h.base.trans (hb.mono h.bsz),Nat.le_trans h.bsz hb.size⟩
theorem WS.look (h:WS w0 w B g m rv ov O σ) (x:List UInt8):IR w B 3 (lookL σ x).v (lookL σ x).gs:=by
 unfold lookL;cases hh:hitL σ x with
 | none=>exact IR.nil _ _ _
 | some p=>exact h.go _ (List.mem_of_getElem? (hitL_mem hh).1)
theorem WS.look_far (h:WS w0 w B g m rv ov O σ) (x:List UInt8) {k:Nat} (hk:(lookL σ x).v.ownBlock=some k):k≠g∧k≠m∧ov.ownBlock≠some k ∧ ¬ Free w k ∧ ∀ f ∈ σ,f.x≠x→f.v.ownBlock≠some k:=by
 unfold lookL at hk;cases hh:hitL σ x with
 | none=>rw[hh] at hk;cases hk
 | some p =>
  rw[hh] at hk;obtain⟨h1,h2⟩:=hitL_mem hh;have hm:=List.mem_of_getElem? h1;obtain⟨q1,q2,q3,q4⟩:=h.far_gv hm hk;exact⟨q1,q2,q3,q4,fun f hf hne e=>hne ((h.ap f hf _ hm k e hk).trans h2)⟩
theorem WS.push {g':Nat} {o:Cd.Op} (h:WS w0 w B g m rv ov O σ) (hg:w.grownBy w2 ov.ownBlock) (hI:w2.ownsRow B 38 6 ov' (O.length+1) (opRow (O++[o]))) (hv':ov'.ownBlock=some g') (hgg:ov.ownBlock=some g'∨g'=w.heap.size) :
  WS w0 (w2.setCell ⟨g,1,none⟩ ov') B g m rv ov' (O++[o]) σ∧Keep w (w2.setCell ⟨g,1,none⟩ ov'):=by
 have t3:Trn (fun k=>k=g∨ov.ownBlock=some k) w (w2.setCell ⟨g,1,none⟩ ov'):=Trn.setCell (Trn.of_grown hg (fun k hk=>.inr hk)) (.inl rfl) _
 have hgg':g'≠g:=by
  rcases hgg with e|e
  ·exact(h.far_ov e).1
  ·have:=h.glt;omega
 have hlt:∀ k,ov.ownBlock=some k→B≤k:=fun k hk=>(World.ownsRow.lt h.op k hk).1;refine⟨⟨?_,?_,?_,fun e he=>own_trn (h.go e he) t3 (fun k hk e2=>?_),h.ap,h.gB,h.mB,h.base.trans (t3.below (fun k hk=>?_) h.bsz),Nat.le_trans h.bsz t3.size⟩,⟨t3.os,t3.tape,t3.output,t3.size,fun k C t fr hk n1 n2 n3=>(t3.block k (yD hk).1 (fun e=>?_)).trans hk⟩⟩
 ·rw[setCell_row ((hg.block g h.glt (fun e=>(h.far_ov e.symm).1 rfl)).trans h.wb)];rfl
 ·exact(t3.block m h.mlt (fun e=>e.elim (fun e=>h.gm e.symm) (fun e=>(h.far_ov e).2.1 rfl))).trans h.mp
 ·rw[List.length_append];exact own_trn (F:=only g) hI (Trn.setCell (F:=only g) (Trn.refl _ _) (show g=g from rfl) _) (fun k hk e=>by rw[hv'] at hk;cases hk;exact hgg' e)
 ·obtain⟨q1,_,q3,_⟩:=h.far_gv he hk;exact e2.elim q1 q3
 ·exact hk.elim (fun e=>e ▸ h.gB) (hlt k)
 ·have hf:Free w k:=⟨C,t,fr,hk,n1,n2,n3⟩;rcases e with rfl|e
  ·exact h.free_g hf
  ·exact(h.far_ov e).2.2.2 hf
theorem WS.turn (h:WS w0 w B g m rv ov O σ) {k:Nat} (hk:k<O.length):∃ q cap,ov = .slice (some ⟨q,0,none⟩) O.length cap∧q<w.heap.size∧(∀ i,w.frozen? ⟨q,i,none⟩=false)∧(∃ u,w.cell? ⟨q,k*6+5,none⟩=some u) ∧
  ∀ p:Int,WS w0 (w.setCell ⟨q,k*6+5,none⟩ (.int .i64 p)) B g m rv ov (O.modify k (Cd.toP p)) σ∧Keep w (w.setCell ⟨q,k*6+5,none⟩ (.int .i64 p)):=by
 rcases h.op.2 with ⟨_,h0⟩|⟨q,cap,cur,hv,hb,hh,h1,h2,h3,h4⟩
 ·omega
 ·have hq:ov.ownBlock=some q:=(by rw[hv];rfl);obtain⟨f1,f2,f3,f4⟩:=h.far_ov hq;have hlen:=opRow_len O;refine⟨q,cap,hv,(yD hh).1,fun i=>by simp[World.frozen?,hh],?_,fun p=>?_⟩
  ·have:k*6+5<cur.size:=(by omega);exact⟨cur[k*6+5],by rw[yC hh,Array.getElem?_eq_getElem this]⟩
  ·have t3:Trn (only q) w (w.setCell ⟨q,k*6+5,none⟩ (.int .i64 p)):=Trn.setCell (F:=only q) (Trn.refl _ _) (show q=q from rfl) _
   refine⟨⟨(t3.block g h.glt (fun e=>f1 (Eq.symm e))).trans h.wb,(t3.block m h.mlt (fun e=>f2 (Eq.symm e))).trans h.mp,⟨?_,.inr ⟨q,cap,cur.setIfInBounds (k*6+5) (.int .i64 p),?_,hb,setCell_row hh,?_,h2,?_,?_⟩⟩,fun e he=>own_trn (h.go e he) t3 (fun j hj e2=>f3 e he (by rw[←show j=q from e2];exact hj)),h.ap,h.gB,h.mB,h.base.trans (t3.below (fun j hj=>by rw[show j=q from hj];exact hb) h.bsz),Nat.le_trans h.bsz t3.size⟩,
    ⟨t3.os,t3.tape,t3.output,t3.size,fun j C t fr hj n1 n2 n3=>(t3.block j (yD hj).1 (fun e=>f4 ⟨C,t,fr,by rw[←show j=q from e];exact hj,n1,n2,n3⟩)).trans hj⟩⟩
   ·rw[opRow_len]
   ·rw[List.length_modify];exact hv
   ·rw[List.length_modify];exact h1
   ·rw[Array.size_setIfInBounds];exact h3
   ·rw[List.length_modify,Array.toList_setIfInBounds,List.take_set,h4,opRow_set p O k hk]
theorem WS.upd {w1:World} {e:LA} {F:Nat→Prop} (h:WS w0 w B g m rv ov O σ) (hon:Once σ) (hk1:Keep w1 w) (hB1:B≤w1.heap.size) (ht:Trn F w w3) (hF:∀ k,F k→(lookL σ e.x).v.ownBlock=some k∨Free w k∧w1.heap.size≤k) (hI:IR w3 B 3 e.v e.gs) (hgg:∀ k,e.v.ownBlock=some k→(lookL σ e.x).v.ownBlock=some k∨w.heap.size≤k) :
  WS w0 (setL w3 m (putL σ e)) B g m rv ov O (putL σ e)∧Keep w1 (setL w3 m (putL σ e)):=by
 obtain⟨_,_,hin⟩:=putL_once e hon;have tm:∀ w':World,Trn (only m) w' (setL w' m (putL σ e)):=fun w'=>⟨rfl,rfl,rfl,Nat.le_of_eq (setL_size _ _ _).symm,fun k _ hk=>setL_other _ _ _ hk⟩;have hFg:¬ F g:=fun hf=>(hF g hf).elim (fun e=>(h.look_far _ e).1 rfl) (fun e=>h.free_g e.1);have hFm:¬ F m:=fun hf=>(hF m hf).elim (fun e=>(h.look_far _ e).2.1 rfl) (fun e=>h.free_m e.1);have h3:m<w3.heap.size:=Nat.lt_of_lt_of_le h.mlt ht.size
 have hFf:∀ f ∈ σ,f.x≠e.x → ∀ k,f.v.ownBlock=some k → ¬ F k:=fun f hf hne k hk hFk=>(hF k hFk).elim (fun e2=>(h.look_far _ e2).2.2.2.2 f hf hne hk) (fun e2=>(h.far_gv hf hk).2.2.2 e2.1);refine⟨⟨?_,setL_at _ _ _ h3,?_,fun f hf=>?_,fun f hf f' hf' k hk hk'=>?_,h.gB,h.mB,?_,?_⟩,⟨ht.os.trans hk1.os,ht.tape.trans hk1.tape,ht.output.trans hk1.output,?_,fun k C t fr hk0 n1 n2 n3=>?_⟩⟩
 ·rw[setL_other _ _ _ h.gm];exact(ht.block g h.glt hFg).trans h.wb
 ·refine own_trn (own_trn h.op ht (fun k hk hFk=>?_)) (tm w3) (fun k hk e2=>?_)
  ·obtain⟨_,_,q3,q4⟩:=h.far_ov hk;exact(hF k hFk).elim (fun e2=>(h.look_far _ e2).2.2.1 hk) (fun e2=>q4 e2.1)
  ·exact(h.far_ov hk).2.1 e2
 ·rcases hin f hf with rfl|⟨hf,hne⟩
  ·refine own_trn hI (tm w3) (fun k hk e2=>?_);have e2:k=m:=e2;rcases hgg k hk with e3|e3
   ·exact(h.look_far _ e3).2.1 e2
   ·have:=h.mlt;omega
  ·exact own_trn (own_trn (h.go f hf) ht (hFf f hf hne)) (tm w3) (fun k hk e2=>(h.far_gv hf hk).2.1 e2)
 ·have key:∀ f ∈ σ,f.x≠e.x→f.v.ownBlock=some k→e.v.ownBlock=some k→False:=fun f hf hne h1 h2=>by
   rcases hgg k h2 with e3|e3
   ·exact(h.look_far _ e3).2.2.2.2 f hf hne h1
   ·have:=(IR.lt (h.go f hf) k h1).2;omega
  rcases hin f hf with e1|⟨hf1,hne⟩
  ·rcases hin f' hf' with e2|⟨hf2,hne'⟩
   ·rw[e1,e2]
   ·exact(key f' hf2 hne' hk' (by rw[←e1];exact hk)).elim
  ·rcases hin f' hf' with e2|⟨hf2,hne'⟩
   ·exact(key f hf1 hne hk (by rw[←e2];exact hk')).elim
   ·exact h.ap f hf1 f' hf2 k hk hk'
 ·have hbF:Below B w w3:=ht.below (fun k hk=>(hF k hk).elim (fun e2=>(IR.lt (h.look e.x) k e2).1) (fun e2=>Nat.le_trans hB1 e2.2)) h.bsz;exact h.base.trans (hbF.trans ((tm w3).below (fun k hk=>by rw[show k=m from hk];exact h.mB) (Nat.le_trans h.bsz ht.size)))
 ·rw[setL_size];exact Nat.le_trans h.bsz ht.size
 ·rw[setL_size];exact Nat.le_trans hk1.size ht.size
 ·have hk:=hk1.blk k C t fr hk0 n1 n2 n3;have hf:Free w k:=⟨C,t,fr,hk,n1,n2,n3⟩;rw[setL_other _ _ _ (fun e2=>h.free_m (by rw[←e2];exact hf))];refine(ht.block k (yD hk).1 (fun e2=>?_)).trans hk;rcases hF k e2 with e3|e3
  ·exact(h.look_far _ e3).2.2.2.1 hf
  ·have:=(yD hk0).1;omega
end
end Go.Proofs.YtodlhhfcjkjapaaGreatDoor
