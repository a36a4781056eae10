import Derived.Test.YtodlhhfcjkjapaaGreatDoorRd
import Derived.Laws.AppendOwnNone
import Derived.Laws.IdiomStrings
import Derived.Deep.RegionHeld3
import Derived.Carry
import Derived.WalkKit
import Derived.ProofKit
import Derived.OpenShut
import Derived.ShutString
namespace Go.Proofs.YtodlhhfcjkjapaaGreatDoor
open Go.RowKit
theorem info_u8:(Tryz.prog.info? 5).map (fun i=>(i.zero,i.size,i.bytes))=some (some (.int .u8 0),1,1):=by kernel_rfl
theorem append_u8s {ops:Array Oper} {rest:List Oper} {o:Oper} {a:Act} {Q:Exit→Act→World→Prop} {w:World} {B n:Nat} {v:Value} {xs:List Value}
  (hgd:o.guard=none) (s x:Operand) (ho:o.op = .call { callee:=.builtin .append,args:=#[s,x],argTypes:=#[135,135] })
  (hs:a.eval s=v) (hown:w.ownsRow B 5 1 v n xs) (ys:List Value) (hx:Rd w (a.eval x) ys)
  (h1:∀ u ∈ ys,u.oneCell'=true) (hn:n+ys.length≤16777216) (hB:B≤w.heap.size)
  (h:∀ v' w',w'.ownsRow B 5 1 v' (n+ys.length) (xs++ys)→w.grownBy w' v.ownBlock→wpList Tryz.prog ops Q rest (a.put o.dst v') w'):wpList Tryz.prog ops Q (o :: rest) a w:=by
 obtain⟨i0,hi,hz0,hz1,hz2⟩:=info_parts info_u8;rcases hx with ⟨rfl,ao,cap,ha,hx⟩|⟨b,off,cap,hx,g1,g2,g3⟩
 ·cases ao with
  | none =>
   obtain rfl:=ha rfl;have h2:=h v w (by simpa using hown) ⟨rfl,rfl,rfl,yR,fun _ _ _=>rfl⟩;exact wpList_append_own_none hgd s x 135 ho B 5 i0 1 Tryz.underlying135 hi v n xs hs hown hx h2
  | some ad =>
   refine wpList_append_own _ hgd s x 135 ho B 5 i0 (.int .u8 0) 1 1 Tryz.underlying135 hi hz0 hz1 hz2 rfl (by decide) v n xs hs hown ad 0 cap [] hx rfl (fun j u hj=>by simp at hj) (fun u hu=>by simp at hu) ?_ ?_ hB (fun v' w' h2 h3 _=>h v' w' h2 h3)
   ·simp at hn;unfold maxLen;omega
   ·simp at hn;omega
 ·refine wpList_append_own _ hgd s x 135 ho B 5 i0 (.int .u8 0) 1 1 Tryz.underlying135 hi hz0 hz1 hz2 rfl (by decide) v n xs hs hown ⟨b,off,none⟩ ys.length cap ys hx (by simp) (fun j u hj=>by rw[Addr.add_lit];exact g3 j u hj) h1 ?_ ?_ hB (fun v' w' h2 h3 _=>h v' w' h2 h3)
  ·unfold maxLen;omega
  ·omega
theorem bytes_string {w:World} {v:Value} {l:List UInt8} (h:Rd w v (l.map bv)):(convert 135 9 v).run Tryz.prog w = .ok (sv l) w:=by
 rcases h with ⟨e,ao,cap,ha,rfl⟩|⟨b,o,cap,rfl,g1,g2,g3⟩
 ·have:l=[]:=(by simpa using e);subst this;cases ao with
  | none =>
   obtain rfl:=ha rfl;rw[run_convert_bytes_string w 135 9 5 none 0 0 Tryz.underlying135 Tryz.underlying5 Tryz.underlying9];rfl
  | some a=>exact run_convert_bytes_back (P:=Tryz.prog) w 135 9 5 a cap [] Tryz.underlying135 Tryz.underlying5 Tryz.underlying9 (fun j hj=>by cases hj)
 ·have:=run_convert_bytes_back (P:=Tryz.prog) w 135 9 5 ⟨b,o,none⟩ cap l Tryz.underlying135 Tryz.underlying5 Tryz.underlying9 (fun j hj=>by
   rw[Addr.add_lit];exact g3 j _ (by rw[List.getElem?_map,List.getElem?_eq_getElem hj];rfl))
  rw[List.length_map];exact this
theorem Rd.head {w:World} {b o L cap m:Nat} {xs:List UInt8} (h:Rd w (.slice (some ⟨b,o,none⟩) L cap) (xs.map bv)) (hL:L=xs.length) (hm:m≤L) (hp:0<L):Rd w (.slice (some ⟨b,o,none⟩) m cap) ((xs.take m).map bv):=by
 rcases h with ⟨e,_⟩|⟨b',o',cap',e,h1,h2,h3⟩
 ·have:xs=[]:=(by simpa using e);subst this;subst hL;cases hp
 ·simp only[Value.slice.injEq,Option.some.injEq,Addr.mk.injEq,and_true] at e;obtain⟨⟨rfl,rfl⟩,_,rfl⟩:=e;rw[List.length_map] at h1;refine .inr ⟨b,o,cap,by rw[List.length_map,List.length_take,Nat.min_eq_left (by omega)],by rw[List.length_map,List.length_take];omega,h2,fun j u hj=>h3 j u ?_⟩;rw[List.map_take,List.getElem?_take] at hj;split at hj
  ·exact hj
  ·cases hj
theorem Rd.rest {w:World} {b o L cap m:Nat} {xs:List UInt8} (h:Rd w (.slice (some ⟨b,o,none⟩) L cap) (xs.map bv)) (hL:L=xs.length) (hm:m<L):Rd w (.slice (some ⟨b,o+m,none⟩) (L-m) (cap-m)) ((xs.drop m).map bv):=by
 rcases h with ⟨e,_⟩|⟨b',o',cap',e,h1,h2,h3⟩
 ·have:xs=[]:=(by simpa using e);subst this;subst hL;cases hm
 ·simp only[Value.slice.injEq,Option.some.injEq,Addr.mk.injEq,and_true] at e;obtain⟨⟨rfl,rfl⟩,_,rfl⟩:=e;rw[List.length_map] at h1;refine .inr ⟨b,o+m,cap-m,by rw[List.length_map,List.length_drop,hL],by rw[List.length_map,List.length_drop];omega,by omega,fun j u hj=>?_⟩;rw[Nat.add_assoc];refine h3 (m+j) u ?_;rw[List.map_drop,List.getElem?_drop] at hj;exact hj
theorem Rd.tail {w:World} {b o L cap m:Nat} {xs:List UInt8} (h:Rd w (.slice (some ⟨b,o,none⟩) L cap) (xs.map bv)) (hL:L=xs.length) (hm:m≤L) (hc:L≤cap) :
  Rd w (.slice (if cap=m then some ⟨b,o,none⟩ else some ⟨b,o+m,none⟩) (L-m) (cap-m)) ((xs.drop m).map bv):=by
 by_cases hlt:m<L
 ·rw[if_neg (by omega)];exact h.rest hL hlt
 ·have e:xs.drop m=[]:=List.drop_of_length_le (by omega);rw[e,show L-m=0 by omega];refine .inl ⟨rfl,_,_,fun h=>?_,rfl⟩;split at h <;> cases h
theorem Rd.cut {w:World} {ao:Option Addr} {L cap m:Nat} {xs:List UInt8} (h:Rd w (.slice ao L cap) (xs.map bv)) (hL:L=xs.length) (hm:m≤L):Rd w (.slice ao m cap) ((xs.take m).map bv):=by
 rcases Nat.eq_zero_or_pos L with h0|hp
 ·obtain rfl:m=0:=(by omega);rw[List.take_zero];rcases h with ⟨_,ao',cap',h1,e⟩|⟨b,o,cap',e,_⟩
  ·simp only[Value.slice.injEq] at e;obtain⟨rfl,_,rfl⟩:=e;exact .inl ⟨rfl,_,_,h1,rfl⟩
  ·simp only[Value.slice.injEq] at e;obtain⟨rfl,_,rfl⟩:=e;exact .inl ⟨rfl,_,_,(fun h=>by cases h),rfl⟩
 ·obtain⟨ao',cap',e,_,hc⟩:=h.form;simp only[Value.slice.injEq] at e;obtain⟨rfl,_,rfl⟩:=e;obtain⟨b,o,rfl,_⟩:=hc (by omega);exact h.head hL hm hp
theorem Rd.formV {w:World} {v:Value} {vs:List Value} (h:Rd w v vs):∃ ao cap,v = .slice ao vs.length cap∧vs.length≤cap∧(ao=none→cap=0)∧(0<vs.length → ∃ b o,ao=some ⟨b,o,none⟩∧cap≤maxLen ∧ ∀ j u,vs[j]?=some u→w.cell? ⟨b,o+j,none⟩=some u):=by
 rcases h with ⟨rfl,ao,cap,h1,h⟩|⟨b,o,cap,h,h1,h2,h3⟩
 ·exact⟨ao,cap,h,Nat.zero_le _,h1,fun h=>by cases h⟩
 ·exact⟨some ⟨b,o,none⟩,cap,h,h1,(fun h=>by cases h),fun _=>⟨b,o,rfl,h2,h3⟩⟩
section
variable {P:Program} {ops:Array Oper} {Q:Exit→Act→World→Prop} {md:Region.Mode} {S:World→Prop}
theorem heldAt {i:Nat} {oi:Oper} {r:List Oper} (hi:ops.toList.drop i=oi :: r):ops[i]?=some oi:=by
 have h0:ops.toList[i]?=some oi:=by
  have:=congrArg List.head? hi
  rwa [List.head?_drop,List.head?_cons] at this
 rwa [Array.getElem?_toList] at h0
theorem heldTake {i:Nat} {oi:Oper} {r:List Oper} {v:Value} {fuel:Nat} {listed:Array Bool} {a:Act} {w:World} (hi:ops.toList.drop i=oi :: r)
  (hs:Region.noSelect ops=true) (hf:(Region.free md ops listed i && (Region.ready md ops listed).contains i)=true)
  (hQ:∀ c a w,Q (.panic c) (a.put oi.dst v) w→Q (.panic c) a w) (hw:Region.wanted oi (yielded ops a.tmps)=true) (hS:S w)
  (hy:∀ w:World,S w→(execOp a.eval oi).run P w = .ok (.value v) w)
  (h:wpAnyH P md ops Q S fuel (listed.setIfInBounds i true) (a.put oi.dst v) w):wpAnyH P md ops Q S (fuel+1) listed a w:=by
 rw[Bool.and_eq_true] at hf;exact wpAnyH_take (heldAt hi) hs hf.1 hf.2 hQ (.inl ⟨hw,hy⟩) hS h
theorem heldTk {i:Nat} {oi:Oper} {r:List Oper} {v:Value} {fuel:Nat} {listed:Array Bool} {a:Act} {w:World} (hy:∀ w:World,S w→(execOp a.eval oi).run P w = .ok (.value v) w) (h:wpAnyH P md ops Q S fuel (listed.setIfInBounds i true) (a.put oi.dst v) w)
    (hi:ops.toList.drop i=oi :: r:=by rfl) (hs:Region.noSelect ops=true:=by kernel_rfl) (hf:(Region.free md ops listed i && (Region.ready md ops listed).contains i)=true:=by kernel_rfl)
    (hQ:∀ c a w,Q (.panic c) (a.put oi.dst v) w→Q (.panic c) a w:=by exact fun _ _ _ h=>h) (hw:Region.wanted oi (yielded ops a.tmps)=true:=by rfl) (hS:S w:=by assumption):wpAnyH P md ops Q S (fuel+1) listed a w:=heldTake hi hs hf hQ hw hS hy h
theorem zLa {α:Type} (l:List α) (i:Nat) (a:α):l.toArray.setIfInBounds i a=(l.set i a).toArray:=List.setIfInBounds_toArray ..
theorem zLb {α:Type} (a b:α) (l:List α):(a :: l).set 0 b=b :: l:=List.set_cons_zero ..
theorem zLc {α:Type} (a b:α) (l:List α) (i:Nat):(a :: l).set (i+1) b=a :: l.set i b:=List.set_cons_succ ..
theorem heldT {i:Nat} {oi:Oper} {r:List Oper} {v:Value} {fuel:Nat} {listed l':Array Bool} {a a':Act} {w:World} (h:wpAnyH P md ops Q S fuel l' a' w)
  (hi:ops.toList.drop i=oi :: r:=by rfl) (hs:Region.noSelect ops=true:=by kernel_rfl) (hf:(Region.free md ops listed i && (Region.ready md ops listed).contains i)=true:=by kernel_rfl)
  (hy:∀ w:World,S w→(execOp a.eval oi).run P w = .ok (.value v) w:=by (intro w hSw;(try dsimp only at hSw);go_simp;try with_reducible rfl))
  (ha:a.put oi.dst v=a':=by ((try simp only[Act.put,zLa,zLb,zLc]);try rfl)) (hl:listed.setIfInBounds i true=l':=by ((try simp only[zLa,zLb,zLc]);try rfl))
  (hQ:∀ c a w,Q (.panic c) (a.put oi.dst v) w→Q (.panic c) a w:=by exact fun _ _ _ h=>h) (hw:Region.wanted oi (yielded ops a.tmps)=true:=by rfl) (hS:S w:=by assumption):wpAnyH P md ops Q S (fuel+1) listed a w :=
  heldTk hy (by subst ha;subst hl;exact h) hi hs hf hQ hw hS
theorem heldNext {i:Nat} {oi:Oper} {r:List Oper} {fuel:Nat} {listed:Array Bool} {a:Act} {w:World} (hi:ops.toList.drop i=oi :: r)
  (hr:Region.ready md ops listed=[i]) (hw:Region.wanted oi (yielded ops a.tmps)=true)
  (h:∀ K:Act→World→Prop,Hid (∀ a w,S w→wpAnyH P md ops Q S fuel (listed.setIfInBounds i true) a w→K a w)→Oper.wp P oi a w K Q):wpAnyH P md ops Q S (fuel+1) listed a w:=by
 refine wpAnyH_ready hr (by simp) (AllReadyH.cons (heldAt hi) (fun K hK=>?_) AllReadyH.nil);rw[if_pos hw];exact h K (show Hid _ from fun a w hS hW=>hK.out a w hS (fun _=>hW))
theorem heldTwo {i j:Nat} {oi oj:Oper} {r r':List Oper} {fuel:Nat} {listed:Array Bool} {a:Act} {w:World} (hi:ops.toList.drop i=oi :: r) (hj:ops.toList.drop j=oj :: r')
  (hr:Region.ready md ops listed=[i,j]) (hwi:Region.wanted oi (yielded ops a.tmps)=true) (hwj:Region.wanted oj (yielded ops a.tmps)=true)
  (h:∀ K:Act→World→Prop,Hid (∀ a w,S w→wpAnyH P md ops Q S fuel (listed.setIfInBounds i true) a w→K a w)→Oper.wp P oi a w K Q)
  (h':∀ K:Act→World→Prop,Hid (∀ a w,S w→wpAnyH P md ops Q S fuel (listed.setIfInBounds j true) a w→K a w)→Oper.wp P oj a w K Q):wpAnyH P md ops Q S (fuel+1) listed a w:=by
 refine wpAnyH_ready hr (by simp) (AllReadyH.cons (heldAt hi) (fun K hK=>?_) (AllReadyH.cons (heldAt hj) (fun K hK=>?_) AllReadyH.nil))
 ·rw[if_pos hwi];exact h K (show Hid _ from fun a w hS hW=>hK.out a w hS (fun _=>hW))
 ·rw[if_pos hwj];exact h' K (show Hid _ from fun a w hS hW=>hK.out a w hS (fun _=>hW))
theorem heldMore {S':World→Prop} (hS:∀ w,S' w→S w):∀ {fuel:Nat} {listed:Array Bool} {a:Act} {w:World},wpAnyH P md ops Q S' fuel listed a w→wpAnyH P md ops Q S fuel listed a w
 | 0,_,_,_,h=>h
 | _+1,_,_,_,h=>⟨h.1,fun i hi=>wpOp_mono (fun _ _ h'=>⟨hS _ h'.1,heldMore hS h'.2⟩) (h.2 i hi)⟩
end
end Go.Proofs.YtodlhhfcjkjapaaGreatDoor
namespace Go.Proofs.YtodlhhfcjkjapaaGreatDoor
open Go.RowKit Go.ChangeShapes Go.WideShapes Go.ChangeAt
theorem post_below2 {P:Program} {H:Type} {enc:TypeId × Value→H} {f:Func} {s:ChangeSpec} {apart fresh handsOn:Bool} {W W':World} {args:Array Value} {v:Value} {ds gs:List (DataW H)} {before pa pv:List MemPlace}
  (hW:DataW.Whole enc P f.params.toList s.vars apart W args.toList ds gs before)
  (hres:∀ (b:Nat) (sp:Nat→Bool) (hd:Bool),DataW.TrodAll enc P W' b sp hd f.resultTypes.toList (v.resultList f.resultTypes.size) (s.fn H (ds++gs)).results [])
  (hargs:DataW.TrodAll enc P W' 0 (fun b=>decide (b<W.heap.size)) true f.params.toList args.toList (s.fn H (ds++gs)).args pa)
  (hvars:DataW.TrodVars enc P W' (fun b=>decide (b<W.heap.size)) s.vars (s.fn H (ds++gs)).vars pv)
  (hb:Below W.heap.size W W') :
  s.post enc P f apart fresh handsOn false W args v W' :=
 ⟨ds,gs,before,[],pa,pv,hW,hres _ _ _,hargs,hvars,hb.frame _,fun h=>by cases h⟩
section
variable {P:Program} {H:Type} {enc:TypeId × Value→H} {w:World} {b0 b1:Nat} {sp:Nat→Bool} {held:Bool} {t e:TypeId} {k:IntKind} {v:Value} {d:DataW H} {p:List MemPlace}
end
end Go.Proofs.YtodlhhfcjkjapaaGreatDoor
namespace Go.Proofs.YtodlhhfcjkjapaaGreatDoor
open Go.RowKit
theorem own_not {w:World} {B n g:Nat} {e t:TypeId} {v:Value} {xs:List Value} {C:Array Value} {fr:Nat × Nat} (h:w.ownsRow B e 1 v n xs) (hg:w.heap[g]?=some (.cells C t fr)) (ht:e≠t):v.ownBlock≠some g:=by
 rcases h.2 with ⟨rfl,_⟩|⟨b,cap,cur,rfl,_,hh,_⟩
 ·intro h;cases h
 ·intro e2;have e3:b=g:=(by simpa [Value.ownBlock] using e2);subst e3;rw[hh] at hg;simp only[Option.some.injEq,Obj.cells.injEq] at hg;exact ht hg.2.1
theorem own_setCell {w:World} {B n g i:Nat} {e:TypeId} {v u:Value} {xs:List Value} (h:w.ownsRow B e 1 v n xs) (hg:v.ownBlock≠some g):(w.setCell ⟨g,i,none⟩ u).ownsRow B e 1 v n xs:=by
 refine⟨h.1,?_⟩;rcases h.2 with hn|⟨b,cap,cur,rfl,hb,hh,r⟩
 ·exact .inl hn
 ·refine .inr ⟨b,cap,cur,rfl,hb,?_,r⟩;rw[Below.heap_setCell _ _ _ _ (fun e=>hg (by show some b=_;rw[e]))];exact hh
theorem own_form {w:World} {B n:Nat} {v:Value} {vs:List Value} {e:TypeId} (h:w.ownsRow B e 1 v n vs):∃ ao cap,v = .slice ao n cap:=by
 rcases h.2 with ⟨e,hn⟩|⟨b,cap,cur,e,_,_,h1,h2,_⟩
 ·exact⟨none,0,by rw[e,hn]⟩
 ·exact⟨_,cap,e⟩
def digitB (r:Int):Bool:=decide (48≤r) && decide (r≤57)
theorem digit_any (r:Int) (w:World) :
  Calls Tryz.prog 109 #[.int .i32 r] w fun e w'=>e = .returned (.bool (digitB r))∧w=w':=by
 go_enter Tryz.func109,Tryz.ntmps109;go_wp2;all_goals (go_ret;refine⟨?_,rfl⟩;simp_all [digitB];try omega)
end Go.Proofs.YtodlhhfcjkjapaaGreatDoor
