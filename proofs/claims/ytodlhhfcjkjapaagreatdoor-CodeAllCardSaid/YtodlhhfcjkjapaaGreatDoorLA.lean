import Derived.Test.YtodlhhfcjkjapaaGreatDoorIT
import Derived.Test.YtodlhhfcjkjapaaGreatDoorBA
import Derived.Carry
import Derived.Maps.Range
import Derived.Test.YtodlhhfcjkjapaaGreatDoorXS
import Derived.Scope
set_option maxRecDepth 200000
set_option maxHeartbeats 8000000
namespace Go.Proofs.YtodlhhfcjkjapaaGreatDoor
open Go.RowKit
theorem digit_contains (x:UInt8):[48,49,50,51,52,53,54,55,56,57].contains x=Ln.digit x:=by
 have h:∀ n:Fin 256,[48,49,50,51,52,53,54,55,56,57].contains (UInt8.ofNat n.val)=Ln.digit (UInt8.ofNat n.val):=(by decide +kernel);have:=h ⟨x.toNat,x.toNat_lt⟩;simpa using this
theorem pattern_one (a:UInt8) (r:List UInt8):Ln.pattern 1 (a :: r)=(Ln.first a && r.all Ln.digit && decide (r.length≤2)):=rfl
theorem begins_any (l:List UInt8) (hl:l.length≤16777216) (w:World) :
  Calls Tryz.prog 113 #[.string ⟨l.toArray⟩] w fun e w'=>e = .returned (.bool (Ln.pattern 1 l))∧Below w.heap.size w w':=by
 cases l with
 | nil =>
  have hz:(⟨([]:List UInt8).toArray⟩:ByteArray).toList.isEmpty=true:=(by rw[Lib.toList_data];rfl);go_enter Tryz.func113,Tryz.ntmps113;go_wp2;go_ret;exact⟨rfl,Below.refl _ _⟩
 | cons a r =>
  obtain⟨q,hq⟩:∃ q,q=a :: r:=⟨_,rfl⟩;have hqe:q.isEmpty=false:=(by rw[hq];rfl);have hz:(⟨q.toArray⟩:ByteArray).size=r.length+1:=(by show q.toArray.size=_;rw[hq];simp);have hx:∀ h,(⟨q.toArray⟩:ByteArray)[0]'h=a:=fun h=>by rw[byte_at,hq];rfl
  have hT:=sTrim ls q (by rw[hq];exact hl) (by rw[hq];simp) ⟨#[48,49,50,51,52,53,54,55,56,57]⟩ (by decide) (by decide) (fun j b hb=>by have:=(List.all_eq_true.1 (show ([48,49,50,51,52,53,54,55,56,57]:List UInt8).all (fun c=>decide (c.toNat<128))=true by decide)) b (List.mem_of_getElem? hb);simpa using this) w;have hrl:r.length+1≤16777216:=hl;have hp:=pattern_one a r
  have hd:q.all ([48,49,50,51,52,53,54,55,56,57].contains)=(Ln.digit a && r.all Ln.digit):=by
   rw[show ([48,49,50,51,52,53,54,55,56,57]:List UInt8).contains=Ln.digit from funext digit_contains,hq,List.all_cons]
  rw[←hq];rw[←hq] at hp;have HD:=yH hd;have HP:=yH hp;clear hq hl hd hp;by_cases h3:(3:Int)<(r.length:Int)+1
  ·have hv:Ln.pattern 1 q=false:=(by rw[HP.out,decide_eq_false (show ¬ r.length≤2 by omega),Bool.and_false]);rw[hv];clear hv;go_enter Tryz.func113,Tryz.ntmps113;go_wp2;go_ret;exact⟨rfl,Below.refl _ _⟩
  by_cases h1:(a.toNat:Int)<49
  ·have hv:Ln.pattern 1 q=false:=(by rw[HP.out,show Ln.first a=false by rw[Bool.eq_false_iff];intro h;rw[Ln.first_iff] at h;omega];rfl);rw[hv];clear hv;go_enter Tryz.func113,Tryz.ntmps113;go_wp2;go_ret;exact⟨rfl,Below.refl _ _⟩
  by_cases h5:(53:Int)<(a.toNat:Int)
  ·have hv:Ln.pattern 1 q=false:=(by rw[HP.out,show Ln.first a=false by rw[Bool.eq_false_iff];intro h;rw[Ln.first_iff] at h;omega];rfl);rw[hv];clear hv;go_enter Tryz.func113,Tryz.ntmps113;go_wp2;go_ret;exact⟨rfl,Below.refl _ _⟩
  have hf:Ln.first a=true:=Ln.first_iff.2 ⟨by omega,by omega⟩
  have hv:Ln.pattern 1 q=q.all ([48,49,50,51,52,53,54,55,56,57].contains):=by
   rw[HP.out,HD.out,hf,Ln.first_digit hf,decide_eq_true (show r.length≤2 by omega),Bool.and_true]
  rw[hv];clear hv hf;go_enter Tryz.func113,Tryz.ntmps113;go_wp2_with (go_at_call 126;refine hT.mono ?_;rintro e w' ⟨x,rfl,h,hxl,hb⟩)
  go_ret;refine⟨ret_b ?_,hb⟩;show x.isEmpty=_
  cases hx2:q.all ([48,49,50,51,52,53,54,55,56,57].contains) with
  | true=>rw[h.2 hx2];rfl
  | false =>
   cases x with
   | nil=>exact absurd (h.1 rfl) (by show ¬ q.all ([48,49,50,51,52,53,54,55,56,57].contains)=true;rw[hx2];simp)
   | cons _ _=>rfl
def hv (c:List UInt8):Value:=.agg #[.string ⟨c.toArray⟩,.bool false,.string ⟨#[]⟩]
def HD1:Array MapEntry:=#[{ key:=.string ⟨#[43,79,75]⟩,val:=hv [43],born:=0 }]
def HD2:Array MapEntry:=#[{ key:=.string ⟨#[43,79,75]⟩,val:=hv [43],born:=0 },{ key:=.string ⟨#[45,69,82,82]⟩,val:=hv [45],born:=1 }]
def HD:Array MapEntry:=#[{ key:=.string ⟨#[43,79,75]⟩,val:=hv [43],born:=0 },{ key:=.string ⟨#[45,69,82,82]⟩,val:=hv [45],born:=1 },{ key:=.string ⟨#[43]⟩,val:=hv [62],born:=2 }]
theorem run_ins (w:World) (es:Array MapEntry) (clock:Nat) (k:ByteArray) (v:Value) (hk:k.size≤maxLen) (hf:Instr.findNow .string (.string k) es.toList 0=some none) :
  (Instr.mapUpdate 148 (.map (some w.heap.size)) (.string k) v).run Tryz.prog (w.alloc (.map es clock)) = .ok () (w.alloc (.map (es.push { key:=.string k,val:=v,born:=clock }) (clock+1))):=by
 have hg:(w.alloc (.map es clock)).heap[w.heap.size]?=some (.map es clock):=heap_alloc_new w _;have hc:=(Maps.string_keyed Tryz.underlying9).check (w.alloc (.map es clock)) false (v:=.string k) (WideMaps.keyOf_string_mk Tryz.underlying9 hk)
 have hset:∀ o':Obj,(setObj w.heap.size o').run Tryz.prog (w.alloc (.map es clock)) = .ok () (w.alloc o'):=fun o'=>by
  have hp:∀ (h:Array Obj) (x y:Obj),(h.push x).setIfInBounds h.size y=h.push y:=fun h x y=>by apply Array.toList_inj.1;simp
  simp only[setObj,Sem.run,hg];show Result.ok () ({ w.alloc (.map es clock) with heap:=(w.heap.push (.map es clock)).setIfInBounds w.heap.size o' }:World)=_
  rw[hp];rfl
 simp[Instr.mapUpdate,run_underlying Tryz.underlying148,MapKept.run_getObj_map hg,hc,Instr.findKey,run_underlying Tryz.underlying9,hf,hset,Result.andThen]
theorem heads_any (w:World):Calls Tryz.prog 111 #[] w fun e w'=>e = .returned (.map (some w.heap.size))∧w'=w.alloc (.map HD 3):=by
 have hmm:=@run_makeMap Tryz.prog;have h1:(Instr.mapUpdate 148 (.map (some w.heap.size)) (.string ⟨#[43,79,75]⟩) (.agg #[.string ⟨#[43]⟩,.bool false,.string ⟨#[]⟩])).run Tryz.prog (w.alloc (.map #[] 0)) = .ok () (w.alloc (.map HD1 1)):=run_ins w #[] 0 _ _ (by decide) (by rfl)
 have h2:(Instr.mapUpdate 148 (.map (some w.heap.size)) (.string ⟨#[45,69,82,82]⟩) (.agg #[.string ⟨#[45]⟩,.bool false,.string ⟨#[]⟩])).run Tryz.prog (w.alloc (.map HD1 1)) = .ok () (w.alloc (.map HD2 2)):=run_ins w HD1 1 _ _ (by decide) (by rfl);have h3:(Instr.mapUpdate 148 (.map (some w.heap.size)) (.string ⟨#[43]⟩) (.agg #[.string ⟨#[62]⟩,.bool false,.string ⟨#[]⟩])).run Tryz.prog (w.alloc (.map HD2 2)) = .ok () (w.alloc (.map HD 3)):=run_ins w HD2 2 _ _ (by decide) (by rfl)
 go_enter Tryz.func111,Tryz.ntmps111;go_wp2;go_ret;exact⟨rfl,rfl⟩
attribute [local go_sem] Oper.semAt_some
theorem split_len:∀ (l p:List UInt8),p ∈ Ln.split l→p.length≤l.length
 | [],p,h=>by
  have:p=[]:=(by simpa [Ln.split] using h);rw[this];exact yR
 | c :: r,p,h=>by
  by_cases hc:c=44
  ·subst hc;rw[Ln.split_comma] at h;rcases List.mem_cons.1 h with rfl|h
   ·simp
   ·exact Nat.le_succ_of_le (split_len r p h)
  ·obtain⟨q,ps,h1,h2⟩:=Ln.split_other hc r;rw[h2] at h;rcases List.mem_cons.1 h with rfl|h
   ·have:=split_len r q (by rw[h1];exact List.mem_cons_self ..);simpa using this
   ·exact Nat.le_succ_of_le (split_len r p (by rw[h1];exact List.mem_cons_of_mem _ h))
structure Cd (proto:Int) (w W:World):Prop where
 b:Below w.heap.size w W
 p:Box W w.heap.size 3 (.int .i64 proto)
 r:Box W (w.heap.size+1) 4 (.bool false)
 m:W.heap[w.heap.size+1+1]?=some (.map HD 3)
 h:Box W (w.heap.size+1+1+1) 148 (.map (some (w.heap.size+1+1)))
theorem Cd.putObj {proto:Int} {w W:World} {l:Nat} (h:Cd proto w W) (o:Obj) (hl:w.heap.size+4≤l):Cd proto w (W.putObj l o) :=
 ⟨below_putObj h.b o (by omega),h.p.putObj o (by omega),h.r.putObj o (by omega),(World.putObj_heap_other (by omega)).trans h.m,h.h.putObj o (by omega)⟩
theorem Cd.setCell {proto:Int} {w W:World} {l:Nat} (h:Cd proto w W) (v:Value) (hl:w.heap.size+4≤l):Cd proto w (W.setCell ⟨l,0,none⟩ v) :=
 ⟨h.b.setCell (p:=⟨l,0,none⟩) (by show w.heap.size≤l;omega) v,h.p.other (by omega) v,h.r.other (by omega) v,(Below.heap_setCell _ _ _ _ (by show w.heap.size+1+1≠l;omega)).trans h.m,h.h.other (by omega) v⟩
theorem Cd.below {proto:Int} {w W W':World} (h:Cd proto w W) (hb:Below W.heap.size W W') (hW:w.heap.size+4≤W.heap.size):Cd proto w W' :=
 ⟨h.b.trans (hb.mono (by omega)),h.p.same (hb.block _ (by omega)),h.r.same (hb.block _ (by omega)),(hb.block _ (by omega)).trans h.m,h.h.same (hb.block _ (by omega))⟩
theorem hd_born:∀ x ∈ HD.toList,x.born<3:=by
 intro x hx;simp[HD] at hx;rcases hx with rfl|rfl|rfl <;> decide
theorem hd_val:∀ e ∈ HD.toList,∃ c,e.val=hv c∧Ln.pattern 2 c=true:=by
 intro x hx;simp[HD] at hx;rcases hx with rfl|rfl|rfl
 ·exact⟨[43],rfl,rfl⟩
 ·exact⟨[45],rfl,rfl⟩
 ·exact⟨[62],rfl,rfl⟩
theorem hd_none {l:List UInt8} (h:∀ e ∈ HD.toList,e.val≠hv l):Ln.pattern 2 l=false:=by
 have h1:l≠[43]:=fun e=>h _ (List.mem_cons_self ..) (by rw[e]);have h2:l≠[45]:=fun e=>h _ (List.mem_cons_of_mem _ (List.mem_cons_self ..)) (by rw[e]);have h3:l≠[62]:=fun e=>h _ (List.mem_cons_of_mem _ (List.mem_cons_of_mem _ (List.mem_cons_self ..))) (by rw[e]);simp[Ln.pattern,h1,h2,h3]
theorem hv_inj {a b:List UInt8} (h:hv a=hv b):a=b:=by
 simpa [hv] using h
theorem codes_any (proto:Int) (s:List UInt8) (hs:s.length≤16777216) (w:World) :
  Calls Tryz.prog 98 #[.int .i64 proto,.string (ba s)] w fun e w'=>e = .returned (.bool (Ln.codes proto s))∧Below w.heap.size w w':=by
 refine callsIn_wide (n:=0).1 (callsIn_of_wp_marks Tryz.func98 rfl trivial (wpIn_wide.2 ?_));simp only[Tryz.ntmps98,List.size_toArray,List.length_cons,List.length_nil,Nat.reduceAdd,Nat.reduceSub,Array.replicate_succ,Array.replicate_zero,List.push_toArray,List.append_toArray,List.nil_append,List.cons_append];go_wp2;refine wp_scope_straight ?_
 go_wp2_with (first
  | (go_at_call 111;refine(heads_any _).mono ?_;rintro e w' ⟨rfl,hw⟩;rw[hw])
  | (go_at_call 112;refine(SplitSeq_any s _).mono ?_;rintro e w' ⟨rfl,hw⟩;rw[hw]))
 refine wp_label ?_;go_wp2_with (go_at_call 112;refine(SplitSeq_any s _).mono ?_;rintro e w' ⟨rfl,hw⟩;rw[hw])
 obtain⟨W1,hW1⟩:∃ W1,(((w.alloc (.cells #[.int .i64 proto] 3)).alloc (.cells #[.bool false] 4)).alloc (.map HD 3)).alloc (.cells #[.map (some (w.heap.size+1+1))] 148)=W1:=⟨_,rfl⟩;have hs1:W1.heap.size=w.heap.size+4:=by rw[←hW1];simp
 have hc1:Cd proto w W1:=by
  rw[←hW1];have b1:=Box.new (w.alloc (.cells #[.int .i64 proto] 3)) 4 (.bool false);rw[World.size_alloc] at b1;have b2:=World.alloc_heap_new ((w.alloc (.cells #[.int .i64 proto] 3)).alloc (.cells #[.bool false] 4)) (.map HD 3);rw[World.size_alloc,World.size_alloc] at b2;have b3:=Box.new (((w.alloc (.cells #[.int .i64 proto] 3)).alloc (.cells #[.bool false] 4)).alloc (.map HD 3)) 148 (.map (some (w.heap.size+1+1)));rw[World.size_alloc,World.size_alloc,World.size_alloc] at b3
  exact⟨((((Below.refl _ w).alloc yR _).alloc (by simp) _).alloc (by simp;omega) _).alloc (by simp;omega) _,(((Box.new w _ _).alloc _).alloc _).alloc _,(b1.alloc _).alloc _,(Below.heap_alloc _ _ _ (by simp)).trans b2,b3⟩
 obtain⟨W0,hW0⟩:∃ W0,sqLaid W1 s=W0:=⟨_,rfl⟩;have hsz:W0.heap.size=w.heap.size+7:=(by rw[←hW0,sqLaid_size,hs1]);have hc0:Cd proto w W0:=by rw[←hW0];exact hc1.below (sqLaid_below W1 s) (by omega)
 have hq:Sq (w.heap.size+1+1+1+1) s W0:=by
  rw[←hW0];have:=sqLaid_sq W1 s
  rwa [hs1] at this
 rw[hW1,hW0];clear hW0 hW1 hc1 hs1
 refine wp_rangeBox (gf:=137) rfl (enters_of Tryz.func137 (by kernel_rfl) rfl) rfl (splitSeq_gives (w.heap.size+1+1+1+1) s hs W0 hq) SqK.t (SqK.two (by omega)) (SqK.put (by omega)) (SqS.far (by omega))
  (fun pre W=>Cd proto w W ∧ ∀ x ∈ pre,Ln.pattern proto x.data.toList=true)
  (fun k pre W=>k = .ret∧Cd proto w W ∧ ∃ x ∈ pre,Ln.pattern proto x.data.toList=false)
  (fun xs W l o h1 h2 _ h=>⟨h.1.putObj o (by omega),h.2⟩)
  (fun k xs W l o h1 h2 _ h=>⟨h.1,h.2.1.putObj o (by omega),h.2.2⟩)
  (fun xs A B h hs=>by
   obtain⟨v,rfl⟩:=hs;exact⟨h.1.setCell v (by omega),h.2⟩)
  (fun o o'=>⟨hc0.below (below_two (Below.refl _ W0) o o' yR) (by omega),by simp⟩)
  (fun x=>{ tmps:=#[.int .i64 proto,.string (ba s),.pointer (some ⟨w.heap.size,0,none⟩),undef,.pointer (some ⟨w.heap.size+1,0,none⟩),.pointer (some ⟨w.heap.size+1+1+1,0,none⟩),.string x,undef,undef,.map (some (w.heap.size+1+1)),.string (ba s),sqFun (w.heap.size+1+1+1+1),.string x,undef,undef,undef,undef,undef,undef,undef,undef,undef,undef,undef,undef,undef,undef,undef,undef,undef,undef],defers:=[] }) ?assign ?body ?done ?stop
 case assign =>
  intro l x W K hK
  gi_wp2
  exact hK
 case body =>
  rintro l pre x W hpre ⟨hc,hall⟩ hW;have hin:∀ v,Ln.pattern proto x.data.toList=v → ∀ y ∈ pre++[x],y ∈ pre∨Ln.pattern proto y.data.toList=v:=fun v hv y hy=>(List.mem_append.1 hy).imp id (fun e=>by rw[List.mem_singleton.1 e];exact hv)
  have hxl:x.data.toList.length≤16777216:=by
   obtain⟨p,hp,rfl⟩:=List.mem_map.1 (hpre.subset (List.mem_append.2 (.inr (List.mem_singleton.2 rfl))));exact Nat.le_trans (split_len s p hp) hs
  have good:Ln.pattern proto x.data.toList=true → ∀ (a:Act) (W':World),Below W.heap.size W W'→bodyEnd W0.heap.size (SqK (w.heap.size+1+1+1+1)) (fun pre W=>Cd proto w W ∧ ∀ x ∈ pre,Ln.pattern proto x.data.toList=true) (fun k pre W=>k = .ret∧Cd proto w W ∧ ∃ x ∈ pre,Ln.pattern proto x.data.toList=false) (pre++[x]) W .normal a W':=fun hv a W' hb =>
   ⟨fun k _ h2=>hb.block _ (by omega),fun k _ h2=>hb.block _ (by omega),hc.below hb (by omega),fun y hy=>(hin _ hv y hy).elim (hall y) id⟩
  have bad:Ln.pattern proto x.data.toList=false → ∀ (a:Act) (W':World),Below W.heap.size W W'→bodyEnd W0.heap.size (SqK (w.heap.size+1+1+1+1)) (fun pre W=>Cd proto w W ∧ ∀ x ∈ pre,Ln.pattern proto x.data.toList=true) (fun k pre W=>k = .ret∧Cd proto w W ∧ ∃ x ∈ pre,Ln.pattern proto x.data.toList=false) (pre++[x]) W .ret a (W'.setCell ⟨w.heap.size+1,0,none⟩ (.bool false)):=fun hv a W' hb=>by
   have hc':=hc.below hb (by omega);refine⟨fun k h1 h2=>(Below.heap_setCell _ _ _ _ (by show k≠w.heap.size+1;omega)).trans (hb.block _ (by omega)),rfl,⟨hc'.b.setCell (p:=⟨w.heap.size+1,0,none⟩) (by show w.heap.size≤w.heap.size+1;omega) _,hc'.p.other (by omega) _,hc'.r.set _,(Below.heap_setCell _ _ _ _ (by show w.heap.size+1+1≠w.heap.size+1;omega)).trans hc'.m,hc'.h.other (by omega) _⟩,x,List.mem_append.2 (.inr (List.mem_singleton.2 rfl)),hv⟩
  have GOOD:=yH good;have BAD:=yH bad;clear good bad hin;have HC:=yH hc;have c1:=hc.p.cell;have c2:=hc.r.cell;have c3:=hc.h.cell;have f1:=hc.r.frozen;have hm:=hc.m;clear hc hall;by_cases h2:proto=2
  ·subst h2;have hr:=run_range_map (P:=Tryz.prog) W 148 9 154 (w.heap.size+1+1) HD 3 Tryz.underlying148 hm;have hM:=yH hm;clear hm hxl
   gi_wp2
   gi_loopw [8] (fun _ wr=>∃ seen c0,wr.heap[W.heap.size]?=some (.mapIter (some (w.heap.size+1+1)) 3 seen c0)∧3≤c0∧Below W.heap.size W wr ∧ ∀ e ∈ HD.toList,seen.contains e.born=true→e.val≠hv x.data.toList) (fun _ wr=>(leftOf HD (wr.iterSeen W.heap.size)).size)
   case atStart=>exact⟨#[],3,World.alloc_heap_new W _,yR,(Below.refl _ W).alloc yR _,by simp⟩
   case round =>
    obtain⟨seen,c0,hit,hc0,hb,hno⟩:=hrel;have hm':wr.heap[w.heap.size+1+1]?=some (.map HD 3):=(hb.block _ (by omega)).trans hM.out;have hold:∀ x ∈ HD.toList,x.born<3:=hd_born;have hc2:=HC.out.below hb (by omega);have hseen:wr.iterSeen W.heap.size=seen:=(by unfold World.iterSeen;rw[hit]);rcases run_next_at (P:=Tryz.prog) wr 0 W.heap.size (w.heap.size+1+1) 3 c0 seen HD 3 hit hm' hold hc0 with ⟨h0,hn⟩|⟨e,he,w1,hw1,hn⟩
    ·have hv:Ln.pattern 2 x.data.toList=false:=by
      have h3:=fun e he=>hno e he (all_seen HD seen h0 e he);exact hd_none h3
     have HV:=yH hv;have d2:=hc2.r.cell;have g1:=hc2.r.frozen;clear hv hno hold hit hm' h0 c1 c2 c3 f1 hr
     gi_wp2
     exact BAD.out HV.out _ _ hb
    ·obtain⟨hem,hes⟩:=mem_left he;obtain⟨W2,hW2⟩:∃ W2,ChangeMaps.setBlock w1 W.heap.size (.mapIter (some (w.heap.size+1+1)) 3 (seen.push e.born) 3)=W2:=⟨_,rfl⟩;rw[hW2] at hn;have hw1h:w1.heap=wr.heap:=(by rcases hw1 with rfl|rfl <;> rfl);have hlt:W.heap.size<wr.heap.size:=(yD hit).1
     have hit2:W2.heap[W.heap.size]?=some (.mapIter (some (w.heap.size+1+1)) 3 (seen.push e.born) 3):=by
      rw[←hW2];show (w1.heap.setIfInBounds _ _)[_]?=_;simp[hw1h,hlt]
     have hb2:Below W.heap.size W W2:=by
      refine hb.trans ?_;rw[←hW2];refine⟨?_,?_,?_,?_,fun k hk=>?_⟩
      ·rcases hw1 with rfl|rfl <;> rfl
      ·rcases hw1 with rfl|rfl <;> rfl
      ·rcases hw1 with rfl|rfl <;> rfl
      ·show wr.heap.size≤(w1.heap.setIfInBounds _ _).size
       rw[Array.size_setIfInBounds,hw1h];exact yR
      ·show (w1.heap.setIfInBounds _ _)[k]?=_
       rw[Array.getElem?_setIfInBounds_ne (by omega),hw1h]
     have hen:=run_entry_at (P:=Tryz.prog) W2 W.heap.size (w.heap.size+1+1) 3 seen HD 3 e hit2 ((hb2.block _ (by omega)).trans hM.out) hem (by decide);obtain⟨c,hec,hpc⟩:=hd_val e hem
     have hno2:x.data.toList≠c → ∀ e' ∈ HD.toList,(seen.push e.born).contains e'.born=true→e'.val≠hv x.data.toList:=fun hxc e' he' hs'=>by
      rw[contains_push,Bool.or_eq_true] at hs';rcases hs' with hs'|hs'
      ·exact hno e' he' hs'
      ·have:=born_inj (l:=HD.toList) (by decide) he' hem (by simpa using hs');rw[this,hec];exact fun e0=>hxc (hv_inj e0).symm
     have hsh:=left_shrinks HD seen e he;have hlt2:W.heap.size<W2.heap.size:=(yD hit2).1;have hseen2:∀ o,(W2.alloc o).iterSeen W.heap.size=seen.push e.born:=fun o=>by unfold World.iterSeen;rw[(Below.heap_alloc _ _ _ hlt2).trans hit2]
     have hcmp:(x.toList==c)=decide (x.data.toList=c):=by
      rw[Lib.toList_data,Bool.eq_iff_iff];simp
     have HR:=yH (And.intro hit2 (And.intro hb2 (And.intro hno2 (And.intro hsh (And.intro hseen2 hseen)))));rw[hec] at hn hen;replace hn:(Instr.next (.pointer (some ⟨W.heap.size,0,none⟩)) false 0).run Tryz.prog wr = .ok (.tuple #[.bool true,e.key,.agg #[.string ⟨c.toArray⟩,.bool false,.string ⟨#[]⟩]]) W2:=hn
     replace hen:(Instr.entry (.pointer (some ⟨W.heap.size,0,none⟩))).run Tryz.prog W2 = .ok (.tuple #[e.key,.agg #[.string ⟨c.toArray⟩,.bool false,.string ⟨#[]⟩]]) W2:=hen;generalize e.key=ek at hn hen;clear hit hm' hold hno hW2 hw1 hw1h hit2 hb2 hno2 hsh hseen2 hseen hem hes he hec hc2 c1 c2 c3 f1 hr hb;by_cases hxc:x.data.toList=c
     ·rw[decide_eq_true hxc] at hcmp;have HV:=yH (show Ln.pattern 2 x.data.toList=true by rw[hxc];exact hpc);clear hxc hpc
      gi_wp2
      exact GOOD.out HV.out _ _ (HR.out.2.1.alloc (Nat.le_of_lt hlt2) _)
     ·rw[decide_eq_false hxc] at hcmp;have HX:=yH hxc;clear hxc hpc
      gi_wp2
      refine⟨⟨_,3,(Below.heap_alloc _ _ _ hlt2).trans HR.out.1,yR,HR.out.2.1.alloc (Nat.le_of_lt hlt2) _,HR.out.2.2.1 HX.out⟩,?_⟩;rw[HR.out.2.2.2.2.1,HR.out.2.2.2.2.2];exact HR.out.2.2.2.1
  by_cases h13:proto=1∨proto=3
  ·have hB:=fun n=>callsIn_wide (n:=n).2 (begins_any x.data.toList hxl W);have hp:Ln.pattern proto x.data.toList=Ln.pattern 1 x.data.toList:=(by rcases h13 with rfl|rfl <;> rfl);rw[←hp] at hB;have e0:(⟨x.data.toList.toArray⟩:ByteArray)=x:=rfl;rw[e0] at hB;have hgo:∀ v,Ln.pattern proto x.data.toList=v→v=v:=fun _ _=>rfl;rcases h13 with rfl|rfl
   all_goals
    cases hv:Ln.pattern _ x.data.toList
    ·rw[hv] at hB;have HV:=yH hv;clear hv hp
     gi_wp2
     refine⟨trivial,rfl,(CallsIn.inRound l (hB _)).mono ?_⟩;rintro e W2 ⟨rfl,hb⟩;have hc2:=HC.out.below hb (by omega);have d2:=hc2.r.cell;have g1:=hc2.r.frozen;clear c1 c2 c3 f1 hm hB
     gi_wp2
     exact BAD.out HV.out _ _ hb
    ·rw[hv] at hB;have HV:=yH hv;clear hv hp
     gi_wp2
     refine⟨trivial,rfl,(CallsIn.inRound l (hB _)).mono ?_⟩;rintro e W2 ⟨rfl,hb⟩;clear c1 c2 c3 f1 hm hB
     gi_wp2
     exact GOOD.out HV.out _ _ hb
  ·have hv:Ln.pattern proto x.data.toList=false:=(by unfold Ln.pattern;rw[if_neg h2,if_neg h13]);have e1:(proto==1)=false:=(by simpa using fun e=>h13 (.inl e));have e2:(proto==2)=false:=(by simpa using h2);have e3:(proto==3)=false:=(by simpa using fun e=>h13 (.inr e));have HV:=yH hv;clear hv h13 h2
   gi_wp2
   exact BAD.out HV.out _ _ (Below.refl _ _)
 case done =>
  rintro W ⟨hc,hall⟩ hK;have c1:=hc.r.cell;have f1:=hc.r.frozen;go_wp2;have hK2:(W.setCell ⟨w.heap.size+1,0,none⟩ (.bool true)).heap[W0.heap.size]?=some (.deferred (some [])):=(Below.heap_setCell _ _ _ _ (by show W0.heap.size≠w.heap.size+1;omega)).trans hK;simp only[Exit.noGoto];refine⟨by simp,.inl ⟨_,_,rfl,run_takeDeferred hK2,?_⟩⟩;have c5:=((hc.r.set (.bool true)).putObj (l:=W0.heap.size) (.deferred none) (by omega)).cell
  refine⟨.bool true,?_,?_,below_putObj (hc.b.setCell (p:=⟨w.heap.size+1,0,none⟩) (by show w.heap.size≤w.heap.size+1;omega) _) _ (by omega)⟩
  ·simp[results,Tryz.f98,go_sem,c5]
  ·congr 2
   unfold Ln.codes;exact(List.all_eq_true.2 fun p hp=>hall (ba p) (List.mem_map.2 ⟨p,hp,rfl⟩)).symm
 case stop =>
  rintro k pre W hpre ⟨rfl,hc,x,hx,hno⟩ hK;go_wp2;simp only[Exit.noGoto];refine⟨by simp,.inl ⟨_,_,rfl,run_takeDeferred hK,?_⟩⟩;have c5:=(hc.r.putObj (l:=W0.heap.size) (.deferred none) (by omega)).cell;refine⟨.bool false,?_,?_,below_putObj hc.b _ (by omega)⟩
  ·simp[results,Tryz.f98,go_sem,c5]
  ·congr 2
   unfold Ln.codes;obtain⟨p,hp,rfl⟩:=List.mem_map.1 (hpre.subset hx);exact(List.all_eq_false.2 ⟨p,hp,by rw[←ba_list p,hno];simp⟩).symm
end Go.Proofs.YtodlhhfcjkjapaaGreatDoor
