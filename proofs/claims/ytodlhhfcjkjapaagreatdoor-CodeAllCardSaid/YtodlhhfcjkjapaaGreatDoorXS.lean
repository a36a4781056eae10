import Derived.Test.YtodlhhfcjkjapaaGreatDoorRd
import Derived.RangeFuncNested
import Derived.RangeFuncCalls
import Derived.RangeFuncLeaves
import Derived.Test.YtodlhhfcjkjapaaGreatDoorIT
import Derived.Test.YtodlhhfcjkjapaaGreatDoorBS
import Derived.Test.YtodlhhfcjkjapaaGreatDoorBA
import Derived.LoopNIn
import Derived.LoopIn
import Derived.OwnWalkIn
import Derived.TacticsInMore
set_option maxRecDepth 200000
set_option maxHeartbeats 8000000
namespace Go.Proofs.YtodlhhfcjkjapaaGreatDoor
open Go.RowKit
abbrev WR (l:Nat):Fence:=Fence.wide.inRound l
def Rnd (Kp:World→World→Prop) (J Jx:List ByteArray→World→Prop) (xs:List ByteArray) (W:World) (e:Ending) (W':World):Prop :=
 (e = .returned (.bool true)∧J xs W'∧Kp W W')∨(e = .returned (.bool false)∧Jx xs W')
def Gives (P:Program) (gf:Nat) (lb:Array Value) (St Kp:World→World→Prop) (S:List ByteArray) (w:World):Prop :=
 ∀ (l:Nat) (J Jx:List ByteArray→World→Prop) (W:World),Kp w W→(∀ xs A B,J xs A→St A B→J xs B) →
  (∀ pre x W1,pre++[x] <+: S→J pre W1→YieldAt Fence.wide 0 P l #[.string x] W1 (Rnd Kp J Jx (pre++[x]) W1))→J [] W →
  CallsIn Fence.wide 0 P gf (#[.func (.yield l) #[] #[]]++lb) W fun e W'=>(∃ v,e = .returned v)∧(J S W' ∨ ∃ pre,pre <+: S∧Jx pre W')
def twoLaid (w:World) (o o':Obj):World:=(w.alloc o).alloc o'
def bodyEnd (Fx:Nat) (Kp:World→World→Prop) (I:List ByteArray→World→Prop) (Ix:Code→List ByteArray→World→Prop) (xs:List ByteArray) (W:World):Exit→Act→World→Prop
 | .normal,_,W'=>(∀ k,Fx≤k→k≤Fx+1→W'.heap[k]?=W.heap[k]?)∧Kp W W'∧I xs W'
 | .ret,_,W'=>(∀ k,Fx≤k→k≤Fx+1→W'.heap[k]?=W.heap[k]?)∧Ix .ret xs W'
 | _,_,_=>False
variable {P:Program}
theorem wp_rangeBox {g:Operand} {ps:Array Tmp} {assign body:Code} {Q:Exit→Act→World→Prop} {a:Act} {w:World} {gf:Nat} {lb:Array Value}
  (hg:a.eval g = .func (.func gf) #[] lb) (eg:∀ args w,(callFunc gf args).run P w = .ok (.enter gf args) w) (hps:ps.size=1)
  {St Kp:World→World→Prop} {S:List ByteArray} (hseq:Gives P gf lb St Kp S w)
  (hKt:∀ {A B C:World},Kp A B→Kp B C→Kp A C) (hKa:∀ o o',Kp w (twoLaid w o o')) (hKp:∀ (W:World) (l:Nat) (o:Obj),w.heap.size≤l→Kp W (W.putObj l o))
  (hSt:∀ A B,St A B → ∀ k,w.heap.size≤k→k≤w.heap.size+1→B.heap[k]?=A.heap[k]?)
  (I:List ByteArray→World→Prop) (Ix:Code→List ByteArray→World→Prop)
  (hI:∀ xs W l o,w.heap.size≤l→l<W.heap.size→l≤w.heap.size+1→I xs W→I xs (W.putObj l o)) (hIx:∀ c xs W l o,w.heap.size≤l→l<W.heap.size→l≤w.heap.size+1→Ix c xs W→Ix c xs (W.putObj l o)) (hIs:∀ xs A B,I xs A→St A B→I xs B)
  (h0:∀ o o',I [] (twoLaid w o o')) (a₁:ByteArray→Act)
  (hassign:∀ (l:Nat) (x:ByteArray) (W:World) (K:Act→World→Prop),K (a₁ x) W →
   assign.wpIn (WR l) 0 P (Exit.then K (fun _ _ _=>False)) { tmps:=(ps.zip #[.string x]).foldl (fun t (p,v)=>t.setIfInBounds p v) a.tmps,defers:=[] } W)
  (hbody:∀ (l:Nat) (pre:List ByteArray) (x:ByteArray) (W:World),pre++[x] <+: S→I pre W→w.heap.size+2≤W.heap.size→body.wpIn (WR l) 0 P (bodyEnd w.heap.size Kp I Ix (pre++[x]) W) (a₁ x) W)
  (hdone:∀ (W:World),I S W→W.heap[w.heap.size]?=some (.deferred (some []))→Q .normal { a with defers:={ target:=.collected w.heap.size,args:=#[] } :: a.defers } W)
  (hstop:∀ (c:Code) (pre:List ByteArray) (W:World),pre <+: S→Ix c pre W→W.heap[w.heap.size]?=some (.deferred (some []))→c.wp P Q { a with defers:={ target:=.collected w.heap.size,args:=#[] } :: a.defers } W) :
  (Code.rangeFunc g ps assign body).wp P Q a w:=by
 refine wpIn_wide (n:=0).1 (wpIn_rangeFunc fun fn _=>?_);obtain⟨rec,hrec⟩:∃ rec:LoopState→Option Code→Obj,rec=fun st pe=>Obj.loop { state:=st,pending:=pe,fn,tmps:=a.tmps,params:=ps,assign,body,defers:=w.heap.size }:=⟨_,rfl⟩;have e1:(twoLaid w (.deferred (some [])) (rec .ready none)).heap[w.heap.size]?=some (.deferred (some [])):=(Below.heap_alloc _ _ _ (by simp)).trans (World.alloc_heap_new w _)
 have e2:(twoLaid w (.deferred (some [])) (rec .ready none)).heap[w.heap.size+1]?=some (rec .ready none):=by
  have:=World.alloc_heap_new (w.alloc (.deferred (some []))) (rec .ready none)
  rwa [World.size_alloc] at this
 obtain⟨J,hJ⟩:∃ J:List ByteArray→World→Prop,J=fun xs W=>I xs W∧W.heap[w.heap.size+1]?=some (rec .ready none)∧W.heap[w.heap.size]?=some (.deferred (some [])):=⟨_,rfl⟩;obtain⟨Jx,hJx⟩:∃ Jx:List ByteArray→World→Prop,Jx=fun xs W=>∃ c,Ix c xs W∧W.heap[w.heap.size+1]?=some (rec .done (some c))∧W.heap[w.heap.size]?=some (.deferred (some [])):=⟨_,rfl⟩
 refine⟨w.heap.size+1,[{ target:=.collected w.heap.size,args:=#[] }],twoLaid w (.deferred (some [])) (rec .ready none),{ target:=.fn (.func gf) lb,args:=#[.func (.yield (w.heap.size+1)) #[] #[]] },twoLaid w (.deferred (some [])) (rec .ready none),gf,
  #[.func (.yield (w.heap.size+1)) #[] #[]]++lb,twoLaid w (.deferred (some [])) (rec .ready none),?_,?_,fun _ _=>trivial,?_,fun h=>(by cases h),?_⟩
 ·rw[hrec];exact run_enterLoop_outer _ _ _ _ _
 ·simp only[resolve,hg];simp[go_sem]
 ·simp[invoke,go_sem,eg]
 refine(hseq (w.heap.size+1) J Jx _ (hKa _ _) ?_ ?_ (by rw[hJ];exact⟨h0 _ _,e2,e1⟩)).mono ?_
 ·intro xs A B h hs;rw[hJ] at h ⊢;exact⟨hIs _ _ _ h.1 hs,(hSt _ _ hs _ (by omega) (by omega)).trans h.2.1,(hSt _ _ hs _ (by omega) (by omega)).trans h.2.2⟩
 ·intro pre x W hpre h;rw[hJ] at h;obtain⟨hi,hl,hk⟩:=h;have hlt:w.heap.size+1<W.heap.size:=(yD hl).1;rw[hrec] at hl;refine⟨fn,_,assign,body,run_yield hl (by simp[hps]),roundIn_of_wpIn (F:=Fence.wide) (n:=0) trivial (hassign _ x W _ ⟨_,run_beginRound hl rfl,?_⟩)⟩;generalize hW2:W.putObj (w.heap.size+1) _=W2;have hl2:W2.heap[w.heap.size+1]?=some (rec .busy none):=by rw[←hW2,hrec];exact World.putObj_heap_same hlt
  have hk2:W2.heap[w.heap.size]?=some (.deferred (some [])):=(by rw[←hW2];exact(World.putObj_heap_other (by omega)).trans hk);have hi2:I pre W2:=(by rw[←hW2];exact hI _ _ _ _ (by omega) hlt (by omega) hi);have hsz:W2.heap.size=W.heap.size:=(by rw[←hW2];simp);have hp2:Kp W W2:=(by rw[←hW2];exact hKp _ _ _ (by omega));refine wpIn_mono (hbody _ pre x W2 hpre hi2 (by omega)) ?_;intro e a3 W3 hp;cases e with
  | normal =>
   obtain⟨hs,hkp,hi3⟩:=hp;have hl3:=(hs _ (by omega) yR).trans hl2;have hlt3:w.heap.size+1<W3.heap.size:=(yD hl3).1;rw[hrec] at hl3;refine⟨_,_,run_endRound none hl3,.inl ⟨rfl,?_,hKt (hKt hp2 hkp) (hKp _ _ _ (by omega))⟩⟩;rw[hJ,hrec];exact⟨hI _ _ _ _ (by omega) hlt3 (by omega) hi3,World.putObj_heap_same hlt3,(World.putObj_heap_other (by omega)).trans ((hs _ yR (by omega)).trans hk2)⟩
  | ret =>
   obtain⟨hs,hi3⟩:=hp;have hl3:=(hs _ (by omega) yR).trans hl2;have hlt3:w.heap.size+1<W3.heap.size:=(yD hl3).1;rw[hrec] at hl3;refine⟨_,_,run_endRound (some .ret) hl3,.inr ⟨rfl,?_⟩⟩;rw[hJx,hrec];exact⟨.ret,hIx _ _ _ _ _ (by omega) hlt3 (by omega) hi3,World.putObj_heap_same hlt3,(World.putObj_heap_other (by omega)).trans ((hs _ yR (by omega)).trans hk2)⟩
  | exit id=>exact hp.elim
  | goto t=>exact hp.elim
  | panic ch=>exact hp.elim
  | outgrown=>exact hp.elim
 ·rintro e W2 ⟨⟨v,rfl⟩,h⟩;rcases h with h|⟨pre,hpre,h⟩
  ·rw[hJ,hrec] at h;obtain⟨hi,hl,hk⟩:=h;have hlt:w.heap.size+1<W2.heap.size:=(yD hl).1;exact⟨none,_,run_endLoop hl (by simp),hdone _ (hI _ _ _ _ (by omega) hlt (by omega) hi) ((World.putObj_heap_other (by omega)).trans hk)⟩
  ·rw[hJx,hrec] at h;obtain⟨c,hi,hl,hk⟩:=h;have hlt:w.heap.size+1<W2.heap.size:=(yD hl).1;exact⟨some c,_,run_endLoop hl (by simp),wpIn_wide.2 (hstop _ _ _ hpre (hIx _ _ _ _ _ (by omega) hlt (by omega) hi) ((World.putObj_heap_other (by omega)).trans hk))⟩
end Go.Proofs.YtodlhhfcjkjapaaGreatDoor
namespace Go.Proofs.YtodlhhfcjkjapaaGreatDoor
open Go.RowKit
theorem Box.putObj {w:World} {b l:Nat} {t:TypeId} {v:Value} (h:Box w b t v) (o:Obj) (hn:b≠l):Box (w.putObj l o) b t v:=(World.putObj_heap_other hn).trans h
theorem Box.two {w:World} {b:Nat} {t:TypeId} {v:Value} (h:Box w b t v) (o o':Obj):Box (twoLaid w o o') b t v:=(h.alloc o).alloc o'
theorem below_putObj {n l:Nat} {w W:World} (h:Below n w W) (o:Obj) (hn:n≤l):Below n w (W.putObj l o) :=
 h.trans ⟨rfl,rfl,rfl,by simp,fun k hk=>World.putObj_heap_other (by omega)⟩
theorem below_two {n:Nat} {w W:World} (h:Below n w W) (o o':Obj) (hn:n≤W.heap.size):Below n w (twoLaid W o o'):=(h.alloc hn o).alloc (by simp;omega) o'
def boxLen (w:World) (b:Nat):Nat:=match w.cell? ⟨b,0,none⟩ with|some (.string s)=>s.size|_=>0
theorem Box.len {w:World} {b:Nat} {t:TypeId} {l:List UInt8} (h:Box w b t (.string (ba l))):boxLen w b=l.length:=by
 unfold boxLen;rw[h.cell];rfl
theorem split_cut {l:List UInt8} {k:Nat} (h:l=l.take k++44 :: l.drop (k+1)) (hn:∀ x ∈ l.take k,x≠44):Ln.split l=l.take k :: Ln.split (l.drop (k+1)):=by
 conv=>lhs;rw[h]
 rw[Ln.split_append,Ln.split_none hn];rfl
structure Sq (H:Nat) (r:List UInt8) (w:World):Prop where
 s:Box w H 9 (.string (ba r))
 p:Box w (H+1) 9 (.string ⟨#[44]⟩)
 v:Box w (H+2) 3 (.int .i64 0)
theorem Sq.same {H:Nat} {r:List UInt8} {w w':World} (h:Sq H r w) (hs:∀ k,H≤k→k≤H+2→w'.heap[k]?=w.heap[k]?):Sq H r w' :=
 ⟨h.s.same (hs _ yR (by omega)),h.p.same (hs _ (by omega) (by omega)),h.v.same (hs _ (by omega) (by omega))⟩
theorem Sq.set {H:Nat} {r:List UInt8} {w:World} (h:Sq H r w) (r':List UInt8):Sq H r' (w.setCell ⟨H,0,none⟩ (.string (ba r'))) :=
 ⟨h.s.set _,h.p.other (by omega) _,h.v.other (by omega) _⟩
def SqK (H:Nat) (A B:World):Prop:=∀ k,H≤k→k≤H+2→B.heap[k]?=A.heap[k]?
def SqS (H:Nat) (A B:World):Prop:=∃ v,B=A.setCell ⟨H,0,none⟩ v
theorem SqK.t {H:Nat} {A B C:World} (h:SqK H A B) (k:SqK H B C):SqK H A C:=fun i h1 h2=>(k i h1 h2).trans (h i h1 h2)
theorem SqK.two {H:Nat} {W:World} (hH:H+3≤W.heap.size) (o o':Obj):SqK H W (twoLaid W o o'):=fun k _ h2 =>
 (Below.heap_alloc _ _ k (by simp;omega)).trans (Below.heap_alloc _ _ k (by omega))
theorem SqK.put {H n:Nat} (hH:H+3≤n) (W:World) (l:Nat) (o:Obj) (hl:n≤l):SqK H W (W.putObj l o):=fun k _ h2=>World.putObj_heap_other (by omega)
theorem SqS.far {H n:Nat} (hH:H<n) (A B:World) (h:SqS H A B) (k:Nat) (h1:n≤k) (_:k≤n+1):B.heap[k]?=A.heap[k]?:=by
 obtain⟨v,rfl⟩:=h;exact Below.heap_setCell _ _ _ _ (by show k≠H;omega)
theorem splitSeq_gives (H:Nat) (s:List UInt8) (hs:s.length≤16777216) (w:World) (h:Sq H s w) :
  Gives Tryz.prog 137 #[.pointer (some ⟨H+1,0,none⟩),.pointer (some ⟨H,0,none⟩),.pointer (some ⟨H+2,0,none⟩)] (SqS H) (SqK H) ((Ln.split s).map ba) w:=by
 intro l J Jx W hW hJ hY h0;have hq:=h.same hW;clear h;refine callsIn_of_wp Tryz.func137 rfl trivial ?_ rfl;simp only[Tryz.ntmps137,List.size_toArray,List.length_cons,List.length_nil,Nat.reduceAdd,Nat.reduceSub,Array.replicate_succ,Array.replicate_zero,List.push_toArray,List.append_toArray,List.nil_append,List.cons_append];have c1:=hq.s.cell;have c2:=hq.p.cell
 gi_wp2
 gi_loopw [7,8] (fun _ _ wr=>∃ pre r,Ln.split s=pre++Ln.split r∧r.length≤s.length∧Sq H r wr∧J (pre.map ba) wr) (fun _ _ wr=>boxLen wr H)
 case atStart=>exact⟨[],s,rfl,yR,hq,h0⟩
 case round =>
  obtain⟨pre,r,he,hr,hq,hj⟩:=hrel;have c1:=hq.s.cell;have c2:=hq.p.cell;have c3:=hq.v.cell;have hi:=fun n=>callsIn_wide (n:=n).2 (Tryz.strings_Index_one (ba r) 44 wr);rcases ix_at 44 r with ⟨h1,h2⟩|⟨k,h1,h2,h3,h4⟩
  ·have e0:Lib.indexByte (ba r).data.toList 44 = -1:=h1;rw[e0] at hi;obtain⟨fn,tmps,assign,body,hy,hR⟩:=hY (pre.map ba) (ba r) wr (by rw[he,Ln.split_none h2];simp) hj
   gi_wp2_with (refine⟨trivial,rfl,?_⟩;gi_at_call 104;refine(hi _).mono ?_;rintro e w' ⟨rfl,hw⟩;rw[hw])
   refine⟨rfl,hR.mono ?_⟩;rintro e W3 (⟨rfl,hJ3,_⟩|⟨rfl,hJ3⟩)
   ·gi_wp2
    go_end0
    exact⟨⟨_,rfl⟩,.inl (by rw[he,Ln.split_none h2,List.map_append];exact hJ3)⟩
   ·gi_wp2
    go_end0
    exact⟨⟨_,rfl⟩,.inr ⟨_,by rw[he,Ln.split_none h2];simp,hJ3⟩⟩
  ·have e0:Lib.indexByte (ba r).data.toList 44=(k:Int):=h2;rw[e0] at hi;have hsp:=split_cut h4 h3;obtain⟨fn,tmps,assign,body,hy,hR⟩:=hY (pre.map ba) (ba (r.take k)) wr (by rw[he,hsp];simp) hj;have hk:(0:Int)≤k:=(by omega);have hk1:(k:Int)≤(r.length:Int):=(by omega);have hk2:((k+1:Nat):Int)≤(r.length:Int):=(by omega);have hz:(ba r).size=r.length:=rfl;have hx1:(ba r).extract 0 k=ba (r.take k):=by rw[ba,ba_extract];simp[ba]
   have hx2:(ba r).extract (k+1) r.length=ba (r.drop (k+1)):=(by rw[ba,ba_extract];simp[ba]);have HE:=yH he;have HS:=yH hsp;clear h3 h4 he hsp h2
   gi_wp2_with (refine⟨trivial,rfl,?_⟩;gi_at_call 104;refine(hi _).mono ?_;rintro e w' ⟨rfl,hw⟩;rw[hw])
   refine⟨rfl,hR.mono ?_⟩;rintro e W3 (⟨rfl,hJ3,hK⟩|⟨rfl,hJ3⟩)
   ·have hq3:=hq.same hK;have c1:=hq3.s.cell;have c2:=hq3.p.cell;have f1:=hq3.s.frozen
    gi_wp2
    go_roundw
    case rel=>exact⟨pre++[r.take k],r.drop (k+1),by rw[HE.out,HS.out];simp,by rw[List.length_drop];omega,hq3.set _,by rw[List.map_append];exact hJ _ _ _ hJ3 ⟨_,rfl⟩⟩
    case measure=>rw[(hq3.set (r.drop (k+1))).s.len,hq.s.len,List.length_drop];omega
   ·gi_wp2
    (try simp only[Exit.inBlock,Exit.then])
    refine bodyPost_ret (results_none rfl _ _ _) rfl ?_;exact⟨⟨_,rfl⟩,.inr ⟨_,by rw[HE.out,HS.out];simp,hJ3⟩⟩
def sqLaid (w:World) (s:List UInt8):World:=((w.alloc (.cells #[.string (ba s)] 9)).alloc (.cells #[.string ⟨#[44]⟩] 9)).alloc (.cells #[.int .i64 0] 3)
theorem sqLaid_sq (w:World) (s:List UInt8):Sq w.heap.size s (sqLaid w s):=by
 have h1:Box ((w.alloc (.cells #[.string (ba s)] 9)).alloc (.cells #[.string ⟨#[44]⟩] 9)) (w.heap.size+1) 9 (.string ⟨#[44]⟩):=by
  have:=Box.new (w.alloc (.cells #[.string (ba s)] 9)) 9 (.string ⟨#[44]⟩)
  rwa [World.size_alloc] at this
 have h2:Box (sqLaid w s) (w.heap.size+2) 3 (.int .i64 0):=by
  have:=Box.new ((w.alloc (.cells #[.string (ba s)] 9)).alloc (.cells #[.string ⟨#[44]⟩] 9)) 3 (.int .i64 0)
  rwa [World.size_alloc,World.size_alloc] at this
 exact⟨((Box.new w _ _).alloc _).alloc _,h1.alloc _,h2⟩
theorem sqLaid_size (w:World) (s:List UInt8):(sqLaid w s).heap.size=w.heap.size+3:=by simp[sqLaid]
theorem sqLaid_below (w:World) (s:List UInt8):Below w.heap.size w (sqLaid w s) :=
 (((Below.refl _ w).alloc yR _).alloc (by simp) _).alloc (by simp;omega) _
def sqFun (H:Nat):Value:=.func (.func 137) #[] #[.pointer (some ⟨H+1,0,none⟩),.pointer (some ⟨H,0,none⟩),.pointer (some ⟨H+2,0,none⟩)]
theorem splitSeq_any (s:List UInt8) (w:World) :
  Calls Tryz.prog 125 #[.string (ba s),.string ⟨#[44]⟩,.int .i64 0] w fun e w'=>e = .returned (sqFun w.heap.size)∧w'=sqLaid w s:=by
 go_enter Tryz.func125,Tryz.ntmps125;go_wp2;go_ret;exact⟨rfl,rfl⟩
theorem SplitSeq_any (s:List UInt8) (w:World) :
  Calls Tryz.prog 112 #[.string (ba s),.string ⟨#[44]⟩] w fun e w'=>e = .returned (sqFun w.heap.size)∧w'=sqLaid w s:=by
 go_enter Tryz.func112,Tryz.ntmps112;go_wp2_with (go_at_call 125;refine(splitSeq_any s w).mono ?_;rintro e w' ⟨rfl,hw⟩;rw[hw])
 go_ret;exact⟨rfl,rfl⟩
end Go.Proofs.YtodlhhfcjkjapaaGreatDoor
