import Derived.Test.YtodlhhfcjkjapaaGreatDoorRd
import Derived.Test.YtodlhhfcjkjapaaGreatDoorPN
import Derived.WalkKit
import Derived.WalkSpells
import Derived.WalkSmall
import Derived.WalkLawsBesides
import Derived.Outline
import Derived.Lib.Hide
import Derived.Test.YtodlhhfcjkjapaaGreatDoorBA
namespace Go.Proofs.YtodlhhfcjkjapaaGreatDoor
open Go.RowKit
def blankB (r:Int):Bool:=r==32 || r==9
theorem blank_any (r:Int) (w:World) :
  Calls Tryz.prog 108 #[.int .i32 r] w fun e w'=>e = .returned (.bool (blankB r))∧w=w':=by
 go_enter Tryz.func108,Tryz.ntmps108;go_wp2;all_goals (go_ret;refine⟨?_,rfl⟩;simp_all [blankB])
theorem low_blk {s:ByteArray} {pos r n:Nat} {seg:List UInt8} (h:Tx.Rune s pos r n seg) (hb:blankB r=true):∃ b,seg=[b]∧n=1∧Tx.blk b=true:=by
 have hr:r<128:=(by simp[blankB] at hb;omega);obtain⟨b,rfl,rfl⟩:=h.low hr;refine⟨b,rfl,by have:=h.len;simpa using this.symm,?_⟩;simp[blankB] at hb;simp[Tx.blk];omega
theorem high_blk {s:ByteArray} {pos r n:Nat} {seg:List UInt8} (h:Tx.Rune s pos r n seg) (hb:blankB r=false):∀ b ∈ seg,Tx.blk b=false:=by
 intro b hb2;by_cases hr:r<128
 ·obtain⟨c,rfl,rfl⟩:=h.low hr;simp at hb2;subst hb2;simp[blankB] at hb;simp[Tx.blk];omega
 ·have:=h.high (by omega) b hb2;simp[Tx.blk];omega
structure WRel (B:Nat) (w wr:World) (s:ByteArray) (v:Value) (start pos:Nat) (ws:List (List UInt8)):Prop where
 own:wr.ownsRow (B+1) 9 1 v ws.length (ws.map sv)
 iter:wr.heap[B]?=some (.stringIter s pos)
 below:Below B w wr
 h1:start≤pos
 h2:pos≤s.size
 few:ws.length≤start
 sum:ws++Tx.wordsGo ((s.data.toList.drop start).take (pos-start)) (s.data.toList.drop pos)=Tx.words s.data.toList
theorem WRel.lt {B:Nat} {w wr:World} {s:ByteArray} {v:Value} {start pos:Nat} {ws:List (List UInt8)} (h:WRel B w wr s v start pos ws):B<wr.heap.size:=(yD h.iter).1
theorem WRel.skip {B:Nat} {w wr:World} {s:ByteArray} {v:Value} {start pos r n:Nat} {seg:List UInt8} {ws:List (List UInt8)} (h:WRel B w wr s v start pos ws) (hU:Tx.Rune s pos r n seg) (hb:blankB r=false) :
  WRel B w (wr.iterAt B s (pos+n)) s v start (pos+n) ws:=by
 refine⟨ownsRow_iterAt h.own (by omega) _ _,Lib.iterAt_heap _ _ _ _ _ h.iter,Lib.below_iterAt h.below yR _ _,by have:=h.h1;omega,hU.fits,h.few,?_⟩;rw[hU.cut start h.h1,←Tx.wordsGo_run _ _ _ (high_blk hU hb),←hU.rest];exact h.sum
theorem WRel.none {B:Nat} {w wr:World} {s:ByteArray} {v:Value} {pos r n:Nat} {seg:List UInt8} {ws:List (List UInt8)} (h:WRel B w wr s v pos pos ws) (hU:Tx.Rune s pos r n seg) (hb:blankB r=true) :
  n=1∧WRel B w (wr.iterAt B s (pos+n)) s v (pos+1) (pos+n) ws:=by
 obtain⟨b,rfl,rfl,hbb⟩:=low_blk hU hb;refine⟨rfl,ownsRow_iterAt h.own (by omega) _ _,Lib.iterAt_heap _ _ _ _ _ h.iter,Lib.below_iterAt h.below yR _ _,yR,hU.fits,by have:=h.few;omega,?_⟩;rw[←h.sum,hU.rest];simp[Tx.wordsGo_blank _ _ _ hbb]
theorem WRel.word {B:Nat} {w wr w':World} {s:ByteArray} {v v':Value} {start pos r n:Nat} {seg:List UInt8} {ws:List (List UInt8)} (h:WRel B w wr s v start pos ws) (hU:Tx.Rune s pos r n seg) (hb:blankB r=true)
  (hlt:start<pos) (hown:w'.ownsRow (B+1) 9 1 v' (ws.length+1) (ws.map sv++[.string (s.extract start pos)])) (hg:(wr.iterAt B s (pos+n)).grownBy w' v.ownBlock) :
  n=1 ∧ ∃ ws',WRel B w w' s v' (pos+1) (pos+n) ws':=by
 obtain⟨b,rfl,rfl,hbb⟩:=low_blk hU hb;have hl:s.data.toList.length=s.size:=(Lib.size_eq s).symm;refine⟨rfl,ws++[(s.data.toList.drop start).take (pos-start)],?_,?_,?_,yR,hU.fits,by have:=h.few;simp;omega,?_⟩
 ·rw[Lib.extract_eq] at hown;simpa [sv] using hown
 ·rw[hg.block B (by rw[Lib.iterAt_size];exact h.lt) ?_]
  ·exact Lib.iterAt_heap _ _ _ _ _ h.iter
  ·intro e;have:=(h.own.lt B e.symm).1;omega
 ·refine(Lib.below_iterAt h.below yR s (pos+1)).grown hg (by rw[Lib.iterAt_size];exact Nat.le_of_lt h.lt) (fun k hk=>by have:=(h.own.lt k hk).1;omega)
 ·have hne:(s.data.toList.drop start).take (pos-start)≠[]:=fun e=>by
   have:=congrArg List.length e;rw[List.length_take,List.length_drop,hl] at this;have:=h.h2;simp at *;omega
  rw[←h.sum,hU.rest];simp[Tx.wordsGo_blank _ _ _ hbb,hne]
theorem WRel.last {B:Nat} {w wr w':World} {s:ByteArray} {v v':Value} {start:Nat} {ws:List (List UInt8)} (h:WRel B w wr s v start s.size ws)
  (hlt:start<s.size) (hown:w'.ownsRow (B+1) 9 1 v' (ws.length+1) (ws.map sv++[.string (s.extract start s.size)])) (hg:wr.grownBy w' v.ownBlock) :
  w'.ownsRow B 9 1 v' (Tx.words s.data.toList).length ((Tx.words s.data.toList).map sv)∧Below B w w':=by
 have hl:s.data.toList.length=s.size:=(Lib.size_eq s).symm
 have e:Tx.words s.data.toList=ws++[s.data.toList.drop start]:=by
  have h1:=h.sum;rw[List.drop_of_length_le (by omega:s.data.toList.length≤s.size),List.take_of_length_le (by rw[List.length_drop];omega)] at h1;rw[←h1,Tx.wordsGo,if_neg (fun e=>by have:=congrArg List.length e;rw[List.length_drop] at this;simp at this;omega)]
 refine⟨?_,h.below.grown hg (Nat.le_of_lt h.lt) (fun k hk=>by have:=(h.own.lt k hk).1;omega)⟩;rw[Lib.extract_eq,List.take_of_length_le (by rw[List.length_drop];omega)] at hown;rw[e];refine ownsRow_lower (B:=B+1) ?_ (Nat.le_succ _);simpa [sv] using hown
theorem WRel.stop {B:Nat} {w wr:World} {s:ByteArray} {v:Value} {start:Nat} {ws:List (List UInt8)} (h:WRel B w wr s v start s.size ws) (hlt:start=s.size) :
  wr.ownsRow B 9 1 v (Tx.words s.data.toList).length ((Tx.words s.data.toList).map sv)∧Below B w wr:=by
 have hl:s.data.toList.length=s.size:=(Lib.size_eq s).symm;subst hlt
 have e:Tx.words s.data.toList=ws:=by
  have h1:=h.sum;rw[List.drop_of_length_le (by omega:s.data.toList.length≤s.size),List.take_nil,Tx.wordsGo,if_pos rfl,List.append_nil] at h1;exact h1.symm
 rw[e];exact⟨ownsRow_lower h.own (Nat.le_succ _),h.below⟩
theorem words_any (s:ByteArray) (w:World) (hs:s.size≤1048576) :
  Calls Tryz.prog 91 #[.string s] w fun e w'=>∃ v,e = .returned v∧w'.ownsRow w.heap.size 9 1 v (Tx.words s.data.toList).length ((Tx.words s.data.toList).map sv)∧Below w.heap.size w w':=by
 go_enter Tryz.func91,Tryz.ntmps91;go_wp2;go_loopw [3,4] (fun v st wr=>∃ (start pos:Nat) (ws:List (List UInt8)),st = .int .i64 start∧WRel w.heap.size w wr s v start pos ws) (fun _ _ wr=>s.size-wr.iterPos w.heap.size)
 case atStart=>exact⟨0,0,[],rfl,World.ownsRow_nil _ _ _ _,World.iter_heap _ _ _,yA,yR,Nat.zero_le _,yR,by simp[Tx.words]⟩
 case round =>
  obtain⟨start,pos,ws,rfl,hR⟩:=hrel;have g1:=hR.h1;have g2:=hR.h2;have g3:=hR.few;by_cases hlt:pos<s.size
  ·obtain⟨r,n,seg,hU,hnx⟩:=Tx.next_rune (P:=Tryz.prog) wr w.heap.size s pos hR.iter hlt;have HN:=yH (iterPos_of hR.iter);have hn:=hU.one;have hf:=hU.fits;cases hbl:blankB r
   ·have RS:=hR.skip hU hbl;go_wp2_with (go_at_call 108;refine(blank_any _ _).mono ?_;rintro e w' ⟨rfl,rfl⟩)
    go_roundw
    case rel=>exact⟨start,pos+n,ws,rfl,RS⟩
    case measure =>
     rw[iterPos_of RS.iter,HN.out];omega
   ·by_cases h3:start<pos
    ·go_wp2_with (first|(at_builtin;refine append_str rfl (.tmp 19) (.tmp 24) rfl rfl (ownsRow_iterAt hR.own (Nat.lt_succ_self _) _ _) rfl rfl ?ca ?cb ?cc ?_)|(go_at_call 108;refine(blank_any _ _).mono ?_;rintro e w' ⟨rfl,rfl⟩))
     case ca=>rfl
     case cb=>omega
     case cc=>rw[Lib.iterAt_size];exact hR.lt
     intro v' w' hown hgrow;obtain⟨e1,ws',RS⟩:=hR.word hU hbl h3 hown hgrow;clear hown hgrow hnx;subst e1;go_wp2;go_roundw
     case rel=>exact⟨pos+1,pos+1,ws',by go_num,RS⟩
     case measure =>
      rw[iterPos_of RS.iter,HN.out];omega
    ·obtain rfl:start=pos:=(by omega);obtain⟨e1,RS⟩:=hR.none hU hbl;subst e1;go_wp2_with (go_at_call 108;refine(blank_any _ _).mono ?_;rintro e w' ⟨rfl,rfl⟩)
     go_roundw
     case rel=>exact⟨start+1,start+1,ws,by go_num,RS⟩
     case measure =>
      rw[iterPos_of RS.iter,HN.out];omega
  ·have hnx:=fun ty=>Lib.run_next_end_at (P:=Tryz.prog) wr w.heap.size s pos ty hR.iter hlt;obtain rfl:pos=s.size:=(by omega);by_cases h3:start<s.size
   ·go_wp2_with (at_builtin;refine append_str rfl (.tmp 32) (.tmp 36) rfl rfl hR.own rfl rfl ?cd ?ce ?cf ?_)
    case cd=>rfl
    case ce=>omega
    case cf=>exact hR.lt
    intro v' w' hown hgrow;have HF:=hR.last h3 hown hgrow;clear hown hgrow;go_wp2;go_ret;exact⟨_,rfl,HF⟩
   ·have HF:=hR.stop (by omega);go_wp2;go_ret;exact⟨_,rfl,HF⟩
end Go.Proofs.YtodlhhfcjkjapaaGreatDoor
