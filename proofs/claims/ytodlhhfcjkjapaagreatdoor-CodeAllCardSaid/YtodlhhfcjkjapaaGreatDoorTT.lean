import Derived.Test.YtodlhhfcjkjapaaGreatDoorBA
import Derived.Test.YtodlhhfcjkjapaaGreatDoorPA
import Derived.RangeFuncRecord
import Derived.Test.YtodlhhfcjkjapaaGreatDoorRd
import Derived.Deep.AppendLies
namespace Go.Proofs.YtodlhhfcjkjapaaGreatDoor
open Go.RowKit
def tkv (k:Nat) (t:List UInt8) (p:Nat):Value:=.agg #[.int .i64 (k:Int),.string ⟨t.toArray⟩,.int .i64 (p:Int)]
def Tk3 (w:World) (b:Nat) (k:Nat) (t:List UInt8) (p:Nat):Prop:=w.heap[b]?=some (.cells #[.int .i64 (k:Int),.string ⟨t.toArray⟩,.int .i64 (p:Int)] 65 (0,0))
section
variable {w w':World} {b k p:Nat} {t:List UInt8}
theorem Tk3.c0 (h:Tk3 w b k t p):w.cell? ⟨b,0,none⟩=some (.int .i64 (k:Int)):=by unfold Tk3 at h;simp[World.cell?,h]
theorem Tk3.c1 (h:Tk3 w b k t p):w.cell? ⟨b,1,none⟩=some (.string ⟨t.toArray⟩):=by unfold Tk3 at h;simp[World.cell?,h]
theorem Tk3.c2 (h:Tk3 w b k t p):w.cell? ⟨b,2,none⟩=some (.int .i64 (p:Int)):=by unfold Tk3 at h;simp[World.cell?,h]
theorem Tk3.fr (h:Tk3 w b k t p) (i:Nat):w.frozen? ⟨b,i,none⟩=false:=by unfold Tk3 at h;simp[World.frozen?,h]
theorem Tk3.new (w:World) (k:Nat) (t:List UInt8) (p:Nat):Tk3 (w.alloc (.cells #[.int .i64 (k:Int),.string ⟨t.toArray⟩,.int .i64 (p:Int)] 65)) w.heap.size k t p:=World.alloc_heap_new w _
theorem Tk3.same (h:Tk3 w b k t p) (e:w'.heap[b]?=w.heap[b]?):Tk3 w' b k t p:=e.trans h
theorem Tk3.lt (h:Tk3 w b k t p):b<w.heap.size:=(yD h).1
theorem Tk3.below (h:Tk3 w b k t p) (hb:Below w.heap.size w w'):Tk3 w' b k t p:=h.same (hb.block _ h.lt)
theorem Tk3.alloc (h:Tk3 w b k t p) (o:Obj):Tk3 (w.alloc o) b k t p:=(Below.heap_alloc _ _ _ h.lt).trans h
theorem Tk3.set (h:Tk3 w b k t p) (k':Nat) (t':List UInt8) (p':Nat) :
  Tk3 (((w.setCell ⟨b,0,none⟩ (.int .i64 (k':Int))).setCell ⟨b,1,none⟩ (.string ⟨t'.toArray⟩)).setCell ⟨b,2,none⟩ (.int .i64 (p':Int))) b k' t' p':=by
 unfold Tk3 at *;simp[World.setCell,Array.getElem?_modify,h]
end
theorem below_set3t {n:Nat} {w w':World} {b:Nat} (h:Below n w w') (hb:n≤b) (u0 u1 u2:Value):Below n w (((w'.setCell ⟨b,0,none⟩ u0).setCell ⟨b,1,none⟩ u1).setCell ⟨b,2,none⟩ u2) :=
 ((h.setCell (p:=⟨b,0,none⟩) hb u0).setCell (p:=⟨b,1,none⟩) hb u1).setCell (p:=⟨b,2,none⟩) hb u2
def tokCells (t:Lx.Tok):List Value:=[.int .i64 (t.kind:Int),.string ⟨t.text.toArray⟩,.int .i64 (t.place:Int)]
def tokRow (ts:List Lx.Tok):List Value:=ts.flatMap tokCells
theorem tokRow_at:∀ (ts:List Lx.Tok) (k:Nat) (t:Lx.Tok),ts[k]?=some t→(tokRow ts)[k*3]?=some (.int .i64 (t.kind:Int))∧(tokRow ts)[k*3+1]?=some (.string ⟨t.text.toArray⟩)∧(tokRow ts)[k*3+2]?=some (.int .i64 (t.place:Int))
 | [],k,t,h=>by cases h
 | x :: ts,0,t,h=>by
  cases h
  exact⟨rfl,rfl,rfl⟩
 | x :: ts,k+1,t,h=>by
  obtain⟨h1,h2,h3⟩:=tokRow_at ts k t (by simpa using h);rw[show tokRow (x :: ts)=tokCells x++tokRow ts from rfl];have e:(tokCells x).length=3:=rfl;refine⟨?_,?_,?_⟩
  ·rw[List.getElem?_append_right (by omega),e,show (k+1)*3-3=k*3 by omega];exact h1
  ·rw[List.getElem?_append_right (by omega),e,show (k+1)*3+1-3=k*3+1 by omega];exact h2
  ·rw[List.getElem?_append_right (by omega),e,show (k+1)*3+2-3=k*3+2 by omega];exact h3
section
variable {P:Program} {w w':World} {B:Nat} {e:TypeId} {v:Value} {ts:List Lx.Tok}
def TO (w:World) (B:Nat) (e:TypeId) (v:Value) (ts:List Lx.Tok):Prop:=w.ownsRow B e 3 v ts.length (tokRow ts)
theorem TO.nil (w:World) (B:Nat) (e:TypeId):TO w B e (.slice none 0 0) []:=World.ownsRow_nil _ _ _ _
theorem TO.below (h:TO w B e v ts) (hb:Below w.heap.size w w'):TO w' B e v ts :=
 World.ownsRow.kept h (row:=Option.none) ⟨hb.os,hb.tape,hb.output,hb.size,fun k hk _=>hb.block k hk⟩ (by
  cases hv:v.ownBlock
  ·exact .inl rfl
  ·exact .inr (by simp))
theorem TO.lt (h:TO w B e v ts):∀ k,v.ownBlock=some k→B≤k∧k<w.heap.size:=World.ownsRow.lt h
theorem TO.kept {row:Option Nat} (h:TO w B e v ts) (hg:w.grownBy w' row) (hne:v.ownBlock=none∨v.ownBlock≠row):TO w' B e v ts:=World.ownsRow.kept h hg hne
theorem TO.form (h:TO w B e v ts):∃ ao cap,v = .slice ao ts.length cap ∧ ∀ (k:Nat) t,ts[k]?=some t → ∃ g,ao=some ⟨g,0,none⟩∧w.cell? ⟨g,k*3,none⟩=some (.int .i64 (t.kind:Int))∧w.cell? ⟨g,k*3+1,none⟩=some (.string ⟨t.text.toArray⟩)∧w.cell? ⟨g,k*3+2,none⟩=some (.int .i64 (t.place:Int)):=by
 rcases h.2 with ⟨rfl,hn⟩|⟨g,cap,cur,rfl,_,hg,h2,h3,h4,h5⟩
 ·obtain rfl:ts=[]:=List.length_eq_zero_iff.1 hn;exact⟨_,_,rfl,fun k t ht=>by cases ht⟩
 ·refine⟨_,cap,rfl,fun k t ht=>⟨g,rfl,?_⟩⟩;have hk:k<ts.length:=(yE ht).1;obtain⟨c0,c1,c2⟩:=tokRow_at ts k t ht
  have at':∀ i u,i<ts.length*3→(tokRow ts)[i]?=some u→w.cell? ⟨g,i,none⟩=some u:=by
   intro i u hi hu;rw[yC hg,←Array.getElem?_toList];rw[←h5,List.getElem?_take_of_lt hi] at hu;exact hu
  exact⟨at' _ _ (by omega) c0,at' _ _ (by omega) c1,at' _ _ (by omega) c2⟩
theorem wp_append_tok {o:Oper} {a:Act} {K:Act→World→Prop} {Q:Exit→Act→World→Prop} {T:TypeId} {i0:TypeInfo} {z:Value} {by' b:Nat} (t:Lx.Tok)
  (hT:P.underlying T=some (.slice e)) (hi:P.info? e=some i0) (hz:i0.zero=some z) (hs3:i0.size=3) (hby:i0.bytes=by') (hzs:z.cells.size=3) (hby':by'≤64)
  (s x:Operand) (ho:o.op = .call { callee:=.builtin .append,args:=#[s,x],argTypes:=#[T,T] })
  (hs:a.eval s=v) (h:TO w B e v ts) (hx:a.eval x = .slice (some ⟨b,0,none⟩) 1 1) (hb:w.heap[b]?=some (.cells (tokCells t).toArray e (0,0)))
  (hn:ts.length≤1048576) (hB:B≤w.heap.size)
  (h':∀ g cap w',TO w' B e (.slice (some ⟨g,0,none⟩) (ts.length+1) cap) (ts++[t])→w.grownBy w' v.ownBlock→(v.ownBlock=some g∨g=w.heap.size)→K (a.put o.dst (.slice (some ⟨g,0,none⟩) (ts.length+1) cap)) w'):o.wp P a w K Q:=by
 refine wp_append_lies w s x T ho B e i0 z 3 by' hT hi hz hs3 hby hzs (by decide) v ts.length (tokRow ts) hs h ⟨b,0,none⟩ 1 1 (tokCells t) hx rfl ?_ ?_ (by decide) (by unfold maxLen;omega) ?_ hB _ rfl (fun g cap w' h2 h3 h4 _=>h' g cap w' ?_ h3 h4)
 ·exact World.news_of_block hb
 ·intro u hu;simp[tokCells] at hu;rcases hu with rfl|rfl|rfl <;> rfl
 ·have:(ts.length+1)*by'≤(ts.length+1)*64:=Nat.mul_le_mul_left _ hby';omega
 ·unfold TO;rw[List.length_append,show tokRow (ts++[t])=tokRow ts++tokCells t by simp[tokRow]];exact h2
end
end Go.Proofs.YtodlhhfcjkjapaaGreatDoor
