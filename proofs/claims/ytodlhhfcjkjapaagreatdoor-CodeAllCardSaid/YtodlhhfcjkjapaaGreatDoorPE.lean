import Derived.Test.YtodlhhfcjkjapaaGreatDoorPA
import Derived.Test.YtodlhhfcjkjapaaGreatDoorRd
import Derived.Deep.AppendLies
namespace Go.Proofs.YtodlhhfcjkjapaaGreatDoor
open Go.RowKit
def nv (n:Nat):Value:=.int .i64 (n:Int)
structure SA where
 st:Ps.St
 l:Value
 m:Value
def stCells (c:SA):List Value:=[.int .i64 (c.st.kind:Int),.string ⟨c.st.s.toArray⟩,.string ⟨c.st.t.toArray⟩,.string ⟨c.st.u.toArray⟩,.int .i64 (c.st.n:Int),.int .i64 (c.st.place:Int),c.l,c.m]
def stRow (cs:List SA):List Value:=cs.flatMap stCells
theorem stRow_at:∀ (cs:List SA) (k:Nat) (c:SA),cs[k]?=some c → ∀ i v,(stCells c)[i]?=some v→(stRow cs)[k*8+i]?=some v
 | [],k,c,h,i,v,_=>by cases h
 | x :: cs,0,c,h,i,v,hv=>by
  have e:x=c:=(by simpa using h);rw[←e] at hv;have hi:i<(stCells x).length:=(yE hv).1;rw[show stRow (x :: cs)=stCells x++stRow cs from rfl,Nat.zero_mul,Nat.zero_add,List.getElem?_append_left hi];exact hv
 | x :: cs,k+1,c,h,i,v,hv=>by
  have ih:=stRow_at cs k c (by simpa using h) i v hv;have e:(stCells x).length=8:=rfl;rw[show stRow (x :: cs)=stCells x++stRow cs from rfl,List.getElem?_append_right (by omega),e,show (k+1)*8+i-8=k*8+i by omega];exact ih
section
variable {P:Program} {w w':World} {B:Nat} {e:TypeId} {v:Value} {cs:List SA}
structure In (w:World) (B:Nat) (v u:Value) (xs:List Nat):Prop where
 rd:Rd w u (xs.map nv)
 ap:∀ k,u.ownBlock=some k→v.ownBlock≠some k∧B≤k∧k<w.heap.size
 one:u.oneCell'=true
theorem In.below {u:Value} {xs:List Nat} (h:In w B v u xs) (hb:Below w.heap.size w w'):In w' B v u xs :=
 ⟨h.rd.below hb,fun k hk=>⟨(h.ap k hk).1,(h.ap k hk).2.1,Nat.lt_of_lt_of_le (h.ap k hk).2.2 hb.size⟩,h.one⟩
theorem Rd.grown {row:Option Nat} {u:Value} {vs:List Value} (h:Rd w u vs) (hg:w.grownBy w' row) (hne:∀ k,u.ownBlock=some k→some k≠row∧k<w.heap.size):Rd w' u vs:=by
 rcases h with h|⟨bb,oo,cp,e,g1,g2,g3⟩
 ·exact .inl h
 ·refine .inr ⟨bb,oo,cp,e,g1,g2,fun j u hj=>?_⟩;have h6:=hne bb (by rw[e];rfl);exact(World.cell?_of_block (hg.block bb h6.2 h6.1)).trans (g3 j u hj)
theorem In.grown {row:Option Nat} {u:Value} {xs:List Nat} (h:In w B v u xs) (hg:w.grownBy w' row) (hne:∀ k,u.ownBlock=some k→some k≠row):In w' B v u xs :=
 ⟨h.rd.grown hg (fun k hk=>⟨hne k hk,(h.ap k hk).2.2⟩),fun k hk=>⟨(h.ap k hk).1,(h.ap k hk).2.1,Nat.lt_of_lt_of_le (h.ap k hk).2.2 hg.size⟩,h.one⟩
structure OS (w:World) (B:Nat) (e:TypeId) (v:Value) (cs:List SA):Prop where
 own:w.ownsRow B e 8 v cs.length (stRow cs)
 l:∀ c ∈ cs,In w B v c.l c.st.l
 m:∀ c ∈ cs,In w B v c.m c.st.m
theorem OS.nil (w:World) (B:Nat) (e:TypeId):OS w B e (.slice none 0 0) []:=⟨World.ownsRow_nil _ _ _ _,fun c hc=>by simp at hc,fun c hc=>by simp at hc⟩
theorem OS.below (h:OS w B e v cs) (hb:Below w.heap.size w w'):OS w' B e v cs :=
 ⟨h.own.kept (row:=Option.none) ⟨hb.os,hb.tape,hb.output,hb.size,fun k hk _=>hb.block k hk⟩ (by
  cases hv:v.ownBlock
  ·exact .inl rfl
  ·exact .inr (by simp)),fun c hc=>(h.l c hc).below hb,fun c hc=>(h.m c hc).below hb⟩
theorem OS.lt (h:OS w B e v cs):∀ k,v.ownBlock=some k→B≤k∧k<w.heap.size:=World.ownsRow.lt h.own
theorem OS.grown {row:Option Nat} (h:OS w B e v cs) (hg:w.grownBy w' row) (hne:v.ownBlock=none∨v.ownBlock≠row) (hl:∀ c ∈ cs,∀ k,c.l.ownBlock=some k∨c.m.ownBlock=some k→some k≠row):OS w' B e v cs :=
 ⟨World.ownsRow.kept h.own hg hne,fun c hc=>(h.l c hc).grown hg (fun k hk=>hl c hc k (.inl hk)),fun c hc=>(h.m c hc).grown hg (fun k hk=>hl c hc k (.inr hk))⟩
theorem OS.form (h:OS w B e v cs):∃ ao cap,v = .slice ao cs.length cap ∧ ∀ (k:Nat) c,cs[k]?=some c → ∃ g,ao=some ⟨g,0,none⟩ ∧ ∀ i u,(stCells c)[i]?=some u→w.cell? ⟨g,k*8+i,none⟩=some u:=by
 rcases h.own.2 with ⟨rfl,hn⟩|⟨g,cap,cur,rfl,_,hg,h2,h3,h4,h5⟩
 ·obtain rfl:cs=[]:=List.length_eq_zero_iff.1 hn;exact⟨_,_,rfl,fun k t ht=>by cases ht⟩
 ·refine⟨_,cap,rfl,fun k t ht=>⟨g,rfl,fun i u hu=>?_⟩⟩;have hk:k<cs.length:=(yE ht).1;have hi:i<8:=(yE hu).1;have hx:=stRow_at cs k t ht i u hu;rw[yC hg,←Array.getElem?_toList];rw[←h5,List.getElem?_take_of_lt (by omega)] at hx;exact hx
theorem wp_append_st {o:Oper} {a:Act} {K:Act→World→Prop} {Q:Exit→Act→World→Prop} {T:TypeId} {i0:TypeInfo} {z:Value} {by' b:Nat} (t:SA)
  (hT:P.underlying T=some (.slice e)) (hi:P.info? e=some i0) (hz:i0.zero=some z) (hs8:i0.size=8) (hby:i0.bytes=by') (hzs:z.cells.size=8) (hby':by'≤128)
  (s x:Operand) (ho:o.op = .call { callee:=.builtin .append,args:=#[s,x],argTypes:=#[T,T] })
  (hs:a.eval s=v) (h:OS w B e v cs) (hx:a.eval x = .slice (some ⟨b,0,none⟩) 1 1) (hb:w.heap[b]?=some (.cells (stCells t).toArray e (0,0)))
  (hl:In w B v t.l t.st.l) (hm:In w B v t.m t.st.m) (hn:cs.length≤1048576) (hB:B≤w.heap.size)
  (h':∀ g cap w',OS w' B e (.slice (some ⟨g,0,none⟩) (cs.length+1) cap) (cs++[t])→w.grownBy w' v.ownBlock→(v.ownBlock=some g∨g=w.heap.size)→K (a.put o.dst (.slice (some ⟨g,0,none⟩) (cs.length+1) cap)) w'):o.wp P a w K Q:=by
 refine wp_append_lies w s x T ho B e i0 z 8 by' hT hi hz hs8 hby hzs (by decide) v cs.length (stRow cs) hs h.own ⟨b,0,none⟩ 1 1 (stCells t) hx rfl ?_ ?_ (by decide) (by unfold maxLen;omega) ?_ hB _ rfl (fun g cap w' h2 h3 h4 _=>h' g cap w' ?_ h3 h4)
 ·exact World.news_of_block hb
 ·intro u hu;simp[stCells] at hu;rcases hu with rfl|rfl|rfl|rfl|rfl|rfl|rfl|rfl
  ·rfl
  ·rfl
  ·rfl
  ·rfl
  ·rfl
  ·rfl
  ·exact hl.one
  ·exact hm.one
 ·have:(cs.length+1)*by'≤(cs.length+1)*128:=Nat.mul_le_mul_left _ hby';omega
 ·have far:∀ (u:Value) (xs:List Nat),In w B v u xs→In w' B (.slice (some ⟨g,0,none⟩) (cs.length+1) cap) u xs:=by
   intro u xs hd;refine⟨hd.rd.grown h3 (fun k hk=>⟨fun e=>(hd.ap k hk).1 e.symm,(hd.ap k hk).2.2⟩),fun k hk=>⟨fun e=>?_,(hd.ap k hk).2.1,Nat.lt_of_lt_of_le (hd.ap k hk).2.2 h3.size⟩,hd.one⟩;have e:g=k:=(by simpa [Value.ownBlock] using e);subst e;rcases h4 with h4|h4
   ·exact(hd.ap g hk).1 h4
   ·have:=(hd.ap g hk).2.2;omega
  refine⟨?_,fun d hd=>?_,fun d hd=>?_⟩
  ·rw[List.length_append,show stRow (cs++[t])=stRow cs++stCells t by simp[stRow]];exact h2
  ·rcases List.mem_append.1 hd with hd|hd
   ·exact far _ _ (h.l d hd)
   ·rw[List.mem_singleton.1 hd];exact far _ _ hl
  ·rcases List.mem_append.1 hd with hd|hd
   ·exact far _ _ (h.m d hd)
   ·rw[List.mem_singleton.1 hd];exact far _ _ hm
end
section
variable {P:Program} {w w':World} {B:Nat} {e:TypeId} {v:Value} {xs:List Nat}
def IR (w:World) (B:Nat) (e:TypeId) (v:Value) (xs:List Nat):Prop:=w.ownsRow B e 1 v xs.length (xs.map nv)
theorem IR.nil (w:World) (B:Nat) (e:TypeId):IR w B e (.slice none 0 0) []:=World.ownsRow_nil _ _ _ _
theorem IR.empty (w:World) (B:Nat) (e:TypeId) (hB:B≤w.heap.size):IR (w.alloc (.cells #[] e)) B e (.slice (some ⟨w.heap.size,0,none⟩) 0 0) []:=World.ownsRow_made (base:=B) w #[] 0 hB (Nat.zero_le _) rfl
theorem IR.below (h:IR w B e v xs) (hb:Below w.heap.size w w'):IR w' B e v xs:=own_below h hb
theorem IR.grown {row:Option Nat} (h:IR w B e v xs) (hg:w.grownBy w' row) (hne:v.ownBlock=none∨v.ownBlock≠row):IR w' B e v xs:=World.ownsRow.kept h hg hne
theorem IR.lt (h:IR w B e v xs):∀ k,v.ownBlock=some k→B≤k∧k<w.heap.size:=World.ownsRow.lt h
theorem IR.rd (h:IR w B e v xs):Rd w v (xs.map nv):=Rd.of_own (show w.ownsRow B e 1 v _ _ from h)
theorem IR.form (h:IR w B e v xs):∃ ao cap,v = .slice ao xs.length cap:=by
 rcases h.2 with ⟨rfl,hn⟩|⟨g,cap,cur,rfl,_⟩
 ·exact⟨none,0,by rw[hn]⟩
 ·exact⟨_,cap,rfl⟩
theorem IR.one (h:IR w B e v xs):v.oneCell'=true:=by
 obtain⟨ao,cap,rfl⟩:=h.form;rfl
theorem wp_append_nv {o:Oper} {a:Act} {K:Act→World→Prop} {Q:Exit→Act→World→Prop} {T:TypeId} {i0:TypeInfo} {b:Nat} (n:Nat)
  (hT:P.underlying T=some (.slice e)) (hi:P.info? e=some i0) (hz:i0.zero=some (.int .i64 0)) (hs1:i0.size=1) (hby:i0.bytes=8)
  (s x:Operand) (ho:o.op = .call { callee:=.builtin .append,args:=#[s,x],argTypes:=#[T,T] })
  (hs:a.eval s=v) (h:IR w B e v xs) (hx:a.eval x = .slice (some ⟨b,0,none⟩) 1 1) (hb:w.heap[b]?=some (.cells #[.int .i64 (n:Int)] e (0,0)))
  (hn:xs.length≤1048576) (hB:B≤w.heap.size)
  (h':∀ g cap w',IR w' B e (.slice (some ⟨g,0,none⟩) (xs.length+1) cap) (xs++[n])→w.grownBy w' v.ownBlock→(v.ownBlock=some g∨g=w.heap.size)→K (a.put o.dst (.slice (some ⟨g,0,none⟩) (xs.length+1) cap)) w'):o.wp P a w K Q:=by
 refine wp_append_lies w s x T ho B e i0 (.int .i64 0) 1 8 hT hi hz hs1 hby rfl (by decide) v xs.length (xs.map nv) hs h ⟨b,0,none⟩ 1 1 [nv n] hx rfl ?_ ?_ (by decide) (by unfold maxLen;omega) (by omega) hB _ rfl (fun g cap w' h2 h3 h4 _=>h' g cap w' ?_ h3 h4)
 ·exact World.news_of_block hb
 ·intro u hu;rw[List.mem_singleton.1 hu];rfl
 ·unfold IR;rw[List.length_append,List.map_append];exact h2
theorem wpList_append_nv {ops:Array Oper} {rest:List Oper} {o:Oper} {a:Act} {Q:Exit→Act→World→Prop} {T:TypeId} {i0:TypeInfo} {b:Nat} (n:Nat) (hgd:o.guard=none)
  (hT:P.underlying T=some (.slice e)) (hi:P.info? e=some i0) (hz:i0.zero=some (.int .i64 0)) (hs1:i0.size=1) (hby:i0.bytes=8)
  (s x:Operand) (ho:o.op = .call { callee:=.builtin .append,args:=#[s,x],argTypes:=#[T,T] })
  (hs:a.eval s=v) (h:IR w B e v xs) (hx:a.eval x = .slice (some ⟨b,0,none⟩) 1 1) (hb:w.heap[b]?=some (.cells #[.int .i64 (n:Int)] e (0,0)))
  (hn:xs.length≤1048576) (hB:B≤w.heap.size)
  (h':∀ g cap w',IR w' B e (.slice (some ⟨g,0,none⟩) (xs.length+1) cap) (xs++[n])→w.grownBy w' v.ownBlock→(v.ownBlock=some g∨g=w.heap.size)→wpList P ops Q rest (a.put o.dst (.slice (some ⟨g,0,none⟩) (xs.length+1) cap)) w'):wpList P ops Q (o :: rest) a w :=
 wpList_plain hgd fun _ hK=>wp_append_nv n hT hi hz hs1 hby s x ho hs h hx hb hn hB fun g cap w' h2 h3 h4=>hK _ _ (h' g cap w' h2 h3 h4)
end
end Go.Proofs.YtodlhhfcjkjapaaGreatDoor
