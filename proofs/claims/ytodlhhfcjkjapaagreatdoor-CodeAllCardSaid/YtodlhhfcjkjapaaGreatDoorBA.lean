import Derived.Test.YtodlhhfcjkjapaaGreatDoorRd
import Derived.Lib.Strings
import Derived.Lib.Walk
import Derived.WalkKit
import Derived.Laws.BitsLemmas
import Derived.Laws.BitsAllLaws
import Derived.Scope
import Derived.WalkMore
import Derived.Laws.AppendOwnNone
import Derived.BigQuiet
import Derived.Deep.QuietTactic
import Derived.Deep.Draws
namespace Go.Proofs.YtodlhhfcjkjapaaGreatDoor
open Go.RowKit
def ba (l:List UInt8):ByteArray:=⟨l.toArray⟩
theorem ba_list (l:List UInt8):(ba l).data.toList=l:=rfl
theorem ba_extract (l:List UInt8) (a b:Nat):(⟨l.toArray⟩:ByteArray).extract a b=⟨((l.take b).drop a).toArray⟩:=by
 apply ByteArray.ext
 rw[ByteArray.data_extract];simp[List.drop_take]
end Go.Proofs.YtodlhhfcjkjapaaGreatDoor
namespace Go.Proofs.YtodlhhfcjkjapaaGreatDoor
theorem wraps_i64 (n:Int) (h₀:0≤n) (h₁:n<2 ^ 63):IntKind.i64.wrap n=n:=by rw[IntKind.wrap_i64];omega
def jumps (J:Nat→Act→World→Prop) (Q:Exit→Act→World→Prop):Exit→Act→World→Prop
 | .goto l,a,w=>J l a w
 | e,a,w=>Q e a w
section
variable {P:Program} {a:Act} {w:World} {Q:Exit→Act→World→Prop}
theorem scope_pass {c rest:Code} {J:Nat→Act→World→Prop} (h:rest.wp P (jumps J Q) a w) (b:Frame) (k:List Item) (cs:List Frame) :
  (∃ e a' w',Q e a' w'∧Arrives P (lone (b.at a (.code rest :: .inScope c :: k)) cs w) b k cs e a' w') ∨
  ∃ l a' w',J l a' w' ∧ ∀ r,findLabel c l=some r→Steps P (lone (b.at a (.code rest :: .inScope c :: k)) cs w) (lone (b.at a' (.code r :: .inScope c :: k)) cs w'):=by
 obtain⟨e,a₁,w₁,hq,harr⟩:=h b (.inScope c :: k) cs;cases e with
 | goto l=>exact .inr ⟨l,a₁,w₁,hq,fun r hr=>harr _ (by simp[gotoIn,hr])⟩
 | normal=>exact .inl ⟨.normal,a₁,w₁,hq,Steps.trans harr (.one step_inScope)⟩
 | exit id=>exact .inl ⟨.exit id,a₁,w₁,hq,fun k' hk=>harr k' (by simp[exitTo,hk])⟩
 | ret=>exact .inl ⟨_,a₁,w₁,hq,harr⟩
 | panic ch=>exact .inl ⟨_,a₁,w₁,hq,harr⟩
 | outgrown=>exact .inl ⟨_,a₁,w₁,hq,harr⟩
theorem jumps_mono {J K:Nat→Act→World→Prop} (h:∀ l a w,J l a w→K l a w):∀ (e:Exit) (a:Act) (w:World),jumps J Q e a w→jumps K Q e a w:=by
 intro e a w hj;cases e
 case goto l=>exact h l a w hj
 all_goals exact hj
theorem wp_scope_many {c:Code} (J:Nat→Act→World→Prop) (μ:Nat→Act→World→Nat)
  (pass:∀ l a w,J l a w → ∃ r,findLabel c l=some (.seq .skip r)∧r.wp P (jumps (fun l' a' w'=>J l' a' w'∧μ l' a' w'<μ l a w) Q) a w)
  (first:(∀ l a w,J l a w → ∃ r,findLabel c l=some (.seq .skip r)∧r.wp P (jumps J Q) a w)→c.wp P (jumps J Q) a w):(Code.scope c).wp P Q a w:=by
 have first:=first (fun l a w hJ=>by
  obtain⟨r,hr,hw⟩:=pass l a w hJ;exact⟨r,hr,Code.wp_mono (jumps_mono fun _ _ _ h=>h.1) hw⟩)
 have pass:∀ l a w,J l a w → ∃ r,findLabel c l=some r∧r.wp P (jumps (fun l' a' w'=>J l' a' w'∧μ l' a' w'<μ l a w) Q) a w:=fun l a w hJ=>by
  obtain⟨r,hr,hw⟩:=pass l a w hJ;exact⟨_,hr,wp_seq (wp_skip hw)⟩
 intro b k cs
 have key:∀ n l a w,μ l a w≤n→J l a w → ∀ r,findLabel c l=some r → ∃ e a' w',Q e a' w'∧Arrives P (lone (b.at a (.code r :: .inScope c :: k)) cs w) b k cs e a' w':=by
  intro n;induction n with
  | zero =>
   intro l a w hn hJ r hr;obtain⟨r',hr',hw⟩:=pass l a w hJ;obtain rfl:r'=r:=Option.some.inj (hr'.symm.trans hr);rcases scope_pass hw b k cs with h|⟨l',a',w',⟨_,hlt⟩,_⟩
   ·exact h
   ·omega
  | succ n ih =>
   intro l a w hn hJ r hr;obtain⟨r',hr',hw⟩:=pass l a w hJ;obtain rfl:r'=r:=Option.some.inj (hr'.symm.trans hr);rcases scope_pass hw b k cs with h|⟨l',a',w',⟨hJ',hlt⟩,hs⟩
   ·exact h
   ·obtain⟨r2,hr2,_⟩:=pass l' a' w' hJ';obtain⟨e,a2,w2,hq,ha⟩:=ih l' a' w' (by omega) hJ' r2 hr2;exact⟨e,a2,w2,hq,.of_steps (hs r2 hr2) ha⟩
 rcases scope_pass (c:=c) first b k cs with ⟨e,a',w',hq,ha⟩|⟨l,a',w',hJ,hs⟩
 ·exact⟨e,a',w',hq,.of_steps (.one step_scope) ha⟩
 ·obtain⟨r,hr,_⟩:=pass l a' w' hJ;obtain⟨e,a2,w2,hq,ha⟩:=key _ l a' w' yR hJ r hr;exact⟨e,a2,w2,hq,.of_steps (.head step_scope (hs r hr)) ha⟩
theorem jumps_ret {J:Nat→Act→World→Prop}:jumps J Q .ret a w=Q .ret a w:=rfl
end
namespace Ln
def digit (c:UInt8):Bool:=decide (48≤c.toNat) && decide (c.toNat≤57)
def first (c:UInt8):Bool:=decide (49≤c.toNat) && decide (c.toNat≤53)
theorem digit_iff {c:UInt8}:digit c=true ↔ 48≤c.toNat∧c.toNat≤57:=by simp[digit]
theorem first_iff {c:UInt8}:first c=true ↔ 49≤c.toNat∧c.toNat≤53:=by simp[first]
theorem first_digit {c:UInt8} (h:first c=true):digit c=true:=by rw[first_iff] at h;rw[digit_iff];omega
structure Sa where
 code:List UInt8
 more:Bool
 text:List UInt8
def tail3 (code:List UInt8):List UInt8→Option Sa
 | []=>some ⟨code,false,[]⟩
 | x :: t=>if x=32 then some ⟨code,false,t⟩ else if x=45 then some ⟨code,true,t⟩ else none
def num:List UInt8→Option Sa
 | a :: b :: c :: r=>if (first a && digit b && digit c)=true then tail3 [a,b,c] r else none
 | _=>none
def rest (b s:List UInt8):Option (List UInt8) :=
 if b.isPrefixOf s then (match s.drop b.length with | []=>some []|x :: t=>if x=32 then some t else none) else none
def pop (s:List UInt8):Option Sa :=
 match rest [43,79,75] s with
 | some t=>some ⟨[43],false,t⟩
 | none=>match rest [45,69,82,82] s with
  | some t=>some ⟨[45],false,t⟩
  | none=>match rest [43] s with
   | some t=>some ⟨[62],false,t⟩
   | none=>none
def split:List UInt8→List (List UInt8)
 | []=>[[]]
 | c :: r=>if c=44 then [] :: split r else match split r with|p :: ps=>(c :: p) :: ps | []=>[[c]]
def pattern (proto:Int) (p:List UInt8):Bool :=
 if proto=2 then p==[43] || p==[45] || p==[62]
 else if proto=1∨proto=3 then (match p with|a :: r=>first a && r.all digit && decide (r.length≤2) | []=>false)
 else false
def codes (proto:Int) (s:List UInt8):Bool:=(split s).all (pattern proto)
def hit (code p:List UInt8):Bool:=!p.isEmpty && p.isPrefixOf code
theorem split_ne:∀ s:List UInt8,split s≠[]
 | []=>by simp[split]
 | c :: r=>by
  unfold split;split
  ·simp
  ·split <;> simp
theorem split_comma (r:List UInt8):split (44 :: r)=[] :: split r:=by rw[split,if_pos rfl]
theorem split_other {c:UInt8} (hc:c≠44) (r:List UInt8):∃ p ps,split r=p :: ps∧split (c :: r)=(c :: p) :: ps:=by
 obtain⟨p,ps,h⟩:∃ p ps,split r=p :: ps:=by
  cases h:split r with
  | nil=>exact absurd h (split_ne r)
  | cons p ps=>exact⟨p,ps,rfl⟩
 refine⟨p,ps,h,?_⟩;rw[split,if_neg hc,h]
theorem split_append:∀ (a b:List UInt8),split (a++44 :: b)=split a++split b
 | [],b=>by rw[List.nil_append,split_comma];rfl
 | c :: a,b=>by
  rw[List.cons_append];by_cases hc:c=44
  ·subst hc;rw[split_comma,split_comma,split_append a b];rfl
  ·obtain⟨p,ps,h1,h2⟩:=split_other hc (a++44 :: b);obtain⟨q,qs,h3,h4⟩:=split_other hc a;rw[split_append a b,h3] at h1;rw[h2,h4];simp only[List.cons_append,List.cons.injEq] at h1;obtain⟨rfl,rfl⟩:=h1;rfl
theorem split_none:∀ {s:List UInt8},(∀ c ∈ s,c≠44)→split s=[s]
 | [],_=>rfl
 | c :: r,h=>by
  rw[split,if_neg (h c (List.mem_cons_self ..)),split_none (fun x hx=>h x (List.mem_cons_of_mem _ hx))]
theorem split_snoc_comma (s:List UInt8):split (s++[44])=split s++[[]]:=split_append s []
theorem split_snoc:∀ (s:List UInt8) {c:UInt8},c≠44 → ∃ ps p,split s=ps++[p]∧split (s++[c])=ps++[p++[c]]
 | [],c,hc=>⟨[],[],rfl,by rw[List.nil_append,split_none (by simpa using hc)];rfl⟩
 | x :: s,c,hc=>by
  obtain⟨ps,p,h1,h2⟩:=split_snoc s hc;rw[List.cons_append];by_cases hx:x=44
  ·subst hx;exact⟨[] :: ps,p,by rw[split_comma,h1];rfl,by rw[split_comma,h2];rfl⟩
  ·rw[split,if_neg hx,split,if_neg hx,h1,h2];cases ps with
   | nil=>exact⟨[],x :: p,rfl,rfl⟩
   | cons q qs=>exact⟨(x :: q) :: qs,p,rfl,rfl⟩
structure At (s:List UInt8) (i from_:Nat) (done:List (List UInt8)):Prop where
 le:from_≤i
 e:split (s.take i)=done++[(s.take i).drop from_]
theorem at_start (s:List UInt8):At s 0 0 []:=⟨yR,rfl⟩
theorem at_comma {s:List UInt8} {i f:Nat} {done:List (List UInt8)} (h:At s i f done) (hc:s[i]?=some 44):At s (i+1) (i+1) (done++[(s.take i).drop f]):=by
 obtain⟨hi,he⟩:=yE hc;refine⟨yR,?_⟩;have e:(s.take i++[44]).drop (i+1)=[]:=List.drop_of_length_le (by rw[List.length_append,List.length_take];simp;omega);rw[List.take_succ_eq_append_getElem hi,he,e,split_snoc_comma,h.e]
theorem at_other {s:List UInt8} {i f:Nat} {done:List (List UInt8)} {c:UInt8} (h:At s i f done) (hc:s[i]?=some c) (hn:c≠44):At s (i+1) f done:=by
 obtain⟨hi,he⟩:=yE hc;refine⟨Nat.le_succ_of_le h.le,?_⟩;obtain⟨ps,p,h1,h2⟩:=split_snoc (s.take i) hn;rw[h.e] at h1;obtain⟨rfl,h3⟩:=List.append_inj' h1 rfl;rw[List.take_succ_eq_append_getElem hi,he,h2,←List.singleton_inj.1 h3,List.drop_append_of_le_length (by rw[List.length_take];have:=h.le;omega)]
theorem at_end {s:List UInt8} {i f:Nat} {done:List (List UInt8)} (h:At s i f done) (hi:s.length≤i):split s=done++[s.drop f]:=by
 have:=h.e
 rwa [List.take_of_length_le hi] at this
end Ln
end Go.Proofs.YtodlhhfcjkjapaaGreatDoor
namespace Go.Proofs.YtodlhhfcjkjapaaGreatDoor
open Go.RowKit
theorem info_str:(Tryz.prog.info? 9).map (fun i=>(i.zero,i.size,i.bytes))=some (some (.string ByteArray.empty),1,16):=by kernel_rfl
theorem append_str {ops:Array Oper} {rest:List Oper} {o:Oper} {a:Act} {Q:Exit→Act→World→Prop} {w:World} {B n:Nat} {v b:Value} {xs:List Value}
  (hgd:o.guard=none) (s x:Operand) (ho:o.op = .call { callee:=.builtin .append,args:=#[s,x],argTypes:=#[45,45] })
  (hs:a.eval s=v) (hown:w.ownsRow B 9 1 v n xs) (hx:a.eval x = .slice (some ⟨w.heap.size,0,none⟩) 1 1) (_ht:o.type=45)
  (h1:b.oneCell'=true) (hn:n≤2097152) (hB:B≤w.heap.size)
  (h:∀ v' w',w'.ownsRow B 9 1 v' (n+1) (xs++[b])→w.grownBy w' v.ownBlock→wpList Tryz.prog ops Q rest (a.put o.dst v') w'):wpList Tryz.prog ops Q (o :: rest) a (w.alloc (.cells #[b] 9)):=by
 obtain⟨i0,hi,hz0,hz1,hz2⟩:=info_parts info_str;refine wpList_append_own _ hgd s x 45 ho B 9 i0 (.string ByteArray.empty) 1 16 Tryz.underlying45 hi hz0 hz1 hz2 rfl (by decide) v n xs hs (hown.alloc _) ⟨w.heap.size,0,none⟩ 1 1 [b] hx rfl ?_ ?_ ?_ ?_ (by simp;omega) (fun v' w' h2 h3 _=>h v' w' h2 ?_)
 ·exact cell_one_new _ _ _
 ·intro u hu;simp at hu;subst hu;exact h1
 ·unfold maxLen;omega
 ·omega
 ·exact⟨h3.os,h3.tape,h3.output,Nat.le_trans (by simp) h3.size,fun k hk hr=>(h3.block k (by simp;omega) hr).trans (Below.heap_alloc w _ k hk)⟩
theorem append_strs {ops:Array Oper} {rest:List Oper} {o:Oper} {a:Act} {Q:Exit→Act→World→Prop} {w:World} {B n:Nat} {v:Value} {xs:List Value}
  (hgd:o.guard=none) (s x:Operand) (ho:o.op = .call { callee:=.builtin .append,args:=#[s,x],argTypes:=#[45,45] })
  (hs:a.eval s=v) (hown:w.ownsRow B 9 1 v n xs) (ys:List Value) (hx:Rd w (a.eval x) ys)
  (h1:∀ u ∈ ys,u.oneCell'=true) (hn:n+ys.length≤2097152) (hB:B≤w.heap.size)
  (h:∀ v' w',w'.ownsRow B 9 1 v' (n+ys.length) (xs++ys)→w.grownBy w' v.ownBlock→wpList Tryz.prog ops Q rest (a.put o.dst v') w'):wpList Tryz.prog ops Q (o :: rest) a w:=by
 obtain⟨i0,hi,hz0,hz1,hz2⟩:=info_parts info_str;rcases hx with ⟨rfl,ao,cap,ha,hx⟩|⟨b,off,cap,hx,g1,g2,g3⟩
 ·cases ao with
  | none =>
   obtain rfl:=ha rfl;have h2:=h v w (by simpa using hown) ⟨rfl,rfl,rfl,yR,fun _ _ _=>rfl⟩;exact wpList_append_own_none hgd s x 45 ho B 9 i0 1 Tryz.underlying45 hi v n xs hs hown hx h2
  | some ad =>
   refine wpList_append_own _ hgd s x 45 ho B 9 i0 (.string ByteArray.empty) 1 16 Tryz.underlying45 hi hz0 hz1 hz2 rfl (by decide) v n xs hs hown ad 0 cap [] hx rfl (fun j u hj=>by simp at hj) (fun u hu=>by simp at hu) ?_ ?_ hB (fun v' w' h2 h3 _=>h v' w' h2 h3)
   ·simp at hn;unfold maxLen;omega
   ·simp at hn;omega
 ·refine wpList_append_own _ hgd s x 45 ho B 9 i0 (.string ByteArray.empty) 1 16 Tryz.underlying45 hi hz0 hz1 hz2 rfl (by decide) v n xs hs hown ⟨b,off,none⟩ ys.length cap ys hx (by simp) (fun j u hj=>by rw[Addr.add_lit];exact g3 j u hj) h1 ?_ ?_ hB (fun v' w' h2 h3 _=>h v' w' h2 h3)
  ·unfold maxLen;omega
  ·omega
theorem svs_at {xs:List (List UInt8)} {k:Nat} (h:k<xs.length):(xs.map sv)[k]?=some (sv (xs.getD k [])):=by simp[h,List.getD_eq_getElem?_getD]
end Go.Proofs.YtodlhhfcjkjapaaGreatDoor
