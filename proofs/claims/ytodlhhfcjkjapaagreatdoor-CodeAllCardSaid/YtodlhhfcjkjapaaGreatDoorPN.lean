import Derived.WalkKit
import Derived.Lib.Strings
import Derived.Lib.OthersKept
import Derived.Laws.IdiomStrings
namespace Go.Proofs.YtodlhhfcjkjapaaGreatDoor
namespace Tx
theorem get_bang (s:ByteArray) (k:Nat):s.get! k=s.data.toList.getD k 0:=by
 show s.data[k]! = _
 by_cases h:k<s.data.size
 ·rw[getElem!_pos s.data k h,List.getD_eq_getElem?_getD,List.getElem?_eq_getElem (by simpa using h)];simp
 ·rw[getElem!_neg s.data k h,List.getD_eq_getElem?_getD,List.getElem?_eq_none (by simpa using h)];rfl
theorem decode_span (s:ByteArray) (p:Nat) (h:p<s.size) (hb:128≤(s.data.toList.getD p 0).toNat) :
  p+(Utf8.decode s p).2≤s.size ∧ ∀ j,p≤j→j<p+(Utf8.decode s p).2→128≤(s.data.toList.getD j 0).toNat:=by
 have hlt:∀ k,(s.data.toList.getD k 0).toNat<256:=fun k=>(s.data.toList.getD k 0).toNat_lt;simp only[Utf8.decode,get_bang,Nat.add_zero];have hn:¬ (s.data.toList.getD p 0).toNat<128:=(by omega);rw[if_neg hn]
 have one:∀ j,p≤j→j<p+1→128≤(s.data.toList.getD j 0).toNat:=fun j h1 h2=>by
  obtain rfl:j=p:=(by omega);exact hb
 have c1:=hlt (p+1);have c2:=hlt (p+2);have c3:=hlt (p+3);split
 ·rename_i h1
  simp at h1;split
  ·refine⟨by show p+2≤_;omega,fun j g1 g2=>?_⟩;have g2:j<p+2:=g2;rcases(show j=p∨j=p+1 from by omega) with rfl|rfl
   ·exact hb
   ·simp at *;omega
  ·exact⟨by show p+1≤_;omega,one⟩
 ·split
  ·rename_i h1
   simp at h1;split
   ·refine⟨by show p+3≤_;omega,fun j g1 g2=>?_⟩;have g2:j<p+3:=g2;rcases(show j=p∨j=p+1∨j=p+2 from by omega) with rfl|rfl|rfl
    ·exact hb
    ·simp at *;omega
    ·simp at *;omega
   ·exact⟨by show p+1≤_;omega,one⟩
  ·split
   ·rename_i h1
    simp at h1;split
    ·refine⟨by show p+4≤_;omega,fun j g1 g2=>?_⟩;have g2:j<p+4:=g2;rcases(show j=p∨j=p+1∨j=p+2∨j=p+3 from by omega) with rfl|rfl|rfl|rfl
     ·exact hb
     ·simp at *;omega
     ·simp at *;omega
     ·simp at *;omega
    ·exact⟨by show p+1≤_;omega,one⟩
   ·exact⟨by show p+1≤_;omega,one⟩
abbrev at' (s:ByteArray) (p:Nat):UInt8:=s.data.toList.getD p 0
theorem get_eq (s:ByteArray) (p:Nat) (h:p<s.size):s[p]'h=s.data.toList.getD p 0:=by
 rw[List.getD_eq_getElem?_getD,List.getElem?_eq_getElem (by simpa using h)];rfl
structure Rune (s:ByteArray) (pos r n:Nat) (seg:List UInt8):Prop where
 one:1≤n
 fits:pos+n≤s.size
 len:seg.length=n
 rest:s.data.toList.drop pos=seg++s.data.toList.drop (pos+n)
 low:r<128 → ∃ b:UInt8,seg=[b]∧b.toNat=r
 high:128≤r → ∀ b ∈ seg,128≤b.toNat
theorem rune_of (s:ByteArray) (pos:Nat) (h:pos<s.size):∃ seg,Rune s pos (Utf8.decode s pos).1 (Utf8.decode s pos).2 seg:=by
 have hl:s.data.toList.length=s.size:=(Lib.size_eq s).symm;by_cases hb:(s[pos]'h).toNat<128
 ·rw[decode_ascii s pos h hb];refine⟨[s[pos]'h],by show 1≤1;omega,by show pos+1≤_;omega,rfl,?_,fun _=>⟨_,rfl,rfl⟩,fun h2=>absurd h2 (by show ¬ 128≤(s[pos]'h).toNat;omega)⟩;rw[List.drop_eq_getElem_cons (by omega)];rfl
 ·have hb1:128≤(s.data.toList.getD pos 0).toNat:=(by rw[←get_eq s pos h];omega);obtain⟨h1,h2⟩:=decode_span s pos h hb1;obtain⟨h3,h4⟩:=decode_high s pos h (by omega);generalize (Utf8.decode s pos).1=r at *;generalize (Utf8.decode s pos).2=n at *;refine⟨(s.data.toList.drop pos).take n,h4,h1,?_,?_,fun h5=>absurd h5 (by omega),fun _ b hb2=>?_⟩
  ·rw[List.length_take,List.length_drop,hl];omega
  ·rw[←List.drop_drop,List.take_append_drop]
  ·obtain⟨j,hj,rfl⟩:=List.getElem_of_mem hb2;have hj2:j<n:=(by rw[List.length_take] at hj;omega);have h6:=h2 (pos+j) (by omega) (by omega);rw[List.getElem_take,List.getElem_drop];rw[List.getD_eq_getElem?_getD,List.getElem?_eq_getElem (by rw[hl];omega)] at h6;exact h6
theorem next_rune {P:Program} (w:World) (k:Nat) (s:ByteArray) (pos:Nat) (hk:w.heap[k]?=some (.stringIter s pos)) (h:pos<s.size) :
  ∃ (r n:Nat) (seg:List UInt8),Rune s pos r n seg ∧ ∀ ty,(Instr.next (.pointer (some ⟨k,0,none⟩)) true ty).run P w =
   .ok (.tuple #[.bool true,.int .i64 pos,.int .i32 (r:Int)]) (w.iterAt k s (pos+n)):=by
 obtain⟨seg,hr⟩:=rune_of s pos h;exact⟨_,_,seg,hr,fun ty=>Lib.run_next_any_at w k s pos ty hk h⟩
theorem Rune.take {s:ByteArray} {pos r n:Nat} {seg:List UInt8} (h:Rune s pos r n seg):s.data.toList.take (pos+n)=s.data.toList.take pos++seg:=by
 have hl:s.data.toList.length=s.size:=(Lib.size_eq s).symm;rw[List.take_add,h.rest,List.take_left' h.len]
theorem Rune.cut {s:ByteArray} {pos r n:Nat} {seg:List UInt8} (h:Rune s pos r n seg) (a:Nat) (ha:a≤pos):(s.data.toList.drop a).take (pos+n-a)=(s.data.toList.drop a).take (pos-a)++seg:=by
 have e:pos+n-a=(pos-a)+n:=(by omega);rw[e,List.take_add,List.drop_drop,show a+(pos-a)=pos from by omega,h.rest,List.take_left' h.len]
def plainB (b:UInt8):Bool:=decide (32≤b.toNat) && decide (b.toNat≤126)
def plain (l:List UInt8):Bool:=l.all plainB
def blk (b:UInt8):Bool:=b.toNat==32 || b.toNat==9
def wordsGo:List UInt8→List UInt8→List (List UInt8)
 | cur,[]=>if cur=[] then [] else [cur]
 | cur,c :: r=>if blk c then (if cur=[] then wordsGo [] r else cur :: wordsGo [] r) else wordsGo (cur++[c]) r
def words (l:List UInt8):List (List UInt8):=wordsGo [] l
theorem wordsGo_run:∀ (xs cur rest:List UInt8),(∀ b ∈ xs,blk b=false)→wordsGo cur (xs++rest)=wordsGo (cur++xs) rest
 | [],cur,rest,_=>by simp
 | x :: xs,cur,rest,h=>by
  have hx:blk x=false:=h x (by simp);show wordsGo cur (x :: (xs++rest))=_
  rw[wordsGo,hx];simp only[Bool.false_eq_true,if_false];rw[wordsGo_run xs (cur++[x]) rest (fun b hb=>h b (by simp[hb]))];simp
theorem wordsGo_blank (c:UInt8) (cur rest:List UInt8) (h:blk c=true):wordsGo cur (c :: rest)=(if cur=[] then [] else [cur])++wordsGo [] rest:=by
 rw[wordsGo,h];by_cases hc:cur=[] <;> simp[hc]
end Tx
end Go.Proofs.YtodlhhfcjkjapaaGreatDoor
namespace Go.Proofs.YtodlhhfcjkjapaaGreatDoor
open Go.RowKit
namespace Tx
def upB (b:UInt8):UInt8:=if 97≤b.toNat∧b.toNat≤122 then b-32 else b
def up (l:List UInt8):List UInt8:=l.map upB
theorem words_ne:∀ (l cur:List UInt8),∀ x ∈ wordsGo cur l,x≠[]
 | [],cur,x,h=>by
  rw[wordsGo] at h;split at h
  ·cases h
  ·simp at h;subst h;assumption
 | c :: r,cur,x,h=>by
  rw[wordsGo] at h;split at h
  ·split at h
   ·exact words_ne r [] x h
   ·simp at h;rcases h with rfl|h
    ·assumption
    ·exact words_ne r [] x h
  ·exact words_ne r _ x h
theorem words_flat:∀ (l cur:List UInt8),(∀ b ∈ cur,blk b=false)→(wordsGo cur l).flatten=cur++l.filter (fun b=>!blk b)
 | [],cur,_=>by
  rw[wordsGo];split
  ·simp[*]
  ·simp
 | c :: r,cur,hc=>by
  rw[wordsGo];split
  ·rename_i hb
   split
   ·rw[words_flat r [] (by simp)];simp[*]
   ·rw[List.flatten_cons,words_flat r [] (by simp)];simp[*]
  ·rename_i hb
   rw[words_flat r (cur++[c]) (fun b hb2=>by
    simp at hb2;rcases hb2 with h1|rfl
    ·exact hc b h1
    ·simpa using hb)]
   simp at hb;simp[hb]
theorem words_len (l:List UInt8):(words l).flatten.length≤l.length∧(words l).length≤l.length:=by
 have h:=words_flat l [] (by simp)
 have hf:(words l).flatten.length≤l.length:=by
  rw[words,h];simpa using List.length_filter_le _ _
 refine⟨hf,Nat.le_trans ?_ hf⟩;have hne:=words_ne l [];rw[words];generalize wordsGo [] l=ws at hne;clear h hf;induction ws with
 | nil=>simp
 | cons x r ih =>
  have h1:=ih (fun z hz=>hne z (by simp[hz]));have h2:x.length≠0:=fun e=>hne x (by simp) (List.length_eq_zero_iff.1 e);simp at h1 ⊢;omega
end Tx
namespace Tx
def dig (b:UInt8):Bool:=decide (48≤b.toNat) && decide (b.toNat≤57)
def digits (l:List UInt8):Bool:=l.all dig
def val (l:List UInt8):Nat:=l.foldl (fun a b=>a*10+(b.toNat-48)) 0
theorem digits_app (a b:List UInt8):digits (a++b)=(digits a && digits b):=by simp[digits]
theorem val_snoc (l:List UInt8) (b:UInt8):val (l++[b])=val l*10+(b.toNat-48):=by simp[val]
theorem val_lt':∀ (n:Nat) (l:List UInt8),l.length=n→digits l=true→val l<10 ^ n
 | 0,l,hl,_=>by
  obtain rfl:l=[]:=List.length_eq_zero_iff.1 hl;show 0<1;omega
 | n+1,l,hl,hd=>by
  have hne:l≠[]:=fun e=>by rw[e] at hl;cases hl
  obtain⟨a,b,rfl⟩:∃ a b,l=a++[b]:=⟨l.dropLast,l.getLast hne,(List.dropLast_concat_getLast hne).symm⟩;rw[digits_app] at hd;simp only[Bool.and_eq_true] at hd;have h1:=val_lt' n a (by simpa using hl) hd.1;have h2:b.toNat≤57:=(by have:=hd.2;simp[digits,dig] at this;exact this.2);rw[val_snoc,Nat.pow_succ];omega
theorem val_lt {l:List UInt8} (h:l.length≤9) (hd:digits l=true):val l<1000000000 :=
 Nat.lt_of_lt_of_le (val_lt' _ l rfl hd) (Nat.pow_le_pow_right (by decide) h)
def number (l:List UInt8) (most:Int):Int × Bool:=if (1≤l.length∧l.length≤9∧digits l=true)∧(val l:Int)≤most then (val l,true) else (0,false)
theorem number_bad {l:List UInt8} {most:Int} (h:¬ (1≤l.length∧l.length≤9∧digits l=true)):number l most=(0,false):=if_neg (fun e=>h e.1)
end Tx
def two (p:Int × Bool):Value:=.tuple #[.int .i64 p.1,.bool p.2]
theorem snoc_at (s:ByteArray) (k:Nat) (h:k<s.size):s.data.toList.take (k+1)=s.data.toList.take k++[s[k]'h]:=by
 rw[List.take_succ_eq_append_getElem (by rw[←Lib.size_eq];exact h)];rfl
theorem tail_at (s:ByteArray) (k:Nat) (h:k<s.size):s.data.toList=s.data.toList.take k++(s[k]'h) :: s.data.toList.drop (k+1):=by
 have e:=(List.take_append_drop (k+1) s.data.toList).symm;rw[snoc_at s k h,List.append_assoc] at e;exact e
theorem all_take (s:ByteArray):s.data.toList.take s.size=s.data.toList:=by rw[Lib.size_eq,List.take_length]
end Go.Proofs.YtodlhhfcjkjapaaGreatDoor
