import Derived.Test.YtodlhhfcjkjapaaGreatDoorCA
import Derived.Test.YtodlhhfcjkjapaaGreatDoorIT
namespace Go.Proofs.YtodlhhfcjkjapaaGreatDoor
open Go.RowKit
namespace Va
def name (l:List UInt8):List UInt8:=if small (l.headD 0)=true then l.takeWhile inName else []
def lets:List UInt8:=[97,98,99,100,101,102,103,104,105,106,107,108,109,110,111,112,113,114,115,116,117,118,119,120,121,122]
def nams:List UInt8:=[97,98,99,100,101,102,103,104,105,106,107,108,109,110,111,112,113,114,115,116,117,118,119,120,121,122,48,49,50,51,52,53,54,55,56,57,95]
theorem of_all {p:UInt8→Prop} (h:∀ n:Fin 256,p (UInt8.ofNat n.val)) (c:UInt8):p c:=by
 have:=h ⟨c.toNat,c.toNat_lt⟩;simpa using this
theorem nams_name:∀ c:UInt8,nams.contains c=inName c:=of_all (by decide +kernel)
theorem lets_ix:∀ c:UInt8,decide (0≤Lib.indexByte lets c)=small c:=of_all (by decide +kernel)
theorem len_parts (p:UInt8→Bool) (l:List UInt8):l.length=(l.takeWhile p).length+(l.dropWhile p).length:=by
 conv=>lhs;rw[←List.takeWhile_append_dropWhile (p:=p) (l:=l)]
 rw[List.length_append]
theorem take_len (p:UInt8→Bool):∀ l:List UInt8,l.take (l.takeWhile p).length=l.takeWhile p
 | []=>rfl
 | c :: l=>by
  rw[List.takeWhile_cons];split
  ·rw[List.length_cons,List.take_succ_cons,take_len p l]
  ·rfl
theorem nams_drop (l:List UInt8):l.dropWhile nams.contains=l.dropWhile inName:=by
 rw[show nams.contains=inName from funext nams_name]
end Va
set_option maxHeartbeats 1000000 in
theorem vname_any (l:List UInt8) (hl:l.length≤16777216) (w:World) :
  Calls Tryz.prog 142 #[.string ⟨l.toArray⟩] w fun e w'=>e = .returned (sv (Va.name l))∧Below w.heap.size w w':=by
 cases l with
 | nil =>
  show Calls _ _ _ _ fun e w'=>e = .returned (.string ⟨#[]⟩)∧_
  go_enter Tryz.func142,Tryz.ntmps142;go_wp2;go_ret;exact⟨rfl,Below.refl _ _⟩
 | cons c r =>
  obtain⟨q,hq⟩:∃ q,q=c :: r:=⟨_,rfl⟩;have hC:=Tryz.strings_Contains_one ⟨Va.lets.toArray⟩ c w;rw[show (⟨Va.lets.toArray⟩:ByteArray).data.toList=Va.lets from rfl,Va.lets_ix] at hC;have hC:Calls Tryz.prog 85 #[.string ⟨#[97,98,99,100,101,102,103,104,105,106,107,108,109,110,111,112,113,114,115,116,117,118,119,120,121,122]⟩,.string ⟨#[c]⟩] w _:=hC;have hx0:(⟨q.toArray⟩:ByteArray).extract 0 1=⟨#[c]⟩:=by rw[ba_extract,hq];rfl
  have hempl:(⟨q.toArray⟩:ByteArray).toList.isEmpty=false:=(by rw[Lib.toList_data,hq];rfl);have hempq:q.isEmpty=false:=(by rw[hq];rfl);have hz:(⟨q.toArray⟩:ByteArray).size=q.length:=rfl;have hq1:1≤q.length:=(by rw[hq];simp);have hq2:((1:Int)≤(q.length:Int)):=(by omega);rw[←hq] at hl ⊢;have hnm:Va.name q=if Va.small c=true then q.takeWhile Va.inName else []:=(by rw[hq];rfl);cases hs:Va.small c with
  | false =>
   rw[hs] at hC hnm;rw[hnm];show Calls _ _ _ _ fun e w'=>e = .returned (.string ⟨#[]⟩)∧_
   clear hnm hq hs;go_enter Tryz.func142,Tryz.ntmps142;go_wp2_with (go_at_call 85;refine hC.mono ?_;rintro e w' ⟨rfl,hw⟩;rw[hw])
   go_ret;exact⟨rfl,Below.refl _ _⟩
  | true =>
   rw[hs] at hC hnm;rw[if_pos rfl] at hnm;rw[hnm]
   have ht:=sTrimLeft lsl q hl ⟨Va.nams.toArray⟩ (by decide) (by decide) (fun j b hj=>by
    have:∀ b ∈ Va.nams,b.toNat<128:=(by decide);exact this b (List.mem_of_getElem? hj)) w
   rw[show (⟨Va.nams.toArray⟩:ByteArray).data.toList=Va.nams from rfl,Va.nams_drop] at ht;have ht:Calls Tryz.prog 105 #[.string ⟨q.toArray⟩,.string ⟨#[97,98,99,100,101,102,103,104,105,106,107,108,109,110,111,112,113,114,115,116,117,118,119,120,121,122,48,49,50,51,52,53,54,55,56,57,95]⟩] w _:=ht;have hsum:=Va.len_parts Va.inName q
   have hx:(⟨q.toArray⟩:ByteArray).extract 0 (q.takeWhile Va.inName).length=⟨(q.takeWhile Va.inName).toArray⟩:=by
    rw[ba_extract];simp only[List.drop_zero];rw[Va.take_len]
   unfold sv;clear hnm hq hs;generalize q.takeWhile Va.inName=R at *;generalize q.dropWhile Va.inName=D at *;obtain⟨L,hL⟩:∃ L,L=q.length:=⟨_,rfl⟩;rw[←hL] at hz hsum hq2 hl hq1;clear hL;subst hsum;have hz2:(⟨D.toArray⟩:ByteArray).size=D.length:=rfl;have hsub3:((R.length:Int)+(D.length:Int)-(D.length:Int))=(R.length:Int):=(by omega);have hsub2:(((R.length+D.length:Nat):Int)-(D.length:Int))=(R.length:Int):=by omega
   have hRl:R.length≤16777216:=(by omega);have hDl:D.length≤16777216:=(by omega);clear hl;go_enter Tryz.func142,Tryz.ntmps142;go_wp2_with (first|(go_at_call 85;refine hC.mono ?_;rintro e w' ⟨rfl,hw⟩;rw[hw])|(go_at_call 105;refine ht.mono ?_;rintro e w' ⟨rfl,hb⟩))
   go_ret;exact⟨rfl,hb⟩
namespace Va
def fillV (val:List UInt8→Option (List UInt8)):List Pt→Option (List UInt8)
 | []=>some []
 | .b c :: ps=>(fillV val ps).map (c :: ·)
 | .n x :: ps=>(val x).bind fun v=>(fillV val ps).map (v ++ ·)
def both (val:List UInt8→Option (List UInt8)) (t:List UInt8):Option (List UInt8 × List (List UInt8)):=(parts t).bind fun ps=>(fillV val ps).map fun s=>(s,names ps)
theorem fillV_any:∀ ps,(fillV (fun _=>some []) ps).isSome=true
 | []=>rfl
 | .b c :: ps=>by rw[fillV,Option.isSome_map];exact fillV_any ps
 | .n x :: ps=>by
  rw[fillV];show ((fillV _ ps).map _).isSome=true
  rw[Option.isSome_map];exact fillV_any ps
theorem both_names (t:List UInt8):(both (fun _=>some []) t).map (·.2)=(parts t).map names:=by
 unfold both;cases parts t with
 | none=>rfl
 | some ps =>
  show ((fillV _ ps).map _).map _=some (names ps)
  have:=fillV_any ps;cases h:fillV (fun _=>some []) ps with
  | none=>rw[h] at this;cases this
  | some s=>rfl
section
variable (val:List UInt8→Option (List UInt8))
theorem fillV_bytes:∀ (a:List UInt8) (ps:List Pt),fillV val (a.map Pt.b++ps)=(fillV val ps).map (a ++ ·)
 | [],ps=>by cases h:fillV val ps <;> simp[h]
 | c :: a,ps=>by
  rw[List.map_cons,List.cons_append,fillV,fillV_bytes a ps,Option.map_map];rfl
theorem names_bytes (a:List UInt8) (ps:List Pt):names (a.map Pt.b++ps)=names ps:=by
 induction a with
 | nil=>rfl
 | cons c a ih=>exact ih
theorem both_bare (a:List UInt8) (r:List UInt8) (h:∀ c ∈ a,c≠36):both val (a++r)=(both val r).map fun p=>(a++p.1,p.2):=by
 unfold both;rw[parts_bare a r h];cases parts r with
 | none=>rfl
 | some ps =>
  show (fillV val (a.map Pt.b++ps)).map _=((fillV val ps).map _).map _
  rw[fillV_bytes,names_bytes];cases fillV val ps <;> rfl
theorem both_all (a:List UInt8) (h:∀ c ∈ a,c≠36):both val a=some (a,[]):=by
 have:=both_bare val a [] h;rw[List.append_nil] at this;rw[this];show some (a++[],[])=_
 rw[List.append_nil]
theorem both_two (r:List UInt8):both val (36 :: 36 :: r)=(both val r).map fun p=>(36 :: p.1,p.2):=by
 unfold both;rw[parts_two];cases parts r with
 | none=>rfl
 | some ps =>
  show ((fillV val ps).map _).map _=((fillV val ps).map _).map _
  cases fillV val ps <;> rfl
theorem both_wrong (b:List UInt8) (h1:name b=[]) (h2:b.head?≠some 36):both val (36 :: b)=none:=by
 unfold both;cases b with
 | nil=>rw[parts_end];rfl
 | cons d r =>
  have hs:small d=false:=by
   cases hh:small d with
   | false=>rfl
   | true =>
    have hn:inName d=true:=(by simp[inName,hh]);unfold name at h1;rw[show (d :: r).headD 0=d from rfl,hh,if_pos rfl,List.takeWhile_cons,hn,if_pos rfl] at h1;cases h1
  rw[parts_wrong hs (fun e=>h2 (by rw[e];rfl))];rfl
theorem name_some {b:List UInt8} (h:name b≠[]):∃ d r,b=d :: r∧small d=true∧name b=b.takeWhile inName:=by
 cases b with
 | nil=>exact absurd rfl h
 | cons d r =>
  cases hh:small d with
  | false=>exact absurd (by unfold name;rw[show (d :: r).headD 0=d from rfl,hh];rfl) h
  | true=>exact⟨d,r,rfl,hh,by unfold name;rw[show (d :: r).headD 0=d from rfl,hh];rfl⟩
theorem drop_len2 (p:UInt8→Bool):∀ l:List UInt8,l.drop (l.takeWhile p).length=l.dropWhile p
 | []=>rfl
 | c :: l=>by
  rw[List.takeWhile_cons,List.dropWhile_cons];split
  ·rw[List.length_cons,List.drop_succ_cons,drop_len2 p l]
  ·rfl
theorem both_name (b:List UInt8) (h:name b≠[]):both val (36 :: b)=(val (name b)).bind fun v=>(both val (b.drop (name b).length)).map fun p=>(v++p.1,name b :: p.2):=by
 obtain⟨d,r,rfl,hs,he⟩:=name_some h;rw[he,drop_len2];unfold both;rw[parts_take hs];generalize (d :: r).takeWhile inName=n;generalize (d :: r).dropWhile inName=m;cases parts m with
 | none=>cases val n <;> rfl
 | some ps =>
  show (fillV val (Pt.n n :: ps)).map _=_
  rw[fillV];cases val n with
  | none=>rfl
  | some v =>
   show ((fillV val ps).map _).map _=((fillV val ps).map _).map _
   cases fillV val ps <;> rfl
theorem name_len (b:List UInt8):(name b).length≤b.length:=by
 unfold name;split
 ·have:=len_parts inName b;omega
 ·exact Nat.zero_le _
end
def St (val:List UInt8→Option (List UInt8)) (t0 t xs:List UInt8) (a:List (List UInt8)):Prop:=both val t0=(both val t).map fun p=>(xs++p.1,a++p.2)
section
variable {val:List UInt8→Option (List UInt8)} {t0 t xs p b:List UInt8} {a:List (List UInt8)}
theorem St.start (val:List UInt8→Option (List UInt8)) (t:List UInt8):St val t t [] []:=by
 unfold St;cases both val t <;> rfl
theorem St.all (h:St val t0 t xs a) (hb:∀ c ∈ t,c≠36):both val t0=some (xs++t,a):=by
 rw[h,both_all val t hb];show some (_,a++[])=_
 rw[List.append_nil]
theorem St.plain (h:St val t0 (p++36 :: b) xs a) (hb:∀ c ∈ p,c≠36):St val t0 (36 :: b) (xs++p) a:=by
 unfold St at *;rw[h,both_bare val p _ hb];cases both val (36 :: b) with
 | none=>rfl
 | some q=>show some (xs++(p++q.1),_)=some ((xs++p)++q.1,_);rw[List.append_assoc]
theorem St.two (h:St val t0 (36 :: 36 :: b) xs a):St val t0 b (xs++[36]) a:=by
 unfold St at *;rw[h,both_two];cases both val b with
 | none=>rfl
 | some q=>show some (xs++(36 :: q.1),_)=some ((xs++[36])++q.1,_);rw[List.append_assoc];rfl
theorem St.wrong (h:St val t0 (36 :: b) xs a) (h1:name b=[]) (h2:b.head?≠some 36):both val t0=none:=by
 rw[h,both_wrong val b h1 h2];rfl
theorem St.unset (h:St val t0 (36 :: b) xs a) (h1:name b≠[]) (hv:val (name b)=none):both val t0=none:=by
 rw[h,both_name val b h1,hv];rfl
theorem St.name {v:List UInt8} (h:St val t0 (36 :: b) xs a) (h1:Va.name b≠[]) (hv:val (Va.name b)=some v):St val t0 (b.drop (Va.name b).length) (xs++v) (a++[Va.name b]):=by
 unfold St at *;rw[h,both_name val b h1,hv];show ((both val _).map _).map _=_
 cases both val (b.drop (Va.name b).length) with
 | none=>rfl
 | some q =>
  show some (xs++(v++q.1),a++(Va.name b :: q.2))=some ((xs++v)++q.1,(a++[Va.name b])++q.2)
  rw[List.append_assoc,List.append_assoc];rfl
end
end Va
end Go.Proofs.YtodlhhfcjkjapaaGreatDoor
