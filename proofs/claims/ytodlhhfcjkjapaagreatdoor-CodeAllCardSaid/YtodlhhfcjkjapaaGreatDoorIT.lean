import Derived.Test.YtodlhhfcjkjapaaGreatDoorBA
import Derived.Test.YtodlhhfcjkjapaaGreatDoorShelf
import Derived.BigQuiet
import Derived.Deep.QuietTactic
import Derived.Shelf.Strings.AsciiSet
import Derived.Lib.Hide
set_option maxRecDepth 200000
set_option maxHeartbeats 8000000
namespace Go.Proofs.YtodlhhfcjkjapaaGreatDoor
open Go.RowKit
theorem ix_at (c:UInt8):∀ l:List UInt8,(Lib.indexByte l c = -1 ∧ ∀ x ∈ l,x≠c) ∨ ∃ k:Nat,k<l.length∧Lib.indexByte l c=(k:Int)∧(∀ x ∈ l.take k,x≠c)∧l=l.take k++c :: l.drop (k+1)
 | []=>.inl ⟨rfl,by simp⟩
 | b :: l=>by
  rw[Lib.indexByte];by_cases hb:b=c
  ·subst hb;exact .inr ⟨0,by simp,by simp,by simp,rfl⟩
  ·have e:(b==c)=false:=(by simpa using hb);rw[e];rcases ix_at c l with ⟨h1,h2⟩|⟨k,h1,h2,h3,h4⟩
   ·exact .inl ⟨by simp[h1],by simpa using ⟨hb,h2⟩⟩
   ·refine .inr ⟨k+1,by simp;omega,?_,by simpa using ⟨hb,h3⟩,by simpa using h4⟩;rw[h2];have:((k:Int) == -1)=false:=(by simp);simp[this]
def cut1 (c:UInt8) (l:List UInt8):List UInt8 × List UInt8 × Bool :=
 if Lib.indexByte l c<0 then (l,[],false) else (l.take (Lib.indexByte l c).toNat,l.drop ((Lib.indexByte l c).toNat+1),true)
theorem cut1_at (c:UInt8) (l:List UInt8):((∀ x ∈ l,x≠c)∧cut1 c l=(l,[],false)) ∨ ∃ k:Nat,k<l.length∧(∀ x ∈ l.take k,x≠c)∧l=l.take k++c :: l.drop (k+1)∧cut1 c l=(l.take k,l.drop (k+1),true):=by
 rcases ix_at c l with ⟨h1,h2⟩|⟨k,h1,h2,h3,h4⟩
 ·exact .inl ⟨h2,by unfold cut1;rw[h1];rfl⟩
 ·refine .inr ⟨k,h1,h3,h4,?_⟩;unfold cut1;rw[h2,if_neg (by omega)];rfl
theorem sliteCut_any (l:List UInt8) (c:UInt8) (hl:l.length≤16777216) (w:World) :
  Calls Tryz.prog 103 #[.string ⟨l.toArray⟩,.string ⟨#[c]⟩] w fun e w'=>e = .returned (.tuple #[sv (cut1 c l).1,sv (cut1 c l).2.1,.bool (cut1 c l).2.2]) ∧ ∃ q,w'=w.drewN q:=by
 have hi:=Tryz.stringslite_Index_one ⟨l.toArray⟩ c w;have hz:(⟨l.toArray⟩:ByteArray).size=l.length:=rfl;have hz1:(⟨#[c]⟩:ByteArray).size=1:=rfl;have hx:∀ a b,(⟨l.toArray⟩:ByteArray).extract a b=⟨((l.take b).drop a).toArray⟩:=ba_extract l;rcases ix_at c l with ⟨h1,h2⟩|⟨k,h1,h2,h3,h4⟩
 ·have e0:Lib.indexByte (⟨l.toArray⟩:ByteArray).data.toList c = -1:=h1;rw[e0] at hi;have ec:cut1 c l=(l,[],false):=(by unfold cut1;rw[h1];rfl);rw[ec];clear h1 h2 e0 ec;go_enter Tryz.func103,Tryz.ntmps103;go_wp2_with (go_at_call 118;refine hi.mono ?_;rintro e w' ⟨rfl,hw⟩;rw[hw])
  go_ret3
  exact⟨rfl,0,rfl⟩
 ·have e0:Lib.indexByte (⟨l.toArray⟩:ByteArray).data.toList c=(k:Int):=h2;rw[e0] at hi;have ec:cut1 c l=(l.take k,l.drop (k+1),true):=(by unfold cut1;rw[h2,if_neg (by omega)];rfl);rw[ec];have hk:(0:Int)≤k:=(by omega);have hw1:IntKind.i64.wrap ((k:Int)+1)=((k+1:Nat):Int):=(by rw[wraps_i64 _ (by omega) (by omega)];omega);have hk1:(k:Int)≤(l.length:Int):=(by omega);have hk2:((k+1:Nat):Int)≤(l.length:Int):=by omega
  clear h2 h3 h4 e0 ec;go_enter Tryz.func103,Tryz.ntmps103;go_wp2_with (go_at_call 118;refine hi.mono ?_;rintro e w' ⟨rfl,hw⟩;rw[hw])
  go_quiet (fail)
  simp only[Exit.then];go_wp2;go_ret3
  exact⟨by simp[sv],nq,rfl⟩
theorem sCut_any (l:List UInt8) (c:UInt8) (hl:l.length≤16777216) (w:World) :
  Calls Tryz.prog 84 #[.string ⟨l.toArray⟩,.string ⟨#[c]⟩] w fun e w'=>e = .returned (.tuple #[sv (cut1 c l).1,sv (cut1 c l).2.1,.bool (cut1 c l).2.2]) ∧ ∃ q,w'=w.drewN q:=by
 have hi:=sliteCut_any l c hl w;go_enter Tryz.func84,Tryz.ntmps84;go_wp2_with (go_at_call 103;refine hi.mono ?_;rintro e w' ⟨rfl,q,hw⟩;rw[hw])
 go_ret3
 exact⟨rfl,q,rfl⟩
end Go.Proofs.YtodlhhfcjkjapaaGreatDoor
namespace Go.Proofs.YtodlhhfcjkjapaaGreatDoor
open Go.RowKit Go.Lib
structure LSl (P:Program):Prop where
 mixed:P.follows .mixedOrders=true
 ftl:P.funcs[(121:Nat)]?=some Tryz.f121
 ftw:P.funcs[(105:Nat)]?=some Tryz.f105
 fmk:P.funcs[(120:Nat)]?=some Tryz.f120
 fct:P.funcs[(134:Nat)]?=some Tryz.f134
 t0:P.underlying 0=some (TypeDesc.tuple #[])
 a0:∀ w,(isAgg 0).run P w = .ok false w
 z0:∀ w,(Go.sizeOf 0).run P w = .ok 1 w
 v0:∀ w,(zeroValue 0).run P w = .ok (Value.tuple #[]) w
 t3:P.underlying 3=some (TypeDesc.int IntKind.i64)
 a3:∀ w,(isAgg 3).run P w = .ok false w
 z3:∀ w,(Go.sizeOf 3).run P w = .ok 1 w
 v3:∀ w,(zeroValue 3).run P w = .ok (Value.int IntKind.i64 0) w
 t4:P.underlying 4=some TypeDesc.bool
 a4:∀ w,(isAgg 4).run P w = .ok false w
 z4:∀ w,(Go.sizeOf 4).run P w = .ok 1 w
 v4:∀ w,(zeroValue 4).run P w = .ok (Value.bool false) w
 t5:P.underlying 5=some (TypeDesc.int IntKind.u8)
 a5:∀ w,(isAgg 5).run P w = .ok false w
 z5:∀ w,(Go.sizeOf 5).run P w = .ok 1 w
 v5:∀ w,(zeroValue 5).run P w = .ok (Value.int IntKind.u8 0) w
 t9:P.underlying 9=some TypeDesc.string
 a9:∀ w,(isAgg 9).run P w = .ok false w
 z9:∀ w,(Go.sizeOf 9).run P w = .ok 1 w
 v9:∀ w,(zeroValue 9).run P w = .ok (Value.string { data:=#[] }) w
 t21:P.underlying 21=some (TypeDesc.int IntKind.i32)
 a21:∀ w,(isAgg 21).run P w = .ok false w
 z21:∀ w,(Go.sizeOf 21).run P w = .ok 1 w
 v21:∀ w,(zeroValue 21).run P w = .ok (Value.int IntKind.i32 0) w
 t26:P.underlying 135=some (TypeDesc.slice 5)
 a26:∀ w,(isAgg 135).run P w = .ok false w
 z26:∀ w,(Go.sizeOf 135).run P w = .ok 1 w
 v26:∀ w,(zeroValue 135).run P w = .ok (Value.slice none 0 0) w
 tS:P.underlying 159=some (TypeDesc.array 256 4)
 aS:∀ w,(isAgg 159).run P w = .ok true w
 zS:∀ w,(Go.sizeOf 159).run P w = .ok 256 w
 iS:(P.info? 159).map (fun i=>(i.zero,i.size))=some (some (.agg (Array.replicate 256 (.bool false))),256)
theorem lsl:LSl Tryz.prog:={
 mixed:=by kernel_rfl
 ftl:=Tryz.func121
 ftw:=Tryz.func105
 fmk:=Tryz.func120
 fct:=Tryz.func134
 t0:=Tryz.underlying0
 a0:=Tryz.isAgg0
 z0:=Tryz.sizeOf0
 v0:=Tryz.zeroValue0
 t3:=Tryz.underlying3
 a3:=Tryz.isAgg3
 z3:=Tryz.sizeOf3
 v3:=Tryz.zeroValue3
 t4:=Tryz.underlying4
 a4:=Tryz.isAgg4
 z4:=Tryz.sizeOf4
 v4:=Tryz.zeroValue4
 t5:=Tryz.underlying5
 a5:=Tryz.isAgg5
 z5:=Tryz.sizeOf5
 v5:=Tryz.zeroValue5
 t9:=Tryz.underlying9
 a9:=Tryz.isAgg9
 z9:=Tryz.sizeOf9
 v9:=Tryz.zeroValue9
 t21:=Tryz.underlying21
 a21:=Tryz.isAgg21
 z21:=Tryz.sizeOf21
 v21:=Tryz.zeroValue21
 t26:=Tryz.underlying135
 a26:=Tryz.isAgg135
 z26:=Tryz.sizeOf135
 v26:=Tryz.zeroValue135
 tS:=Tryz.underlying159
 aS:=Tryz.isAgg159
 zS:=Tryz.sizeOf159
 iS:=by kernel_rfl }
section
variable {P:Program}
theorem sMakeL (L:LSl P) (chars:ByteArray) (w:World) (hs:chars.size<4294967281)
  (hascii:∀ (j:Nat) b,chars.data.toList[j]?=some b→b.toNat<128) :
  Calls P 120 #[.string chars] w fun e w'=>e = .returned (.tuple #[.agg (Lib.setCells chars.data.toList),.bool true])∧w'=w.alloc (.cells (Lib.setCells chars.data.toList) 159):=by
 have hvS:=(zero_of_info L.iS).1;have hiS:=(zero_of_info L.iS).2;have HA:Aside (∀ (j:Nat) b,chars.data.toList[j]?=some b→b.toNat<128):=hascii;clear hascii;have t0:=L.t0;have a0:=L.a0;have z0:=L.z0;have v0:=L.v0;have t3:=L.t3;have a3:=L.a3;have z3:=L.z3;have v3:=L.v3;have t4:=L.t4;have a4:=L.a4;have z4:=L.z4;have v4:=L.v4;have t5:=L.t5;have a5:=L.a5;have z5:=L.z5;have v5:=L.v5
 have t9:=L.t9;have a9:=L.a9;have z9:=L.z9;have v9:=L.v9;have t21:=L.t21;have a21:=L.a21;have z21:=L.z21;have v21:=L.v21;have t26:=L.t26;have a26:=L.a26;have z26:=L.z26;have v26:=L.v26;have tS:=L.tS;go_enter L.fmk,Tryz.ntmps120;go_wp2;rw[←Lib.setCells_nil];go_loopg [4] chars.size (fun g s4 wx=>∃ i:Nat,i+g=chars.size∧s4 = .int .i64 i∧wx=w.alloc (.cells (Lib.setCells (chars.data.toList.take i)) 159))
 case atStart=>exact⟨0,by omega,rfl,rfl⟩
 case round =>
  obtain⟨i,hig,rfl,rfl⟩:=hrel;cases gk with
  | zero =>
   obtain rfl:i=chars.size:=(by omega);have hiz:¬ ((chars.size:Int)<(chars.size:Int)):=(by omega);rw[show chars.data.toList.take chars.size=chars.data.toList from List.take_of_length_le (by rw[←Lib.size_eq];exact yR)];have hld:=run_loadVar_new (P:=P) w 159 (Lib.setCells chars.data.toList) 256 4 L.tS (by rw[Lib.setCells_size];exact hiS);have hsz:=Lib.setCells_size chars.data.toList
   have hlc:=run_loadCellsFrom_new (P:=P) w 159 (Lib.setCells chars.data.toList) 256 hsz;have hsc:=run_storeCells_new (P:=P) w 159 (Lib.setCells chars.data.toList) (Lib.setCells chars.data.toList) (by rw[hsz];exact hiS) rfl (Lib.setCells_one _);go_wp2;simp only[L.aS,L.zS,Result.andThen,↓reduceIte,hlc];rw[Oper.upon_value];go_wp2;simp only[L.zS,Result.andThen,↓reduceIte,hsc];rw[Oper.upon_skip];go_wp2
   (try simp only[Exit.inBlock,Exit.then])
   refine bodyPost_ret (v:=.tuple #[.agg (Lib.setCells chars.data.toList),.bool true]) ?_ rfl ⟨rfl,rfl⟩;rw[results_cell_tmp rfl];simp[asAddr,Result.andThen,hld]
  | succ g =>
   have hi:i<chars.size:=(by omega);have hiz:(i:Int)<(chars.size:Int):=(by omega);obtain⟨x,hx⟩:∃ x:UInt8,chars[i]'hi=x:=⟨_,rfl⟩;have hxl:chars.data.toList[i]?=some x:=(by rw[←hx];exact Lib.data_getElem? chars i hi);have hx128:¬ ((128:Int)≤(x.toNat:Int)):=(by have:=HA.out i x hxl;omega);have hx256:(x.toNat:Int)<256:=(by have:=HA.out i x hxl;omega);have hcell:=Lib.setCells_at (chars.data.toList.take i) x
   have Hx:Aside (chars.data.toList[i]?=some x):=hxl;clear hxl;go_wp2;go_roundg g
   case measure=>omega
   case rel=>exact⟨i+1,by omega,by first|rfl|simp,by rw[List.take_add_one,Hx.out];simp only[Option.toList];rw[Lib.setCells_snoc]⟩
theorem sContainsL (L:LSl P) (b:Nat) (x:UInt8) (v:Bool) (w:World) (hc:w.cell? ⟨b,x.toNat,none⟩=some (.bool v)) :
  Calls P 134 #[.pointer (some ⟨b,0,none⟩),.int .u8 x.toNat] w fun e w'=>e = .returned (.bool v)∧w'=w:=by
 have hx256:(x.toNat:Int)<256:=(by have:=UInt8.toNat_lt x;omega);have t0:=L.t0;have a0:=L.a0;have z0:=L.z0;have v0:=L.v0;have t3:=L.t3;have a3:=L.a3;have z3:=L.z3;have v3:=L.v3;have t4:=L.t4;have a4:=L.a4;have z4:=L.z4;have v4:=L.v4;have t5:=L.t5;have a5:=L.a5;have z5:=L.z5;have v5:=L.v5;have t9:=L.t9;have a9:=L.a9;have z9:=L.z9;have v9:=L.v9;have t21:=L.t21;have a21:=L.a21;have z21:=L.z21;have v21:=L.v21
 have t26:=L.t26;have a26:=L.a26;have z26:=L.z26;have v26:=L.v26;have tS:=L.tS;go_enter L.fct,Tryz.ntmps134;go_wp2;go_ret;exact⟨rfl,rfl⟩
theorem sTrimLL (L:LSl P) (b:Nat) (p:UInt8→Bool) (l:List UInt8) (_hl:l.length≤16777216) (w:World) (hc:∀ x:UInt8,w.cell? ⟨b,x.toNat,none⟩=some (.bool (p x))) :
  Calls P 121 #[.string ⟨l.toArray⟩,.pointer (some ⟨b,0,none⟩)] w fun e w'=>e = .returned (.string ⟨(l.dropWhile p).toArray⟩)∧w'=w:=by
 have HC:=yH hc;clear hc;have t0:=L.t0;have a0:=L.a0;have z0:=L.z0;have v0:=L.v0;have t3:=L.t3;have a3:=L.a3;have z3:=L.z3;have v3:=L.v3;have t4:=L.t4;have a4:=L.a4;have z4:=L.z4;have v4:=L.v4;have t5:=L.t5;have a5:=L.a5;have z5:=L.z5;have v5:=L.v5;have t9:=L.t9;have a9:=L.a9;have z9:=L.z9;have v9:=L.v9;have t21:=L.t21;have a21:=L.a21;have z21:=L.z21;have v21:=L.v21
 have t26:=L.t26;have a26:=L.a26;have z26:=L.z26;have v26:=L.v26;have tS:=L.tS;have e3:∀ args w,(callFunc 134 args).run P w = .ok (.enter 134 args) w:=enters_of L.fct (by kernel_rfl) rfl;go_enter L.ftl,Tryz.ntmps121;go_wp2;go_loopg [0] l.length (fun g s0 wx=>∃ r:List UInt8,r.length≤g∧s0 = .string ⟨r.toArray⟩∧r.length≤l.length∧wx=w∧l.dropWhile p=r.dropWhile p)
 case atStart=>exact⟨l,yR,rfl,yR,rfl,rfl⟩
 case round =>
  obtain⟨r,hg,rfl,hr,rfl,he⟩:=hrel;have HE:=yH he;clear he;cases r with
  | nil =>
   have hz:(⟨([]:List UInt8).toArray⟩:ByteArray).size=0:=rfl;go_wp2;go_ret;exact⟨by rw[HE.out];rfl,rfl⟩
  | cons x r =>
   have hz:(⟨(x :: r).toArray⟩:ByteArray).size=r.length+1:=(by show (x :: r).toArray.size=_;simp);have hx:∀ h,(⟨(x :: r).toArray⟩:ByteArray)[0]'h=x:=fun h=>by rw[byte_at];rfl
   have hcx:=HC.out x;cases hp:p x
   ·rw[hp] at hcx;go_wp2_with (go_at_fn 134;refine(sContainsL L b x false _ hcx).mono ?_;rintro e w' ⟨rfl,hw⟩;rw[hw])
    go_ret;exact⟨by rw[HE.out,List.dropWhile_cons_of_neg (by simp[hp])];rfl,rfl⟩
   ·rw[hp] at hcx;go_wp2_with (go_at_fn 134;refine(sContainsL L b x true _ hcx).mono ?_;rintro e w' ⟨rfl,hw⟩;rw[hw])
    go_roundg (gk-1)
    case measure=>simp at hg;omega
    case rel=>exact⟨r,by simp at hg;omega,by rw[ba_extract];simp,by simp at hr;omega,rfl,by rw[HE.out,List.dropWhile_cons_of_pos hp]⟩
theorem sTrimLeft (L:LSl P) (l:List UInt8) (hl:l.length≤16777216) (chars:ByteArray) (h2:2≤chars.size) (hcs:chars.size<4294967281) (hascii:∀ (j:Nat) b,chars.data.toList[j]?=some b→b.toNat<128) (w:World) :
  Calls P 105 #[.string ⟨l.toArray⟩,.string chars] w fun e w'=>e = .returned (.string ⟨(l.dropWhile chars.data.toList.contains).toArray⟩)∧Below w.heap.size w w':=by
 have hiS:=(zero_of_info L.iS).2;have hvS:=(zero_of_info L.iS).1;have hM:=sMakeL L chars w hcs hascii;clear hascii
 have hemp:chars.toList.isEmpty=false:=by
  rw[Lib.toList_data];cases h:chars.data.toList with
  | nil=>have:=Lib.size_eq chars;rw[h,List.length_nil] at this;omega
  | cons _ _=>rfl
 have hn1:((chars.size:Int)==1)=false:=yB;obtain⟨w2,hw2⟩:∃ w2,w2=((w.alloc (.cells (Lib.setCells chars.data.toList) 159)).alloc (.cells (Lib.setCells chars.data.toList) 159)):=⟨_,rfl⟩
 have hsc:(storeCells ⟨w.heap.size+1,0,none⟩ (Lib.setCells chars.data.toList).toList 0).run P ((w.alloc (.cells (Lib.setCells chars.data.toList) 159)).alloc (.cells (Array.replicate 256 (.bool false)) 159)) = .ok () w2:=by
  have:=run_storeCells_new (P:=P) (w.alloc (.cells (Lib.setCells chars.data.toList) 159)) 159 (Array.replicate 256 (.bool false)) (Lib.setCells chars.data.toList) (by rw[Lib.setCells_size];exact hiS) (by rw[Lib.setCells_size,Array.size_replicate]) (Lib.setCells_one _);rw[hw2];simpa using this
 have hsz:=Lib.setCells_size chars.data.toList
 have hcellAt:∀ x:UInt8,w2.cell? ⟨w.heap.size+1,x.toNat,none⟩=some (.bool (chars.data.toList.contains x)):=fun x=>by
  rw[hw2,World.cell?_alloc_at _ _ _ _ (by simp),Lib.setCells_at]
 have hb:Below w.heap.size w w2:=by
  rw[hw2];exact(yA).alloc (by simp) _
 have HL:=sTrimLL L (w.heap.size+1) chars.data.toList.contains l hl w2 hcellAt;have HB:=yH hb;clear hcellAt hb hw2;have t0:=L.t0;have a0:=L.a0;have z0:=L.z0;have v0:=L.v0;have t3:=L.t3;have a3:=L.a3;have z3:=L.z3;have v3:=L.v3;have t4:=L.t4;have a4:=L.a4;have z4:=L.z4;have v4:=L.v4;have t5:=L.t5;have a5:=L.a5;have z5:=L.z5;have v5:=L.v5;have t9:=L.t9;have a9:=L.a9;have z9:=L.z9;have v9:=L.v9
 have t21:=L.t21;have a21:=L.a21;have z21:=L.z21;have v21:=L.v21;have t26:=L.t26;have a26:=L.a26;have z26:=L.z26;have v26:=L.v26;have tS:=L.tS;have e1:∀ args w,(callFunc 120 args).run P w = .ok (.enter 120 args) w:=enters_of L.fmk (by kernel_rfl) rfl;have e3:∀ args w,(callFunc 121 args).run P w = .ok (.enter 121 args) w:=enters_of L.ftl (by kernel_rfl) rfl;cases l with
 | nil =>
  clear HL hM hsc;go_enter L.ftw,Tryz.ntmps105;go_wp2;go_ret;exact⟨rfl,Below.refl _ _⟩
 | cons x l =>
  have hempl:(x :: l).isEmpty=false:=rfl;go_enter L.ftw,Tryz.ntmps105;go_wp2_with (go_at_fn 120;refine hM.mono ?_;rintro e w' ⟨rfl,hw⟩;rw[hw])
  simp only[L.zS,Result.andThen,↓reduceIte,hsc];rw[Oper.upon_skip];clear hM hsc;go_wp2_with (go_at_fn 121;refine HL.mono ?_;rintro e w' ⟨rfl,hw⟩;rw[hw])
  go_ret;exact⟨rfl,HB.out⟩
end
structure LS (P:Program):Prop where
 mixed:P.follows .mixedOrders=true
 ftr:P.funcs[(126:Nat)]?=some Tryz.f126
 ftl:P.funcs[(121:Nat)]?=some Tryz.f121
 ftt:P.funcs[(139:Nat)]?=some Tryz.f139
 fmk:P.funcs[(120:Nat)]?=some Tryz.f120
 fct:P.funcs[(134:Nat)]?=some Tryz.f134
 t0:P.underlying 0=some (TypeDesc.tuple #[])
 a0:∀ w,(isAgg 0).run P w = .ok false w
 z0:∀ w,(Go.sizeOf 0).run P w = .ok 1 w
 v0:∀ w,(zeroValue 0).run P w = .ok (Value.tuple #[]) w
 t3:P.underlying 3=some (TypeDesc.int IntKind.i64)
 a3:∀ w,(isAgg 3).run P w = .ok false w
 z3:∀ w,(Go.sizeOf 3).run P w = .ok 1 w
 v3:∀ w,(zeroValue 3).run P w = .ok (Value.int IntKind.i64 0) w
 t4:P.underlying 4=some TypeDesc.bool
 a4:∀ w,(isAgg 4).run P w = .ok false w
 z4:∀ w,(Go.sizeOf 4).run P w = .ok 1 w
 v4:∀ w,(zeroValue 4).run P w = .ok (Value.bool false) w
 t5:P.underlying 5=some (TypeDesc.int IntKind.u8)
 a5:∀ w,(isAgg 5).run P w = .ok false w
 z5:∀ w,(Go.sizeOf 5).run P w = .ok 1 w
 v5:∀ w,(zeroValue 5).run P w = .ok (Value.int IntKind.u8 0) w
 t9:P.underlying 9=some TypeDesc.string
 a9:∀ w,(isAgg 9).run P w = .ok false w
 z9:∀ w,(Go.sizeOf 9).run P w = .ok 1 w
 v9:∀ w,(zeroValue 9).run P w = .ok (Value.string { data:=#[] }) w
 t21:P.underlying 21=some (TypeDesc.int IntKind.i32)
 a21:∀ w,(isAgg 21).run P w = .ok false w
 z21:∀ w,(Go.sizeOf 21).run P w = .ok 1 w
 v21:∀ w,(zeroValue 21).run P w = .ok (Value.int IntKind.i32 0) w
 t26:P.underlying 135=some (TypeDesc.slice 5)
 a26:∀ w,(isAgg 135).run P w = .ok false w
 z26:∀ w,(Go.sizeOf 135).run P w = .ok 1 w
 v26:∀ w,(zeroValue 135).run P w = .ok (Value.slice none 0 0) w
 tS:P.underlying 159=some (TypeDesc.array 256 4)
 aS:∀ w,(isAgg 159).run P w = .ok true w
 zS:∀ w,(Go.sizeOf 159).run P w = .ok 256 w
 iS:(P.info? 159).map (fun i=>(i.zero,i.size))=some (some (.agg (Array.replicate 256 (.bool false))),256)
theorem ls:LS Tryz.prog:={
 mixed:=by kernel_rfl
 ftr:=Tryz.func126
 ftl:=Tryz.func121
 ftt:=Tryz.func139
 fmk:=Tryz.func120
 fct:=Tryz.func134
 t0:=Tryz.underlying0
 a0:=Tryz.isAgg0
 z0:=Tryz.sizeOf0
 v0:=Tryz.zeroValue0
 t3:=Tryz.underlying3
 a3:=Tryz.isAgg3
 z3:=Tryz.sizeOf3
 v3:=Tryz.zeroValue3
 t4:=Tryz.underlying4
 a4:=Tryz.isAgg4
 z4:=Tryz.sizeOf4
 v4:=Tryz.zeroValue4
 t5:=Tryz.underlying5
 a5:=Tryz.isAgg5
 z5:=Tryz.sizeOf5
 v5:=Tryz.zeroValue5
 t9:=Tryz.underlying9
 a9:=Tryz.isAgg9
 z9:=Tryz.sizeOf9
 v9:=Tryz.zeroValue9
 t21:=Tryz.underlying21
 a21:=Tryz.isAgg21
 z21:=Tryz.sizeOf21
 v21:=Tryz.zeroValue21
 t26:=Tryz.underlying135
 a26:=Tryz.isAgg135
 z26:=Tryz.sizeOf135
 v26:=Tryz.zeroValue135
 tS:=Tryz.underlying159
 aS:=Tryz.isAgg159
 zS:=Tryz.sizeOf159
 iS:=by kernel_rfl }
section
variable {P:Program}
theorem sMake (L:LS P) (chars:ByteArray) (w:World) (hs:chars.size<4294967281)
  (hascii:∀ (j:Nat) b,chars.data.toList[j]?=some b→b.toNat<128) :
  Calls P 120 #[.string chars] w fun e w'=>e = .returned (.tuple #[.agg (Lib.setCells chars.data.toList),.bool true])∧w'=w.alloc (.cells (Lib.setCells chars.data.toList) 159):=by
 have hvS:=(zero_of_info L.iS).1;have hiS:=(zero_of_info L.iS).2;have HA:Aside (∀ (j:Nat) b,chars.data.toList[j]?=some b→b.toNat<128):=hascii;clear hascii;have t0:=L.t0;have a0:=L.a0;have z0:=L.z0;have v0:=L.v0;have t3:=L.t3;have a3:=L.a3;have z3:=L.z3;have v3:=L.v3;have t4:=L.t4;have a4:=L.a4;have z4:=L.z4;have v4:=L.v4;have t5:=L.t5;have a5:=L.a5;have z5:=L.z5;have v5:=L.v5
 have t9:=L.t9;have a9:=L.a9;have z9:=L.z9;have v9:=L.v9;have t21:=L.t21;have a21:=L.a21;have z21:=L.z21;have v21:=L.v21;have t26:=L.t26;have a26:=L.a26;have z26:=L.z26;have v26:=L.v26;have tS:=L.tS;go_enter L.fmk,Tryz.ntmps120;go_wp2;rw[←Lib.setCells_nil];go_loopg [4] chars.size (fun g s4 wx=>∃ i:Nat,i+g=chars.size∧s4 = .int .i64 i∧wx=w.alloc (.cells (Lib.setCells (chars.data.toList.take i)) 159))
 case atStart=>exact⟨0,by omega,rfl,rfl⟩
 case round =>
  obtain⟨i,hig,rfl,rfl⟩:=hrel;cases gk with
  | zero =>
   obtain rfl:i=chars.size:=(by omega);have hiz:¬ ((chars.size:Int)<(chars.size:Int)):=(by omega);rw[show chars.data.toList.take chars.size=chars.data.toList from List.take_of_length_le (by rw[←Lib.size_eq];exact yR)];have hld:=run_loadVar_new (P:=P) w 159 (Lib.setCells chars.data.toList) 256 4 L.tS (by rw[Lib.setCells_size];exact hiS);have hsz:=Lib.setCells_size chars.data.toList
   have hlc:=run_loadCellsFrom_new (P:=P) w 159 (Lib.setCells chars.data.toList) 256 hsz;have hsc:=run_storeCells_new (P:=P) w 159 (Lib.setCells chars.data.toList) (Lib.setCells chars.data.toList) (by rw[hsz];exact hiS) rfl (Lib.setCells_one _);go_wp2;simp only[L.aS,L.zS,Result.andThen,↓reduceIte,hlc];rw[Oper.upon_value];go_wp2;simp only[L.zS,Result.andThen,↓reduceIte,hsc];rw[Oper.upon_skip];go_wp2
   (try simp only[Exit.inBlock,Exit.then])
   refine bodyPost_ret (v:=.tuple #[.agg (Lib.setCells chars.data.toList),.bool true]) ?_ rfl ⟨rfl,rfl⟩;rw[results_cell_tmp rfl];simp[asAddr,Result.andThen,hld]
  | succ g =>
   have hi:i<chars.size:=(by omega);have hiz:(i:Int)<(chars.size:Int):=(by omega);obtain⟨x,hx⟩:∃ x:UInt8,chars[i]'hi=x:=⟨_,rfl⟩;have hxl:chars.data.toList[i]?=some x:=(by rw[←hx];exact Lib.data_getElem? chars i hi);have hx128:¬ ((128:Int)≤(x.toNat:Int)):=(by have:=HA.out i x hxl;omega);have hx256:(x.toNat:Int)<256:=(by have:=HA.out i x hxl;omega);have hcell:=Lib.setCells_at (chars.data.toList.take i) x
   have Hx:Aside (chars.data.toList[i]?=some x):=hxl;clear hxl;go_wp2;go_roundg g
   case measure=>omega
   case rel=>exact⟨i+1,by omega,by first|rfl|simp,by rw[List.take_add_one,Hx.out];simp only[Option.toList];rw[Lib.setCells_snoc]⟩
theorem sContains (L:LS P) (b:Nat) (x:UInt8) (v:Bool) (w:World) (hc:w.cell? ⟨b,x.toNat,none⟩=some (.bool v)) :
  Calls P 134 #[.pointer (some ⟨b,0,none⟩),.int .u8 x.toNat] w fun e w'=>e = .returned (.bool v)∧w'=w:=by
 have hx256:(x.toNat:Int)<256:=(by have:=UInt8.toNat_lt x;omega);have t0:=L.t0;have a0:=L.a0;have z0:=L.z0;have v0:=L.v0;have t3:=L.t3;have a3:=L.a3;have z3:=L.z3;have v3:=L.v3;have t4:=L.t4;have a4:=L.a4;have z4:=L.z4;have v4:=L.v4;have t5:=L.t5;have a5:=L.a5;have z5:=L.z5;have v5:=L.v5;have t9:=L.t9;have a9:=L.a9;have z9:=L.z9;have v9:=L.v9;have t21:=L.t21;have a21:=L.a21;have z21:=L.z21;have v21:=L.v21
 have t26:=L.t26;have a26:=L.a26;have z26:=L.z26;have v26:=L.v26;have tS:=L.tS;go_enter L.fct,Tryz.ntmps134;go_wp2;go_ret;exact⟨rfl,rfl⟩
theorem sTrimL (L:LS P) (b:Nat) (p:UInt8→Bool) (l:List UInt8) (_hl:l.length≤16777216) (w:World) (hc:∀ x:UInt8,w.cell? ⟨b,x.toNat,none⟩=some (.bool (p x))) :
  Calls P 121 #[.string ⟨l.toArray⟩,.pointer (some ⟨b,0,none⟩)] w fun e w'=>e = .returned (.string ⟨(l.dropWhile p).toArray⟩)∧w'=w:=by
 have HC:=yH hc;clear hc;have t0:=L.t0;have a0:=L.a0;have z0:=L.z0;have v0:=L.v0;have t3:=L.t3;have a3:=L.a3;have z3:=L.z3;have v3:=L.v3;have t4:=L.t4;have a4:=L.a4;have z4:=L.z4;have v4:=L.v4;have t5:=L.t5;have a5:=L.a5;have z5:=L.z5;have v5:=L.v5;have t9:=L.t9;have a9:=L.a9;have z9:=L.z9;have v9:=L.v9;have t21:=L.t21;have a21:=L.a21;have z21:=L.z21;have v21:=L.v21
 have t26:=L.t26;have a26:=L.a26;have z26:=L.z26;have v26:=L.v26;have tS:=L.tS;have e3:∀ args w,(callFunc 134 args).run P w = .ok (.enter 134 args) w:=enters_of L.fct (by kernel_rfl) rfl;go_enter L.ftl,Tryz.ntmps121;go_wp2;go_loopg [0] l.length (fun g s0 wx=>∃ r:List UInt8,r.length≤g∧s0 = .string ⟨r.toArray⟩∧r.length≤l.length∧wx=w∧l.dropWhile p=r.dropWhile p)
 case atStart=>exact⟨l,yR,rfl,yR,rfl,rfl⟩
 case round =>
  obtain⟨r,hg,rfl,hr,rfl,he⟩:=hrel;have HE:=yH he;clear he;cases r with
  | nil =>
   have hz:(⟨([]:List UInt8).toArray⟩:ByteArray).size=0:=rfl;go_wp2;go_ret;exact⟨by rw[HE.out];rfl,rfl⟩
  | cons x r =>
   have hz:(⟨(x :: r).toArray⟩:ByteArray).size=r.length+1:=(by show (x :: r).toArray.size=_;simp);have hx:∀ h,(⟨(x :: r).toArray⟩:ByteArray)[0]'h=x:=fun h=>by rw[byte_at];rfl
   have hcx:=HC.out x;cases hp:p x
   ·rw[hp] at hcx;go_wp2_with (go_at_fn 134;refine(sContains L b x false _ hcx).mono ?_;rintro e w' ⟨rfl,hw⟩;rw[hw])
    go_ret;exact⟨by rw[HE.out,List.dropWhile_cons_of_neg (by simp[hp])];rfl,rfl⟩
   ·rw[hp] at hcx;go_wp2_with (go_at_fn 134;refine(sContains L b x true _ hcx).mono ?_;rintro e w' ⟨rfl,hw⟩;rw[hw])
    go_roundg (gk-1)
    case measure=>simp at hg;omega
    case rel=>exact⟨r,by simp at hg;omega,by rw[ba_extract];simp,by simp at hr;omega,rfl,by rw[HE.out,List.dropWhile_cons_of_pos hp]⟩
theorem sTrimR (L:LS P) (b:Nat) (p:UInt8→Bool) (l:List UInt8) (hl:l.length≤16777216) (w:World) (hc:∀ x:UInt8,w.cell? ⟨b,x.toNat,none⟩=some (.bool (p x))) :
  Calls P 139 #[.string ⟨l.toArray⟩,.pointer (some ⟨b,0,none⟩)] w fun e w'=>∃ r:List UInt8,e = .returned (.string ⟨r.toArray⟩)∧w'=w∧r.length≤l.length∧l.all p=r.all p∧(r=[]∨r.all p=false):=by
 have HC:=yH hc;clear hc;have t0:=L.t0;have a0:=L.a0;have z0:=L.z0;have v0:=L.v0;have t3:=L.t3;have a3:=L.a3;have z3:=L.z3;have v3:=L.v3;have t4:=L.t4;have a4:=L.a4;have z4:=L.z4;have v4:=L.v4;have t5:=L.t5;have a5:=L.a5;have z5:=L.z5;have v5:=L.v5;have t9:=L.t9;have a9:=L.a9;have z9:=L.z9;have v9:=L.v9;have t21:=L.t21;have a21:=L.a21;have z21:=L.z21;have v21:=L.v21
 have t26:=L.t26;have a26:=L.a26;have z26:=L.z26;have v26:=L.v26;have tS:=L.tS;have e3:∀ args w,(callFunc 134 args).run P w = .ok (.enter 134 args) w:=enters_of L.fct (by kernel_rfl) rfl;go_enter L.ftt,Tryz.ntmps139;go_wp2;go_loopg [0] l.length (fun g s0 wx=>∃ r:List UInt8,r.length≤g∧s0 = .string ⟨r.toArray⟩∧r.length≤l.length∧wx=w∧l.all p=r.all p)
 case atStart=>exact⟨l,yR,rfl,yR,rfl,rfl⟩
 case round =>
  obtain⟨r,hg,rfl,hr,rfl,he⟩:=hrel;have HE:=yH he;clear he;rcases List.eq_nil_or_concat r with rfl|⟨r,x,rfl⟩
  ·have hz:(⟨([]:List UInt8).toArray⟩:ByteArray).size=0:=rfl;go_wp2;go_ret;exact⟨[],rfl,rfl,Nat.zero_le _,HE.out,.inl rfl⟩
  ·rw[List.concat_eq_append] at hg hr ⊢;have HE2:=yH (show l.all p=(r++[x]).all p by rw[←List.concat_eq_append];exact HE.out);obtain⟨q,hq⟩:∃ q,q=r++[x]:=⟨_,rfl⟩;rw[←hq];have hz:(⟨q.toArray⟩:ByteArray).size=r.length+1:=(by show q.toArray.size=_;rw[hq];simp);have hx:∀ h,(⟨q.toArray⟩:ByteArray)[r.length]'h=x:=fun h=>by rw[byte_at,hq];simp
   have HX:(⟨q.toArray⟩:ByteArray).extract 0 r.length=⟨r.toArray⟩:=(by rw[ba_extract,hq];simp);have hrl:r.length+1≤l.length:=(by simpa using hr);have HQ:=yH hq;have hcx:=HC.out x;clear hq hr;cases hp:p x
   ·rw[hp] at hcx;go_wp2_with (go_at_fn 134;refine(sContains L b x false _ hcx).mono ?_;rintro e w' ⟨rfl,hw⟩;rw[hw])
    go_ret;exact⟨q,rfl,rfl,by rw[HQ.out];simpa using hrl,by rw[HE2.out,HQ.out],.inr (by rw[HQ.out];simp[hp])⟩
   ·rw[hp] at hcx;go_wp2_with (go_at_fn 134;refine(sContains L b x true _ hcx).mono ?_;rintro e w' ⟨rfl,hw⟩;rw[hw])
    go_roundg (gk-1)
    case measure=>simp at hg;omega
    case rel=>exact⟨r,by simp at hg;omega,rfl,by omega,rfl,by rw[HE2.out];simp[hp]⟩
theorem drop_nil {p:UInt8→Bool}:∀ {l:List UInt8},l.dropWhile p=[] ↔ l.all p=true
 | []=>by simp
 | x :: l=>by
  cases h:p x
  ·simp[h]
  ·simp only[List.dropWhile_cons,h,if_true,List.all_cons,Bool.true_and];exact drop_nil
theorem sTrim (L:LS P) (l:List UInt8) (hl:l.length≤16777216) (hl0:l≠[]) (chars:ByteArray) (h2:2≤chars.size) (hcs:chars.size<4294967281) (hascii:∀ (j:Nat) b,chars.data.toList[j]?=some b→b.toNat<128) (w:World) :
  Calls P 126 #[.string ⟨l.toArray⟩,.string chars] w fun e w'=>∃ r:List UInt8,e = .returned (.string ⟨r.toArray⟩)∧(r=[] ↔ l.all chars.data.toList.contains=true)∧r.length≤l.length∧Below w.heap.size w w':=by
 have hiS:=(zero_of_info L.iS).2;have hvS:=(zero_of_info L.iS).1;have hM:=sMake L chars w hcs hascii;clear hascii
 have hemp:chars.toList.isEmpty=false:=by
  rw[Lib.toList_data];cases h:chars.data.toList with
  | nil=>have:=Lib.size_eq chars;rw[h,List.length_nil] at this;omega
  | cons _ _=>rfl
 have hempl:l.isEmpty=false:=by
  cases l with
  | nil=>exact absurd rfl hl0
  | cons _ _=>rfl
 have hn1:((chars.size:Int)==1)=false:=yB;obtain⟨w2,hw2⟩:∃ w2,w2=((w.alloc (.cells (Lib.setCells chars.data.toList) 159)).alloc (.cells (Lib.setCells chars.data.toList) 159)):=⟨_,rfl⟩
 have hsc:(storeCells ⟨w.heap.size+1,0,none⟩ (Lib.setCells chars.data.toList).toList 0).run P ((w.alloc (.cells (Lib.setCells chars.data.toList) 159)).alloc (.cells (Array.replicate 256 (.bool false)) 159)) = .ok () w2:=by
  have:=run_storeCells_new (P:=P) (w.alloc (.cells (Lib.setCells chars.data.toList) 159)) 159 (Array.replicate 256 (.bool false)) (Lib.setCells chars.data.toList) (by rw[Lib.setCells_size];exact hiS) (by rw[Lib.setCells_size,Array.size_replicate]) (Lib.setCells_one _);rw[hw2];simpa using this
 have hsz:=Lib.setCells_size chars.data.toList
 have hcellAt:∀ x:UInt8,w2.cell? ⟨w.heap.size+1,x.toNat,none⟩=some (.bool (chars.data.toList.contains x)):=fun x=>by
  rw[hw2,World.cell?_alloc_at _ _ _ _ (by simp),Lib.setCells_at]
 have hb:Below w.heap.size w w2:=by
  rw[hw2];exact(yA).alloc (by simp) _
 have HR:=sTrimR L (w.heap.size+1) chars.data.toList.contains l hl w2 hcellAt;have HL:=fun r hr=>sTrimL L (w.heap.size+1) chars.data.toList.contains r hr w2 hcellAt;have HB:=yH hb;clear hcellAt hb hw2;have t0:=L.t0;have a0:=L.a0;have z0:=L.z0;have v0:=L.v0;have t3:=L.t3;have a3:=L.a3;have z3:=L.z3;have v3:=L.v3;have t4:=L.t4;have a4:=L.a4;have z4:=L.z4;have v4:=L.v4;have t5:=L.t5;have a5:=L.a5;have z5:=L.z5;have v5:=L.v5
 have t9:=L.t9;have a9:=L.a9;have z9:=L.z9;have v9:=L.v9;have t21:=L.t21;have a21:=L.a21;have z21:=L.z21;have v21:=L.v21;have t26:=L.t26;have a26:=L.a26;have z26:=L.z26;have v26:=L.v26;have tS:=L.tS;have e1:∀ args w,(callFunc 120 args).run P w = .ok (.enter 120 args) w:=enters_of L.fmk (by kernel_rfl) rfl;have e2:∀ args w,(callFunc 139 args).run P w = .ok (.enter 139 args) w:=enters_of L.ftt (by kernel_rfl) rfl
 have e3:∀ args w,(callFunc 121 args).run P w = .ok (.enter 121 args) w:=enters_of L.ftl (by kernel_rfl) rfl;go_enter L.ftr,Tryz.ntmps126;go_wp2_with (go_at_fn 120;refine hM.mono ?_;rintro e w' ⟨rfl,hw⟩;rw[hw])
 simp only[L.zS,Result.andThen,↓reduceIte,hsc];rw[Oper.upon_skip];clear hM hsc
 go_wp2_with (first
  | (go_at_fn 139;refine HR.mono ?_;rintro e w' ⟨r,rfl,hw,h1,h2,h3⟩;rw[hw];have HQ:=yH (And.intro h1 (And.intro h2 h3));have hL:=HL r (by omega);clear h1 h2 h3 hw)
  | (go_at_fn 121;refine hL.mono ?_;rintro e w' ⟨rfl,hw⟩;rw[hw]))
 go_ret;refine⟨_,rfl,?_,?_,HB.out⟩
 ·obtain⟨h1,h2,h3⟩:=HQ.out;rw[h2];exact drop_nil
 ·exact Nat.le_trans (List.Sublist.length_le (List.dropWhile_sublist _)) HQ.out.1
end
end Go.Proofs.YtodlhhfcjkjapaaGreatDoor
