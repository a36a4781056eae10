import Derived.Test.YtodlhhfcjkjapaaGreatDoorDR
namespace Go.Proofs.YtodlhhfcjkjapaaGreatDoor
open Go.RowKit
theorem csrc_out (l:List UInt8):∃ (L:List Cd.Op) (md p c:Nat),(∀ row top md',Ck.source l = .ok (md',row,top)→L=Cd.of row top) ∧ ∀ w e w',CSrc (Cd.source l) w e w' → ∃ oa oc,Below w.heap.size w w'∧e = .returned (.tuple #[.slice oa L.length oc,.int .i64 (md:Int),.int .i64 (p:Int),.int .i64 (c:Int)])∧OR w' (.slice oa L.length oc) L:=by
 rcases code_cases l with ⟨p,c,ha,hs⟩|⟨md,row,top,ha,hs⟩
 ·refine⟨[],0,p,c,fun row top md' h=>(by rw[ha] at h;cases h),fun w e w' h=>?_⟩;rw[hs] at h;obtain⟨hb,rfl,_⟩:=h;exact⟨none,0,hb,rfl,OR.nil _⟩
 ·refine⟨Cd.of row top,md,0,0,fun row' top' md' h=>(by rw[ha] at h;cases h;rfl),fun w e w' h=>?_⟩;rw[hs] at h;obtain⟨hb,ov,rfl,ho⟩:=h;have hor:=OR.of ho rfl;obtain⟨oa,oc,rfl⟩:=hor.form;exact⟨oa,oc,hb,rfl,hor⟩
set_option maxRecDepth 20000 in
set_option maxHeartbeats 8000000 in
theorem lawAllQ (s:ByteArray) (hs:s.size≤maxLen) (w:World) (hS:SHP w) :
  Calls Tryz.prog 3 #[.string s] w fun e w'=>e = .returned (.bool true)∧Below w.heap.size w w':=by
 have SW:=shown_any w hS;have SH:=yH (fun wx=>short_any s hs wx);obtain⟨l,hl⟩:∃ l,s.data.toList.take 2100=l:=⟨_,rfl⟩;rw[hl] at SH;have hll:l.length≤1048576:=(by rw[←hl,List.length_take];omega);have PA:=yH (fun wx hx=>csource_any l hll wx hx);have RA:=yH (fun wx=>rsource18_any l hll wx);have KA:=yH (fun wx=>rsource_any l hll wx);obtain⟨L,md,p,c,hL,hout⟩:=csrc_out l;have HOUT:=yH hout
 have HLL:Hid (∀ row top md',Ck.source l = .ok (md',row,top)→L=Cd.of row top):=yH hL;have HS:=yH hS;clear hS hl hs hll hout hL;go_enter Tryz.func3,Tryz.ntmps3;go_wp2_with fail
 refine SW.mono ?_;rintro e wa ⟨rfl,hba⟩;have HBA:=yH hba;clear SW hba;go_wp2_with fail
 refine(SH.out _).mono ?_;rintro e w1 ⟨rfl,hw⟩;obtain rfl:=hw.symm;clear hw SH;go_wp2_with fail
 refine(PA.out _ (HS.out.below HBA.out)).mono ?_;rintro e w2 hP;obtain⟨oa,ac,hb2,rfl,ha⟩:=HOUT.out _ _ _ hP;have HB2:=yH (HBA.out.trans (hb2.mono HBA.out.size));have HA:=yH ha;clear hP hb2 ha PA;go_wp2_with fail
 refine(RA.out _).mono ?_;rintro e w3 hP;obtain⟨ob,bc,hb3,rfl,hb⟩:=HOUT.out _ _ _ hP;have SM:=yH (rsame18_any (HA.out.below hb3) hb);have HB3:=yH (HB2.out.trans (hb3.mono HB2.out.size));have HOB:=yH hb;clear hP hb3 hb RA;go_wp2_with fail
 refine SM.out.mono ?_;rintro e w4 ⟨rfl,hb4⟩;have HB4:=yH (HB3.out.trans (hb4.mono HB3.out.size));have HO4:=yH (HOB.out.below hb4);clear hb4 SM;go_wp2_with fail
 refine(KA.out _).mono ?_;rintro e w5 hP;obtain⟨hb5,hP⟩:=hP;have HB5:=yH (HB4.out.trans (hb5.mono HB4.out.size));have HO5:=yH (HO4.out.below hb5);clear hb5 KA;cases hx:Ck.source l with
 | error y =>
  obtain⟨p2,e2⟩:=y;rw[hx] at hP;obtain⟨rfl,hc⟩:=hP;obtain⟨f1,f2,f3⟩:=neF e2 hc;have HF:=yH (fun o=>HB5.out.alloc HB5.out.size o);clear hc hx;go_wp2;go_ret;exact⟨by first|rfl|simp,HF.out _⟩
 | ok y =>
  obtain⟨md2,row,top⟩:=y;rw[hx] at hP;obtain⟨sv2,tv2,rfl,hpr⟩:=hP;have hLe:=HLL.out row top md2 hx;obtain⟨a3,c3,u3,d3,rfl,rfl⟩:=pr_formed hpr;obtain⟨w6,hw6⟩:∃ x,w5.alloc (.cells #[.int .i64 (md2:Int),.slice a3 row.length c3,.slice u3 top.length d3] 32)=x:=⟨_,rfl⟩;have hb6:Below w5.heap.size w5 w6:=(by rw[←hw6];exact yA);obtain⟨q3,hq3⟩:∃ q,w5.heap.size=q:=⟨_,rfl⟩
  have hz6:H3 w6 q3 [.int .i64 (md2:Int),.slice a3 row.length c3,.slice u3 top.length d3]:=(by rw[←hw6,←hq3];exact heap_alloc_new _ _);have OFC:=yH (of_told (hpr.below hb6) hx);rw[←hLe] at OFC;have HB6:=yH (HB5.out.trans (hb6.mono HB5.out.size));have HO6:=yH (HO5.out.below hb6);have HW6:=yH hw6;have HQ3:=yH hq3;have r0:=hz6.cell (i:=0) rfl;have r1:=hz6.cell (i:=1) rfl;have r2:=hz6.cell (i:=2) rfl;clear hx hLe hpr hw6 hb6 hq3 hz6
  go_upto_region 9 with fail
  rw[HW6.out,HQ3.out];go_wp2_with fail
  refine OFC.out.mono ?_;rintro e w7 ⟨hb7,ov,rfl,ho⟩;have hor:=OR.of ho rfl;have SM2:=yH (rsame18_any hor (HO6.out.below hb7));have HB7:=yH (HB6.out.trans (hb7.mono HB6.out.size));clear OFC hb7 ho hor r0 r1 r2;go_wp2_with fail
  refine SM2.out.mono ?_;rintro e w8 ⟨rfl,hb8⟩;have HB8:=yH (HB7.out.trans (hb8.mono HB7.out.size));clear SM2 hb8;go_wp2;go_ret;exact⟨by first|rfl|simp,HB8.out⟩
end Go.Proofs.YtodlhhfcjkjapaaGreatDoor
