import Derived.Test.YtodlhhfcjkjapaaGreatDoorPF
import Derived.Test.YtodlhhfcjkjapaaGreatDoorRows
import Derived.Lib.LaidTab
import Derived.Stop.LaidErr
import Derived.OpenShut
namespace Go.Proofs.YtodlhhfcjkjapaaGreatDoor
open Go.RowKit Go.ChangeShapes Go.WideShapes
theorem gShapes:Tryz.prog.globalNamed "rejoinder/parse.shapes" = some 0:=by kernel_rfl
theorem gShapesType:(Tryz.prog.globals[0]?).map (·.type)=some 129:=by kernel_rfl
theorem c18:Tryz.prog.cellsOf 129=18:=by kernel_rfl
theorem c1s:Tryz.prog.cellsOf 9=1:=by kernel_rfl
theorem shapes_eq {H:Type}:(Rows.laid_rejoinder_parse_shapes:DataW H) = .agg ((List.range 18).map fun i=>.lit (.string (Ps.shapeS i))):=rfl
theorem shp_of_laid {W:World} {rest:List (String × DataW Unit)} (h:laidMet Tryz.prog (("rejoinder/parse.shapes",Rows.laid_rejoinder_parse_shapes) :: rest) W):SHP W:=by
 obtain⟨ps,⟨g',t',cs,fuel,p,q,hg',ht',hvar,hd,_,_⟩,_⟩:=h;obtain rfl:=Option.some.inj (gShapes.symm.trans hg');obtain rfl:=Option.some.inj (gShapesType.symm.trans ht');rw[shapes_eq] at hd;obtain⟨xs,m,_,hx,hl,hn,hr⟩:=DataW.trod_array Tryz.underlying129 hd;rw[c18] at hl;intro i hi;have h1:=hr i hi;rw[c1s,Nat.mul_one] at h1;have hxi:xs[i]?=some (xs[i]'(by omega)):=List.getElem?_eq_getElem _;rw[hxi] at h1
 obtain⟨s,e1,e2,_⟩:=DataW.trod_string Tryz.underlying9 h1
 have hci:cs[i]?=some (.string s):=by
  have:=congrArg (·[0]?) e1;simpa [List.getElem?_take,List.getElem?_drop] using this
 have hxx:(xs.map (·.1))[i]?=some (.lit (.string (Ps.shapeS i))):=by
  have hx2:xs.map (·.1)=(List.range 18).map fun i=>(DataW.lit (.string (Ps.shapeS i)):DataW Unit):=by
   have:=congrArg Prod.fst hx;simpa using this.symm
  rw[hx2,List.getElem?_map,List.getElem?_range hi];rfl
 rw[List.getElem?_map,hxi,e2] at hxx;have hs:s.data.toList=Ps.shapeS i:=(by simpa using hxx);have hcell:=World.var?_cell gShapes hvar i;rw[hcell,←hs];simpa using hci
end Go.Proofs.YtodlhhfcjkjapaaGreatDoor
