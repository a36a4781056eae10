import Derived.Test.YtodlhhfcjkjapaaGreatDoorPJ
import Derived.Lib.AppendStr
namespace Go.Proofs.YtodlhhfcjkjapaaGreatDoor
open Go.RowKit
theorem append_text {ops:Array Oper} {rest:List Oper} {o:Oper} {a:Act} {Q:Exit→Act→World→Prop} {w:World} {B n:Nat} {v:Value} {xs:List Value}
  (hgd:o.guard=none) (s x:Operand) (ho:o.op = .call { callee:=.builtin .append,args:=#[s,x],argTypes:=#[135,9] })
  (hs:a.eval s=v) (hown:w.ownsRow B 5 1 v n xs) (t:ByteArray) (hx:a.eval x = .string t)
  (hn:n+t.size≤16777216) (hB:B≤w.heap.size)
  (h:∀ v' w',w'.ownsRow B 5 1 v' (n+t.size) (xs++t.data.toList.map bv)→w.grownBy w' v.ownBlock→wpList Tryz.prog ops Q rest (a.put o.dst v') w'):wpList Tryz.prog ops Q (o :: rest) a w:=by
 obtain⟨i0,hi,hz0,hz1,hz2⟩:=info_parts info_u8;exact Lib.wpList_append_own_string w hgd s x 135 9 ho B 5 i0 Tryz.underlying135 Tryz.underlying9 hi hz0 hz1 hz2 v n xs hs hown t hx (by unfold maxLen;omega) (by omega) hB (fun v' w' h1 h2 _=>h v' w' h1 h2)
end Go.Proofs.YtodlhhfcjkjapaaGreatDoor
