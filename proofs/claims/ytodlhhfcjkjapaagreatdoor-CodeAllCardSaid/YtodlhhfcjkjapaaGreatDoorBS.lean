import Derived.Test.YtodlhhfcjkjapaaGreatDoorRd
import Derived.RangeFuncRecord
import Derived.Test.YtodlhhfcjkjapaaGreatDoorBA
namespace Go.Proofs.YtodlhhfcjkjapaaGreatDoor
open Go.RowKit
def Box (w:World) (b:Nat) (t:TypeId) (v:Value):Prop:=w.heap[b]?=some (.cells #[v] t (0,0))
theorem Box.cell {w:World} {b:Nat} {t:TypeId} {v:Value} (h:Box w b t v):w.cell? ⟨b,0,none⟩=some v:=by
 unfold Box at h;simp[World.cell?,h]
theorem Box.frozen {w:World} {b:Nat} {t:TypeId} {v:Value} (h:Box w b t v):w.frozen? ⟨b,0,none⟩=false:=by
 unfold Box at h;simp[World.frozen?,h]
theorem Box.same {w w':World} {b:Nat} {t:TypeId} {v:Value} (h:Box w b t v) (e:w'.heap[b]?=w.heap[b]?):Box w' b t v:=e.trans h
theorem Box.set {w:World} {b:Nat} {t:TypeId} {v:Value} (h:Box w b t v) (u:Value):Box (w.setCell ⟨b,0,none⟩ u) b t u:=by
 unfold Box at *;simp[World.setCell,Array.getElem?_modify,h]
theorem Box.other {w:World} {b b':Nat} {t:TypeId} {v:Value} (h:Box w b t v) (hn:b≠b') (u:Value):Box (w.setCell ⟨b',0,none⟩ u) b t v:=(Below.heap_setCell _ _ _ _ hn).trans h
theorem Box.new (w:World) (t:TypeId) (v:Value):Box (w.alloc (.cells #[v] t)) w.heap.size t v:=World.alloc_heap_new w _
theorem Box.alloc {w:World} {b:Nat} {t:TypeId} {v:Value} (h:Box w b t v) (o:Obj):Box (w.alloc o) b t v:=(Below.heap_alloc _ _ _ (yD h).1).trans h
theorem Box.lt {w:World} {b:Nat} {t:TypeId} {v:Value} (h:Box w b t v):b<w.heap.size:=(yD h).1
def St3 (w:World) (b:Nat) (c:ByteArray) (m:Bool) (t:ByteArray):Prop:=w.heap[b]?=some (.cells #[.string c,.bool m,.string t] 154 (0,0))
theorem St3.c0 {w:World} {b:Nat} {c t:ByteArray} {m:Bool} (h:St3 w b c m t):w.cell? ⟨b,0,none⟩=some (.string c):=by unfold St3 at h;simp[World.cell?,h]
theorem St3.c1 {w:World} {b:Nat} {c t:ByteArray} {m:Bool} (h:St3 w b c m t):w.cell? ⟨b,1,none⟩=some (.bool m):=by unfold St3 at h;simp[World.cell?,h]
theorem St3.c2 {w:World} {b:Nat} {c t:ByteArray} {m:Bool} (h:St3 w b c m t):w.cell? ⟨b,2,none⟩=some (.string t):=by unfold St3 at h;simp[World.cell?,h]
theorem St3.fr {w:World} {b:Nat} {c t:ByteArray} {m:Bool} (h:St3 w b c m t) (i:Nat):w.frozen? ⟨b,i,none⟩=false:=by unfold St3 at h;simp[World.frozen?,h]
theorem St3.new (w:World) (c t:ByteArray) (m:Bool):St3 (w.alloc (.cells #[.string c,.bool m,.string t] 154)) w.heap.size c m t:=World.alloc_heap_new w _
theorem St3.same {w w':World} {b:Nat} {c t:ByteArray} {m:Bool} (h:St3 w b c m t) (e:w'.heap[b]?=w.heap[b]?):St3 w' b c m t:=e.trans h
theorem St3.lt {w:World} {b:Nat} {c t:ByteArray} {m:Bool} (h:St3 w b c m t):b<w.heap.size:=(yD h).1
theorem St3.alloc {w:World} {b:Nat} {c t:ByteArray} {m:Bool} (h:St3 w b c m t) (o:Obj):St3 (w.alloc o) b c m t:=(Below.heap_alloc _ _ _ h.lt).trans h
theorem St3.set {w:World} {b:Nat} {c t:ByteArray} {m:Bool} (h:St3 w b c m t) (c' t':ByteArray) (m':Bool) :
  St3 (((w.setCell ⟨b,0,none⟩ (.string c')).setCell ⟨b,1,none⟩ (.bool m')).setCell ⟨b,2,none⟩ (.string t')) b c' m' t':=by
 unfold St3 at *;simp[World.setCell,Array.getElem?_modify,h]
end Go.Proofs.YtodlhhfcjkjapaaGreatDoor
