import Derived.Test.YtodlhhfcjkjapaaGreatDoorPN
import Derived.Test.YtodlhhfcjkjapaaGreatDoorPJ
import Derived.Test.YtodlhhfcjkjapaaGreatDoorBA
namespace Go.Proofs.YtodlhhfcjkjapaaGreatDoor
namespace Cp
open Tx
structure Cap where
 name:List UInt8
 args:List (List UInt8)
def capW:List (List UInt8)→Option Cap
 | []=>none
 | n :: a=>some ⟨n,a⟩
def capOf (l:List UInt8):Option Cap:=capW (words (up l))
def ofLines (ls:List (List UInt8)):List Cap:=ls.filterMap capOf
def splitGo (cur:List UInt8):List UInt8→List (List UInt8)
 | []=>[cur]
 | [c]=>[cur++[c]]
 | c :: d :: r=>if c=13∧d=10 then cur :: splitGo [] r else splitGo (cur++[c]) (d :: r)
def linesOf (b:List UInt8):List (List UInt8):=splitGo [] b
def count (proto:Int) (ls:List (List UInt8)) (body:List UInt8):List (List UInt8) :=
 if proto=1 then ls.drop 1 else if proto=3 then (ls.drop 1).dropLast else if proto=2 then linesOf body else []
def of (proto:Int) (ls:List (List UInt8)) (body:List UInt8):List Cap:=ofLines (count proto ls body)
end Cp
end Go.Proofs.YtodlhhfcjkjapaaGreatDoor
namespace Go.Proofs.YtodlhhfcjkjapaaGreatDoor
open Go.RowKit
theorem any_take_all {α:Type} {xs:List α} {p:α→Bool} {k:Nat} (h:(xs.take k).any p=false) (hk:xs.length≤k):xs.any p=false:=by
 rwa [List.take_of_length_le hk] at h
theorem any_take_more {xs:List (List UInt8)} {p:List UInt8→Bool} {k:Nat} (h:(xs.take k).any p=false) (hk:k<xs.length) (hp:p (xs.getD k [])=false):(xs.take (k+1)).any p=false:=by
 have e:xs[k]=xs.getD k []:=(by rw[List.getD_eq_getElem?_getD,List.getElem?_eq_getElem hk];rfl);rw[List.take_succ_eq_append_getElem hk,List.any_append,h,e];simpa using hp
theorem any_hit {xs:List (List UInt8)} {p:List UInt8→Bool} {k:Nat} (hk:k<xs.length) (hp:p (xs.getD k [])=true):xs.any p=true :=
 List.any_eq_true.2 ⟨_,(show xs.getD k [] ∈ xs by rw[List.getD_eq_getElem?_getD,List.getElem?_eq_getElem hk];exact List.getElem_mem _),hp⟩
end Go.Proofs.YtodlhhfcjkjapaaGreatDoor
