/-
  No cell of these rows narrows 'for every input' (looked for: loops, veiled, ifaces, maps, wideKeys, modest, calm, conditions, laid).
  DERIVED. THE GIVEN ROWS OF THIS SEAT. 4 by the template 'for every input the law returns true; each argument reads behind the call as it read before'; 0 by the template 'total and deterministic' (their statements: YthfefbpfgepbjaaTotals.lean).
  GIVEN WITH THE SEED: the statements are not yours to turn. If you find one false, say at which input.
  Laid BY PROGRAM, IN A SANDBOX (cutbox-rows.mjs): the forced cells as the released guide's own fill.sh prints them over the translation 94f0bdc40088e89b… (all of the seat's roots in one cut). By AI agents, Wed Nov 11 2026. No macro, syntax, notation, axiom, sorry.
-/
import Derived.Test.YthfefbpfgepbjaaChecked
import GoSem.Claim
import GoSem.ClaimJoined
import GoSem.ClaimMapViews
import Derived.JoinedTies
import Derived.KernelRfl
namespace Go.Proofs.Ythfefbpfgepbjaa
/- THE CELL 'sum', in the pinned program and in every row, IS THE sha256 OF THE DUMP (.gsa) THAT YthfefbpfgepbjaaProg.lean LOADS. Nothing in Lean hashes anything: it is a label: what it is worth is what the hold of that sum in a sandbox is worth. -/
noncomputable def Try.pinned : Pinned := { name := "ythfefbpfgepbjaa", sum := "94f0bdc40088e89bb28a5136ae46cc92955c18977eeeb33184f4aac651b0d53d", checked := Try.checked }
namespace Rows
def none {H : Type} : Left H := { results := [], args := [] }

/-- 'rejoinderlaw09.StuffAll': WHATEVER THE INPUT: true; the input reads as it did. -/
def stuffAllSpec : ChangeSpec := { name := "stuffAll", fn := fun _ => fun
  | [d1, d2, d3] => { results := [.lit (.bool true)], args := [d1, d2, d3] }
  | _ => none }
def stuffAllRow : OpenClaim := { program := "ythfefbpfgepbjaa", sum := "94f0bdc40088e89bb28a5136ae46cc92955c18977eeeb33184f4aac651b0d53d", func := "rejoinder/rejoinderlaw09.StuffAll", spec := "stuffAll", inPlace := ["internal/bytealg.IndexByte", "internal/bytealg.Index"], unfollowed := true, recurses := true, named := ["internal/bytealg.MaxLen"], apart := false }
def StuffAllSaid : Prop := stuffAllRow.holds Try.pinned (OpenSpec.ofChange stuffAllSpec)

/-- ITS FALSE NEIGHBOUR: 'it returns false'. Refute it at one input. -/
def stuffAllWrong : ChangeSpec := { name := "stuffAll", fn := fun _ => fun
  | [d1, d2, d3] => { results := [.lit (.bool false)], args := [d1, d2, d3] }
  | _ => none }
def StuffAllWrongFalsely : Prop := stuffAllRow.holds Try.pinned (OpenSpec.ofChange stuffAllWrong)

/-- 'rejoinderlaw09.StuffLines': WHATEVER THE INPUT: true; the input reads as it did. -/
def stuffLinesSpec : ChangeSpec := { name := "stuffLines", fn := fun _ => fun
  | [d] => { results := [.lit (.bool true)], args := [d] }
  | _ => none }
def stuffLinesRow : OpenClaim := { program := "ythfefbpfgepbjaa", sum := "94f0bdc40088e89bb28a5136ae46cc92955c18977eeeb33184f4aac651b0d53d", func := "rejoinder/rejoinderlaw09.StuffLines", spec := "stuffLines", inPlace := ["internal/bytealg.IndexByte", "internal/bytealg.Index"], unfollowed := true, recurses := true, named := ["internal/bytealg.MaxLen"], apart := false }
def StuffLinesSaid : Prop := stuffLinesRow.holds Try.pinned (OpenSpec.ofChange stuffLinesSpec)

/-- ITS FALSE NEIGHBOUR: 'it returns false'. Refute it at one input. -/
def stuffLinesWrong : ChangeSpec := { name := "stuffLines", fn := fun _ => fun
  | [d] => { results := [.lit (.bool false)], args := [d] }
  | _ => none }
def StuffLinesWrongFalsely : Prop := stuffLinesRow.holds Try.pinned (OpenSpec.ofChange stuffLinesWrong)

/-- 'rejoinderlaw09.StuffJoins': WHATEVER THE INPUT: true; the input reads as it did. -/
def stuffJoinsSpec : ChangeSpec := { name := "stuffJoins", fn := fun _ => fun
  | [d1, d2] => { results := [.lit (.bool true)], args := [d1, d2] }
  | _ => none }
def stuffJoinsRow : OpenClaim := { program := "ythfefbpfgepbjaa", sum := "94f0bdc40088e89bb28a5136ae46cc92955c18977eeeb33184f4aac651b0d53d", func := "rejoinder/rejoinderlaw09.StuffJoins", spec := "stuffJoins", inPlace := ["internal/bytealg.IndexByte", "internal/bytealg.Index"], unfollowed := true, recurses := true, named := ["internal/bytealg.MaxLen"], apart := false }
def StuffJoinsSaid : Prop := stuffJoinsRow.holds Try.pinned (OpenSpec.ofChange stuffJoinsSpec)

/-- ITS FALSE NEIGHBOUR: 'it returns false'. Refute it at one input. -/
def stuffJoinsWrong : ChangeSpec := { name := "stuffJoins", fn := fun _ => fun
  | [d1, d2] => { results := [.lit (.bool false)], args := [d1, d2] }
  | _ => none }
def StuffJoinsWrongFalsely : Prop := stuffJoinsRow.holds Try.pinned (OpenSpec.ofChange stuffJoinsWrong)

/-- 'rejoinderlaw09.StuffFull': WHATEVER THE INPUT: true; the input reads as it did. -/
def stuffFullSpec : ChangeSpec := { name := "stuffFull", fn := fun _ => fun
  | [d1, d2] => { results := [.lit (.bool true)], args := [d1, d2] }
  | _ => none }
def stuffFullRow : OpenClaim := { program := "ythfefbpfgepbjaa", sum := "94f0bdc40088e89bb28a5136ae46cc92955c18977eeeb33184f4aac651b0d53d", func := "rejoinder/rejoinderlaw09.StuffFull", spec := "stuffFull", inPlace := ["internal/bytealg.IndexByte", "internal/bytealg.Index"], unfollowed := true, recurses := true, named := ["internal/bytealg.MaxLen"], apart := false }
def StuffFullSaid : Prop := stuffFullRow.holds Try.pinned (OpenSpec.ofChange stuffFullSpec)

/-- ITS FALSE NEIGHBOUR: 'it returns false'. Refute it at one input. -/
def stuffFullWrong : ChangeSpec := { name := "stuffFull", fn := fun _ => fun
  | [d1, d2] => { results := [.lit (.bool false)], args := [d1, d2] }
  | _ => none }
def StuffFullWrongFalsely : Prop := stuffFullRow.holds Try.pinned (OpenSpec.ofChange stuffFullWrong)

/- THE SECOND FORM. 'bulk': how many values and letters a reading holds, each counted each time it is reached (what is shared counts as often as it is met; a slice's spare places count too). A statement '..UptoSaid' is the law's where the arguments, and the package variables that the reading takes, are together of bulk at most 1048576: NARROWER than '..Said'. Prove '..Said' where nothing that the law and all that it calls make is longer than what came in: it says more and counts as full. Else prove '..UptoSaid'. A law counts once. -/
mutual
def uptoBulk {H : Type} : DataW H → Nat
  | .lit (.string bytes) => bytes.length + 1
  | .lit _ => 1
  | .nil => 1
  | .ptr d => uptoBulk d + 1
  | .slice elems spare => uptoBulkAll elems + uptoBulkAll spare + 1
  | .agg parts => uptoBulkAll parts + 1
  | .iface _ d => uptoBulk d + 1
  | .map entries => uptoBulkEntries entries + 1
  | .held _ => 1
def uptoBulkAll {H : Type} : List (DataW H) → Nat
  | [] => 0
  | d :: r => uptoBulk d + uptoBulkAll r
def uptoBulkEntries {H : Type} : List (Lit × DataW H) → Nat
  | [] => 0
  | x :: r => uptoBulkEntry x + uptoBulkEntries r
def uptoBulkEntry {H : Type} : Lit × DataW H → Nat
  | (.string bytes, d) => bytes.length + uptoBulk d + 1
  | (_, d) => uptoBulk d + 1
 end
def uptoSmall : (H : Type) → List (DataW H) → Bool := fun _ ds => decide (uptoBulkAll ds ≤ 1048576)
def OpenSpec.upto (s : _root_.Go.ChangeSpec) : _root_.Go.OpenSpec := { _root_.Go.OpenSpec.ofChange s with cond := some uptoSmall }

/-- 'rejoinderlaw09.StuffAll', WHERE WHAT IT READS IS OF BULK AT MOST 1048576: true; the input reads as it did. -/
def stuffAllUptoRow : OpenClaim := { program := "ythfefbpfgepbjaa", sum := "94f0bdc40088e89bb28a5136ae46cc92955c18977eeeb33184f4aac651b0d53d", func := "rejoinder/rejoinderlaw09.StuffAll", spec := "stuffAll", inPlace := ["internal/bytealg.IndexByte", "internal/bytealg.Index"], unfollowed := true, recurses := true, named := ["internal/bytealg.MaxLen"], apart := false, narrowed := true }
def StuffAllUptoSaid : Prop := stuffAllUptoRow.holds Try.pinned (OpenSpec.upto stuffAllSpec)

/-- 'rejoinderlaw09.StuffLines', WHERE WHAT IT READS IS OF BULK AT MOST 1048576: true; the input reads as it did. -/
def stuffLinesUptoRow : OpenClaim := { program := "ythfefbpfgepbjaa", sum := "94f0bdc40088e89bb28a5136ae46cc92955c18977eeeb33184f4aac651b0d53d", func := "rejoinder/rejoinderlaw09.StuffLines", spec := "stuffLines", inPlace := ["internal/bytealg.IndexByte", "internal/bytealg.Index"], unfollowed := true, recurses := true, named := ["internal/bytealg.MaxLen"], apart := false, narrowed := true }
def StuffLinesUptoSaid : Prop := stuffLinesUptoRow.holds Try.pinned (OpenSpec.upto stuffLinesSpec)

/-- 'rejoinderlaw09.StuffJoins', WHERE WHAT IT READS IS OF BULK AT MOST 1048576: true; the input reads as it did. -/
def stuffJoinsUptoRow : OpenClaim := { program := "ythfefbpfgepbjaa", sum := "94f0bdc40088e89bb28a5136ae46cc92955c18977eeeb33184f4aac651b0d53d", func := "rejoinder/rejoinderlaw09.StuffJoins", spec := "stuffJoins", inPlace := ["internal/bytealg.IndexByte", "internal/bytealg.Index"], unfollowed := true, recurses := true, named := ["internal/bytealg.MaxLen"], apart := false, narrowed := true }
def StuffJoinsUptoSaid : Prop := stuffJoinsUptoRow.holds Try.pinned (OpenSpec.upto stuffJoinsSpec)

/-- 'rejoinderlaw09.StuffFull', WHERE WHAT IT READS IS OF BULK AT MOST 1048576: true; the input reads as it did. -/
def stuffFullUptoRow : OpenClaim := { program := "ythfefbpfgepbjaa", sum := "94f0bdc40088e89bb28a5136ae46cc92955c18977eeeb33184f4aac651b0d53d", func := "rejoinder/rejoinderlaw09.StuffFull", spec := "stuffFull", inPlace := ["internal/bytealg.IndexByte", "internal/bytealg.Index"], unfollowed := true, recurses := true, named := ["internal/bytealg.MaxLen"], apart := false, narrowed := true }
def StuffFullUptoSaid : Prop := stuffFullUptoRow.holds Try.pinned (OpenSpec.upto stuffFullSpec)

end Rows
end Go.Proofs.Ythfefbpfgepbjaa
