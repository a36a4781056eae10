/-
  NARROWER THAN 'FOR EVERY INPUT', by the rows' own cells (each row's printed sentence says how): CodeAll: laid · CodeGoes: laid · CodeCounts: laid · CodeBranches: laid · CodeJumps: laid.
  DERIVED. THE GIVEN ROWS OF THIS SEAT. 5 by the template 'for every input the law returns true; each argument reads behind the call as it read before'; 0 by the template 'total and deterministic' (their statements: YtodlhhfcjkjapaaGreatDoorTotals.lean).
  GIVEN WITH THE SEED: the statements are not yours to turn. If you find one false, say at which input.
  Laid BY PROGRAM, IN A SANDBOX (cutbox-rows.mjs): the forced cells as the released guide's own fill.sh prints them over the translation d778a678aa49ca44… (all of the seat's roots in one cut). By AI agents, Wed Nov 11 2026. No macro, syntax, notation, axiom, sorry.
-/
import Derived.Test.YtodlhhfcjkjapaaGreatDoorChecked
import GoSem.PinnedTables
import GoSem.Claim
import GoSem.ClaimJoined
import GoSem.ClaimMapViews
import Derived.JoinedTies
import Derived.KernelRfl
namespace Go.Proofs.YtodlhhfcjkjapaaGreatDoor
/- THE CELL 'sum', in the pinned program and in every row, IS THE sha256 OF THE DUMP (.gsa) THAT YtodlhhfcjkjapaaGreatDoorProg.lean LOADS. Nothing in Lean hashes anything: it is a label: what it is worth is what the hold of that sum in a sandbox is worth. -/
noncomputable def Tryz.pinned : Pinned := { name := "ytodlhhfcjkjapaagreatdoor", sum := "d778a678aa49ca4415c5d1d5c0dcba0d571d8699e803a9478714ed531126ad0f", checked := Tryz.checked }
namespace Rows
def none {H : Type} : Left H := { results := [], args := [] }

/- WHAT THE LISTED PACKAGE-LEVEL VARIABLES READ AS WHEN THE CALL BEGINS. Each datum BY PROGRAM (the guide's laid-datum.mjs) off the statement by which the dump's own 'gosem.cut.vars' lays the variable. In a bare row this is a premise. The card (YtodlhhfcjkjapaaGreatDoorCards.lean) ties it to the program's text. -/
def laid_unicode_utf8_acceptRanges {H : Type} : DataW H := .agg [.agg [.lit (.int .u8 128), .lit (.int .u8 191)], .agg [.lit (.int .u8 160), .lit (.int .u8 191)], .agg [.lit (.int .u8 128), .lit (.int .u8 159)], .agg [.lit (.int .u8 144), .lit (.int .u8 191)], .agg [.lit (.int .u8 128), .lit (.int .u8 143)], .agg [.lit (.int .u8 0), .lit (.int .u8 0)], .agg [.lit (.int .u8 0), .lit (.int .u8 0)], .agg [.lit (.int .u8 0), .lit (.int .u8 0)], .agg [.lit (.int .u8 0), .lit (.int .u8 0)], .agg [.lit (.int .u8 0), .lit (.int .u8 0)], .agg [.lit (.int .u8 0), .lit (.int .u8 0)], .agg [.lit (.int .u8 0), .lit (.int .u8 0)], .agg [.lit (.int .u8 0), .lit (.int .u8 0)], .agg [.lit (.int .u8 0), .lit (.int .u8 0)], .agg [.lit (.int .u8 0), .lit (.int .u8 0)], .agg [.lit (.int .u8 0), .lit (.int .u8 0)]]
def laid_rejoinder_parse_shapes {H : Type} : DataW H := .agg [.lit (.string []), .lit (.string [108, 101, 116, 32, 110, 32, 61, 32, 116, 32, 59]), .lit (.string [103, 114, 101, 101, 116, 32, 116, 32, 59]), .lit (.string [115, 101, 110, 100, 32, 116, 32, 116, 32, 59]), .lit (.string [99, 97, 112, 115, 32, 116, 32, 116, 32, 59]), .lit (.string [105, 102, 32, 119, 32, 116, 32, 123]), .lit (.string [112, 105, 112, 101, 32, 105, 32, 123]), .lit (.string [97, 117, 116, 104, 32, 110, 32, 116, 32, 116, 32, 59]), .lit (.string [100, 97, 116, 97, 32, 116, 32, 116, 32, 59]), .lit (.string [98, 111, 100, 121, 32, 110, 32, 116, 32, 116, 32, 59]), .lit (.string [103, 101, 116, 32, 110, 32, 116, 32, 59]), .lit (.string [112, 117, 116, 32, 116, 32, 116, 32, 59]), .lit (.string [116, 105, 109, 101, 111, 117, 116, 32, 105, 32, 59]), .lit (.string [108, 97, 98, 101, 108, 32, 110, 32, 59]), .lit (.string [103, 111, 116, 111, 32, 110, 32, 59]), .lit (.string [111, 110, 32, 110, 32, 59]), .lit (.string [112, 114, 105, 110, 116, 32, 116, 32, 59]), .lit (.string [115, 116, 111, 112, 32, 59])]
/-- One of Go's own tables, pinned by name: the form's constant. -/
def laid_unicode_utf8_first : DataW Unit := Go.Pinned.utf8First

/-- 'rejoinderlaw18.CodeAll': WHATEVER THE INPUT: true; the input reads as it did. -/
def codeAllSpec : ChangeSpec := { name := "codeAll", fn := fun _ => fun
  | [d] => { results := [.lit (.bool true)], args := [d] }
  | _ => none }
def codeAllRow : OpenClaim := { program := "ytodlhhfcjkjapaagreatdoor", sum := "d778a678aa49ca4415c5d1d5c0dcba0d571d8699e803a9478714ed531126ad0f", func := "rejoinder/rejoinderlaw18.CodeAll", spec := "codeAll", inPlace := ["internal/bytealg.IndexByteString", "internal/bytealg.IndexString"], unfollowed := true, recurses := true, named := ["internal/bytealg.MaxLen", "unicode/utf8.first", "unicode/utf8.acceptRanges", "rejoinder/parse.shapes"], apart := false, laid := [("unicode/utf8.acceptRanges", laid_unicode_utf8_acceptRanges), ("rejoinder/parse.shapes", laid_rejoinder_parse_shapes), ("unicode/utf8.first", laid_unicode_utf8_first)] }
def CodeAllSaid : Prop := codeAllRow.holds Tryz.pinned (OpenSpec.ofChange codeAllSpec)

/-- ITS FALSE NEIGHBOUR: 'it returns false'. Refute it at one input. -/
def codeAllWrong : ChangeSpec := { name := "codeAll", fn := fun _ => fun
  | [d] => { results := [.lit (.bool false)], args := [d] }
  | _ => none }
def CodeAllWrongFalsely : Prop := codeAllRow.holds Tryz.pinned (OpenSpec.ofChange codeAllWrong)

/-- 'rejoinderlaw18.CodeGoes': WHATEVER THE INPUT: true; the input reads as it did. -/
def codeGoesSpec : ChangeSpec := { name := "codeGoes", fn := fun _ => fun
  | [d] => { results := [.lit (.bool true)], args := [d] }
  | _ => none }
def codeGoesRow : OpenClaim := { program := "ytodlhhfcjkjapaagreatdoor", sum := "d778a678aa49ca4415c5d1d5c0dcba0d571d8699e803a9478714ed531126ad0f", func := "rejoinder/rejoinderlaw18.CodeGoes", spec := "codeGoes", inPlace := ["internal/bytealg.IndexByteString", "internal/bytealg.IndexString"], unfollowed := true, recurses := true, named := ["internal/bytealg.MaxLen", "unicode/utf8.first", "unicode/utf8.acceptRanges", "rejoinder/parse.shapes"], apart := false, laid := [("unicode/utf8.acceptRanges", laid_unicode_utf8_acceptRanges), ("rejoinder/parse.shapes", laid_rejoinder_parse_shapes), ("unicode/utf8.first", laid_unicode_utf8_first)] }
def CodeGoesSaid : Prop := codeGoesRow.holds Tryz.pinned (OpenSpec.ofChange codeGoesSpec)

/-- ITS FALSE NEIGHBOUR: 'it returns false'. Refute it at one input. -/
def codeGoesWrong : ChangeSpec := { name := "codeGoes", fn := fun _ => fun
  | [d] => { results := [.lit (.bool false)], args := [d] }
  | _ => none }
def CodeGoesWrongFalsely : Prop := codeGoesRow.holds Tryz.pinned (OpenSpec.ofChange codeGoesWrong)

/-- 'rejoinderlaw18.CodeCounts': WHATEVER THE INPUT: true; the input reads as it did. -/
def codeCountsSpec : ChangeSpec := { name := "codeCounts", fn := fun _ => fun
  | [d] => { results := [.lit (.bool true)], args := [d] }
  | _ => none }
def codeCountsRow : OpenClaim := { program := "ytodlhhfcjkjapaagreatdoor", sum := "d778a678aa49ca4415c5d1d5c0dcba0d571d8699e803a9478714ed531126ad0f", func := "rejoinder/rejoinderlaw18.CodeCounts", spec := "codeCounts", inPlace := ["internal/bytealg.IndexByteString", "internal/bytealg.IndexString"], unfollowed := true, recurses := true, named := ["internal/bytealg.MaxLen", "unicode/utf8.first", "unicode/utf8.acceptRanges", "rejoinder/parse.shapes"], apart := false, laid := [("unicode/utf8.acceptRanges", laid_unicode_utf8_acceptRanges), ("rejoinder/parse.shapes", laid_rejoinder_parse_shapes), ("unicode/utf8.first", laid_unicode_utf8_first)] }
def CodeCountsSaid : Prop := codeCountsRow.holds Tryz.pinned (OpenSpec.ofChange codeCountsSpec)

/-- ITS FALSE NEIGHBOUR: 'it returns false'. Refute it at one input. -/
def codeCountsWrong : ChangeSpec := { name := "codeCounts", fn := fun _ => fun
  | [d] => { results := [.lit (.bool false)], args := [d] }
  | _ => none }
def CodeCountsWrongFalsely : Prop := codeCountsRow.holds Tryz.pinned (OpenSpec.ofChange codeCountsWrong)

/-- 'rejoinderlaw18.CodeBranches': WHATEVER THE INPUT: true; the input reads as it did. -/
def codeBranchesSpec : ChangeSpec := { name := "codeBranches", fn := fun _ => fun
  | [d] => { results := [.lit (.bool true)], args := [d] }
  | _ => none }
def codeBranchesRow : OpenClaim := { program := "ytodlhhfcjkjapaagreatdoor", sum := "d778a678aa49ca4415c5d1d5c0dcba0d571d8699e803a9478714ed531126ad0f", func := "rejoinder/rejoinderlaw18.CodeBranches", spec := "codeBranches", inPlace := ["internal/bytealg.IndexByteString", "internal/bytealg.IndexString"], unfollowed := true, recurses := true, named := ["internal/bytealg.MaxLen", "unicode/utf8.first", "unicode/utf8.acceptRanges", "rejoinder/parse.shapes"], apart := false, laid := [("unicode/utf8.acceptRanges", laid_unicode_utf8_acceptRanges), ("rejoinder/parse.shapes", laid_rejoinder_parse_shapes), ("unicode/utf8.first", laid_unicode_utf8_first)] }
def CodeBranchesSaid : Prop := codeBranchesRow.holds Tryz.pinned (OpenSpec.ofChange codeBranchesSpec)

/-- ITS FALSE NEIGHBOUR: 'it returns false'. Refute it at one input. -/
def codeBranchesWrong : ChangeSpec := { name := "codeBranches", fn := fun _ => fun
  | [d] => { results := [.lit (.bool false)], args := [d] }
  | _ => none }
def CodeBranchesWrongFalsely : Prop := codeBranchesRow.holds Tryz.pinned (OpenSpec.ofChange codeBranchesWrong)

/-- 'rejoinderlaw18.CodeJumps': WHATEVER THE INPUT: true; the input reads as it did. -/
def codeJumpsSpec : ChangeSpec := { name := "codeJumps", fn := fun _ => fun
  | [d1, d2, d3] => { results := [.lit (.bool true)], args := [d1, d2, d3] }
  | _ => none }
def codeJumpsRow : OpenClaim := { program := "ytodlhhfcjkjapaagreatdoor", sum := "d778a678aa49ca4415c5d1d5c0dcba0d571d8699e803a9478714ed531126ad0f", func := "rejoinder/rejoinderlaw18.CodeJumps", spec := "codeJumps", inPlace := ["internal/bytealg.IndexByteString", "internal/bytealg.IndexString"], unfollowed := true, recurses := true, named := ["internal/bytealg.MaxLen", "unicode/utf8.first", "unicode/utf8.acceptRanges", "rejoinder/parse.shapes"], apart := false, laid := [("unicode/utf8.acceptRanges", laid_unicode_utf8_acceptRanges), ("rejoinder/parse.shapes", laid_rejoinder_parse_shapes), ("unicode/utf8.first", laid_unicode_utf8_first)] }
def CodeJumpsSaid : Prop := codeJumpsRow.holds Tryz.pinned (OpenSpec.ofChange codeJumpsSpec)

/-- ITS FALSE NEIGHBOUR: 'it returns false'. Refute it at one input. -/
def codeJumpsWrong : ChangeSpec := { name := "codeJumps", fn := fun _ => fun
  | [d1, d2, d3] => { results := [.lit (.bool false)], args := [d1, d2, d3] }
  | _ => none }
def CodeJumpsWrongFalsely : Prop := codeJumpsRow.holds Tryz.pinned (OpenSpec.ofChange codeJumpsWrong)

/- THE SECOND FORM. 'bulk': how many values and letters a reading holds, each counted each time it is reached (what is shared counts as often as it is met; a slice's spare places count too). A statement '..UptoSaid' is the law's where the arguments, and the package variables that the reading takes, are together of bulk at most 1048576: NARROWER than '..Said'. Prove '..Said' where nothing that the law and all that it calls make is longer than what came in: it says more and counts as full. Else prove '..UptoSaid'. A law counts once. -/
mutual
def uptoBulk {H : Type} : DataW H → Nat
  | .lit (.string bytes) => bytes.length + 1
  | .lit _ => 1
  | .nil => 1
  | .ptr d => uptoBulk d + 1
  | .slice elems spare => uptoBulkAll elems + uptoBulkAll spare + 1
  | .agg parts => uptoBulkAll parts + 1
  | .iface _ d => uptoBulk d + 1
  | .map entries => uptoBulkEntries entries + 1
  | .held _ => 1
def uptoBulkAll {H : Type} : List (DataW H) → Nat
  | [] => 0
  | d :: r => uptoBulk d + uptoBulkAll r
def uptoBulkEntries {H : Type} : List (Lit × DataW H) → Nat
  | [] => 0
  | x :: r => uptoBulkEntry x + uptoBulkEntries r
def uptoBulkEntry {H : Type} : Lit × DataW H → Nat
  | (.string bytes, d) => bytes.length + uptoBulk d + 1
  | (_, d) => uptoBulk d + 1
 end
def uptoSmall : (H : Type) → List (DataW H) → Bool := fun _ ds => decide (uptoBulkAll ds ≤ 1048576)
def OpenSpec.upto (s : _root_.Go.ChangeSpec) : _root_.Go.OpenSpec := { _root_.Go.OpenSpec.ofChange s with cond := some uptoSmall }

/-- 'rejoinderlaw18.CodeAll', WHERE WHAT IT READS IS OF BULK AT MOST 1048576: true; the input reads as it did. -/
def codeAllUptoRow : OpenClaim := { program := "ytodlhhfcjkjapaagreatdoor", sum := "d778a678aa49ca4415c5d1d5c0dcba0d571d8699e803a9478714ed531126ad0f", func := "rejoinder/rejoinderlaw18.CodeAll", spec := "codeAll", inPlace := ["internal/bytealg.IndexByteString", "internal/bytealg.IndexString"], unfollowed := true, recurses := true, named := ["internal/bytealg.MaxLen", "unicode/utf8.first", "unicode/utf8.acceptRanges", "rejoinder/parse.shapes"], apart := false, laid := [("unicode/utf8.acceptRanges", laid_unicode_utf8_acceptRanges), ("rejoinder/parse.shapes", laid_rejoinder_parse_shapes), ("unicode/utf8.first", laid_unicode_utf8_first)], narrowed := true }
def CodeAllUptoSaid : Prop := codeAllUptoRow.holds Tryz.pinned (OpenSpec.upto codeAllSpec)

/-- 'rejoinderlaw18.CodeGoes', WHERE WHAT IT READS IS OF BULK AT MOST 1048576: true; the input reads as it did. -/
def codeGoesUptoRow : OpenClaim := { program := "ytodlhhfcjkjapaagreatdoor", sum := "d778a678aa49ca4415c5d1d5c0dcba0d571d8699e803a9478714ed531126ad0f", func := "rejoinder/rejoinderlaw18.CodeGoes", spec := "codeGoes", inPlace := ["internal/bytealg.IndexByteString", "internal/bytealg.IndexString"], unfollowed := true, recurses := true, named := ["internal/bytealg.MaxLen", "unicode/utf8.first", "unicode/utf8.acceptRanges", "rejoinder/parse.shapes"], apart := false, laid := [("unicode/utf8.acceptRanges", laid_unicode_utf8_acceptRanges), ("rejoinder/parse.shapes", laid_rejoinder_parse_shapes), ("unicode/utf8.first", laid_unicode_utf8_first)], narrowed := true }
def CodeGoesUptoSaid : Prop := codeGoesUptoRow.holds Tryz.pinned (OpenSpec.upto codeGoesSpec)

/-- 'rejoinderlaw18.CodeCounts', WHERE WHAT IT READS IS OF BULK AT MOST 1048576: true; the input reads as it did. -/
def codeCountsUptoRow : OpenClaim := { program := "ytodlhhfcjkjapaagreatdoor", sum := "d778a678aa49ca4415c5d1d5c0dcba0d571d8699e803a9478714ed531126ad0f", func := "rejoinder/rejoinderlaw18.CodeCounts", spec := "codeCounts", inPlace := ["internal/bytealg.IndexByteString", "internal/bytealg.IndexString"], unfollowed := true, recurses := true, named := ["internal/bytealg.MaxLen", "unicode/utf8.first", "unicode/utf8.acceptRanges", "rejoinder/parse.shapes"], apart := false, laid := [("unicode/utf8.acceptRanges", laid_unicode_utf8_acceptRanges), ("rejoinder/parse.shapes", laid_rejoinder_parse_shapes), ("unicode/utf8.first", laid_unicode_utf8_first)], narrowed := true }
def CodeCountsUptoSaid : Prop := codeCountsUptoRow.holds Tryz.pinned (OpenSpec.upto codeCountsSpec)

/-- 'rejoinderlaw18.CodeBranches', WHERE WHAT IT READS IS OF BULK AT MOST 1048576: true; the input reads as it did. -/
def codeBranchesUptoRow : OpenClaim := { program := "ytodlhhfcjkjapaagreatdoor", sum := "d778a678aa49ca4415c5d1d5c0dcba0d571d8699e803a9478714ed531126ad0f", func := "rejoinder/rejoinderlaw18.CodeBranches", spec := "codeBranches", inPlace := ["internal/bytealg.IndexByteString", "internal/bytealg.IndexString"], unfollowed := true, recurses := true, named := ["internal/bytealg.MaxLen", "unicode/utf8.first", "unicode/utf8.acceptRanges", "rejoinder/parse.shapes"], apart := false, laid := [("unicode/utf8.acceptRanges", laid_unicode_utf8_acceptRanges), ("rejoinder/parse.shapes", laid_rejoinder_parse_shapes), ("unicode/utf8.first", laid_unicode_utf8_first)], narrowed := true }
def CodeBranchesUptoSaid : Prop := codeBranchesUptoRow.holds Tryz.pinned (OpenSpec.upto codeBranchesSpec)

/-- 'rejoinderlaw18.CodeJumps', WHERE WHAT IT READS IS OF BULK AT MOST 1048576: true; the input reads as it did. -/
def codeJumpsUptoRow : OpenClaim := { program := "ytodlhhfcjkjapaagreatdoor", sum := "d778a678aa49ca4415c5d1d5c0dcba0d571d8699e803a9478714ed531126ad0f", func := "rejoinder/rejoinderlaw18.CodeJumps", spec := "codeJumps", inPlace := ["internal/bytealg.IndexByteString", "internal/bytealg.IndexString"], unfollowed := true, recurses := true, named := ["internal/bytealg.MaxLen", "unicode/utf8.first", "unicode/utf8.acceptRanges", "rejoinder/parse.shapes"], apart := false, laid := [("unicode/utf8.acceptRanges", laid_unicode_utf8_acceptRanges), ("rejoinder/parse.shapes", laid_rejoinder_parse_shapes), ("unicode/utf8.first", laid_unicode_utf8_first)], narrowed := true }
def CodeJumpsUptoSaid : Prop := codeJumpsUptoRow.holds Tryz.pinned (OpenSpec.upto codeJumpsSpec)

end Rows
end Go.Proofs.YtodlhhfcjkjapaaGreatDoor
