/-
  DERIVED. GIVEN WITH THE SEED: THE CARDS: each row of YthlbociimbpgkaaDoorRows.lean that lists a variable, with what it lists TIED to the program's text (the seventh form; the later family's looks); each row that meets fmt, with fmt's text TOLD by the authors' own Lean function (tested against real Go, not proved from fmt's source: count such statements apart). THE CARD IS WHAT COUNTS. Prove the row's statement (the work); the ties are given (YthlbociimbpgkaaDoorTie.lean); close each card by the builder's one call (the guide's Derived/Test/ToyasCard.lean, 'card_holds'). Laid BY PROGRAM, IN A SANDBOX (cutbox-door.mjs). By AI agents, Wed Nov 11 2026. No macro, syntax, notation, axiom, sorry.
-/
import Derived.Test.YthlbociimbpgkaaDoorRows
import GoSem.ClaimSeven
namespace Go.Proofs.YthlbociimbpgkaaDoor
namespace Rows

/-- THE TIED CARD OF 'rejoinderlaw17.CheckNames'. -/
def checkNamesCard : Claim7 := { stood := { row := checkNamesRow, standIns := [], harness := (true, "bb68b59d70af2daf19b713822f02ec2954add48d7369bcc0193a428fa23502c7"), looks := false }, kinds := [], alts := [], laidByText := true, laidKinds := [.data, .data, .pinned], laidTests := true, laidLooks := .later }
def CheckNamesCardSaid : Prop := Claim7.holds Tryd.pinned (.plain (OpenSpec.ofChange checkNamesSpec)) checkNamesCard

/-- THE TIED CARD OF 'rejoinderlaw17.CheckModes'. -/
def checkModesCard : Claim7 := { stood := { row := checkModesRow, standIns := [], harness := (true, "bb68b59d70af2daf19b713822f02ec2954add48d7369bcc0193a428fa23502c7"), looks := false }, kinds := [], alts := [], laidByText := true, laidKinds := [.data, .data, .pinned], laidTests := true, laidLooks := .later }
def CheckModesCardSaid : Prop := Claim7.holds Tryd.pinned (.plain (OpenSpec.ofChange checkModesSpec)) checkModesCard

/-- THE TIED CARD OF 'rejoinderlaw17.CheckLabels'. -/
def checkLabelsCard : Claim7 := { stood := { row := checkLabelsRow, standIns := [], harness := (true, "bb68b59d70af2daf19b713822f02ec2954add48d7369bcc0193a428fa23502c7"), looks := false }, kinds := [], alts := [], laidByText := true, laidKinds := [.data, .data, .pinned], laidTests := true, laidLooks := .later }
def CheckLabelsCardSaid : Prop := Claim7.holds Tryd.pinned (.plain (OpenSpec.ofChange checkLabelsSpec)) checkLabelsCard

/-- THE TIED CARD OF 'rejoinderlaw17.CheckCodes'. -/
def checkCodesCard : Claim7 := { stood := { row := checkCodesRow, standIns := [], harness := (true, "bb68b59d70af2daf19b713822f02ec2954add48d7369bcc0193a428fa23502c7"), looks := false }, kinds := [], alts := [], laidByText := true, laidKinds := [.data, .data, .pinned], laidTests := true, laidLooks := .later }
def CheckCodesCardSaid : Prop := Claim7.holds Tryd.pinned (.plain (OpenSpec.ofChange checkCodesSpec)) checkCodesCard

/-- THE SECOND FORM's CARD OF 'rejoinderlaw17.CheckNames'. -/
def checkNamesUptoCard : Claim7 := { stood := { row := checkNamesUptoRow, standIns := [], harness := (true, "bb68b59d70af2daf19b713822f02ec2954add48d7369bcc0193a428fa23502c7"), looks := false }, kinds := [], alts := [], laidByText := true, laidKinds := [.data, .data, .pinned], laidTests := true, laidLooks := .later }
def CheckNamesUptoCardSaid : Prop := Claim7.holds Tryd.pinned (.plain (OpenSpec.upto checkNamesSpec)) checkNamesUptoCard

/-- THE SECOND FORM's CARD OF 'rejoinderlaw17.CheckModes'. -/
def checkModesUptoCard : Claim7 := { stood := { row := checkModesUptoRow, standIns := [], harness := (true, "bb68b59d70af2daf19b713822f02ec2954add48d7369bcc0193a428fa23502c7"), looks := false }, kinds := [], alts := [], laidByText := true, laidKinds := [.data, .data, .pinned], laidTests := true, laidLooks := .later }
def CheckModesUptoCardSaid : Prop := Claim7.holds Tryd.pinned (.plain (OpenSpec.upto checkModesSpec)) checkModesUptoCard

/-- THE SECOND FORM's CARD OF 'rejoinderlaw17.CheckLabels'. -/
def checkLabelsUptoCard : Claim7 := { stood := { row := checkLabelsUptoRow, standIns := [], harness := (true, "bb68b59d70af2daf19b713822f02ec2954add48d7369bcc0193a428fa23502c7"), looks := false }, kinds := [], alts := [], laidByText := true, laidKinds := [.data, .data, .pinned], laidTests := true, laidLooks := .later }
def CheckLabelsUptoCardSaid : Prop := Claim7.holds Tryd.pinned (.plain (OpenSpec.upto checkLabelsSpec)) checkLabelsUptoCard

/-- THE SECOND FORM's CARD OF 'rejoinderlaw17.CheckCodes'. -/
def checkCodesUptoCard : Claim7 := { stood := { row := checkCodesUptoRow, standIns := [], harness := (true, "bb68b59d70af2daf19b713822f02ec2954add48d7369bcc0193a428fa23502c7"), looks := false }, kinds := [], alts := [], laidByText := true, laidKinds := [.data, .data, .pinned], laidTests := true, laidLooks := .later }
def CheckCodesUptoCardSaid : Prop := Claim7.holds Tryd.pinned (.plain (OpenSpec.upto checkCodesSpec)) checkCodesUptoCard
end Rows
end Go.Proofs.YthlbociimbpgkaaDoor
