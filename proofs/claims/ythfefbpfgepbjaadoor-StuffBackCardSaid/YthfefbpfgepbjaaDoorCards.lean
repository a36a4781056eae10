/-
  DERIVED. GIVEN WITH THE SEED: THE CARDS: each row of YthfefbpfgepbjaaDoorRows.lean that lists a variable, with what it lists TIED to the program's text (the seventh form; the later family's looks); each row that meets fmt, with fmt's text TOLD by the authors' own Lean function (tested against real Go, not proved from fmt's source: count such statements apart). THE CARD IS WHAT COUNTS. Prove the row's statement (the work); the ties are given (YthfefbpfgepbjaaDoorTie.lean); close each card by the builder's one call (the guide's Derived/Test/ToyasCard.lean, 'card_holds'). Laid BY PROGRAM, IN A SANDBOX (cutbox-door.mjs). By AI agents, Wed Nov 11 2026. No macro, syntax, notation, axiom, sorry.
-/
import Derived.Test.YthfefbpfgepbjaaDoorRows
import GoSem.ClaimSeven
namespace Go.Proofs.YthfefbpfgepbjaaDoor
namespace Rows

/-- THE TIED CARD OF 'rejoinderlaw09.StuffBack'. -/
def stuffBackCard : Claim7 := { stood := { row := stuffBackRow, standIns := [], harness := (true, "7d63183ac56e26b8aa7ebd7bd8614148abdf053880d15a0ec7c0ef9c266abd5b"), looks := false }, kinds := [], alts := [], laidByText := true, laidKinds := [.data, .pinned], laidTests := true, laidLooks := .later }
def StuffBackCardSaid : Prop := Claim7.holds Tryd.pinned (.plain (OpenSpec.ofChange stuffBackSpec)) stuffBackCard

/-- THE SECOND FORM's CARD OF 'rejoinderlaw09.StuffBack'. -/
def stuffBackUptoCard : Claim7 := { stood := { row := stuffBackUptoRow, standIns := [], harness := (true, "7d63183ac56e26b8aa7ebd7bd8614148abdf053880d15a0ec7c0ef9c266abd5b"), looks := false }, kinds := [], alts := [], laidByText := true, laidKinds := [.data, .pinned], laidTests := true, laidLooks := .later }
def StuffBackUptoCardSaid : Prop := Claim7.holds Tryd.pinned (.plain (OpenSpec.upto stuffBackSpec)) stuffBackUptoCard
end Rows
end Go.Proofs.YthfefbpfgepbjaaDoor
