/-
  DERIVED. GIVEN WITH THE SEED: THE CARDS: each row of YtagedockmlbebaaDoorRows.lean that lists a variable, with what it lists TIED to the program's text (the seventh form; the later family's looks); each row that meets fmt, with fmt's text TOLD by the authors' own Lean function (tested against real Go, not proved from fmt's source: count such statements apart). THE CARD IS WHAT COUNTS. Prove the row's statement (the work); the ties are given (YtagedockmlbebaaDoorTie.lean); close each card by the builder's one call (the guide's Derived/Test/ToyasCard.lean, 'card_holds'). Laid BY PROGRAM, IN A SANDBOX (cutbox-door.mjs). By AI agents, Wed Nov 11 2026. No macro, syntax, notation, axiom, sorry.
-/
import Derived.Test.YtagedockmlbebaaDoorRows
import GoSem.ClaimSeven
namespace Go.Proofs.YtagedockmlbebaaDoor
namespace Rows

/-- THE TIED CARD OF 'rejoinderlaw08.FramePlays'. -/
def framePlaysCard : Claim7 := { stood := { row := framePlaysRow, standIns := [], harness := (true, "8dcdc95f18b5a6508c7f6942f17673b4bd6d5622619da3097231faa4f3219ba9"), looks := false }, kinds := [], alts := [], laidByText := true, laidKinds := [.data, .pinned], laidTests := true, laidLooks := .later }
def FramePlaysCardSaid : Prop := Claim7.holds Tryd.pinned (.plain (OpenSpec.ofChange framePlaysSpec)) framePlaysCard

/-- THE TIED CARD OF 'rejoinderlaw08.FrameCuts'. -/
def frameCutsCard : Claim7 := { stood := { row := frameCutsRow, standIns := [], harness := (true, "8dcdc95f18b5a6508c7f6942f17673b4bd6d5622619da3097231faa4f3219ba9"), looks := false }, kinds := [], alts := [], laidByText := true, laidKinds := [.data, .pinned], laidTests := true, laidLooks := .later }
def FrameCutsCardSaid : Prop := Claim7.holds Tryd.pinned (.plain (OpenSpec.ofChange frameCutsSpec)) frameCutsCard

/-- THE TIED CARD OF 'rejoinderlaw08.FrameEmits'. -/
def frameEmitsCard : Claim7 := { stood := { row := frameEmitsRow, standIns := [], harness := (true, "8dcdc95f18b5a6508c7f6942f17673b4bd6d5622619da3097231faa4f3219ba9"), looks := false }, kinds := [], alts := [], laidByText := true, laidKinds := [.data, .pinned], laidTests := true, laidLooks := .later }
def FrameEmitsCardSaid : Prop := Claim7.holds Tryd.pinned (.plain (OpenSpec.ofChange frameEmitsSpec)) frameEmitsCard

/-- THE TIED CARD OF 'rejoinderlaw08.FrameStays'. -/
def frameStaysCard : Claim7 := { stood := { row := frameStaysRow, standIns := [], harness := (true, "8dcdc95f18b5a6508c7f6942f17673b4bd6d5622619da3097231faa4f3219ba9"), looks := false }, kinds := [], alts := [], laidByText := true, laidKinds := [.data, .pinned], laidTests := true, laidLooks := .later }
def FrameStaysCardSaid : Prop := Claim7.holds Tryd.pinned (.plain (OpenSpec.ofChange frameStaysSpec)) frameStaysCard

/-- THE TIED CARD OF 'rejoinderlaw08.FrameLong'. -/
def frameLongCard : Claim7 := { stood := { row := frameLongRow, standIns := [], harness := (true, "8dcdc95f18b5a6508c7f6942f17673b4bd6d5622619da3097231faa4f3219ba9"), looks := false }, kinds := [], alts := [], laidByText := true, laidKinds := [.data, .pinned], laidTests := true, laidLooks := .later }
def FrameLongCardSaid : Prop := Claim7.holds Tryd.pinned (.plain (OpenSpec.ofChange frameLongSpec)) frameLongCard

/-- THE SECOND FORM's CARD OF 'rejoinderlaw08.FramePlays'. -/
def framePlaysUptoCard : Claim7 := { stood := { row := framePlaysUptoRow, standIns := [], harness := (true, "8dcdc95f18b5a6508c7f6942f17673b4bd6d5622619da3097231faa4f3219ba9"), looks := false }, kinds := [], alts := [], laidByText := true, laidKinds := [.data, .pinned], laidTests := true, laidLooks := .later }
def FramePlaysUptoCardSaid : Prop := Claim7.holds Tryd.pinned (.plain (OpenSpec.upto framePlaysSpec)) framePlaysUptoCard

/-- THE SECOND FORM's CARD OF 'rejoinderlaw08.FrameCuts'. -/
def frameCutsUptoCard : Claim7 := { stood := { row := frameCutsUptoRow, standIns := [], harness := (true, "8dcdc95f18b5a6508c7f6942f17673b4bd6d5622619da3097231faa4f3219ba9"), looks := false }, kinds := [], alts := [], laidByText := true, laidKinds := [.data, .pinned], laidTests := true, laidLooks := .later }
def FrameCutsUptoCardSaid : Prop := Claim7.holds Tryd.pinned (.plain (OpenSpec.upto frameCutsSpec)) frameCutsUptoCard

/-- THE SECOND FORM's CARD OF 'rejoinderlaw08.FrameEmits'. -/
def frameEmitsUptoCard : Claim7 := { stood := { row := frameEmitsUptoRow, standIns := [], harness := (true, "8dcdc95f18b5a6508c7f6942f17673b4bd6d5622619da3097231faa4f3219ba9"), looks := false }, kinds := [], alts := [], laidByText := true, laidKinds := [.data, .pinned], laidTests := true, laidLooks := .later }
def FrameEmitsUptoCardSaid : Prop := Claim7.holds Tryd.pinned (.plain (OpenSpec.upto frameEmitsSpec)) frameEmitsUptoCard

/-- THE SECOND FORM's CARD OF 'rejoinderlaw08.FrameStays'. -/
def frameStaysUptoCard : Claim7 := { stood := { row := frameStaysUptoRow, standIns := [], harness := (true, "8dcdc95f18b5a6508c7f6942f17673b4bd6d5622619da3097231faa4f3219ba9"), looks := false }, kinds := [], alts := [], laidByText := true, laidKinds := [.data, .pinned], laidTests := true, laidLooks := .later }
def FrameStaysUptoCardSaid : Prop := Claim7.holds Tryd.pinned (.plain (OpenSpec.upto frameStaysSpec)) frameStaysUptoCard

/-- THE SECOND FORM's CARD OF 'rejoinderlaw08.FrameLong'. -/
def frameLongUptoCard : Claim7 := { stood := { row := frameLongUptoRow, standIns := [], harness := (true, "8dcdc95f18b5a6508c7f6942f17673b4bd6d5622619da3097231faa4f3219ba9"), looks := false }, kinds := [], alts := [], laidByText := true, laidKinds := [.data, .pinned], laidTests := true, laidLooks := .later }
def FrameLongUptoCardSaid : Prop := Claim7.holds Tryd.pinned (.plain (OpenSpec.upto frameLongSpec)) frameLongUptoCard
end Rows
end Go.Proofs.YtagedockmlbebaaDoor
