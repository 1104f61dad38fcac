/-
  DERIVED. GIVEN WITH THE SEED: THE CARDS: each row of YtiaccimdjfdkgaaGreatDoorRows.lean that lists a variable, with what it lists TIED to the program's text (the seventh form; the later family's looks); each row that meets fmt, with fmt's text TOLD by the authors' own Lean function (tested against real Go, not proved from fmt's source: count such statements apart). THE CARD IS WHAT COUNTS. Prove the row's statement (the work); the ties are given (YtiaccimdjfdkgaaGreatDoorTie.lean); close each card by the builder's one call (the guide's Derived/Test/ToyasCard.lean, 'card_holds'). Laid BY PROGRAM, IN A SANDBOX (cutbox-door.mjs). By AI agents, Wed Nov 11 2026. No macro, syntax, notation, axiom, sorry.
-/
import Derived.Test.YtiaccimdjfdkgaaGreatDoorRows
import GoSem.ClaimSeven
namespace Go.Proofs.YtiaccimdjfdkgaaGreatDoor
namespace Rows

/-- THE TIED CARD OF 'gazetteerlaw2.MasterRounds'. -/
def masterRoundsCard : Claim7 := { stood := { row := masterRoundsRow, standIns := [], harness := (true, "1d35be5bb70f614a248ebcdb98e3e3df69d0a7467e565a2f17ef2ccd27a3ff82"), looks := true }, kinds := [], alts := [], laidByText := true, laidKinds := [.data, .data, .data, .handle, .sentinel, .sentinel, .data, .data], laidTests := true, laidLooks := .later }
def MasterRoundsCardSaid : Prop := Claim7.holds Tryz.pinned (.plain (OpenSpec.ofChange masterRoundsSpec)) masterRoundsCard

/-- THE TIED CARD OF 'gazetteerlaw2.MasterIncludes'. -/
def masterIncludesCard : Claim7 := { stood := { row := masterIncludesRow, standIns := [], harness := (true, "1d35be5bb70f614a248ebcdb98e3e3df69d0a7467e565a2f17ef2ccd27a3ff82"), looks := true }, kinds := [], alts := [], laidByText := true, laidKinds := [.data, .data, .data, .handle, .sentinel, .sentinel, .data, .data], laidTests := true, laidLooks := .later }
def MasterIncludesCardSaid : Prop := Claim7.holds Tryz.pinned (.plain (OpenSpec.ofChange masterIncludesSpec)) masterIncludesCard

/-- THE TIED CARD OF 'gazetteerlaw2.MasterRemarks'. -/
def masterRemarksCard : Claim7 := { stood := { row := masterRemarksRow, standIns := [], harness := (true, "1d35be5bb70f614a248ebcdb98e3e3df69d0a7467e565a2f17ef2ccd27a3ff82"), looks := true }, kinds := [], alts := [], laidByText := true, laidKinds := [.data, .data, .data, .handle, .sentinel, .sentinel, .data, .data], laidTests := true, laidLooks := .later }
def MasterRemarksCardSaid : Prop := Claim7.holds Tryz.pinned (.plain (OpenSpec.ofChange masterRemarksSpec)) masterRemarksCard

/-- THE SECOND FORM's CARD OF 'gazetteerlaw2.MasterRounds'. -/
def masterRoundsUptoCard : Claim7 := { stood := { row := masterRoundsUptoRow, standIns := [], harness := (true, "1d35be5bb70f614a248ebcdb98e3e3df69d0a7467e565a2f17ef2ccd27a3ff82"), looks := true }, kinds := [], alts := [], laidByText := true, laidKinds := [.data, .data, .data, .handle, .sentinel, .sentinel, .data, .data], laidTests := true, laidLooks := .later }
def MasterRoundsUptoCardSaid : Prop := Claim7.holds Tryz.pinned (.plain (OpenSpec.upto masterRoundsSpec)) masterRoundsUptoCard

/-- THE SECOND FORM's CARD OF 'gazetteerlaw2.MasterIncludes'. -/
def masterIncludesUptoCard : Claim7 := { stood := { row := masterIncludesUptoRow, standIns := [], harness := (true, "1d35be5bb70f614a248ebcdb98e3e3df69d0a7467e565a2f17ef2ccd27a3ff82"), looks := true }, kinds := [], alts := [], laidByText := true, laidKinds := [.data, .data, .data, .handle, .sentinel, .sentinel, .data, .data], laidTests := true, laidLooks := .later }
def MasterIncludesUptoCardSaid : Prop := Claim7.holds Tryz.pinned (.plain (OpenSpec.upto masterIncludesSpec)) masterIncludesUptoCard

/-- THE SECOND FORM's CARD OF 'gazetteerlaw2.MasterRemarks'. -/
def masterRemarksUptoCard : Claim7 := { stood := { row := masterRemarksUptoRow, standIns := [], harness := (true, "1d35be5bb70f614a248ebcdb98e3e3df69d0a7467e565a2f17ef2ccd27a3ff82"), looks := true }, kinds := [], alts := [], laidByText := true, laidKinds := [.data, .data, .data, .handle, .sentinel, .sentinel, .data, .data], laidTests := true, laidLooks := .later }
def MasterRemarksUptoCardSaid : Prop := Claim7.holds Tryz.pinned (.plain (OpenSpec.upto masterRemarksSpec)) masterRemarksUptoCard
end Rows
end Go.Proofs.YtiaccimdjfdkgaaGreatDoor
