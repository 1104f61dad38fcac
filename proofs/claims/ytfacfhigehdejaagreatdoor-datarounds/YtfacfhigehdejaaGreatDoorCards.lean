/-
  DERIVED. GIVEN WITH THE SEED: THE CARDS: each row of YtfacfhigehdejaaGreatDoorRows.lean that lists a variable, with what it lists TIED to the program's text (the seventh form; the later family's looks); each row that meets fmt, with fmt's text TOLD by the authors' own Lean function (tested against real Go, not proved from fmt's source: count such statements apart). THE CARD IS WHAT COUNTS. Prove the row's statement (the work); the ties are given (YtfacfhigehdejaaGreatDoorTie.lean); close each card by the builder's one call (the guide's Derived/Test/ToyasCard.lean, 'card_holds'). Laid BY PROGRAM, IN A SANDBOX (cutbox-door.mjs). By AI agents, Wed Nov 11 2026. No macro, syntax, notation, axiom, sorry.
-/
import Derived.Test.YtfacfhigehdejaaGreatDoorRows
import GoSem.ClaimSeven
namespace Go.Proofs.YtfacfhigehdejaaGreatDoor
namespace Rows

/-- THE TIED CARD OF 'gazetteerlaw1.DataRounds'. -/
def dataRoundsCard : Claim7 := { stood := { row := dataRoundsRow, standIns := [], harness := (true, "fb3566a8dea51e3c5da95509ae6ec9d3d6912a8e8847a98f9798e6868b7df3dd"), looks := true }, kinds := [], alts := [], laidByText := true, laidKinds := [.data, .data, .data, .sentinel, .sentinel, .data], laidTests := true, laidLooks := .later }
def DataRoundsCardSaid : Prop := Claim7.holds Tryz.pinned (.plain (OpenSpec.ofChange dataRoundsSpec)) dataRoundsCard

/-- THE SECOND FORM's CARD OF 'gazetteerlaw1.DataRounds'. -/
def dataRoundsUptoCard : Claim7 := { stood := { row := dataRoundsUptoRow, standIns := [], harness := (true, "fb3566a8dea51e3c5da95509ae6ec9d3d6912a8e8847a98f9798e6868b7df3dd"), looks := true }, kinds := [], alts := [], laidByText := true, laidKinds := [.data, .data, .data, .sentinel, .sentinel, .data], laidTests := true, laidLooks := .later }
def DataRoundsUptoCardSaid : Prop := Claim7.holds Tryz.pinned (.plain (OpenSpec.upto dataRoundsSpec)) dataRoundsUptoCard
end Rows
end Go.Proofs.YtfacfhigehdejaaGreatDoor
