/-
  DERIVED. GIVEN WITH THE SEED: THE CARDS: each row of YtmbjmokhkonpiaaGreatDoorRows.lean that lists a variable, with what it lists TIED to the program's text (the seventh form; the later family's looks); each row that meets fmt, with fmt's text TOLD by the authors' own Lean function (tested against real Go, not proved from fmt's source: count such statements apart). THE CARD IS WHAT COUNTS. Prove the row's statement (the work); the ties are given (YtmbjmokhkonpiaaGreatDoorTie.lean); close each card by the builder's one call (the guide's Derived/Test/ToyasCard.lean, 'card_holds'). Laid BY PROGRAM, IN A SANDBOX (cutbox-door.mjs). By AI agents, Wed Nov 11 2026. No macro, syntax, notation, axiom, sorry.
-/
import Derived.Test.YtmbjmokhkonpiaaGreatDoorRows
import GoSem.ClaimSeven
namespace Go.Proofs.YtmbjmokhkonpiaaGreatDoor
namespace Rows

/-- THE TIED CARD OF 'gazetteerlaw2.MasterPrints'. -/
def masterPrintsCard : Claim7 := { stood := { row := masterPrintsRow, standIns := [], harness := (true, "b57398374265dec75ea9a1d27a3267a7e7dad5a4fd560cd032eafd4b517add21"), looks := true }, kinds := [], alts := [], laidByText := true, laidKinds := [.data, .data, .data, .data], laidTests := true, laidLooks := .later }
def MasterPrintsCardSaid : Prop := Claim7.holds Tryz.pinned (.plain (OpenSpec.ofChange masterPrintsSpec)) masterPrintsCard

/-- THE SECOND FORM's CARD OF 'gazetteerlaw2.MasterPrints'. -/
def masterPrintsUptoCard : Claim7 := { stood := { row := masterPrintsUptoRow, standIns := [], harness := (true, "b57398374265dec75ea9a1d27a3267a7e7dad5a4fd560cd032eafd4b517add21"), looks := true }, kinds := [], alts := [], laidByText := true, laidKinds := [.data, .data, .data, .data], laidTests := true, laidLooks := .later }
def MasterPrintsUptoCardSaid : Prop := Claim7.holds Tryz.pinned (.plain (OpenSpec.upto masterPrintsSpec)) masterPrintsUptoCard
end Rows
end Go.Proofs.YtmbjmokhkonpiaaGreatDoor
