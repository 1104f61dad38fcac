/-
  DERIVED. GIVEN WITH THE SEED: THE CARDS: each row of YtkeibncmgplgkaaDoorRows.lean that lists a variable, with what it lists TIED to the program's text (the seventh form; the later family's looks); each row that meets fmt, with fmt's text TOLD by the authors' own Lean function (tested against real Go, not proved from fmt's source: count such statements apart). THE CARD IS WHAT COUNTS. Prove the row's statement (the work); the ties are given (YtkeibncmgplgkaaDoorTie.lean); close each card by the builder's one call (the guide's Derived/Test/ToyasCard.lean, 'card_holds'). Laid BY PROGRAM, IN A SANDBOX (cutbox-door.mjs). By AI agents, Wed Nov 11 2026. No macro, syntax, notation, axiom, sorry.
-/
import Derived.Test.YtkeibncmgplgkaaDoorRows
import GoSem.ClaimSeven
namespace Go.Proofs.YtkeibncmgplgkaaDoor
namespace Rows

/-- THE TIED CARD OF 'gazetteerlaw2.MasterSeconds'. -/
def masterSecondsCard : Claim7 := { stood := { row := masterSecondsRow, standIns := [], harness := (true, "0798c0456845e78bfcedbef45e1b78c7a2c69d43b734dec9a0809525db77fc41"), looks := true }, kinds := [], alts := [], laidByText := true, laidKinds := [.data, .data, .data, .sentinel, .sentinel, .data], laidTests := true, laidLooks := .later }
def MasterSecondsCardSaid : Prop := Claim7.holds Tryd.pinned (.plain (OpenSpec.ofChange masterSecondsSpec)) masterSecondsCard

/-- THE SECOND FORM's CARD OF 'gazetteerlaw2.MasterSeconds'. -/
def masterSecondsUptoCard : Claim7 := { stood := { row := masterSecondsUptoRow, standIns := [], harness := (true, "0798c0456845e78bfcedbef45e1b78c7a2c69d43b734dec9a0809525db77fc41"), looks := true }, kinds := [], alts := [], laidByText := true, laidKinds := [.data, .data, .data, .sentinel, .sentinel, .data], laidTests := true, laidLooks := .later }
def MasterSecondsUptoCardSaid : Prop := Claim7.holds Tryd.pinned (.plain (OpenSpec.upto masterSecondsSpec)) masterSecondsUptoCard
end Rows
end Go.Proofs.YtkeibncmgplgkaaDoor
