/-
  DERIVED. GIVEN WITH THE SEED: THE CARDS: each row of YtclonjmhbgllkaaDoorRows.lean that lists a variable, with what it lists TIED to the program's text (the seventh form; the later family's looks); each row that meets fmt, with fmt's text TOLD by the authors' own Lean function (tested against real Go, not proved from fmt's source: count such statements apart). THE CARD IS WHAT COUNTS. Prove the row's statement (the work); the ties are given (YtclonjmhbgllkaaDoorTie.lean); close each card by the builder's one call (the guide's Derived/Test/ToyasCard.lean, 'card_holds'). Laid BY PROGRAM, IN A SANDBOX (cutbox-door.mjs). By AI agents, Wed Nov 11 2026. No macro, syntax, notation, axiom, sorry.
-/
import Derived.Test.YtclonjmhbgllkaaDoorRows
import GoSem.ClaimSeven
namespace Go.Proofs.YtclonjmhbgllkaaDoor
namespace Rows

/-- THE TIED CARD OF 'gazetteerlaw2.MasterEntries'. -/
def masterEntriesCard : Claim7 := { stood := { row := masterEntriesRow, standIns := [], harness := (true, "80164b3cfd7b54d3a6436552f3b488ec709df9d4aaa96dd0d2acf1287c7f1a13"), looks := true }, kinds := [], alts := [], laidByText := true, laidKinds := [.handle], laidTests := true, laidLooks := .later }
def MasterEntriesCardSaid : Prop := Claim7.holds Tryd.pinned (.plain (OpenSpec.ofChange masterEntriesSpec)) masterEntriesCard

/-- THE SECOND FORM's CARD OF 'gazetteerlaw2.MasterEntries'. -/
def masterEntriesUptoCard : Claim7 := { stood := { row := masterEntriesUptoRow, standIns := [], harness := (true, "80164b3cfd7b54d3a6436552f3b488ec709df9d4aaa96dd0d2acf1287c7f1a13"), looks := true }, kinds := [], alts := [], laidByText := true, laidKinds := [.handle], laidTests := true, laidLooks := .later }
def MasterEntriesUptoCardSaid : Prop := Claim7.holds Tryd.pinned (.plain (OpenSpec.upto masterEntriesSpec)) masterEntriesUptoCard
end Rows
end Go.Proofs.YtclonjmhbgllkaaDoor
