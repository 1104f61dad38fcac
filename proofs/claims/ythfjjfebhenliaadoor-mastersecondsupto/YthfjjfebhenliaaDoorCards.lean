/-
  DERIVED. GIVEN WITH THE SEED: THE CARDS: each row of YthfjjfebhenliaaDoorRows.lean that lists a variable, with what it lists TIED to the program's text (the seventh form; the later family's looks); each row that meets fmt, with fmt's text TOLD by the authors' own Lean function (tested against real Go, not proved from fmt's source: count such statements apart). THE CARD IS WHAT COUNTS. Prove the row's statement (the work); the ties are given (YthfjjfebhenliaaDoorTie.lean); close each card by the builder's one call (the guide's Derived/Test/ToyasCard.lean, 'card_holds'). Laid BY PROGRAM, IN A SANDBOX (cutbox-door.mjs). By AI agents, Wed Nov 11 2026. No macro, syntax, notation, axiom, sorry.
-/
import Derived.Test.YthfjjfebhenliaaDoorRows
import GoSem.ClaimSeven
namespace Go.Proofs.YthfjjfebhenliaaDoor
namespace Rows

/-- THE TIED CARD OF 'gazetteerlaw2.MasterSeconds'. -/
def masterSecondsCard : Claim7 := { stood := { row := masterSecondsRow, standIns := [], harness := (true, "13681a97c95daa1ec4034d7c63c6a423961d17bb7df6a437d3d67551707f1d8b"), looks := true }, kinds := [], alts := [], laidByText := true, laidKinds := [.data, .data, .data, .sentinel, .sentinel, .data], laidTests := true, laidLooks := .later }
def MasterSecondsCardSaid : Prop := Claim7.holds Tryd.pinned (.plain (OpenSpec.ofChange masterSecondsSpec)) masterSecondsCard

/-- THE TIED CARD OF 'gazetteerlaw2.MasterEntries'. -/
def masterEntriesCard : Claim7 := { stood := { row := masterEntriesRow, standIns := [], harness := (true, "13681a97c95daa1ec4034d7c63c6a423961d17bb7df6a437d3d67551707f1d8b"), looks := true }, kinds := [], alts := [], laidByText := true, laidKinds := [.handle], laidTests := true, laidLooks := .later }
def MasterEntriesCardSaid : Prop := Claim7.holds Tryd.pinned (.plain (OpenSpec.ofChange masterEntriesSpec)) masterEntriesCard

/-- THE SECOND FORM's CARD OF 'gazetteerlaw2.MasterSeconds'. -/
def masterSecondsUptoCard : Claim7 := { stood := { row := masterSecondsUptoRow, standIns := [], harness := (true, "13681a97c95daa1ec4034d7c63c6a423961d17bb7df6a437d3d67551707f1d8b"), looks := true }, kinds := [], alts := [], laidByText := true, laidKinds := [.data, .data, .data, .sentinel, .sentinel, .data], laidTests := true, laidLooks := .later }
def MasterSecondsUptoCardSaid : Prop := Claim7.holds Tryd.pinned (.plain (OpenSpec.upto masterSecondsSpec)) masterSecondsUptoCard

/-- THE SECOND FORM's CARD OF 'gazetteerlaw2.MasterEntries'. -/
def masterEntriesUptoCard : Claim7 := { stood := { row := masterEntriesUptoRow, standIns := [], harness := (true, "13681a97c95daa1ec4034d7c63c6a423961d17bb7df6a437d3d67551707f1d8b"), looks := true }, kinds := [], alts := [], laidByText := true, laidKinds := [.handle], laidTests := true, laidLooks := .later }
def MasterEntriesUptoCardSaid : Prop := Claim7.holds Tryd.pinned (.plain (OpenSpec.upto masterEntriesSpec)) masterEntriesUptoCard
end Rows
end Go.Proofs.YthfjjfebhenliaaDoor
