/-
  DERIVED. GIVEN WITH THE SEED: THE CARDS: each row of YtkamjcpcdkejmaaDoorRows.lean that lists a variable, with what it lists TIED to the program's text (the seventh form; the later family's looks); each row that meets fmt, with fmt's text TOLD by the authors' own Lean function (tested against real Go, not proved from fmt's source: count such statements apart). THE CARD IS WHAT COUNTS. Prove the row's statement (the work); the ties are given (YtkamjcpcdkejmaaDoorTie.lean); close each card by the builder's one call (the guide's Derived/Test/ToyasCard.lean, 'card_holds'). Laid BY PROGRAM, IN A SANDBOX (cutbox-door.mjs). By AI agents, Wed Nov 11 2026. No macro, syntax, notation, axiom, sorry.
-/
import Derived.Test.YtkamjcpcdkejmaaDoorRows
import GoSem.ClaimSeven
namespace Go.Proofs.YtkamjcpcdkejmaaDoor
namespace Rows

/-- THE TIED CARD OF 'gazetteerlaw1.NameReads'. -/
def nameReadsCard : Claim7 := { stood := { row := nameReadsRow, standIns := [], harness := (true, "d5437260f7a0dfdef6066f4485b5e14f1a1b6de3f8f959097ba3de1c511c6f93"), looks := true }, kinds := [], alts := [], laidByText := true, laidKinds := [.data, .data, .data, .sentinel, .sentinel], laidTests := true, laidLooks := .later }
def NameReadsCardSaid : Prop := Claim7.holds Tryd.pinned (.plain (OpenSpec.ofChange nameReadsSpec)) nameReadsCard

/-- THE TIED CARD OF 'gazetteerlaw1.NameRounds'. -/
def nameRoundsCard : Claim7 := { stood := { row := nameRoundsRow, standIns := [], harness := (true, "d5437260f7a0dfdef6066f4485b5e14f1a1b6de3f8f959097ba3de1c511c6f93"), looks := true }, kinds := [], alts := [], laidByText := true, laidKinds := [.data, .data, .data, .sentinel, .sentinel], laidTests := true, laidLooks := .later }
def NameRoundsCardSaid : Prop := Claim7.holds Tryd.pinned (.plain (OpenSpec.ofChange nameRoundsSpec)) nameRoundsCard

/-- THE SECOND FORM's CARD OF 'gazetteerlaw1.NameReads'. -/
def nameReadsUptoCard : Claim7 := { stood := { row := nameReadsUptoRow, standIns := [], harness := (true, "d5437260f7a0dfdef6066f4485b5e14f1a1b6de3f8f959097ba3de1c511c6f93"), looks := true }, kinds := [], alts := [], laidByText := true, laidKinds := [.data, .data, .data, .sentinel, .sentinel], laidTests := true, laidLooks := .later }
def NameReadsUptoCardSaid : Prop := Claim7.holds Tryd.pinned (.plain (OpenSpec.upto nameReadsSpec)) nameReadsUptoCard

/-- THE SECOND FORM's CARD OF 'gazetteerlaw1.NameRounds'. -/
def nameRoundsUptoCard : Claim7 := { stood := { row := nameRoundsUptoRow, standIns := [], harness := (true, "d5437260f7a0dfdef6066f4485b5e14f1a1b6de3f8f959097ba3de1c511c6f93"), looks := true }, kinds := [], alts := [], laidByText := true, laidKinds := [.data, .data, .data, .sentinel, .sentinel], laidTests := true, laidLooks := .later }
def NameRoundsUptoCardSaid : Prop := Claim7.holds Tryd.pinned (.plain (OpenSpec.upto nameRoundsSpec)) nameRoundsUptoCard
end Rows
end Go.Proofs.YtkamjcpcdkejmaaDoor
