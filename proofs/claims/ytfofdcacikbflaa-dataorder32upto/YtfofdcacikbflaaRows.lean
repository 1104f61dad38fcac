/-
  No cell of these rows narrows 'for every input' (looked for: loops, veiled, ifaces, maps, wideKeys, modest, calm, conditions, laid).
  DERIVED. THE GIVEN ROWS OF THIS SEAT. 4 by the template 'for every input the law returns true; each argument reads behind the call as it read before'; 0 by the template 'total and deterministic' (their statements: YtfofdcacikbflaaTotals.lean).
  GIVEN WITH THE SEED: the statements are not yours to turn. If you find one false, say at which input.
  Laid BY PROGRAM, IN A SANDBOX (cutbox-rows.mjs): the forced cells as the released guide's own fill.sh prints them over the translation e8c0cfe7e7426f4a… (all of the seat's roots in one cut). By AI agents, Wed Nov 11 2026. No macro, syntax, notation, axiom, sorry.
-/
import Derived.Test.YtfofdcacikbflaaChecked
import GoSem.Claim
import GoSem.ClaimJoined
import GoSem.ClaimMapViews
import Derived.JoinedTies
import Derived.KernelRfl
namespace Go.Proofs.Ytfofdcacikbflaa
/- THE CELL 'sum', in the pinned program and in every row, IS THE sha256 OF THE DUMP (.gsa) THAT YtfofdcacikbflaaProg.lean LOADS. Nothing in Lean hashes anything: it is a label: what it is worth is what the hold of that sum in a sandbox is worth. -/
noncomputable def Try.pinned : Pinned := { name := "ytfofdcacikbflaa", sum := "e8c0cfe7e7426f4a83899a92bb79850b3cb1204e02957a39f36944c55da416b1", checked := Try.checked }
namespace Rows
def none {H : Type} : Left H := { results := [], args := [] }

/-- 'gazetteerlaw1.DataChecks': WHATEVER THE INPUT: true; the input reads as it did. -/
def dataChecksSpec : ChangeSpec := { name := "dataChecks", fn := fun _ => fun
  | [d1, d2] => { results := [.lit (.bool true)], args := [d1, d2] }
  | _ => none }
def dataChecksRow : OpenClaim := { program := "ytfofdcacikbflaa", sum := "e8c0cfe7e7426f4a83899a92bb79850b3cb1204e02957a39f36944c55da416b1", func := "gazetteer/gazetteerlaw1.DataChecks", spec := "dataChecks", inPlace := ["internal/abi.NoEscape"], unfollowed := true, recurses := true, apart := false }
def DataChecksSaid : Prop := dataChecksRow.holds Try.pinned (OpenSpec.ofChange dataChecksSpec)

/-- ITS FALSE NEIGHBOUR: 'it returns false'. Refute it at one input. -/
def dataChecksWrong : ChangeSpec := { name := "dataChecks", fn := fun _ => fun
  | [d1, d2] => { results := [.lit (.bool false)], args := [d1, d2] }
  | _ => none }
def DataChecksWrongFalsely : Prop := dataChecksRow.holds Try.pinned (OpenSpec.ofChange dataChecksWrong)

/-- 'gazetteerlaw1.DataBase32': WHATEVER THE INPUT: true; the input reads as it did. -/
def dataBase32Spec : ChangeSpec := { name := "dataBase32", fn := fun _ => fun
  | [d1, d2] => { results := [.lit (.bool true)], args := [d1, d2] }
  | _ => none }
def dataBase32Row : OpenClaim := { program := "ytfofdcacikbflaa", sum := "e8c0cfe7e7426f4a83899a92bb79850b3cb1204e02957a39f36944c55da416b1", func := "gazetteer/gazetteerlaw1.DataBase32", spec := "dataBase32", inPlace := ["internal/bytealg.IndexByteString"], apart := false }
def DataBase32Said : Prop := dataBase32Row.holds Try.pinned (OpenSpec.ofChange dataBase32Spec)

/-- ITS FALSE NEIGHBOUR: 'it returns false'. Refute it at one input. -/
def dataBase32Wrong : ChangeSpec := { name := "dataBase32", fn := fun _ => fun
  | [d1, d2] => { results := [.lit (.bool false)], args := [d1, d2] }
  | _ => none }
def DataBase32WrongFalsely : Prop := dataBase32Row.holds Try.pinned (OpenSpec.ofChange dataBase32Wrong)

/-- 'gazetteerlaw1.DataOrder32': WHATEVER THE INPUT: true; the input reads as it did. -/
def dataOrder32Spec : ChangeSpec := { name := "dataOrder32", fn := fun _ => fun
  | [d1, d2] => { results := [.lit (.bool true)], args := [d1, d2] }
  | _ => none }
def dataOrder32Row : OpenClaim := { program := "ytfofdcacikbflaa", sum := "e8c0cfe7e7426f4a83899a92bb79850b3cb1204e02957a39f36944c55da416b1", func := "gazetteer/gazetteerlaw1.DataOrder32", spec := "dataOrder32", inPlace := ["internal/bytealg.IndexByteString"], apart := false }
def DataOrder32Said : Prop := dataOrder32Row.holds Try.pinned (OpenSpec.ofChange dataOrder32Spec)

/-- ITS FALSE NEIGHBOUR: 'it returns false'. Refute it at one input. -/
def dataOrder32Wrong : ChangeSpec := { name := "dataOrder32", fn := fun _ => fun
  | [d1, d2] => { results := [.lit (.bool false)], args := [d1, d2] }
  | _ => none }
def DataOrder32WrongFalsely : Prop := dataOrder32Row.holds Try.pinned (OpenSpec.ofChange dataOrder32Wrong)

/-- 'gazetteerlaw1.DataSets': WHATEVER THE INPUT: true; the input reads as it did. -/
def dataSetsSpec : ChangeSpec := { name := "dataSets", fn := fun _ => fun
  | [d1, d2] => { results := [.lit (.bool true)], args := [d1, d2] }
  | _ => none }
def dataSetsRow : OpenClaim := { program := "ytfofdcacikbflaa", sum := "e8c0cfe7e7426f4a83899a92bb79850b3cb1204e02957a39f36944c55da416b1", func := "gazetteer/gazetteerlaw1.DataSets", spec := "dataSets", unfollowed := true, recurses := true, apart := false }
def DataSetsSaid : Prop := dataSetsRow.holds Try.pinned (OpenSpec.ofChange dataSetsSpec)

/-- ITS FALSE NEIGHBOUR: 'it returns false'. Refute it at one input. -/
def dataSetsWrong : ChangeSpec := { name := "dataSets", fn := fun _ => fun
  | [d1, d2] => { results := [.lit (.bool false)], args := [d1, d2] }
  | _ => none }
def DataSetsWrongFalsely : Prop := dataSetsRow.holds Try.pinned (OpenSpec.ofChange dataSetsWrong)

/- THE SECOND FORM. 'bulk': how many values and letters a reading holds, each counted each time it is reached (what is shared counts as often as it is met; a slice's spare places count too). A statement '..UptoSaid' is the law's where the arguments, and the package variables that the reading takes, are together of bulk at most 1048576: NARROWER than '..Said'. Prove '..Said' where nothing that the law and all that it calls make is longer than what came in: it says more and counts as full. Else prove '..UptoSaid'. A law counts once. -/
mutual
def uptoBulk {H : Type} : DataW H → Nat
  | .lit (.string bytes) => bytes.length + 1
  | .lit _ => 1
  | .nil => 1
  | .ptr d => uptoBulk d + 1
  | .slice elems spare => uptoBulkAll elems + uptoBulkAll spare + 1
  | .agg parts => uptoBulkAll parts + 1
  | .iface _ d => uptoBulk d + 1
  | .map entries => uptoBulkEntries entries + 1
  | .held _ => 1
def uptoBulkAll {H : Type} : List (DataW H) → Nat
  | [] => 0
  | d :: r => uptoBulk d + uptoBulkAll r
def uptoBulkEntries {H : Type} : List (Lit × DataW H) → Nat
  | [] => 0
  | x :: r => uptoBulkEntry x + uptoBulkEntries r
def uptoBulkEntry {H : Type} : Lit × DataW H → Nat
  | (.string bytes, d) => bytes.length + uptoBulk d + 1
  | (_, d) => uptoBulk d + 1
 end
def uptoSmall : (H : Type) → List (DataW H) → Bool := fun _ ds => decide (uptoBulkAll ds ≤ 1048576)
def OpenSpec.upto (s : _root_.Go.ChangeSpec) : _root_.Go.OpenSpec := { _root_.Go.OpenSpec.ofChange s with cond := some uptoSmall }

/-- 'gazetteerlaw1.DataChecks', WHERE WHAT IT READS IS OF BULK AT MOST 1048576: true; the input reads as it did. -/
def dataChecksUptoRow : OpenClaim := { program := "ytfofdcacikbflaa", sum := "e8c0cfe7e7426f4a83899a92bb79850b3cb1204e02957a39f36944c55da416b1", func := "gazetteer/gazetteerlaw1.DataChecks", spec := "dataChecks", inPlace := ["internal/abi.NoEscape"], unfollowed := true, recurses := true, apart := false, narrowed := true }
def DataChecksUptoSaid : Prop := dataChecksUptoRow.holds Try.pinned (OpenSpec.upto dataChecksSpec)

/-- 'gazetteerlaw1.DataBase32', WHERE WHAT IT READS IS OF BULK AT MOST 1048576: true; the input reads as it did. -/
def dataBase32UptoRow : OpenClaim := { program := "ytfofdcacikbflaa", sum := "e8c0cfe7e7426f4a83899a92bb79850b3cb1204e02957a39f36944c55da416b1", func := "gazetteer/gazetteerlaw1.DataBase32", spec := "dataBase32", inPlace := ["internal/bytealg.IndexByteString"], apart := false, narrowed := true }
def DataBase32UptoSaid : Prop := dataBase32UptoRow.holds Try.pinned (OpenSpec.upto dataBase32Spec)

/-- 'gazetteerlaw1.DataOrder32', WHERE WHAT IT READS IS OF BULK AT MOST 1048576: true; the input reads as it did. -/
def dataOrder32UptoRow : OpenClaim := { program := "ytfofdcacikbflaa", sum := "e8c0cfe7e7426f4a83899a92bb79850b3cb1204e02957a39f36944c55da416b1", func := "gazetteer/gazetteerlaw1.DataOrder32", spec := "dataOrder32", inPlace := ["internal/bytealg.IndexByteString"], apart := false, narrowed := true }
def DataOrder32UptoSaid : Prop := dataOrder32UptoRow.holds Try.pinned (OpenSpec.upto dataOrder32Spec)

/-- 'gazetteerlaw1.DataSets', WHERE WHAT IT READS IS OF BULK AT MOST 1048576: true; the input reads as it did. -/
def dataSetsUptoRow : OpenClaim := { program := "ytfofdcacikbflaa", sum := "e8c0cfe7e7426f4a83899a92bb79850b3cb1204e02957a39f36944c55da416b1", func := "gazetteer/gazetteerlaw1.DataSets", spec := "dataSets", unfollowed := true, recurses := true, apart := false, narrowed := true }
def DataSetsUptoSaid : Prop := dataSetsUptoRow.holds Try.pinned (OpenSpec.upto dataSetsSpec)

end Rows
end Go.Proofs.Ytfofdcacikbflaa
