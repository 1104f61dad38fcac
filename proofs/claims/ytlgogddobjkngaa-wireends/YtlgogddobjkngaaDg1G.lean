import Derived.Test.YtlgogddobjkngaaShw
import Derived.Test.YtlgogddobjkngaaBt1
import Derived.Shelf.Small.Bits
import Derived.Shelf.Lay
import Derived.Ground.NamesProg
import Derived.Test.YtlgogddobjkngaaMath21G
import Derived.Test.YtlgogddobjkngaaLowG
import Derived.Test.YtlgogddobjkngaaSml2
namespace Go.Proofs.Ytlgogddobjkngaa
set_option linter.unusedVariables false
open Go.RowKit Go.Shelf Go.Proofs.Ytlgogddobjkngaa.Nm

/-- so many digits, each of which tells W bits -/
def DigOk (d : ByteArray) (W : Nat) : Prop := d.size = 2 ^ W ∧ (W = 4 ∨ W = 5 ∨ W = 6)

end Go.Proofs.Ytlgogddobjkngaa

namespace Go.Proofs.Ytlgogddobjkngaa
set_option linter.unusedVariables false
open Go.RowKit Go.Shelf Go.Proofs.Ytlgogddobjkngaa.Nm

/-- what fromDigits hands back -/
def fromEnd (r : Option (List Nat)) : Ending := match r with | some l => .returned (.tuple #[.string (bts l), .bool true]) | none => .returned (.tuple #[.string ByteArray.empty, .bool false])

end Go.Proofs.Ytlgogddobjkngaa

namespace Go.Proofs.Ytlgogddobjkngaa
set_option linter.unusedVariables false
open Go.RowKit Go.Shelf Go.Proofs.Ytlgogddobjkngaa.Nm

end Go.Proofs.Ytlgogddobjkngaa
