import Derived.Test.YthjjldhbfgelcaaShw
import Derived.Test.YthjjldhbfgelcaaBt1G
import Derived.Shelf.Small.Bits
import Derived.Shelf.Lay
import Derived.Ground.NamesProg
import Derived.Test.YthjjldhbfgelcaaMath21G
import Derived.Test.YthjjldhbfgelcaaLowG
import Derived.Test.YthjjldhbfgelcaaSml2
namespace Go.Proofs.Ythjjldhbfgelcaa
set_option linter.unusedVariables false
open Go.RowKit Go.Shelf Go.Proofs.Ythjjldhbfgelcaa.Nm

/-- so many digits, each of which tells W bits -/
def DigOk (d : ByteArray) (W : Nat) : Prop := d.size = 2 ^ W ∧ (W = 4 ∨ W = 5 ∨ W = 6)

end Go.Proofs.Ythjjldhbfgelcaa

namespace Go.Proofs.Ythjjldhbfgelcaa
set_option linter.unusedVariables false
open Go.RowKit Go.Shelf Go.Proofs.Ythjjldhbfgelcaa.Nm

/-- what fromDigits hands back -/
def fromEnd (r : Option (List Nat)) : Ending := match r with | some l => .returned (.tuple #[.string (bts l), .bool true]) | none => .returned (.tuple #[.string ByteArray.empty, .bool false])

end Go.Proofs.Ythjjldhbfgelcaa

namespace Go.Proofs.Ythjjldhbfgelcaa
set_option linter.unusedVariables false
open Go.RowKit Go.Shelf Go.Proofs.Ythjjldhbfgelcaa.Nm

end Go.Proofs.Ythjjldhbfgelcaa
