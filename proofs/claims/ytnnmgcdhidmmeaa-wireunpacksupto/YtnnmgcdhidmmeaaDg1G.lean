import Derived.Test.YtnnmgcdhidmmeaaShw
import Derived.Test.YtnnmgcdhidmmeaaBt1
import Derived.Shelf.Small.Bits
import Derived.Shelf.Lay
import Derived.Ground.NamesProg
import Derived.Test.YtnnmgcdhidmmeaaMath21G
import Derived.Test.YtnnmgcdhidmmeaaLowG
import Derived.Test.YtnnmgcdhidmmeaaSml2
namespace Go.Proofs.Ytnnmgcdhidmmeaa
set_option linter.unusedVariables false
open Go.RowKit Go.Shelf Go.Proofs.Ytnnmgcdhidmmeaa.Nm

/-- so many digits, each of which tells W bits -/
def DigOk (d : ByteArray) (W : Nat) : Prop := d.size = 2 ^ W ∧ (W = 4 ∨ W = 5 ∨ W = 6)

end Go.Proofs.Ytnnmgcdhidmmeaa

namespace Go.Proofs.Ytnnmgcdhidmmeaa
set_option linter.unusedVariables false
open Go.RowKit Go.Shelf Go.Proofs.Ytnnmgcdhidmmeaa.Nm

/-- what fromDigits hands back -/
def fromEnd (r : Option (List Nat)) : Ending := match r with | some l => .returned (.tuple #[.string (bts l), .bool true]) | none => .returned (.tuple #[.string ByteArray.empty, .bool false])

end Go.Proofs.Ytnnmgcdhidmmeaa

namespace Go.Proofs.Ytnnmgcdhidmmeaa
set_option linter.unusedVariables false
open Go.RowKit Go.Shelf Go.Proofs.Ytnnmgcdhidmmeaa.Nm

end Go.Proofs.Ytnnmgcdhidmmeaa
