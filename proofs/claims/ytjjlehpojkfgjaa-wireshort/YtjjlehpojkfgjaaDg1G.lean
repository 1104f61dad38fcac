import Derived.Test.YtjjlehpojkfgjaaShw
import Derived.Test.YtjjlehpojkfgjaaBt1
import Derived.Shelf.Small.Bits
import Derived.Shelf.Lay
import Derived.Ground.NamesProg
import Derived.Test.YtjjlehpojkfgjaaMath21G
import Derived.Test.YtjjlehpojkfgjaaLowG
import Derived.Test.YtjjlehpojkfgjaaSml2
namespace Go.Proofs.Ytjjlehpojkfgjaa
set_option linter.unusedVariables false
open Go.RowKit Go.Shelf Go.Proofs.Ytjjlehpojkfgjaa.Nm

/-- so many digits, each of which tells W bits -/
def DigOk (d : ByteArray) (W : Nat) : Prop := d.size = 2 ^ W ∧ (W = 4 ∨ W = 5 ∨ W = 6)

end Go.Proofs.Ytjjlehpojkfgjaa

namespace Go.Proofs.Ytjjlehpojkfgjaa
set_option linter.unusedVariables false
open Go.RowKit Go.Shelf Go.Proofs.Ytjjlehpojkfgjaa.Nm

/-- what fromDigits hands back -/
def fromEnd (r : Option (List Nat)) : Ending := match r with | some l => .returned (.tuple #[.string (bts l), .bool true]) | none => .returned (.tuple #[.string ByteArray.empty, .bool false])

end Go.Proofs.Ytjjlehpojkfgjaa

namespace Go.Proofs.Ytjjlehpojkfgjaa
set_option linter.unusedVariables false
open Go.RowKit Go.Shelf Go.Proofs.Ytjjlehpojkfgjaa.Nm

end Go.Proofs.Ytjjlehpojkfgjaa
