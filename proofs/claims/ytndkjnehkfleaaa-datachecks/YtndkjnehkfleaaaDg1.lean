import Derived.Test.YtndkjnehkfleaaaShw
import Derived.Test.YtndkjnehkfleaaaBt1
import Derived.Shelf.Small.Bits
import Derived.Shelf.Lay
import Derived.Ground.NamesProg
namespace Go.Proofs.Ytndkjnehkfleaaa
set_option linter.unusedVariables false
open Go.RowKit Go.Shelf Go.Proofs.Ytndkjnehkfleaaa.Nm

/-- so many digits, each of which tells W bits -/
def DigOk (d : ByteArray) (W : Nat) : Prop := d.size = 2 ^ W ∧ (W = 4 ∨ W = 5 ∨ W = 6)

end Go.Proofs.Ytndkjnehkfleaaa
