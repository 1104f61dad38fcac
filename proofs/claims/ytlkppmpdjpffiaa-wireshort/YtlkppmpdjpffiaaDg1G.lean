import Derived.Test.YtlkppmpdjpffiaaShw
import Derived.Test.YtlkppmpdjpffiaaBt1
import Derived.Shelf.Small.Bits
import Derived.Shelf.Lay
import Derived.Ground.NamesProg
import Derived.Test.YtlkppmpdjpffiaaMath21G
import Derived.Test.YtlkppmpdjpffiaaLowG
import Derived.Test.YtlkppmpdjpffiaaSml2
namespace Go.Proofs.Ytlkppmpdjpffiaa
set_option linter.unusedVariables false
open Go.RowKit Go.Shelf Go.Proofs.Ytlkppmpdjpffiaa.Nm

/-- so many digits, each of which tells W bits -/
def DigOk (d : ByteArray) (W : Nat) : Prop := d.size = 2 ^ W ∧ (W = 4 ∨ W = 5 ∨ W = 6)

end Go.Proofs.Ytlkppmpdjpffiaa

namespace Go.Proofs.Ytlkppmpdjpffiaa
set_option linter.unusedVariables false
open Go.RowKit Go.Shelf Go.Proofs.Ytlkppmpdjpffiaa.Nm

/-- what fromDigits hands back -/
def fromEnd (r : Option (List Nat)) : Ending := match r with | some l => .returned (.tuple #[.string (bts l), .bool true]) | none => .returned (.tuple #[.string ByteArray.empty, .bool false])

end Go.Proofs.Ytlkppmpdjpffiaa

namespace Go.Proofs.Ytlkppmpdjpffiaa
set_option linter.unusedVariables false
open Go.RowKit Go.Shelf Go.Proofs.Ytlkppmpdjpffiaa.Nm

end Go.Proofs.Ytlkppmpdjpffiaa
