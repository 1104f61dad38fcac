import Derived.Test.YtioamelddjdmcaaGreatShw
import Derived.Test.YtioamelddjdmcaaGreatBt1
import Derived.Shelf.Small.Bits
import Derived.Shelf.Lay
import Derived.Ground.NamesProg
import Derived.Test.YtioamelddjdmcaaGreatMath21G
import Derived.Test.YtioamelddjdmcaaGreatLowG
import Derived.Test.YtioamelddjdmcaaGreatSml2
namespace Go.Proofs.YtioamelddjdmcaaGreat
set_option linter.unusedVariables false
open Go.RowKit Go.Shelf Go.Proofs.YtioamelddjdmcaaGreat.Nm

def DigOk (d : ByteArray) (W : Nat) : Prop := d.size = 2 ^ W ∧ (W = 4 ∨ W = 5 ∨ W = 6)

end Go.Proofs.YtioamelddjdmcaaGreat

namespace Go.Proofs.YtioamelddjdmcaaGreat
set_option linter.unusedVariables false
open Go.RowKit Go.Shelf Go.Proofs.YtioamelddjdmcaaGreat.Nm

def fromEnd (r : Option (List Nat)) : Ending := match r with | some l => .returned (.tuple #[.string (bts l), .bool true]) | none => .returned (.tuple #[.string ByteArray.empty, .bool false])

end Go.Proofs.YtioamelddjdmcaaGreat

namespace Go.Proofs.YtioamelddjdmcaaGreat
set_option linter.unusedVariables false
open Go.RowKit Go.Shelf Go.Proofs.YtioamelddjdmcaaGreat.Nm

end Go.Proofs.YtioamelddjdmcaaGreat
