import Derived.Test.YtklpgjgnghdcjaaGreatShw
import Derived.Test.YtklpgjgnghdcjaaGreatBt1
import Derived.Shelf.Small.Bits
import Derived.Shelf.Lay
import Derived.Ground.NamesProg
import Derived.Test.YtklpgjgnghdcjaaGreatMath21G
import Derived.Test.YtklpgjgnghdcjaaGreatLowG
import Derived.Test.YtklpgjgnghdcjaaGreatSml2
namespace Go.Proofs.YtklpgjgnghdcjaaGreat
set_option linter.unusedVariables false
open Go.RowKit Go.Shelf Go.Proofs.YtklpgjgnghdcjaaGreat.Nm

shelf_lay Lays.n125 Nm 125 at Tryz as Tryz.lays125 -- function 109

/-- so many digits, each of which tells W bits -/
def DigOk (d : ByteArray) (W : Nat) : Prop := d.size = 2 ^ W ∧ (W = 4 ∨ W = 5 ∨ W = 6)

end Go.Proofs.YtklpgjgnghdcjaaGreat

namespace Go.Proofs.YtklpgjgnghdcjaaGreat
set_option linter.unusedVariables false
open Go.RowKit Go.Shelf Go.Proofs.YtklpgjgnghdcjaaGreat.Nm

/-- what fromDigits hands back -/
def fromEnd (r : Option (List Nat)) : Ending := match r with | some l => .returned (.tuple #[.string (bts l), .bool true]) | none => .returned (.tuple #[.string ByteArray.empty, .bool false])

end Go.Proofs.YtklpgjgnghdcjaaGreat

namespace Go.Proofs.YtklpgjgnghdcjaaGreat
set_option linter.unusedVariables false
open Go.RowKit Go.Shelf Go.Proofs.YtklpgjgnghdcjaaGreat.Nm

end Go.Proofs.YtklpgjgnghdcjaaGreat
