import Derived.Test.YtbahjpjncopabaaGreatShw
import Derived.Test.YtbahjpjncopabaaGreatBt1
import Derived.Shelf.Small.Bits
import Derived.Shelf.Lay
import Derived.Ground.NamesProg
import Derived.Test.YtbahjpjncopabaaGreatMath21G
import Derived.Test.YtbahjpjncopabaaGreatLowG
import Derived.Test.YtbahjpjncopabaaGreatSml2
namespace Go.Proofs.YtbahjpjncopabaaGreat
set_option linter.unusedVariables false
open Go.RowKit Go.Shelf Go.Proofs.YtbahjpjncopabaaGreat.Nm

/-- so many digits, each of which tells W bits -/
def DigOk (d : ByteArray) (W : Nat) : Prop := d.size = 2 ^ W ∧ (W = 4 ∨ W = 5 ∨ W = 6)

end Go.Proofs.YtbahjpjncopabaaGreat

namespace Go.Proofs.YtbahjpjncopabaaGreat
set_option linter.unusedVariables false
open Go.RowKit Go.Shelf Go.Proofs.YtbahjpjncopabaaGreat.Nm

/-- what fromDigits hands back -/
def fromEnd (r : Option (List Nat)) : Ending := match r with | some l => .returned (.tuple #[.string (bts l), .bool true]) | none => .returned (.tuple #[.string ByteArray.empty, .bool false])

end Go.Proofs.YtbahjpjncopabaaGreat

namespace Go.Proofs.YtbahjpjncopabaaGreat
set_option linter.unusedVariables false
open Go.RowKit Go.Shelf Go.Proofs.YtbahjpjncopabaaGreat.Nm

end Go.Proofs.YtbahjpjncopabaaGreat
