import Derived.Test.YtjnmbgmdkkiidaaGreatShw
import Derived.Test.YtjnmbgmdkkiidaaGreatBt1
import Derived.Shelf.Small.Bits
import Derived.Shelf.Lay
import Derived.Ground.NamesProg
import Derived.Test.YtjnmbgmdkkiidaaGreatMath21G
import Derived.Test.YtjnmbgmdkkiidaaGreatLowG
import Derived.Test.YtjnmbgmdkkiidaaGreatSml2
namespace Go.Proofs.YtjnmbgmdkkiidaaGreat
set_option linter.unusedVariables false
open Go.RowKit Go.Shelf Go.Proofs.YtjnmbgmdkkiidaaGreat.Nm

/-- so many digits, each of which tells W bits -/
def DigOk (d : ByteArray) (W : Nat) : Prop := d.size = 2 ^ W ∧ (W = 4 ∨ W = 5 ∨ W = 6)

end Go.Proofs.YtjnmbgmdkkiidaaGreat

namespace Go.Proofs.YtjnmbgmdkkiidaaGreat
set_option linter.unusedVariables false
open Go.RowKit Go.Shelf Go.Proofs.YtjnmbgmdkkiidaaGreat.Nm

/-- what fromDigits hands back -/
def fromEnd (r : Option (List Nat)) : Ending := match r with | some l => .returned (.tuple #[.string (bts l), .bool true]) | none => .returned (.tuple #[.string ByteArray.empty, .bool false])

end Go.Proofs.YtjnmbgmdkkiidaaGreat

namespace Go.Proofs.YtjnmbgmdkkiidaaGreat
set_option linter.unusedVariables false
open Go.RowKit Go.Shelf Go.Proofs.YtjnmbgmdkkiidaaGreat.Nm

end Go.Proofs.YtjnmbgmdkkiidaaGreat
