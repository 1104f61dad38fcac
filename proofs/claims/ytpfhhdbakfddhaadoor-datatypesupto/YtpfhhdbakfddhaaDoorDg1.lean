import Derived.Test.YtpfhhdbakfddhaaDoorShw
import Derived.Test.YtpfhhdbakfddhaaDoorBt1
import Derived.Shelf.Small.Bits
import Derived.Shelf.Lay
import Derived.Ground.NamesProg
namespace Go.Proofs.YtpfhhdbakfddhaaDoor
set_option linter.unusedVariables false
open Go.RowKit Go.Shelf Go.Proofs.YtpfhhdbakfddhaaDoor.Nm

shelf_lay Lays.n125 Nm 125 at Tryd as Tryd.lays125

/-- so many digits, each of which tells W bits -/
def DigOk (d : ByteArray) (W : Nat) : Prop := d.size = 2 ^ W ∧ (W = 4 ∨ W = 5 ∨ W = 6)

end Go.Proofs.YtpfhhdbakfddhaaDoor
