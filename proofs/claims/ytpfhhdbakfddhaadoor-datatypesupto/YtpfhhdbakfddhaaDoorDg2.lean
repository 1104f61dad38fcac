import Derived.Test.YtpfhhdbakfddhaaDoorDg1
import Derived.Test.YtpfhhdbakfddhaaDoorMath21
namespace Go.Proofs.YtpfhhdbakfddhaaDoor
set_option linter.unusedVariables false
open Go.RowKit Go.Shelf Go.Proofs.YtpfhhdbakfddhaaDoor.Nm

/-- what fromDigits hands back -/
def fromEnd (r : Option (List Nat)) : Ending := match r with | some l => .returned (.tuple #[.string (bts l), .bool true]) | none => .returned (.tuple #[.string ByteArray.empty, .bool false])

end Go.Proofs.YtpfhhdbakfddhaaDoor
