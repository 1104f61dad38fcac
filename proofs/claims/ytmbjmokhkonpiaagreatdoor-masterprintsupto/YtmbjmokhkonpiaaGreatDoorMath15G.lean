import Derived.Test.YtmbjmokhkonpiaaGreatDoorMath13G
import Derived.Lib.ParseIntB
namespace Go.Proofs.YtmbjmokhkonpiaaGreatDoor.Nm
set_option linter.unusedVariables false

/-- the number that k digits behind the first byte tell -/
def dv (r : ByteArray) : Nat → Nat
  | 0 => 0
  | k + 1 => dv r k * 10 + (bt r (k + 1) - 48)
end Go.Proofs.YtmbjmokhkonpiaaGreatDoor.Nm

namespace Go.Proofs.YtmbjmokhkonpiaaGreatDoor.Nm
set_option linter.unusedVariables false

end Go.Proofs.YtmbjmokhkonpiaaGreatDoor.Nm

namespace Go.Proofs.YtmbjmokhkonpiaaGreatDoor.Nm
set_option linter.unusedVariables false
open Go

end Go.Proofs.YtmbjmokhkonpiaaGreatDoor.Nm
