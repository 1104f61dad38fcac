import Derived.Test.YtpfhhdbakfddhaaDoorDg2
import Derived.Test.YtpfhhdbakfddhaaDoorMath22
import Derived.Test.YtpfhhdbakfddhaaDoorFld
import Derived.Test.YtpfhhdbakfddhaaDoorSml2
namespace Go.Proofs.YtpfhhdbakfddhaaDoor
set_option linter.unusedVariables false
open Go.RowKit Go.Shelf Go.Proofs.YtpfhhdbakfddhaaDoor.Nm

end Go.Proofs.YtpfhhdbakfddhaaDoor
