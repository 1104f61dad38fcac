import Derived.Test.YtpfhhdbakfddhaaCmpG
import Derived.Test.YtpfhhdbakfddhaaGrf
import Derived.Test.YtpfhhdbakfddhaaMath8G
namespace Go.Proofs.Ytpfhhdbakfddhaa
set_option linter.unusedVariables false
open Go.RowKit Go.Shelf Nm

end Go.Proofs.Ytpfhhdbakfddhaa
