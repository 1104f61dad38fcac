import Derived.Test.YtbcefnfbofpjgaaDoorCmp2
import Derived.Test.YtbcefnfbofpjgaaDoorGrf
import Derived.Test.YtbcefnfbofpjgaaDoorMath11
namespace Go.Proofs.YtbcefnfbofpjgaaDoor
set_option linter.unusedVariables false
open Go.RowKit Go.Shelf Nm

end Go.Proofs.YtbcefnfbofpjgaaDoor
