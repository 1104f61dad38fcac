import Derived.Test.YtbcefnfbofpjgaaDoorCmp
namespace Go.Proofs.YtbcefnfbofpjgaaDoor
set_option linter.unusedVariables false
open Go.RowKit Go.Shelf Nm

end Go.Proofs.YtbcefnfbofpjgaaDoor
