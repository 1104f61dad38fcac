import Derived.Test.YthjjldhbfgelcaaLowG
namespace Go.Proofs.Ythjjldhbfgelcaa
set_option linter.unusedVariables false
open Go.RowKit Go.Shelf Nm

end Go.Proofs.Ythjjldhbfgelcaa
