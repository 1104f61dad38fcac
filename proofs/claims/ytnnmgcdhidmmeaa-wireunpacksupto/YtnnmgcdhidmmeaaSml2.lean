import Derived.Test.YtnnmgcdhidmmeaaLowG
namespace Go.Proofs.Ytnnmgcdhidmmeaa
set_option linter.unusedVariables false
open Go.RowKit Go.Shelf Nm

end Go.Proofs.Ytnnmgcdhidmmeaa
