import Derived.Test.YtlkppmpdjpffiaaLowG
namespace Go.Proofs.Ytlkppmpdjpffiaa
set_option linter.unusedVariables false
open Go.RowKit Go.Shelf Nm

end Go.Proofs.Ytlkppmpdjpffiaa
