import Derived.Test.YtjjlehpojkfgjaaLowG
namespace Go.Proofs.Ytjjlehpojkfgjaa
set_option linter.unusedVariables false
open Go.RowKit Go.Shelf Nm

end Go.Proofs.Ytjjlehpojkfgjaa
