import Derived.Test.YtlgogddobjkngaaLowG
namespace Go.Proofs.Ytlgogddobjkngaa
set_option linter.unusedVariables false
open Go.RowKit Go.Shelf Nm

end Go.Proofs.Ytlgogddobjkngaa
