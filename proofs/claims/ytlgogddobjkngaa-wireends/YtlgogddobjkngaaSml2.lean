import Derived.Test.YtlgogddobjkngaaLowG
namespace Go.Proofs.Ytlgogddobjkngaa
set_option linter.unusedVariables false
open Go.RowKit Go.Shelf Go.Proofs.Ytlgogddobjkngaa.Nm

end Go.Proofs.Ytlgogddobjkngaa
