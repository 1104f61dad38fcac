import Derived.Test.YtinnmfidnecncaaLowG
namespace Go.Proofs.Ytinnmfidnecncaa
set_option linter.unusedVariables false
open Go.RowKit Go.Shelf Go.Proofs.Ytinnmfidnecncaa.Nm

end Go.Proofs.Ytinnmfidnecncaa
