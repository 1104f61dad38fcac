import Derived.Test.YthabenjghhmicaaGreatLowG
namespace Go.Proofs.YthabenjghhmicaaGreat
set_option linter.unusedVariables false
open Go.RowKit Go.Shelf Go.Proofs.YthabenjghhmicaaGreat.Nm
end Go.Proofs.YthabenjghhmicaaGreat
