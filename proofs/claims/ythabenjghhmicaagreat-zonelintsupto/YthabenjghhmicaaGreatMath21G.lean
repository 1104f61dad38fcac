import Derived.Test.YthabenjghhmicaaGreatMath13G
import Derived.Lib.Bytealg
import Derived.Lib.IndexLaws
namespace Go.Proofs.YthabenjghhmicaaGreat.Nm
set_option linter.unusedVariables false
open Go
end Go.Proofs.YthabenjghhmicaaGreat.Nm
namespace Go.Proofs.YthabenjghhmicaaGreat.Nm
set_option linter.unusedVariables false
end Go.Proofs.YthabenjghhmicaaGreat.Nm
