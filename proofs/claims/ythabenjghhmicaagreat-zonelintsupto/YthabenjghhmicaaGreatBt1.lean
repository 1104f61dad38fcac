import Derived.Test.YthabenjghhmicaaGreatMath13G
import Derived.WalkKit
import Derived.Laws.BitsAll
namespace Go.Proofs.YthabenjghhmicaaGreat
set_option linter.unusedVariables false
open Go.Proofs.YthabenjghhmicaaGreat.Nm
end Go.Proofs.YthabenjghhmicaaGreat
