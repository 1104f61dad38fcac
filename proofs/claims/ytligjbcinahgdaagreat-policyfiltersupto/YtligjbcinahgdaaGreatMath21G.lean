import Derived.Test.YtligjbcinahgdaaGreatMath13G
import Derived.Lib.Bytealg
import Derived.Lib.IndexLaws
namespace Go.Proofs.YtligjbcinahgdaaGreat.Nm
set_option linter.unusedVariables false
open Go

end Go.Proofs.YtligjbcinahgdaaGreat.Nm

namespace Go.Proofs.YtligjbcinahgdaaGreat.Nm
set_option linter.unusedVariables false

end Go.Proofs.YtligjbcinahgdaaGreat.Nm
