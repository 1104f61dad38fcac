import Derived.Test.YtligjbcinahgdaaGreatMath13G
import Derived.WalkKit
import Derived.Laws.BitsAll
namespace Go.Proofs.YtligjbcinahgdaaGreat
set_option linter.unusedVariables false
open Go.Proofs.YtligjbcinahgdaaGreat.Nm

end Go.Proofs.YtligjbcinahgdaaGreat
