import Derived.Test.YtligjbcinahgdaaGreatPrtG
import Derived.Test.YtligjbcinahgdaaGreatMath13G
import Derived.Laws.Runes
namespace Go.Proofs.YtligjbcinahgdaaGreat
set_option linter.unusedVariables false
open Go.RowKit Go.Shelf Go.Proofs.YtligjbcinahgdaaGreat.Nm

end Go.Proofs.YtligjbcinahgdaaGreat
