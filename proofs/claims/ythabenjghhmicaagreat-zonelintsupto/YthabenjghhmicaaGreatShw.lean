import Derived.Test.YthabenjghhmicaaGreatPrtG
import Derived.Test.YthabenjghhmicaaGreatMath13G
import Derived.Laws.Runes
namespace Go.Proofs.YthabenjghhmicaaGreat
set_option linter.unusedVariables false
open Go.RowKit Go.Shelf Go.Proofs.YthabenjghhmicaaGreat.Nm
end Go.Proofs.YthabenjghhmicaaGreat
