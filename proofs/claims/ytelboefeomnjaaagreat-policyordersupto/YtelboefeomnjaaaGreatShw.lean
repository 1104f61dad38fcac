import Derived.Test.YtelboefeomnjaaaGreatPrtG
import Derived.Test.YtelboefeomnjaaaGreatMath13G
import Derived.Laws.Runes
namespace Go.Proofs.YtelboefeomnjaaaGreat
set_option linter.unusedVariables false
open Go.RowKit Go.Shelf Go.Proofs.YtelboefeomnjaaaGreat.Nm

end Go.Proofs.YtelboefeomnjaaaGreat
