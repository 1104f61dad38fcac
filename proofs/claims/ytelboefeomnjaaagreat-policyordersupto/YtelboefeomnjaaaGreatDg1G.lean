import Derived.Test.YtelboefeomnjaaaGreatShw
import Derived.Test.YtelboefeomnjaaaGreatBt1G
import Derived.Shelf.Small.Bits
import Derived.Shelf.Lay
import Derived.Ground.NamesProg
import Derived.Test.YtelboefeomnjaaaGreatMath21G
import Derived.Test.YtelboefeomnjaaaGreatLowG
import Derived.Test.YtelboefeomnjaaaGreatSml2
namespace Go.Proofs.YtelboefeomnjaaaGreat
set_option linter.unusedVariables false
open Go.RowKit Go.Shelf Go.Proofs.YtelboefeomnjaaaGreat.Nm

end Go.Proofs.YtelboefeomnjaaaGreat

namespace Go.Proofs.YtelboefeomnjaaaGreat
set_option linter.unusedVariables false
open Go.RowKit Go.Shelf Go.Proofs.YtelboefeomnjaaaGreat.Nm

end Go.Proofs.YtelboefeomnjaaaGreat

namespace Go.Proofs.YtelboefeomnjaaaGreat
set_option linter.unusedVariables false
open Go.RowKit Go.Shelf Go.Proofs.YtelboefeomnjaaaGreat.Nm

end Go.Proofs.YtelboefeomnjaaaGreat
