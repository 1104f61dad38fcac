import Derived.Test.YthabenjghhmicaaGreatShw
import Derived.Test.YthabenjghhmicaaGreatBt1
import Derived.Shelf.Small.Bits
import Derived.Shelf.Lay
import Derived.Ground.NamesProg
import Derived.Test.YthabenjghhmicaaGreatMath21G
import Derived.Test.YthabenjghhmicaaGreatLowG
import Derived.Test.YthabenjghhmicaaGreatSml2
namespace Go.Proofs.YthabenjghhmicaaGreat
set_option linter.unusedVariables false
open Go.RowKit Go.Shelf Go.Proofs.YthabenjghhmicaaGreat.Nm
end Go.Proofs.YthabenjghhmicaaGreat
namespace Go.Proofs.YthabenjghhmicaaGreat
set_option linter.unusedVariables false
open Go.RowKit Go.Shelf Go.Proofs.YthabenjghhmicaaGreat.Nm
end Go.Proofs.YthabenjghhmicaaGreat
namespace Go.Proofs.YthabenjghhmicaaGreat
set_option linter.unusedVariables false
open Go.RowKit Go.Shelf Go.Proofs.YthabenjghhmicaaGreat.Nm
end Go.Proofs.YthabenjghhmicaaGreat
