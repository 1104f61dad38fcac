import Derived.Test.YtligjbcinahgdaaGreatShw
import Derived.Test.YtligjbcinahgdaaGreatBt1
import Derived.Shelf.Small.Bits
import Derived.Shelf.Lay
import Derived.Ground.NamesProg
import Derived.Test.YtligjbcinahgdaaGreatMath21G
import Derived.Test.YtligjbcinahgdaaGreatLowG
import Derived.Test.YtligjbcinahgdaaGreatSml2
namespace Go.Proofs.YtligjbcinahgdaaGreat
set_option linter.unusedVariables false
open Go.RowKit Go.Shelf Go.Proofs.YtligjbcinahgdaaGreat.Nm

end Go.Proofs.YtligjbcinahgdaaGreat

namespace Go.Proofs.YtligjbcinahgdaaGreat
set_option linter.unusedVariables false
open Go.RowKit Go.Shelf Go.Proofs.YtligjbcinahgdaaGreat.Nm

end Go.Proofs.YtligjbcinahgdaaGreat

namespace Go.Proofs.YtligjbcinahgdaaGreat
set_option linter.unusedVariables false
open Go.RowKit Go.Shelf Go.Proofs.YtligjbcinahgdaaGreat.Nm

end Go.Proofs.YtligjbcinahgdaaGreat
