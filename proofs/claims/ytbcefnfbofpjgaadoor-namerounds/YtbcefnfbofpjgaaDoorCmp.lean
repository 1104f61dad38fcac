import Derived.Test.YtbcefnfbofpjgaaDoorLbl
import Derived.Deep.QuietTactic
import Derived.BigQuiet
import Derived.Deep.RegionWith
import Derived.Lib.Bytealg
import Derived.WalkSmall
import Derived.Test.YtbcefnfbofpjgaaDoorMath9
namespace Go.Proofs.YtbcefnfbofpjgaaDoor
set_option linter.unusedVariables false
open Go.RowKit Go.Shelf Nm

end Go.Proofs.YtbcefnfbofpjgaaDoor
