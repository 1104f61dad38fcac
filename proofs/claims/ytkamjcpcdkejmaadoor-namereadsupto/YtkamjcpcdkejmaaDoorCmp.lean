import Derived.Test.YtkamjcpcdkejmaaDoorLbl
import Derived.Deep.QuietTactic
import Derived.BigQuiet
import Derived.Deep.RegionWith
import Derived.Lib.Bytealg
import Derived.WalkSmall
import Derived.Test.YtkamjcpcdkejmaaDoorMath9
namespace Go.Proofs.YtkamjcpcdkejmaaDoor
set_option linter.unusedVariables false
open Go.RowKit Go.Shelf Nm

end Go.Proofs.YtkamjcpcdkejmaaDoor
