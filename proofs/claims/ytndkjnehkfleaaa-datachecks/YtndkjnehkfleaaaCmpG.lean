import Derived.Test.YtndkjnehkfleaaaLbl
import Derived.Deep.QuietTactic
import Derived.BigQuiet
import Derived.Deep.RegionWith
import Derived.Lib.Bytealg
import Derived.WalkSmall
import Derived.Test.YtndkjnehkfleaaaMath8G
namespace Go.Proofs.Ytndkjnehkfleaaa
set_option linter.unusedVariables false
open Go.RowKit Go.Shelf Nm

end Go.Proofs.Ytndkjnehkfleaaa

namespace Go.Proofs.Ytndkjnehkfleaaa
set_option linter.unusedVariables false
open Go.RowKit Go.Shelf Nm

end Go.Proofs.Ytndkjnehkfleaaa
