import Derived.Test.YtndkjnehkfleaaaCmpG
import Derived.Test.YtndkjnehkfleaaaGrf
import Derived.Test.YtndkjnehkfleaaaMath8G
namespace Go.Proofs.Ytndkjnehkfleaaa
set_option linter.unusedVariables false
open Go.RowKit Go.Shelf Nm

end Go.Proofs.Ytndkjnehkfleaaa
