import Derived.Test.YtndkjnehkfleaaaDg2
import Derived.Test.YtndkjnehkfleaaaMath22
import Derived.Test.YtndkjnehkfleaaaFld
import Derived.Test.YtndkjnehkfleaaaSml2
namespace Go.Proofs.Ytndkjnehkfleaaa
set_option linter.unusedVariables false
open Go.RowKit Go.Shelf Go.Proofs.Ytndkjnehkfleaaa.Nm

end Go.Proofs.Ytndkjnehkfleaaa
