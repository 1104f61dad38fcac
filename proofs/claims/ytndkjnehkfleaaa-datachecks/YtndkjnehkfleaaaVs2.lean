import Derived.Test.YtndkjnehkfleaaaVs1
import Derived.Shelf.SlIterI.Sorted
import Derived.Shelf.SortM.Plain
import Derived.Shelf.SortM.SortNone
import Derived.Ground.SlgmProg
namespace Go.Proofs.Ytndkjnehkfleaaa
set_option linter.unusedVariables false
open Go.RowKit Go.Shelf Go.Sort Go.Proofs.Ytndkjnehkfleaaa.Nm

end Go.Proofs.Ytndkjnehkfleaaa
