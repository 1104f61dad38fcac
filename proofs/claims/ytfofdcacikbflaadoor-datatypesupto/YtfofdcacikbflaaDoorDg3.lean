import Derived.Test.YtfofdcacikbflaaDoorDg2
import Derived.Test.YtfofdcacikbflaaDoorMath22
import Derived.Test.YtfofdcacikbflaaDoorFld
import Derived.Test.YtfofdcacikbflaaDoorSml2
namespace Go.Proofs.YtfofdcacikbflaaDoor
set_option linter.unusedVariables false
open Go.RowKit Go.Shelf Go.Proofs.YtfofdcacikbflaaDoor.Nm

end Go.Proofs.YtfofdcacikbflaaDoor
