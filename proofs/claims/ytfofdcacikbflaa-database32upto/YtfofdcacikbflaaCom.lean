import Derived.Test.YtfofdcacikbflaaCmp2
import Derived.Test.YtfofdcacikbflaaGrf
import Derived.Test.YtfofdcacikbflaaMath11
namespace Go.Proofs.Ytfofdcacikbflaa
set_option linter.unusedVariables false
open Go.RowKit Go.Shelf Nm

end Go.Proofs.Ytfofdcacikbflaa
