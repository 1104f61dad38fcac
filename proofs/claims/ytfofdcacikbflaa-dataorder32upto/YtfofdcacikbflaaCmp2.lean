import Derived.Test.YtfofdcacikbflaaCmp
namespace Go.Proofs.Ytfofdcacikbflaa
set_option linter.unusedVariables false
open Go.RowKit Go.Shelf Nm

end Go.Proofs.Ytfofdcacikbflaa
