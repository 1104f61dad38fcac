import Derived.Test.YtjnmbgmdkkiidaaGreatLowG
namespace Go.Proofs.YtjnmbgmdkkiidaaGreat
set_option linter.unusedVariables false
open Go.RowKit Go.Shelf Go.Proofs.YtjnmbgmdkkiidaaGreat.Nm

end Go.Proofs.YtjnmbgmdkkiidaaGreat
