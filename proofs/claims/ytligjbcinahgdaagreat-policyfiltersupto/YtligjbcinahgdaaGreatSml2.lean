import Derived.Test.YtligjbcinahgdaaGreatLowG
namespace Go.Proofs.YtligjbcinahgdaaGreat
set_option linter.unusedVariables false
open Go.RowKit Go.Shelf Go.Proofs.YtligjbcinahgdaaGreat.Nm

end Go.Proofs.YtligjbcinahgdaaGreat
