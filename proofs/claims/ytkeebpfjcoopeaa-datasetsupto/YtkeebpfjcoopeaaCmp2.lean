import Derived.Test.YtkeebpfjcoopeaaCmp
namespace Go.Proofs.Ytkeebpfjcoopeaa
set_option linter.unusedVariables false
open Go.RowKit Go.Shelf Nm

end Go.Proofs.Ytkeebpfjcoopeaa
