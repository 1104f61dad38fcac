import Derived.Test.YtkeebpfjcoopeaaCmp2
import Derived.Test.YtkeebpfjcoopeaaGrf
import Derived.Test.YtkeebpfjcoopeaaMath11
namespace Go.Proofs.Ytkeebpfjcoopeaa
set_option linter.unusedVariables false
open Go.RowKit Go.Shelf Nm

end Go.Proofs.Ytkeebpfjcoopeaa
