import Derived.Test.YtfonnepnaeehhaaCmp2
import Derived.Test.YtfonnepnaeehhaaGrf
import Derived.Test.YtfonnepnaeehhaaMath11
namespace Go.Proofs.Ytfonnepnaeehhaa
set_option linter.unusedVariables false
open Go.RowKit Go.Shelf Nm

end Go.Proofs.Ytfonnepnaeehhaa
