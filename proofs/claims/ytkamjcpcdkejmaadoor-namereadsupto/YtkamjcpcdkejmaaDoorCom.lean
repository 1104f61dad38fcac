import Derived.Test.YtkamjcpcdkejmaaDoorCmp2
import Derived.Test.YtkamjcpcdkejmaaDoorGrf
import Derived.Test.YtkamjcpcdkejmaaDoorMath11
namespace Go.Proofs.YtkamjcpcdkejmaaDoor
set_option linter.unusedVariables false
open Go.RowKit Go.Shelf Nm

end Go.Proofs.YtkamjcpcdkejmaaDoor
