import Derived.Test.YtkamjcpcdkejmaaDoorCmp
namespace Go.Proofs.YtkamjcpcdkejmaaDoor
set_option linter.unusedVariables false
open Go.RowKit Go.Shelf Nm

end Go.Proofs.YtkamjcpcdkejmaaDoor
