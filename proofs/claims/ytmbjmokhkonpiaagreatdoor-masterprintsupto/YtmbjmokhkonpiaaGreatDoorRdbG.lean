import Derived.Test.YtmbjmokhkonpiaaGreatDoorShwG
import Derived.Test.YtmbjmokhkonpiaaGreatDoorSu1G
import Derived.Test.YtmbjmokhkonpiaaGreatDoorMath15G
namespace Go.Proofs.YtmbjmokhkonpiaaGreatDoor
set_option linter.unusedVariables false
open Go.RowKit Go.Shelf Go.Proofs.YtmbjmokhkonpiaaGreatDoor.Nm

end Go.Proofs.YtmbjmokhkonpiaaGreatDoor

namespace Go.Proofs.YtmbjmokhkonpiaaGreatDoor
set_option linter.unusedVariables false
open Go.RowKit Go.Shelf Go.Proofs.YtmbjmokhkonpiaaGreatDoor.Nm

end Go.Proofs.YtmbjmokhkonpiaaGreatDoor

namespace Go.Proofs.YtmbjmokhkonpiaaGreatDoor
set_option linter.unusedVariables false
open Go.RowKit Go.Shelf Go.Proofs.YtmbjmokhkonpiaaGreatDoor.Nm

end Go.Proofs.YtmbjmokhkonpiaaGreatDoor
