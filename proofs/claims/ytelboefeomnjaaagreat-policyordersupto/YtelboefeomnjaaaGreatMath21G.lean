import Derived.Test.YtelboefeomnjaaaGreatMath13G
import Derived.Lib.Bytealg
import Derived.Lib.IndexLaws
namespace Go.Proofs.YtelboefeomnjaaaGreat.Nm
set_option linter.unusedVariables false
open Go

end Go.Proofs.YtelboefeomnjaaaGreat.Nm

namespace Go.Proofs.YtelboefeomnjaaaGreat.Nm
set_option linter.unusedVariables false

/-- bytes in base 32 -/
def c32 (b : ByteArray) : List Nat := codeP 5 (bitsL 8 (lst b b.size))
end Go.Proofs.YtelboefeomnjaaaGreat.Nm
