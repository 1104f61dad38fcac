import Derived.Test.YtgekfhghambacaaGreatPc1G
import Derived.Test.YtgekfhghambacaaGreatRf1G
import Derived.Test.YtgekfhghambacaaGreatVs1G
import Derived.Test.YtgekfhghambacaaGreatSd3G
/-
  Proofs: the reference's gaps, their types. (The verifier's own text.)
-/
namespace Go.Proofs.YtgekfhghambacaaGreat
set_option linter.unusedVariables false
set_option linter.unusedSimpArgs false
open Go.RowKit Go.Shelf Go.Proofs.YtgekfhghambacaaGreat.Nm

end Go.Proofs.YtgekfhghambacaaGreat

/-
  Proofs: the reference's gaps, what they cover. (The verifier's own text.)
-/
namespace Go.Proofs.YtgekfhghambacaaGreat
set_option linter.unusedVariables false
set_option linter.unusedSimpArgs false
open Go.RowKit Go.Shelf Go.Proofs.YtgekfhghambacaaGreat.Nm

/-- does it cover the name? -/
def btL (ow nx h : ByteArray) : Bool := if Op.bytesLess ow.toList nx.toList = true then Op.bytesLess ow.toList h.toList && Op.bytesLess h.toList nx.toList else Op.bytesLess ow.toList h.toList || Op.bytesLess h.toList nx.toList
end Go.Proofs.YtgekfhghambacaaGreat
