import Derived.Test.YtelboefeomnjaaaGreatMathG
import Derived.Lib.Bytealg
namespace Go.Proofs.YtelboefeomnjaaaGreat.Nm
set_option linter.unusedVariables false

end Go.Proofs.YtelboefeomnjaaaGreat.Nm

namespace Go.Proofs.YtelboefeomnjaaaGreat.Nm
set_option linter.unusedVariables false


/-- two labels -/
def cb (a b : ByteArray) : Int := Go.Lib.compareBytes a.data.toList b.data.toList
def sgnI (a b : Int) : Int := if a < b then -1 else if b < a then 1 else 0
end Go.Proofs.YtelboefeomnjaaaGreat.Nm

namespace Go.Proofs.YtelboefeomnjaaaGreat.Nm
set_option linter.unusedVariables false

end Go.Proofs.YtelboefeomnjaaaGreat.Nm

namespace Go.Proofs.YtelboefeomnjaaaGreat.Nm
set_option linter.unusedVariables false

end Go.Proofs.YtelboefeomnjaaaGreat.Nm

namespace Go.Proofs.YtelboefeomnjaaaGreat.Nm
set_option linter.unusedVariables false

theorem toList_bt (a b : ByteArray) : (a.toList == b.toList) = decide (a = b) := by
  rw [Bool.eq_iff_iff, beq_iff_eq, toList_inj, decide_eq_true_iff]
end Go.Proofs.YtelboefeomnjaaaGreat.Nm
