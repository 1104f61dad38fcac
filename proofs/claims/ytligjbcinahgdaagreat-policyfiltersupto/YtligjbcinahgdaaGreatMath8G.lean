import Derived.Test.YtligjbcinahgdaaGreatMathG
import Derived.Lib.Bytealg
namespace Go.Proofs.YtligjbcinahgdaaGreat.Nm
set_option linter.unusedVariables false

end Go.Proofs.YtligjbcinahgdaaGreat.Nm

namespace Go.Proofs.YtligjbcinahgdaaGreat.Nm
set_option linter.unusedVariables false


end Go.Proofs.YtligjbcinahgdaaGreat.Nm

namespace Go.Proofs.YtligjbcinahgdaaGreat.Nm
set_option linter.unusedVariables false

end Go.Proofs.YtligjbcinahgdaaGreat.Nm

namespace Go.Proofs.YtligjbcinahgdaaGreat.Nm
set_option linter.unusedVariables false

end Go.Proofs.YtligjbcinahgdaaGreat.Nm

namespace Go.Proofs.YtligjbcinahgdaaGreat.Nm
set_option linter.unusedVariables false

theorem toList_bt (a b : ByteArray) : (a.toList == b.toList) = decide (a = b) := by
  rw [Bool.eq_iff_iff, beq_iff_eq, toList_inj, decide_eq_true_iff]
end Go.Proofs.YtligjbcinahgdaaGreat.Nm
