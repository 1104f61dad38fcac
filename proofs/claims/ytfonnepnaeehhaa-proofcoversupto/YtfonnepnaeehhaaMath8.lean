import Derived.Test.YtfonnepnaeehhaaMath7
import Derived.Lib.Bytealg
namespace Go.Proofs.Ytfonnepnaeehhaa.Nm
set_option linter.unusedVariables false

/-- k labels, from the last one on, are the same, and no more -/
structure IsST (x y : List ByteArray) (k : Nat) : Prop where
  lx : k ≤ x.length
  ly : k ≤ y.length
  same : ∀ j, j < k → x[x.length - 1 - j]? = y[y.length - 1 - j]?
  parts : k < x.length → k < y.length → x[x.length - 1 - k]? ≠ y[y.length - 1 - k]?
end Go.Proofs.Ytfonnepnaeehhaa.Nm
