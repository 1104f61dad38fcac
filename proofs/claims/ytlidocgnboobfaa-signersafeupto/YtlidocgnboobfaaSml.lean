import Derived.Test.YtlidocgnboobfaaLow
namespace Go.Proofs.Ytlidocgnboobfaa
set_option linter.unusedVariables false
open Go.RowKit Go.Shelf Nm

theorem hide' {p : Prop} (h : p) : Hid p := h

end Go.Proofs.Ytlidocgnboobfaa
