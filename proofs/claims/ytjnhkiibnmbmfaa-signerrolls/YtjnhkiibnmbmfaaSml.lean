import Derived.Test.YtjnhkiibnmbmfaaLow
namespace Go.Proofs.Ytjnhkiibnmbmfaa
set_option linter.unusedVariables false
open Go.RowKit Go.Shelf Nm

theorem hide' {p : Prop} (h : p) : Hid p := h

end Go.Proofs.Ytjnhkiibnmbmfaa
