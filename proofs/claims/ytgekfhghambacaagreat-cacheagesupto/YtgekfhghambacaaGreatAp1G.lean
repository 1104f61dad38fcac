import Derived.Test.YtgekfhghambacaaGreatThG
import Derived.Lib.SlFresh
import Derived.Test.YtgekfhghambacaaGreatKs1G
import Derived.Test.YtgekfhghambacaaGreatVs1G
namespace Go.Proofs.YtgekfhghambacaaGreat
set_option linter.unusedVariables false
open Go.RowKit Go.Shelf Go.Proofs.YtgekfhghambacaaGreat.Nm

end Go.Proofs.YtgekfhghambacaaGreat

namespace Go.Proofs.YtgekfhghambacaaGreat
set_option linter.unusedVariables false
open Go.RowKit Go.Shelf Go.Proofs.YtgekfhghambacaaGreat.Nm

end Go.Proofs.YtgekfhghambacaaGreat

namespace Go.Proofs.YtgekfhghambacaaGreat
set_option linter.unusedVariables false
open Go.RowKit Go.Shelf Go.Proofs.YtgekfhghambacaaGreat.Nm

/-- what the reference says of a set -/
def rtEnd (w : World) (r : Option (List Nat)) (e : Ending) (w' : World) : Prop := match r with
  | some l => ∃ v, e = .returned (.tuple #[v, .int .i64 0]) ∧ w'.ownsRow w.heap.size 3 1 v l.length (nums l)
  | none => e = .returned (.tuple #[.slice none 0 0, .int .i64 7])

end Go.Proofs.YtgekfhghambacaaGreat
