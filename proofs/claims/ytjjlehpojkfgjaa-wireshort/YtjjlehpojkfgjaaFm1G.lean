import Derived.Test.YtjjlehpojkfgjaaKs1G
import Derived.Test.YtjjlehpojkfgjaaVs1G
import Derived.Test.YtjjlehpojkfgjaaAp1
namespace Go.Proofs.Ytjjlehpojkfgjaa
set_option linter.unusedVariables false
open Go.RowKit Go.Shelf Go.Proofs.Ytjjlehpojkfgjaa.Nm

/-- a kind's letter in the reference's form -/
def letter : Kind → UInt8
  | .ip4 => 97 | .ip6 => 54 | .dom => 110 | .num n => (if n = 1 then 49 else if n = 2 then 50 else 52) | .text => 116 | .texts => 84 | .hex => 104
  | .b64 => 98 | .salt => 115 | .hash => 72 | .set => 75 | .one => 107 | .tail => 114 | .unknown => 45
/-- a type's form -/
def formB (t : Int) : ByteArray := match kindsOf t with | none => ⟨#[]⟩ | some ks => ⟨(ks.map letter).toArray⟩

end Go.Proofs.Ytjjlehpojkfgjaa

namespace Go.Proofs.Ytjjlehpojkfgjaa
set_option linter.unusedVariables false
open Go.RowKit Go.Shelf Go.Proofs.Ytjjlehpojkfgjaa.Nm

/-- what the reference says of a set -/
def rtEnd (w : World) (r : Option (List Nat)) (e : Ending) (w' : World) : Prop := match r with
  | some l => ∃ v, e = .returned (.tuple #[v, .int .i64 0]) ∧ w'.ownsRow w.heap.size 3 1 v l.length (nums l)
  | none => e = .returned (.tuple #[.slice none 0 0, .int .i64 7])

end Go.Proofs.Ytjjlehpojkfgjaa
