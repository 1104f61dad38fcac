import Derived.Test.YtinnmfidnecncaaKs1G
import Derived.Test.YtinnmfidnecncaaVs1G
import Derived.Test.YtinnmfidnecncaaAp1
namespace Go.Proofs.Ytinnmfidnecncaa
set_option linter.unusedVariables false
open Go.RowKit Go.Shelf Go.Proofs.Ytinnmfidnecncaa.Nm

/-- a kind's letter in the reference's form -/
def letter : Kind → UInt8
  | 0 => 97 | 1 => 54 | 2 => 110 | n + 13 => (if n = 1 then 49 else if n = 2 then 50 else 52) | 3 => 116 | 4 => 84 | 5 => 104
  | 6 => 98 | 7 => 115 | 8 => 72 | 9 => 75 | 10 => 107 | 11 => 114 | 12 => 45
/-- a type's form -/
def formB (t : Int) : ByteArray := match kindsOf t with | none => ⟨#[]⟩ | some ks => ⟨(ks.map letter).toArray⟩

end Go.Proofs.Ytinnmfidnecncaa

namespace Go.Proofs.Ytinnmfidnecncaa
set_option linter.unusedVariables false
open Go.RowKit Go.Shelf Go.Proofs.Ytinnmfidnecncaa.Nm

/-- what the reference says of a set -/
def rtEnd (w : World) (r : Option (List Nat)) (e : Ending) (w' : World) : Prop := match r with
  | some l => ∃ v, e = .returned (.tuple #[v, .int .i64 0]) ∧ w'.ownsRow w.heap.size 3 1 v l.length (nums l)
  | none => e = .returned (.tuple #[.slice none 0 0, .int .i64 7])

end Go.Proofs.Ytinnmfidnecncaa
