import Derived.Test.YtbahjpjncopabaaGreatRc1G
import Derived.Test.YtbahjpjncopabaaGreatRz1G
import Derived.RegionTactic
import Derived.ChangeAlike
import Derived.Test.YtbahjpjncopabaaGreatRn0G
namespace Go.Proofs.YtbahjpjncopabaaGreat
set_option linter.unusedVariables false
open Go.RowKit Go.Shelf Go.Proofs.YtbahjpjncopabaaGreat.Nm

/-- a number of so many bits -/
def fitsN (n : Int) (b : Nat) : Bool := decide (0 ≤ n ∧ n < (2 ^ b : Nat))
/-- a question, or a record's beginning -/
def headOK (n : ByteArray) (t c : Int) : Bool := isN n && fitsN t 16 && fitsN c 16
/-- a record's data -/
def dataOK (t c : Int) (d : ByteArray) : Bool := if t = 41 then decide (d.size ≤ 65535) else if d.size = 0 ∧ (c = 254 ∨ c = 255) then true else decide (errD t d = 0)
end Go.Proofs.YtbahjpjncopabaaGreat

namespace Go.Proofs.YtbahjpjncopabaaGreat
set_option linter.unusedVariables false
open Go.RowKit Go.Shelf Go.Proofs.YtbahjpjncopabaaGreat.Nm

end Go.Proofs.YtbahjpjncopabaaGreat

namespace Go.Proofs.YtbahjpjncopabaaGreat
set_option linter.unusedVariables false
open Go.RowKit Go.Shelf Go.Proofs.YtbahjpjncopabaaGreat.Nm

/-- data that are none -/
def noneOK (c : Int) (d : ByteArray) : Bool := decide (d.size = 0 ∧ (c = 254 ∨ c = 255))
/-- a record of a message -/
def recOK (o : ByteArray) (t c ttl : Int) (d : ByteArray) : Bool := headOK o t c && fitsN ttl 32 && dataOK t c d
end Go.Proofs.YtbahjpjncopabaaGreat

namespace Go.Proofs.YtbahjpjncopabaaGreat
set_option linter.unusedVariables false
open Go.RowKit Go.Shelf Go.Proofs.YtbahjpjncopabaaGreat.Nm

end Go.Proofs.YtbahjpjncopabaaGreat

namespace Go.Proofs.YtbahjpjncopabaaGreat
set_option linter.unusedVariables false
open Go.RowKit Go.Shelf Go.Proofs.YtbahjpjncopabaaGreat.Nm

def qOK (q : Qn) : Bool := headOK q.n q.t q.c

end Go.Proofs.YtbahjpjncopabaaGreat
