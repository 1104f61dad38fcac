import Derived.Test.YtklpgjgnghdcjaaGreatWc1G
import Derived.Test.YtklpgjgnghdcjaaGreatRz1G
import Derived.RegionTactic
import Derived.ChangeAlike
import Derived.Test.YtklpgjgnghdcjaaGreatRn0
namespace Go.Proofs.YtklpgjgnghdcjaaGreat
set_option linter.unusedVariables false
open Go.RowKit Go.Shelf Go.Proofs.YtklpgjgnghdcjaaGreat.Nm

/-- data that are none -/
def noneOK (c : Int) (d : ByteArray) : Bool := decide (d.size = 0 ∧ (c = 254 ∨ c = 255))
/-- a record of a message -/
def recOK (o : ByteArray) (t c ttl : Int) (d : ByteArray) : Bool := headOK o t c && fitsN ttl 32 && dataOK t c d
end Go.Proofs.YtklpgjgnghdcjaaGreat

namespace Go.Proofs.YtklpgjgnghdcjaaGreat
set_option linter.unusedVariables false
open Go.RowKit Go.Shelf Go.Proofs.YtklpgjgnghdcjaaGreat.Nm

end Go.Proofs.YtklpgjgnghdcjaaGreat

namespace Go.Proofs.YtklpgjgnghdcjaaGreat
set_option linter.unusedVariables false
open Go.RowKit Go.Shelf Go.Proofs.YtklpgjgnghdcjaaGreat.Nm

def qOK (q : Qn) : Bool := headOK q.n q.t q.c

end Go.Proofs.YtklpgjgnghdcjaaGreat
