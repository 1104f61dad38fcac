import Derived.Test.YtklpgjgnghdcjaaGreatRc1G
namespace Go.Proofs.YtklpgjgnghdcjaaGreat
set_option linter.unusedVariables false
open Go.RowKit Go.Shelf Go.Proofs.YtklpgjgnghdcjaaGreat.Nm

/-- a number of so many bits -/
def fitsN (n : Int) (b : Nat) : Bool := decide (0 ≤ n ∧ n < (2 ^ b : Nat))
/-- a question, or a record's beginning -/
def headOK (n : ByteArray) (t c : Int) : Bool := isN n && fitsN t 16 && fitsN c 16
/-- a record's data -/
def dataOK (t c : Int) (d : ByteArray) : Bool := if t = 41 then decide (d.size ≤ 65535) else if d.size = 0 ∧ (c = 254 ∨ c = 255) then true else decide (errD t d = 0)
end Go.Proofs.YtklpgjgnghdcjaaGreat

namespace Go.Proofs.YtklpgjgnghdcjaaGreat
set_option linter.unusedVariables false
open Go.RowKit Go.Shelf Go.Proofs.YtklpgjgnghdcjaaGreat.Nm

end Go.Proofs.YtklpgjgnghdcjaaGreat
