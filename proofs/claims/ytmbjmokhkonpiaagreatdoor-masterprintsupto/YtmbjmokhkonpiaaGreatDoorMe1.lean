import Derived.Test.YtmbjmokhkonpiaaGreatDoorMathG
/-
  Plain facts on files of entries: no program, no memory. (The verifier's own text.)
-/
namespace Go.Proofs.YtmbjmokhkonpiaaGreatDoor.Nm
set_option linter.unusedVariables false

def isBl (b : Nat) : Bool := b == 32 || b == 9 || b == 13
def isStop (b : Nat) : Bool := isBl b || b == 10 || b == 59 || b == 40 || b == 41 || b == 34

end Go.Proofs.YtmbjmokhkonpiaaGreatDoor.Nm
