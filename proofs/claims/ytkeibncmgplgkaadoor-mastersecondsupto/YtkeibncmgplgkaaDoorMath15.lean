import Derived.Test.YtkeibncmgplgkaaDoorMath14
namespace Go.Proofs.YtkeibncmgplgkaaDoor.Nm
set_option linter.unusedVariables false

def isD (x : Nat) : Bool := decide (48 ≤ x ∧ x ≤ 57)
/-- the number that k digits behind the first byte tell -/
def dv (r : ByteArray) : Nat → Nat
  | 0 => 0
  | k + 1 => dv r k * 10 + (bt r (k + 1) - 48)
theorem dv_lt (r : ByteArray) : ∀ k, (∀ j, 1 ≤ j → j ≤ k → isD (bt r j) = true) → dv r k < 10 ^ k
  | 0, _ => by simp [dv]
  | k + 1, h => by
    have h1 := dv_lt r k (fun j a b => h j a (by omega))
    have h2 := h (k + 1) (by omega) (Nat.le_refl _)
    simp only [isD, decide_eq_true_iff] at h2
    simp only [dv, Nat.pow_succ]; omega
/-- what stands first in a written label: its byte, and how much of the text that is -/
def pc (r : ByteArray) : Nat × Nat :=
  if bt r 0 ≠ 92 then (bt r 0, 1)
  else if r.size < 2 then (0, 0)
  else if isD (bt r 1) = false then (bt r 1, 2)
  else if r.size < 4 ∨ isD (bt r 2) = false ∨ isD (bt r 3) = false then (0, 0)
  else if 255 < dv r 3 then (0, 0) else (dv r 3, 4)
end Go.Proofs.YtkeibncmgplgkaaDoor.Nm
