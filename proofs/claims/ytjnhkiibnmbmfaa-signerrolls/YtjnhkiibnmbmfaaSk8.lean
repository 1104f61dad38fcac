import Derived.Test.YtjnhkiibnmbmfaaSd4
import Derived.Test.YtjnhkiibnmbmfaaBt1
namespace Go.Proofs.Ytjnhkiibnmbmfaa.Nm
set_option linter.unusedVariables false

/-- the number that bytes are -/
def vN (s : ByteArray) : Nat → Nat
  | 0 => 0
  | k + 1 => vN s k * 256 + bt s k
theorem vN_lt (s : ByteArray) : ∀ k, vN s k < 256 ^ k
  | 0 => by simp [vN]
  | k + 1 => by
    have h1 := vN_lt s k
    have h2 := bt_lt s k
    rw [vN, Nat.pow_succ]
    omega
/-- the sum of a tag -/
def tgS (s : ByteArray) : Nat → Nat
  | 0 => 0
  | k + 1 => tgS s k + bt s k * (if k % 2 = 0 then 256 else 1)
theorem tgS_le (s : ByteArray) : ∀ k, tgS s k ≤ 65280 * k
  | 0 => by simp [tgS]
  | k + 1 => by
    have h1 := tgS_le s k
    have h2 := bt_lt s k
    rw [tgS]
    split <;> omega
def tagN (s : ByteArray) : Nat := (tgS s s.size + tgS s s.size / 65536) % 65536
theorem tagN_lt (s : ByteArray) : tagN s < 65536 := Nat.mod_lt _ (by omega)
end Go.Proofs.Ytjnhkiibnmbmfaa.Nm
namespace Go.Proofs.Ytjnhkiibnmbmfaa
set_option linter.unusedVariables false
open Go.RowKit Go.Shelf Go.Proofs.Ytjnhkiibnmbmfaa.Nm

end Go.Proofs.Ytjnhkiibnmbmfaa
