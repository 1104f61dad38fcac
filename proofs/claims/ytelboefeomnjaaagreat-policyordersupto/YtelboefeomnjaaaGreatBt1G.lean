import Derived.Test.YtelboefeomnjaaaGreatMath13G
import Derived.WalkKit
import Derived.Laws.BitsAll
import Derived.Test.YtelboefeomnjaaaGreatGr0G
import Derived.Test.YtelboefeomnjaaaGreatLowG
namespace Go.Proofs.YtelboefeomnjaaaGreat
set_option linter.unusedVariables false
open Go.Proofs.YtelboefeomnjaaaGreat.Nm

theorem i64_or_nat (a b : Nat) (ha : a < 4294967296) (hb : b < 4294967296) : bits .or .i64 (a : Int) (b : Int) = ((a ||| b : Nat) : Int) := by
  have hx : a ||| b < 2 ^ 32 := Nat.or_lt_two_pow (by omega) (by omega)
  show IntKind.i64.wrap ((BitVec.ofInt 64 (a : Int) ||| BitVec.ofInt 64 (b : Int)).toNat : Int) = _
  rw [BitVec.toNat_or, ofInt_u64 a (by omega), ofInt_u64 b (by omega)]
  simp [IntKind.wrap, IntKind.bits, IntKind.signed]
  omega
/-- 'x << i | y' -/
theorem or_shl (i x y : Nat) (hx : x * 2 ^ i < 4294967296) (hy : y < 2 ^ i) (h : y < 4294967296) : bits .or .i64 ((x * 2 ^ i : Nat) : Int) (y : Int) = ((x * 2 ^ i + y : Nat) : Int) := by
  rw [i64_or_nat _ _ hx h, nat_join i _ _ (by simp) hy]
end Go.Proofs.YtelboefeomnjaaaGreat

/-
  Boxes in memory, beside names. (The verifier's own text.)
-/
