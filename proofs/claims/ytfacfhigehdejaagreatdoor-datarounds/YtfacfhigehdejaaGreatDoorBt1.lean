import Derived.Test.YtfacfhigehdejaaGreatDoorMath13G
import Derived.WalkKit
import Derived.Laws.BitsAll
namespace Go.Proofs.YtfacfhigehdejaaGreatDoor
set_option linter.unusedVariables false
open Go.Proofs.YtfacfhigehdejaaGreatDoor.Nm

theorem i64_or_nat (a b : Nat) (ha : a < 4294967296) (hb : b < 4294967296) : bits .or .i64 (a : Int) (b : Int) = ((a ||| b : Nat) : Int) := by
  have hx : a ||| b < 2 ^ 32 := Nat.or_lt_two_pow (by omega) (by omega)
  show IntKind.i64.wrap ((BitVec.ofInt 64 (a : Int) ||| BitVec.ofInt 64 (b : Int)).toNat : Int) = _
  rw [BitVec.toNat_or, ofInt_u64 a (by omega), ofInt_u64 b (by omega)]
  simp [IntKind.wrap, IntKind.bits, IntKind.signed]
  omega
theorem i64_and_nat (a b : Nat) (ha : a < 4294967296) (hb : b < 4294967296) : bits .and .i64 (a : Int) (b : Int) = ((a &&& b : Nat) : Int) := by
  have hx : a &&& b < 2 ^ 32 := Nat.and_lt_two_pow _ (by omega)
  show IntKind.i64.wrap ((BitVec.ofInt 64 (a : Int) &&& BitVec.ofInt 64 (b : Int)).toNat : Int) = _
  rw [BitVec.toNat_and, ofInt_u64 a (by omega), ofInt_u64 b (by omega)]
  simp [IntKind.wrap, IntKind.bits, IntKind.signed]
  omega
/-- 'x << i | y' -/
theorem or_shl (i x y : Nat) (hx : x * 2 ^ i < 4294967296) (hy : y < 2 ^ i) (h : y < 4294967296) : bits .or .i64 ((x * 2 ^ i : Nat) : Int) (y : Int) = ((x * 2 ^ i + y : Nat) : Int) := by
  rw [i64_or_nat _ _ hx h, nat_join i _ _ (by simp) hy]
/-- 'x & (1 << i - 1)' -/
theorem and_mask (i x : Nat) (hx : x < 4294967296) (hi : 2 ^ i ≤ 4294967296) : bits .and .i64 (x : Int) ((2 ^ i - 1 : Nat) : Int) = ((x % 2 ^ i : Nat) : Int) := by
  have : 0 < 2 ^ i := Nat.two_pow_pos i
  rw [i64_and_nat _ _ hx (by omega), Nat.and_two_pow_sub_one_eq_mod]
theorem shr_split (H L n : Nat) (h : L < 2 ^ n) : ((H * 2 ^ n + L : Nat) : Int) / 2 ^ n = ((H : Nat) : Int) := by
  have h1 : ((H * 2 ^ n + L : Nat) : Int) / ((2 ^ n : Nat) : Int) = (((H * 2 ^ n + L) / 2 ^ n : Nat) : Int) := by simp
  have h2 : (H * 2 ^ n + L) / 2 ^ n = H := by
    rw [Nat.mul_comm, Nat.mul_add_div (Nat.two_pow_pos n), Nat.div_eq_of_lt h]; omega
  rw [h2] at h1
  rw [← h1]; simp
theorem and_split (H L n : Nat) (h : L < 2 ^ n) (hn : 2 ^ n ≤ 4096) (hv : H < 4096) : bits .and .i64 ((H * 2 ^ n + L : Nat) : Int) ((2 : Int) ^ n - 1) = ((L : Nat) : Int) := by
  have hb : H * 2 ^ n ≤ 4096 * 4096 := Nat.mul_le_mul (by omega) hn
  have := and_mask n (H * 2 ^ n + L) (by omega) (by omega)
  have e : ((2 ^ n - 1 : Nat) : Int) = (2 : Int) ^ n - 1 := by
    have hp : 0 < 2 ^ n := Nat.two_pow_pos n
    rw [Int.ofNat_sub (by omega)]; simp
  rw [e] at this
  rw [this]
  congr 1
  rw [Nat.mul_comm, Nat.mul_add_mod, Nat.mod_eq_of_lt h]
theorem split_lt {H L n : Nat} (h1 : H < 2 ^ 5) (h2 : L < 2 ^ n) (h3 : 2 ^ n ≤ 2 ^ 7) : H * 2 ^ n + L < 4096 := by
  have : H * 2 ^ n ≤ 31 * 2 ^ n := Nat.mul_le_mul_right _ (by omega)
  omega
end Go.Proofs.YtfacfhigehdejaaGreatDoor
