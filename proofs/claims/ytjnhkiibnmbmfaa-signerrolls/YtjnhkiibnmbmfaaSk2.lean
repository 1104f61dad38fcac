import Derived.Test.YtjnhkiibnmbmfaaSk1
import Derived.Test.YtjnhkiibnmbmfaaSd4
namespace Go.Proofs.Ytjnhkiibnmbmfaa
set_option linter.unusedVariables false
open Go.RowKit Go.Shelf Go.Proofs.Ytjnhkiibnmbmfaa.Nm

set_option maxRecDepth 100000 in
set_option maxHeartbeats 1000000 in
/-- seal.isPrime -/
theorem isPrime_any (n : Nat) (w : World) (hn : n ≤ 2147483647) :
    Calls Try.prog 28 #[.int .i64 (n : Int)] w fun e w' => e = .returned (.bool (prB n)) ∧ w' = w := by
  go_enter Try.func28, Try.ntmps28
  go_wp2
  go_loop [3] (fun i => ∃ d : Nat, i = .int .i64 (d : Int) ∧ 2 ≤ d ∧ d ≤ 46342 ∧ Hid (∀ k, 2 ≤ k → k < d → n % k ≠ 0)) (fun i => 46342 - (intOf i).toNat)
  case atStart => exact ⟨2, rfl, by omega, by omega, fun k h1 h2 => by omega⟩
  case round =>
    obtain ⟨d, rfl, h2, hd, HK⟩ := hrel
    obtain ⟨z, hz⟩ : ∃ z : Nat, d * d = z := ⟨_, rfl⟩
    have hzl : z ≤ 46342 * 46342 := by rw [← hz]; exact Nat.mul_le_mul hd hd
    have hzi : (d : Int) * (d : Int) = (z : Int) := by rw [← hz]; simp
    have hd0 : ¬ (d : Int) = 0 := by omega
    have HZ := hide' hz
    clear hz
    by_cases hle : z ≤ n
    · have hd2 : d ≤ 46340 := sq_le (by rw [HZ.out]; omega)
      obtain ⟨r, hr⟩ : ∃ r : Nat, n % d = r := ⟨_, rfl⟩
      have hm : (n : Int).tmod (d : Int) = (r : Int) := by rw [← hr]; rfl
      have HR := hide' hr
      clear hr
      by_cases h0 : r = 0
      · have HP : Hid (prB n = false) := prB_no (not_pr h2 (by rw [HZ.out]; exact hle) (by rw [HR.out]; exact h0))
        subst h0
        go_wp2_with fail
        go_ret
        exact ⟨by rw [HP.out]; rfl, rfl⟩
      · have hb : ((r : Int) == 0) = false := by rw [beq_eq_false_iff_ne]; omega
        go_wp2_with fail
        go_round
        case rel => exact ⟨d + 1, by go_num, by omega, by omega, fun k k1 k2 => by
                      rcases Nat.lt_or_ge k d with h | h
                      · exact HK.out k k1 h
                      · obtain rfl : k = d := by omega
                        rw [HR.out]; exact h0⟩
        case measure => simp [intOf]; omega
    · have hlt : n < z := by omega
      by_cases h1 : 1 < n
      · have HP : Hid (prB n = true) := prB_yes (pr_of h1 (by rw [HZ.out]; exact hlt) HK.out)
        go_wp2_with fail
        go_ret
        exact ⟨by show Ending.returned (.bool (decide ((1 : Int) < (n : Int)))) = _; rw [HP.out, decide_eq_true (by omega)], rfl⟩
      · have HP : Hid (prB n = false) := prB_no (not_pr_small h1)
        go_wp2_with fail
        go_ret
        exact ⟨by show Ending.returned (.bool (decide ((1 : Int) < (n : Int)))) = _; rw [HP.out, decide_eq_false (by omega)], rfl⟩

end Go.Proofs.Ytjnhkiibnmbmfaa
