import Derived.Test.YtgbbcalkiekfeaaSk1
import Derived.Test.YtgbbcalkiekfeaaSd4
namespace Go.Proofs.Ytgbbcalkiekfeaa
set_option linter.unusedVariables false
open Go.RowKit Go.Shelf Go.Proofs.Ytgbbcalkiekfeaa.Nm

set_option maxRecDepth 100000 in
set_option maxHeartbeats 1000000 in
/-- seal.isPrime -/
theorem isPrime_any (n : Nat) (w : World) (hn : n ≤ 2147483647) :
    Calls Try.prog 30 #[.int .i64 (n : Int)] w fun e w' => e = .returned (.bool (prB n)) ∧ w' = w := by
  go_enter Try.func30, Try.ntmps30
  go_wp2
  go_loop [3] (fun i => ∃ d : Nat, i = .int .i64 (d : Int) ∧ 2 ≤ d ∧ d ≤ 46342 ∧ Hid (∀ k, 2 ≤ k → k < d → n % k ≠ 0)) (fun i => 46342 - (intOf i).toNat)
  case atStart => exact ⟨2, rfl, by omega, by omega, fun k h1 h2 => by omega⟩
  case round =>
    obtain ⟨d, rfl, h2, hd, HK⟩ := hrel
    obtain ⟨z, hz⟩ : ∃ z : Nat, d * d = z := ⟨_, rfl⟩
    have hzl : z ≤ 46342 * 46342 := by rw [← hz]; exact Nat.mul_le_mul hd hd
    have hzi : (d : Int) * (d : Int) = (z : Int) := by rw [← hz]; simp
    have hd0 : ¬ (d : Int) = 0 := by omega
    have HZ := hide' hz
    clear hz
    by_cases hle : z ≤ n
    · have hd2 : d ≤ 46340 := sq_le (by rw [HZ.out]; omega)
      obtain ⟨r, hr⟩ : ∃ r : Nat, n % d = r := ⟨_, rfl⟩
      have hm : (n : Int).tmod (d : Int) = (r : Int) := by rw [← hr]; rfl
      have HR := hide' hr
      clear hr
      by_cases h0 : r = 0
      · have HP : Hid (prB n = false) := prB_no (not_pr h2 (by rw [HZ.out]; exact hle) (by rw [HR.out]; exact h0))
        subst h0
        go_wp2_with fail
        go_ret
        exact ⟨by rw [HP.out]; rfl, rfl⟩
      · have hb : ((r : Int) == 0) = false := by rw [beq_eq_false_iff_ne]; omega
        go_wp2_with fail
        go_round
        case rel => exact ⟨d + 1, by go_num, by omega, by omega, fun k k1 k2 => by
                      rcases Nat.lt_or_ge k d with h | h
                      · exact HK.out k k1 h
                      · obtain rfl : k = d := by omega
                        rw [HR.out]; exact h0⟩
        case measure => simp [intOf]; omega
    · have hlt : n < z := by omega
      by_cases h1 : 1 < n
      · have HP : Hid (prB n = true) := prB_yes (pr_of h1 (by rw [HZ.out]; exact hlt) HK.out)
        go_wp2_with fail
        go_ret
        exact ⟨by show Ending.returned (.bool (decide ((1 : Int) < (n : Int)))) = _; rw [HP.out, decide_eq_true (by omega)], rfl⟩
      · have HP : Hid (prB n = false) := prB_no (not_pr_small h1)
        go_wp2_with fail
        go_ret
        exact ⟨by show Ending.returned (.bool (decide ((1 : Int) < (n : Int)))) = _; rw [HP.out, decide_eq_false (by omega)], rfl⟩

set_option maxRecDepth 100000 in
set_option maxHeartbeats 1000000 in
/-- gazetteerref4.prime -/
theorem refPrime_any (n : Nat) (w : World) (hn : n ≤ 2147483647) :
    Calls Try.prog 15 #[.int .i64 (n : Int)] w fun e w' => e = .returned (.bool (prB n)) ∧ w' = w := by
  obtain ⟨r, hr⟩ : ∃ r : Nat, n % 2 = r := ⟨_, rfl⟩
  have hm : (n : Int).tmod 2 = (r : Int) := by rw [← hr]; rfl
  have HR := hide' hr
  have hr2 : r < 2 := by rw [← hr]; exact Nat.mod_lt _ (by omega)
  clear hr
  by_cases h0 : r = 0
  · subst h0
    by_cases he : n = 2
    · have HP : Hid (prB n = true) := prB_yes ((pr_even HR.out).2 he)
      subst he
      go_enter Try.func15, Try.ntmps15
      go_wp2
      go_ret
      exact ⟨by rw [HP.out]; rfl, rfl⟩
    · have HP : Hid (prB n = false) := prB_no (fun h => he ((pr_even HR.out).1 h))
      have hb : ((n : Int) == 2) = false := by rw [beq_eq_false_iff_ne]; omega
      go_enter Try.func15, Try.ntmps15
      go_wp2
      go_ret
      exact ⟨by rw [HP.out]; rfl, rfl⟩
  · obtain rfl : r = 1 := by omega
    go_enter Try.func15, Try.ntmps15
    go_wp2
    clear hm
    go_loop [3] (fun i => ∃ d : Nat, i = .int .i64 (d : Int) ∧ 3 ≤ d ∧ d ≤ 46343 ∧ Hid (d % 2 = 1 ∧ ∀ k, 2 ≤ k → k < d → n % k ≠ 0)) (fun i => 46343 - (intOf i).toNat)
    case atStart => exact ⟨3, rfl, by omega, by omega, by omega, fun k h1 h2 => by
                      obtain rfl : k = 2 := by omega
                      rw [HR.out]; omega⟩
    case round =>
      obtain ⟨d, rfl, h2, hd, HK⟩ := hrel
      obtain ⟨z, hz⟩ : ∃ z : Nat, d * d = z := ⟨_, rfl⟩
      have hzl : z ≤ 46343 * 46343 := by rw [← hz]; exact Nat.mul_le_mul hd hd
      have hzi : (d : Int) * (d : Int) = (z : Int) := by rw [← hz]; simp
      have hd0 : ¬ (d : Int) = 0 := by omega
      have HZ := hide' hz
      clear hz
      by_cases hle : z ≤ n
      · have hd2 : d ≤ 46340 := sq_le (by rw [HZ.out]; omega)
        obtain ⟨r, hr⟩ : ∃ r : Nat, n % d = r := ⟨_, rfl⟩
        have hm : (n : Int).tmod (d : Int) = (r : Int) := by rw [← hr]; rfl
        have HRd := hide' hr
        clear hr
        by_cases h0 : r = 0
        · have HP : Hid (prB n = false) := prB_no (not_pr (show 2 ≤ d by omega) (by rw [HZ.out]; exact hle) (by rw [HRd.out]; exact h0))
          subst h0
          go_wp2_with fail
          go_ret
          exact ⟨by rw [HP.out]; rfl, rfl⟩
        · have hb : ((r : Int) == 0) = false := by rw [beq_eq_false_iff_ne]; omega
          go_wp2_with fail
          go_round
          case rel =>
            have h5 : (d + 2) % 2 = 1 := by have := HK.out.1; omega
            have h6 : ∀ k, 2 ≤ k → k < d + 2 → n % k ≠ 0 := fun k k1 k2 => by
              rcases Nat.lt_or_ge k d with h | h
              · exact HK.out.2 k k1 h
              · rcases (show k = d ∨ k = d + 1 by omega) with rfl | rfl
                · rw [HRd.out]; exact h0
                · exact odd_div HR.out (by have := HK.out.1; omega)
            exact ⟨d + 2, by go_num, by omega, by omega, And.intro h5 h6⟩
          case measure => simp [intOf]; omega
      · have hlt : n < z := by omega
        by_cases h1 : 1 < n
        · have HP : Hid (prB n = true) := prB_yes (pr_of h1 (by rw [HZ.out]; exact hlt) HK.out.2)
          go_wp2_with fail
          go_ret
          exact ⟨by show Ending.returned (.bool (decide ((1 : Int) < (n : Int)))) = _; rw [HP.out, decide_eq_true (by omega)], rfl⟩
        · have HP : Hid (prB n = false) := prB_no (not_pr_small h1)
          go_wp2_with fail
          go_ret
          exact ⟨by show Ending.returned (.bool (decide ((1 : Int) < (n : Int)))) = _; rw [HP.out, decide_eq_false (by omega)], rfl⟩

set_option maxRecDepth 100000 in
set_option maxHeartbeats 1000000 in
/-- gazetteerref4.common -/
theorem common_any : ∀ (b a : Nat) (w : World), a ≤ 4294967296 → b ≤ 4294967296 →
    Calls Try.prog 16 #[.int .i64 (a : Int), .int .i64 (b : Int)] w fun e w' => e = .returned (.int .i64 (Nat.gcd a b : Int)) ∧ w' = w := by
  intro b
  induction b using Nat.strongRecOn with
  | _ b ih =>
    intro a w ha hb
    by_cases h0 : b = 0
    · subst h0
      go_enter Try.func16, Try.ntmps16
      go_wp2
      go_ret
      exact ⟨by simp, rfl⟩
    · have hb0 : ((b : Int) == 0) = false := by rw [beq_eq_false_iff_ne]; omega
      have hbn : ¬ (b : Int) = 0 := by omega
      have hm : (a : Int).tmod (b : Int) = ((a % b : Nat) : Int) := rfl
      have hlt : a % b < b := Nat.mod_lt _ (by omega)
      have HIH := hide' (fun w => ih (a % b) hlt b w hb (by omega))
      have HE : Hid (Nat.gcd b (a % b) = Nat.gcd a b) := by unfold Hid; rw [Nat.gcd_comm a b, Nat.gcd_rec b a, Nat.gcd_comm]
      rw [HE.out] at HIH
      generalize a % b = r at *
      clear ih
      go_enter Try.func16, Try.ntmps16
      go_wp2_with (go_at_call 16; refine (HIH.out _).mono ?_; rintro e w1 ⟨rfl, rfl⟩)
      go_ret
      exact ⟨rfl, rfl⟩
end Go.Proofs.Ytgbbcalkiekfeaa
