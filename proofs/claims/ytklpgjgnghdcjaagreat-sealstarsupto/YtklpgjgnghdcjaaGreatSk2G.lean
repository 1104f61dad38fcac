import Derived.Test.YtklpgjgnghdcjaaGreatSk1
import Derived.Test.YtklpgjgnghdcjaaGreatSd3G
namespace Go.Proofs.YtklpgjgnghdcjaaGreat
set_option linter.unusedVariables false
open Go.RowKit Go.Shelf Go.Proofs.YtklpgjgnghdcjaaGreat.Nm

set_option maxRecDepth 100000 in
set_option maxHeartbeats 1000000 in
/-- seal.isPrime -/
theorem isPrime_any (n : Nat) (w : World) (hn : n ≤ 2147483647) :
    Calls Tryz.prog 92 #[.int .i64 (n : Int)] w fun e w' => e = .returned (.bool (prB n)) ∧ w' = w := by
  go_enter Tryz.func92, Tryz.ntmps92
  go_wp2
  go_loop [3] (fun i => ∃ d : Nat, i = .int .i64 (d : Int) ∧ 2 ≤ d ∧ d ≤ 46342 ∧ Hid (∀ k, 2 ≤ k → k < d → n % k ≠ 0)) (fun i => 46342 - (intOf i).toNat)
  case atStart => exact ⟨2, rfl, by omega, by omega, fun k h1 h2 => by omega⟩
  case round =>
    obtain ⟨d, rfl, h2, hd, HK⟩ := hrel
    obtain ⟨z, hz⟩ : ∃ z : Nat, d * d = z := ⟨_, rfl⟩
    have hzl : z ≤ 46342 * 46342 := by rw [← hz]; exact Nat.mul_le_mul hd hd
    have hzi : (d : Int) * (d : Int) = (z : Int) := by rw [← hz]; simp
    have hd0 : ¬ (d : Int) = 0 := by omega
    have HZ := hide' hz
    clear hz
    by_cases hle : z ≤ n
    · have hd2 : d ≤ 46340 := sq_le (by rw [HZ.out]; omega)
      obtain ⟨r, hr⟩ : ∃ r : Nat, n % d = r := ⟨_, rfl⟩
      have hm : (n : Int).tmod (d : Int) = (r : Int) := by rw [← hr]; rfl
      have HR := hide' hr
      clear hr
      by_cases h0 : r = 0
      · have HP : Hid (prB n = false) := prB_no (not_pr h2 (by rw [HZ.out]; exact hle) (by rw [HR.out]; exact h0))
        subst h0
        go_wp2_with fail
        go_ret
        exact ⟨by rw [HP.out]; rfl, rfl⟩
      · have hb : ((r : Int) == 0) = false := by rw [beq_eq_false_iff_ne]; omega
        go_wp2_with fail
        go_round
        case rel => exact ⟨d + 1, by go_num, by omega, by omega, fun k k1 k2 => by
                      rcases Nat.lt_or_ge k d with h | h
                      · exact HK.out k k1 h
                      · obtain rfl : k = d := by omega
                        rw [HR.out]; exact h0⟩
        case measure => simp [intOf]; omega
    · have hlt : n < z := by omega
      by_cases h1 : 1 < n
      · have HP : Hid (prB n = true) := prB_yes (pr_of h1 (by rw [HZ.out]; exact hlt) HK.out)
        go_wp2_with fail
        go_ret
        exact ⟨by show Ending.returned (.bool (decide ((1 : Int) < (n : Int)))) = _; rw [HP.out, decide_eq_true (by omega)], rfl⟩
      · have HP : Hid (prB n = false) := prB_no (not_pr_small h1)
        go_wp2_with fail
        go_ret
        exact ⟨by show Ending.returned (.bool (decide ((1 : Int) < (n : Int)))) = _; rw [HP.out, decide_eq_false (by omega)], rfl⟩

end Go.Proofs.YtklpgjgnghdcjaaGreat

namespace Go.Proofs.YtklpgjgnghdcjaaGreat.Nm
set_option linter.unusedVariables false

/-- what holds all along a search for an inverse -/
structure Eu (e m a b : Nat) (x y : Int) (X Y : Nat) : Prop where
  s : a * Y + b * X = m
  sg : (x = X ∧ y = -Y) ∨ (x = -X ∧ y = Y)
  ca : ∃ u : Int, x * e = a + u * m
  cb : ∃ v : Int, y * e = b + v * m
  g : Nat.gcd a b = Nat.gcd m e
  a1 : 1 ≤ a
  xm : X ≤ m
  ym : Y ≤ m
theorem eu_start {e m : Nat} (hm : 1 ≤ m) : Eu e m m e 0 1 0 1 :=
  ⟨by omega, .inr ⟨rfl, rfl⟩, ⟨-1, by omega⟩, ⟨0, by omega⟩, rfl, hm, by omega, hm⟩
theorem Eu.step {e m a b : Nat} {x y : Int} {X Y : Nat} (h : Eu e m a b x y X Y) (hb : 1 ≤ b) : Eu e m b (a % b) y (x - ((a / b : Nat) : Int) * y) Y (X + a / b * Y) := by
  have ha := Nat.div_add_mod a b
  obtain ⟨hs, hsg, ⟨u, hu⟩, ⟨v, hv⟩, hg, ha1, hx, hy⟩ := h
  generalize hq : a / b = q at *
  generalize hr : a % b = r at *
  have s' : b * (X + q * Y) + r * Y = m := by
    rw [Nat.mul_add, ← Nat.mul_assoc]
    rw [← ha, Nat.add_mul] at hs
    omega
  refine ⟨s', ?_, ⟨v, hv⟩, ⟨u - q * v, ?_⟩, ?_, hb, hy, ?_⟩
  · rcases hsg with ⟨rfl, rfl⟩ | ⟨rfl, rfl⟩
    · right
      refine ⟨rfl, ?_⟩
      rw [Int.natCast_add, Int.natCast_mul, Int.mul_neg]; omega
    · left
      refine ⟨rfl, ?_⟩
      rw [Int.natCast_add, Int.natCast_mul]; omega
  · have e1 : (a : Int) = (b : Int) * (q : Int) + (r : Int) := by exact_mod_cast ha.symm
    rw [Int.sub_mul, Int.mul_assoc, hv, hu, Int.mul_add, Int.sub_mul, Int.mul_assoc, e1, Int.mul_comm (b : Int) q]
    omega
  · rw [← hr, ← hg, Nat.gcd_comm a b, Nat.gcd_rec b a, Nat.gcd_comm]
  · have : X + q * Y ≤ b * (X + q * Y) := Nat.le_mul_of_pos_left _ hb
    omega
theorem tmod_twice (x m : Int) (hm : 0 < m) : (x.tmod m + m).tmod m = x % m := by
  have h1 := Int.tmod_lt_of_pos x hm
  have h2 := Int.lt_tmod_of_pos x hm
  have h3 := Int.tmod_add_mul_tdiv x m
  rw [Int.tmod_eq_emod_of_nonneg (by omega), Int.add_emod_right]
  conv => rhs; rw [← h3]
  rw [Int.add_mul_emod_self_left]
theorem Eu.last {e m a : Nat} {x y : Int} {X Y : Nat} (h : Eu e m a 0 x y X Y) (hm : 2 ≤ m) : (a = 1 → invN e m = (x % (m : Int)).toNat) ∧ (a ≠ 1 → invN e m = 0) := by
  have hg := h.g
  rw [Nat.gcd_zero_right] at hg
  constructor
  · intro h1
    obtain ⟨u, hu⟩ := h.ca
    rw [h1] at hu
    exact invN_eq (inv_of hm x u (by simpa using hu))
  · intro h1
    exact invN_no (by rw [Nat.gcd_comm, ← hg]; exact h1)
end Go.Proofs.YtklpgjgnghdcjaaGreat.Nm
namespace Go.Proofs.YtklpgjgnghdcjaaGreat
set_option linter.unusedVariables false
open Go.RowKit Go.Shelf Go.Proofs.YtklpgjgnghdcjaaGreat.Nm

set_option maxRecDepth 100000 in
set_option maxHeartbeats 1000000 in
/-- seal.inverse -/
theorem inverse_any (e m : Nat) (w : World) (he : e ≤ 65535) (hm : 2 ≤ m) (hm2 : m ≤ 2147483647) :
    Calls Tryz.prog 59 #[.int .i64 (e : Int), .int .i64 (m : Int)] w fun r w' => r = .returned (.int .i64 (invN e m : Int)) ∧ w' = w := by
  go_enter Tryz.func59, Tryz.ntmps59
  go_wp2
  go_loop [5, 6, 7, 8] (fun va vx vb vy => ∃ (a b X Y : Nat) (x y : Int), va = .int .i64 (a : Int) ∧ vx = .int .i64 x ∧ vb = .int .i64 (b : Int) ∧ vy = .int .i64 y ∧ a ≤ 2147483647 ∧ b ≤ 2147483647 ∧ Hid (Eu e m a b x y X Y)) (fun _ _ vb _ => (intOf vb).toNat)
  case atStart => exact ⟨m, e, 0, 1, 0, 1, rfl, rfl, rfl, rfl, hm2, by omega, eu_start (by omega)⟩
  case round =>
    obtain ⟨a, b, X, Y, x, y, rfl, rfl, rfl, rfl, ha, hb, HE⟩ := hrel
    have hX := HE.out.xm
    have hY := HE.out.ym
    by_cases h0 : b = 0
    · subst h0
      obtain ⟨hy1, hy0⟩ := HE.out.last hm
      have hx2 : -2147483647 ≤ x ∧ x ≤ 2147483647 := by rcases HE.out.sg with ⟨rfl, _⟩ | ⟨rfl, _⟩ <;> omega
      by_cases h1 : a = 1
      · have HI := hide' (hy1 h1)
        have ht := tmod_twice x m (by omega)
        have t1 := Int.tmod_lt_of_pos x (show (0 : Int) < (m : Int) by omega)
        have t2 := Int.lt_tmod_of_pos x (show (0 : Int) < (m : Int) by omega)
        have hm0 : ¬ (m : Int) = 0 := by omega
        have HR := hide' (Int.emod_nonneg x hm0)
        subst h1
        clear hy1 hy0
        go_wp2_with fail
        go_ret
        refine ⟨?_, rfl⟩
        show Ending.returned (.int .i64 (x % (m : Int))) = _
        rw [HI.out, Int.toNat_of_nonneg HR.out]
      · have HI := hide' (hy0 h1)
        have hn1 : ((a : Int) == 1) = false := by rw [beq_eq_false_iff_ne]; omega
        clear hy1 hy0
        go_wp2_with fail
        go_ret
        exact ⟨by rw [HI.out]; rfl, rfl⟩
    · have hb0 : ((b : Int) == 0) = false := by rw [beq_eq_false_iff_ne]; omega
      have hbn : ¬ (b : Int) = 0 := by omega
      have HS := hide' (HE.out.step (show 1 ≤ b by omega))
      have hY2 := HS.out.ym
      have hdm := Nat.div_add_mod a b
      have hlt : a % b < b := Nat.mod_lt _ (by omega)
      have hq : (a : Int).tdiv (b : Int) = ((a / b : Nat) : Int) := rfl
      have hql : a / b ≤ a := Nat.div_le_self a b
      have hsg := HE.out.sg
      have hsg2 := HS.out.sg
      generalize a / b = q at *
      generalize a % b = r at *
      obtain ⟨z, hz⟩ : ∃ z : Nat, q * b = z := ⟨_, rfl⟩
      have hzb : (q : Int) * (b : Int) = (z : Int) := by rw [← hz]; simp
      have hzr : (a : Int) - (z : Int) = (r : Int) := by rw [Nat.mul_comm b q, hz] at hdm; omega
      obtain ⟨t, ht⟩ : ∃ t : Int, (q : Int) * y = t := ⟨_, rfl⟩
      rw [ht] at HS hsg2
      have hx2 : -2147483647 ≤ x ∧ x ≤ 2147483647 := by rcases hsg with ⟨rfl, _⟩ | ⟨rfl, _⟩ <;> omega
      have hw2 : -2147483647 ≤ x - t ∧ x - t ≤ 2147483647 := by rcases hsg2 with ⟨_, h⟩ | ⟨_, h⟩ <;> rw [h] <;> omega
      clear hsg hsg2 hdm hz
      go_wp2_with fail
      go_round
      case rel => exact ⟨b, r, Y, X + q * Y, y, x - t, by go_num, by go_num, by go_num, by go_num, hb, by omega, HS⟩
      case measure => simp [intOf]; omega
end Go.Proofs.YtklpgjgnghdcjaaGreat
