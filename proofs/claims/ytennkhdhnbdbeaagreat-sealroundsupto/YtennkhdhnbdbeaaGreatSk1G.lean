import Derived.Test.YtennkhdhnbdbeaaGreatMathG
import Derived.Test.YtennkhdhnbdbeaaGreatSd3G
/-
  Plain facts on the numbers of keys: primes by trial, inverses. No program, no memory. (The verifier's own text.)
-/
namespace Go.Proofs.YtennkhdhnbdbeaaGreat.Nm
set_option linter.unusedVariables false

/-- a prime -/
def IsPr (n : Nat) : Prop := 1 < n ∧ ∀ d, 2 ≤ d → d * d ≤ n → n % d ≠ 0
def prB (n : Nat) : Bool := decide (1 < n) && (List.range n).all fun d => decide (d < 2) || decide (n < d * d) || decide (n % d ≠ 0)
theorem prB_iff (n : Nat) : prB n = true ↔ IsPr n := by
  unfold prB IsPr
  simp only [Bool.and_eq_true, Bool.or_eq_true, decide_eq_true_eq, List.all_eq_true, List.mem_range]
  constructor
  · rintro ⟨h1, h2⟩
    refine ⟨h1, fun d hd hdd => ?_⟩
    have hlt : d < n := Nat.lt_of_lt_of_le (by have := Nat.mul_le_mul_right d hd; omega : d < d * d) hdd
    rcases h2 d hlt with (h | h) | h
    · omega
    · omega
    · exact h
  · rintro ⟨h1, h2⟩
    refine ⟨h1, fun d _ => ?_⟩
    rcases Nat.lt_or_ge d 2 with h | h
    · exact .inl (.inl h)
    · rcases Nat.lt_or_ge n (d * d) with h' | h'
      · exact .inl (.inr h')
      · exact .inr (h2 d h h')
theorem prB_yes {n : Nat} (h : IsPr n) : prB n = true := (prB_iff n).2 h
theorem prB_no {n : Nat} (h : ¬ IsPr n) : prB n = false := Bool.eq_false_iff.2 fun e => h ((prB_iff n).1 e)
theorem sq_le {x : Nat} (h : x * x ≤ 2147483647) : x ≤ 46340 := by
  rcases Nat.lt_or_ge 46340 x with hx | hx
  · have := Nat.mul_le_mul hx hx; omega
  · exact hx
theorem not_pr {n d : Nat} (h2 : 2 ≤ d) (hd : d * d ≤ n) (h : n % d = 0) : ¬ IsPr n := fun hp => hp.2 d h2 hd h
/-- no divisor below d: a prime where d's square is above n -/
theorem pr_of {n d : Nat} (hn : 1 < n) (hlt : n < d * d) (h : ∀ k, 2 ≤ k → k < d → n % k ≠ 0) : IsPr n := by
  refine ⟨hn, fun k hk hkn => ?_⟩
  rcases Nat.lt_or_ge k d with h1 | h1
  · exact h k hk h1
  · have := Nat.mul_le_mul h1 h1; omega
theorem not_pr_small {n : Nat} (hn : ¬ 1 < n) : ¬ IsPr n := fun h => hn h.1
/-- an even one -/
theorem pr_even {n : Nat} (h : n % 2 = 0) : IsPr n ↔ n = 2 := by
  constructor
  · intro hp
    rcases Nat.lt_or_ge n 4 with h4 | h4
    · have := hp.1; omega
    · exact absurd h (hp.2 2 (by omega) (by omega))
  · rintro rfl
    refine ⟨by omega, fun d h2 hd => ?_⟩
    have := Nat.mul_le_mul h2 h2; omega
/-- an odd one: odd divisors alone -/
theorem odd_div {n k : Nat} (h : n % 2 = 1) (hk : k % 2 = 0) : n % k ≠ 0 := by
  intro h0
  obtain ⟨c, hc⟩ := Nat.dvd_of_mod_eq_zero h0
  obtain ⟨b, hb⟩ := Nat.dvd_of_mod_eq_zero hk
  rw [hc, hb, Nat.mul_assoc, Nat.mul_mod_right] at h
  omega

theorem bez : ∀ (a b : Nat), ∃ x y : Int, x * a + y * b = (Nat.gcd a b : Int) := by
  intro a b
  induction a, b using Nat.gcd.induction with
  | H0 n => exact ⟨0, 1, by simp⟩
  | H1 m n hm ih =>
    obtain ⟨x, y, h⟩ := ih
    refine ⟨y - x * ((n / m : Nat) : Int), x, ?_⟩
    rw [← Nat.gcd_rec m n] at h
    have e : (n : Int) = (m : Int) * ((n / m : Nat) : Int) + ((n % m : Nat) : Int) := by exact_mod_cast (Nat.div_add_mod n m).symm
    generalize ((n / m : Nat) : Int) = q at *
    generalize ((n % m : Nat) : Int) = r at *
    rw [← h, e]
    simp only [Int.sub_mul, Int.mul_add, Int.mul_assoc, Int.mul_comm q (m : Int)]
    omega

/-- what is 1 when taken e times, mod m -/
def IsInv (e m d : Nat) : Prop := 1 ≤ d ∧ d < m ∧ e * d % m = 1
theorem inv_uniq {e m d c : Nat} (hd : IsInv e m d) (hc : IsInv e m c) : d = c := by
  obtain ⟨_, d2, d3⟩ := hd
  obtain ⟨_, c2, c3⟩ := hc
  have h1 : d * (e * c) % m = d := by rw [Nat.mul_mod, c3, Nat.mul_one, Nat.mod_mod, Nat.mod_eq_of_lt d2]
  have h2 : (e * d) * c % m = c := by rw [Nat.mul_mod, d3, Nat.one_mul, Nat.mod_mod, Nat.mod_eq_of_lt c2]
  exact h1.symm.trans ((by rw [Nat.mul_comm e d, Nat.mul_assoc] : d * (e * c) % m = (e * d) * c % m).trans h2)
theorem inv_gcd {e m d : Nat} (hd : IsInv e m d) : Nat.gcd e m = 1 := by
  obtain ⟨_, _, h⟩ := hd
  have h1 : Nat.gcd e m ∣ e * d := Nat.dvd_trans (Nat.gcd_dvd_left e m) (Nat.dvd_mul_right e d)
  have h2 : Nat.gcd e m ∣ m := Nat.gcd_dvd_right e m
  have h3 : Nat.gcd e m ∣ e * d % m := (Nat.dvd_mod_iff h2).2 h1
  rw [h] at h3
  exact Nat.dvd_one.1 h3
/-- out of 'x times e is 1 and some m' -/
theorem inv_of {e m : Nat} (hm : 2 ≤ m) (x u : Int) (h : x * e = 1 + u * m) : IsInv e m (x % (m : Int)).toNat := by
  have hm0 : (0 : Int) < (m : Int) := by omega
  have r0 := Int.emod_nonneg x (show (m : Int) ≠ 0 by omega)
  have r1 := Int.emod_lt_of_pos x hm0
  have e1 : x = (m : Int) * (x / (m : Int)) + x % (m : Int) := (Int.mul_ediv_add_emod x m).symm
  obtain ⟨d, hd⟩ : ∃ d : Nat, x % (m : Int) = (d : Int) := ⟨(x % (m : Int)).toNat, by omega⟩
  rw [hd] at e1 r1 ⊢
  generalize x / (m : Int) = q at *
  have h2 : (e : Int) * (d : Int) = 1 + (m : Int) * (u - q * e) := by
    have : (x : Int) * (e : Int) = ((m : Int) * q + d) * e := by rw [← e1]
    rw [h, Int.add_mul] at this
    rw [Int.mul_comm (e : Int) d, Int.mul_sub, Int.mul_comm (m : Int) u, ← Int.mul_assoc (m : Int) q e]
    omega
  generalize u - q * (e : Int) = k at h2
  have hk : 0 ≤ k := by
    rcases Int.lt_or_le k 0 with hk | hk
    · exfalso
      have h3 : (m : Int) * k ≤ (m : Int) * (-1) := Int.mul_le_mul_of_nonneg_left (by omega) (by omega)
      have h4 : (0 : Int) ≤ (e : Int) * (d : Int) := Int.mul_nonneg (by omega) (by omega)
      omega
    · exact hk
  obtain ⟨j, rfl⟩ : ∃ j : Nat, k = (j : Int) := ⟨k.toNat, by omega⟩
  have h5 : e * d = 1 + m * j := by exact_mod_cast h2
  have hdl : d < m := by omega
  refine ⟨?_, by simpa using hdl, ?_⟩
  · rcases Nat.eq_zero_or_pos d with h0 | h0
    · rw [h0] at h5; simp only [Nat.mul_zero] at h5; omega
    · simp only [Int.toNat_natCast]; exact h0
  · simp only [Int.toNat_natCast]
    rw [h5, Nat.add_mul_mod_self_left, Nat.mod_eq_of_lt (by omega)]
theorem inv_ex {e m : Nat} (hm : 2 ≤ m) (hg : Nat.gcd e m = 1) : ∃ d, IsInv e m d := by
  obtain ⟨x, y, h⟩ := bez e m
  rw [hg] at h
  exact ⟨_, inv_of hm x (-y) (by rw [Int.neg_mul]; omega)⟩
/-- the inverse, or 0 -/
def invN (e m : Nat) : Nat := ((List.range m).find? fun d => decide (1 ≤ d) && decide (e * d % m = 1)).getD 0
theorem invN_eq {e m d : Nat} (h : IsInv e m d) : invN e m = d := by
  unfold invN
  cases hf : (List.range m).find? fun d => decide (1 ≤ d) && decide (e * d % m = 1) with
  | none =>
    have := List.find?_eq_none.1 hf d (List.mem_range.2 h.2.1)
    simp [h.1, h.2.2] at this
  | some c =>
    have h1 := List.find?_some hf
    have h2 := List.mem_of_find?_eq_some hf
    simp only [Bool.and_eq_true, decide_eq_true_eq] at h1
    exact inv_uniq ⟨h1.1, List.mem_range.1 h2, h1.2⟩ h
theorem invN_no {e m : Nat} (h : Nat.gcd e m ≠ 1) : invN e m = 0 := by
  unfold invN
  cases hf : (List.range m).find? fun d => decide (1 ≤ d) && decide (e * d % m = 1) with
  | none => rfl
  | some c =>
    have h1 := List.find?_some hf
    have h2 := List.mem_of_find?_eq_some hf
    simp only [Bool.and_eq_true, decide_eq_true_eq] at h1
    exact absurd (inv_gcd ⟨h1.1, List.mem_range.1 h2, h1.2⟩) h
theorem invN_yes {e m : Nat} (hm : 2 ≤ m) (h : Nat.gcd e m = 1) : IsInv e m (invN e m) := by
  obtain ⟨d, hd⟩ := inv_ex hm h
  rw [invN_eq hd]; exact hd
/-- the first k for which e divides 1 + k m -/
theorem inv_k {e m k : Nat} (hm : 2 ≤ m) (he : 1 ≤ e) (hk : k < e) (h : (1 + k * m) % e = 0) : invN e m = (1 + k * m) / e := by
  obtain ⟨d, hd⟩ := Nat.dvd_of_mod_eq_zero h
  rw [hd, Nat.mul_div_cancel_left _ (by omega)]
  refine invN_eq ⟨?_, ?_, ?_⟩
  · rcases Nat.eq_zero_or_pos d with h0 | h0
    · rw [h0] at hd; omega
    · exact h0
  · rcases Nat.lt_or_ge d m with h1 | h1
    · exact h1
    · exfalso
      have a1 : e * m ≤ e * d := Nat.mul_le_mul_left e h1
      have a2 : (k + 1) * m ≤ e * m := Nat.mul_le_mul_right m hk
      rw [Nat.add_mul] at a2
      omega
  · rw [← hd, Nat.add_mul_mod_self_right, Nat.mod_eq_of_lt (by omega)]
theorem k_ex {e m : Nat} (hm : 2 ≤ m) (he : 1 ≤ e) (h : Nat.gcd e m = 1) : ∃ k, k < e ∧ (1 + k * m) % e = 0 := by
  obtain ⟨h1, h2, h3⟩ := invN_yes hm h
  generalize invN e m = d at *
  refine ⟨e * d / m, ?_, ?_⟩
  · rw [Nat.div_lt_iff_lt_mul (by omega)]
    exact Nat.mul_lt_mul_of_pos_left h2 he
  · have := Nat.div_add_mod (e * d) m
    rw [h3] at this
    rw [show 1 + e * d / m * m = e * d by rw [Nat.mul_comm (e * d / m) m]; omega]
    exact Nat.mul_mod_right e d
end Go.Proofs.YtennkhdhnbdbeaaGreat.Nm

namespace Go.Proofs.YtennkhdhnbdbeaaGreat
set_option linter.unusedVariables false
open Go.RowKit Go.Shelf Go.Proofs.YtennkhdhnbdbeaaGreat.Nm

set_option maxRecDepth 100000 in
set_option maxHeartbeats 1000000 in
/-- seal.isPrime -/
theorem isPrime_any (n : Nat) (w : World) (hn : n ≤ 2147483647) :
    Calls Tryz.prog 91 #[.int .i64 (n : Int)] w fun e w' => e = .returned (.bool (prB n)) ∧ w' = w := by
  go_enter Tryz.func91, Tryz.ntmps91
  go_wp2
  go_loop [3] (fun i => ∃ d : Nat, i = .int .i64 (d : Int) ∧ 2 ≤ d ∧ d ≤ 46342 ∧ Hid (∀ k, 2 ≤ k → k < d → n % k ≠ 0)) (fun i => 46342 - (intOf i).toNat)
  case atStart => exact ⟨2, rfl, by omega, by omega, fun k h1 h2 => by omega⟩
  case round =>
    obtain ⟨d, rfl, h2, hd, HK⟩ := hrel
    obtain ⟨z, hz⟩ : ∃ z : Nat, d * d = z := ⟨_, rfl⟩
    have hzl : z ≤ 46342 * 46342 := by rw [← hz]; exact Nat.mul_le_mul hd hd
    have hzi : (d : Int) * (d : Int) = (z : Int) := by rw [← hz]; simp
    have hd0 : ¬ (d : Int) = 0 := by omega
    have HZ := hide' hz
    clear hz
    by_cases hle : z ≤ n
    · have hd2 : d ≤ 46340 := sq_le (by rw [HZ.out]; omega)
      obtain ⟨r, hr⟩ : ∃ r : Nat, n % d = r := ⟨_, rfl⟩
      have hm : (n : Int).tmod (d : Int) = (r : Int) := by rw [← hr]; rfl
      have HR := hide' hr
      clear hr
      by_cases h0 : r = 0
      · have HP : Hid (prB n = false) := prB_no (not_pr h2 (by rw [HZ.out]; exact hle) (by rw [HR.out]; exact h0))
        subst h0
        go_wp2_with fail
        go_ret
        exact ⟨by rw [HP.out]; rfl, rfl⟩
      · have hb : ((r : Int) == 0) = false := by rw [beq_eq_false_iff_ne]; omega
        go_wp2_with fail
        go_round
        case rel => exact ⟨d + 1, by go_num, by omega, by omega, fun k k1 k2 => by
                      rcases Nat.lt_or_ge k d with h | h
                      · exact HK.out k k1 h
                      · obtain rfl : k = d := by omega
                        rw [HR.out]; exact h0⟩
        case measure => simp [intOf]; omega
    · have hlt : n < z := by omega
      by_cases h1 : 1 < n
      · have HP : Hid (prB n = true) := prB_yes (pr_of h1 (by rw [HZ.out]; exact hlt) HK.out)
        go_wp2_with fail
        go_ret
        exact ⟨by show Ending.returned (.bool (decide ((1 : Int) < (n : Int)))) = _; rw [HP.out, decide_eq_true (by omega)], rfl⟩
      · have HP : Hid (prB n = false) := prB_no (not_pr_small h1)
        go_wp2_with fail
        go_ret
        exact ⟨by show Ending.returned (.bool (decide ((1 : Int) < (n : Int)))) = _; rw [HP.out, decide_eq_false (by omega)], rfl⟩

end Go.Proofs.YtennkhdhnbdbeaaGreat

namespace Go.Proofs.YtennkhdhnbdbeaaGreat.Nm
set_option linter.unusedVariables false

/-- what holds all along a search for an inverse -/
structure Eu (e m a b : Nat) (x y : Int) (X Y : Nat) : Prop where
  s : a * Y + b * X = m
  sg : (x = X ∧ y = -Y) ∨ (x = -X ∧ y = Y)
  ca : ∃ u : Int, x * e = a + u * m
  cb : ∃ v : Int, y * e = b + v * m
  g : Nat.gcd a b = Nat.gcd m e
  a1 : 1 ≤ a
  xm : X ≤ m
  ym : Y ≤ m
theorem eu_start {e m : Nat} (hm : 1 ≤ m) : Eu e m m e 0 1 0 1 :=
  ⟨by omega, .inr ⟨rfl, rfl⟩, ⟨-1, by omega⟩, ⟨0, by omega⟩, rfl, hm, by omega, hm⟩
theorem Eu.step {e m a b : Nat} {x y : Int} {X Y : Nat} (h : Eu e m a b x y X Y) (hb : 1 ≤ b) : Eu e m b (a % b) y (x - ((a / b : Nat) : Int) * y) Y (X + a / b * Y) := by
  have ha := Nat.div_add_mod a b
  obtain ⟨hs, hsg, ⟨u, hu⟩, ⟨v, hv⟩, hg, ha1, hx, hy⟩ := h
  generalize hq : a / b = q at *
  generalize hr : a % b = r at *
  have s' : b * (X + q * Y) + r * Y = m := by
    rw [Nat.mul_add, ← Nat.mul_assoc]
    rw [← ha, Nat.add_mul] at hs
    omega
  refine ⟨s', ?_, ⟨v, hv⟩, ⟨u - q * v, ?_⟩, ?_, hb, hy, ?_⟩
  · rcases hsg with ⟨rfl, rfl⟩ | ⟨rfl, rfl⟩
    · right
      refine ⟨rfl, ?_⟩
      rw [Int.natCast_add, Int.natCast_mul, Int.mul_neg]; omega
    · left
      refine ⟨rfl, ?_⟩
      rw [Int.natCast_add, Int.natCast_mul]; omega
  · have e1 : (a : Int) = (b : Int) * (q : Int) + (r : Int) := by exact_mod_cast ha.symm
    rw [Int.sub_mul, Int.mul_assoc, hv, hu, Int.mul_add, Int.sub_mul, Int.mul_assoc, e1, Int.mul_comm (b : Int) q]
    omega
  · rw [← hr, ← hg, Nat.gcd_comm a b, Nat.gcd_rec b a, Nat.gcd_comm]
  · have : X + q * Y ≤ b * (X + q * Y) := Nat.le_mul_of_pos_left _ hb
    omega
theorem tmod_twice (x m : Int) (hm : 0 < m) : (x.tmod m + m).tmod m = x % m := by
  have h1 := Int.tmod_lt_of_pos x hm
  have h2 := Int.lt_tmod_of_pos x hm
  have h3 := Int.tmod_add_mul_tdiv x m
  rw [Int.tmod_eq_emod_of_nonneg (by omega), Int.add_emod_right]
  conv => rhs; rw [← h3]
  rw [Int.add_mul_emod_self_left]
theorem Eu.last {e m a : Nat} {x y : Int} {X Y : Nat} (h : Eu e m a 0 x y X Y) (hm : 2 ≤ m) : (a = 1 → invN e m = (x % (m : Int)).toNat) ∧ (a ≠ 1 → invN e m = 0) := by
  have hg := h.g
  rw [Nat.gcd_zero_right] at hg
  constructor
  · intro h1
    obtain ⟨u, hu⟩ := h.ca
    rw [h1] at hu
    exact invN_eq (inv_of hm x u (by simpa using hu))
  · intro h1
    exact invN_no (by rw [Nat.gcd_comm, ← hg]; exact h1)
end Go.Proofs.YtennkhdhnbdbeaaGreat.Nm
namespace Go.Proofs.YtennkhdhnbdbeaaGreat
set_option linter.unusedVariables false
open Go.RowKit Go.Shelf Go.Proofs.YtennkhdhnbdbeaaGreat.Nm

set_option maxRecDepth 100000 in
set_option maxHeartbeats 1000000 in
/-- seal.inverse -/
theorem inverse_any (e m : Nat) (w : World) (he : e ≤ 65535) (hm : 2 ≤ m) (hm2 : m ≤ 2147483647) :
    Calls Tryz.prog 59 #[.int .i64 (e : Int), .int .i64 (m : Int)] w fun r w' => r = .returned (.int .i64 (invN e m : Int)) ∧ w' = w := by
  go_enter Tryz.func59, Tryz.ntmps59
  go_wp2
  go_loop [5, 6, 7, 8] (fun va vx vb vy => ∃ (a b X Y : Nat) (x y : Int), va = .int .i64 (a : Int) ∧ vx = .int .i64 x ∧ vb = .int .i64 (b : Int) ∧ vy = .int .i64 y ∧ a ≤ 2147483647 ∧ b ≤ 2147483647 ∧ Hid (Eu e m a b x y X Y)) (fun _ _ vb _ => (intOf vb).toNat)
  case atStart => exact ⟨m, e, 0, 1, 0, 1, rfl, rfl, rfl, rfl, hm2, by omega, eu_start (by omega)⟩
  case round =>
    obtain ⟨a, b, X, Y, x, y, rfl, rfl, rfl, rfl, ha, hb, HE⟩ := hrel
    have hX := HE.out.xm
    have hY := HE.out.ym
    by_cases h0 : b = 0
    · subst h0
      obtain ⟨hy1, hy0⟩ := HE.out.last hm
      have hx2 : -2147483647 ≤ x ∧ x ≤ 2147483647 := by rcases HE.out.sg with ⟨rfl, _⟩ | ⟨rfl, _⟩ <;> omega
      by_cases h1 : a = 1
      · have HI := hide' (hy1 h1)
        have ht := tmod_twice x m (by omega)
        have t1 := Int.tmod_lt_of_pos x (show (0 : Int) < (m : Int) by omega)
        have t2 := Int.lt_tmod_of_pos x (show (0 : Int) < (m : Int) by omega)
        have hm0 : ¬ (m : Int) = 0 := by omega
        have HR := hide' (Int.emod_nonneg x hm0)
        subst h1
        clear hy1 hy0
        go_wp2_with fail
        go_ret
        refine ⟨?_, rfl⟩
        show Ending.returned (.int .i64 (x % (m : Int))) = _
        rw [HI.out, Int.toNat_of_nonneg HR.out]
      · have HI := hide' (hy0 h1)
        have hn1 : ((a : Int) == 1) = false := by rw [beq_eq_false_iff_ne]; omega
        clear hy1 hy0
        go_wp2_with fail
        go_ret
        exact ⟨by rw [HI.out]; rfl, rfl⟩
    · have hb0 : ((b : Int) == 0) = false := by rw [beq_eq_false_iff_ne]; omega
      have hbn : ¬ (b : Int) = 0 := by omega
      have HS := hide' (HE.out.step (show 1 ≤ b by omega))
      have hY2 := HS.out.ym
      have hdm := Nat.div_add_mod a b
      have hlt : a % b < b := Nat.mod_lt _ (by omega)
      have hq : (a : Int).tdiv (b : Int) = ((a / b : Nat) : Int) := rfl
      have hql : a / b ≤ a := Nat.div_le_self a b
      have hsg := HE.out.sg
      have hsg2 := HS.out.sg
      generalize a / b = q at *
      generalize a % b = r at *
      obtain ⟨z, hz⟩ : ∃ z : Nat, q * b = z := ⟨_, rfl⟩
      have hzb : (q : Int) * (b : Int) = (z : Int) := by rw [← hz]; simp
      have hzr : (a : Int) - (z : Int) = (r : Int) := by rw [Nat.mul_comm b q, hz] at hdm; omega
      obtain ⟨t, ht⟩ : ∃ t : Int, (q : Int) * y = t := ⟨_, rfl⟩
      rw [ht] at HS hsg2
      have hx2 : -2147483647 ≤ x ∧ x ≤ 2147483647 := by rcases hsg with ⟨rfl, _⟩ | ⟨rfl, _⟩ <;> omega
      have hw2 : -2147483647 ≤ x - t ∧ x - t ≤ 2147483647 := by rcases hsg2 with ⟨_, h⟩ | ⟨_, h⟩ <;> rw [h] <;> omega
      clear hsg hsg2 hdm hz
      go_wp2_with fail
      go_round
      case rel => exact ⟨b, r, Y, X + q * Y, y, x - t, by go_num, by go_num, by go_num, by go_num, hb, by omega, HS⟩
      case measure => simp [intOf]; omega
end Go.Proofs.YtennkhdhnbdbeaaGreat
