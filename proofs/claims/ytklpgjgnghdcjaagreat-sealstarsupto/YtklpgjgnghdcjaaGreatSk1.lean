import Derived.Test.YtklpgjgnghdcjaaGreatMathG
/-
  Plain facts on the numbers of keys: primes by trial, inverses. No program, no memory. (The verifier's own text.)
-/
namespace Go.Proofs.YtklpgjgnghdcjaaGreat.Nm
set_option linter.unusedVariables false

/-- a prime -/
def IsPr (n : Nat) : Prop := 1 < n ∧ ∀ d, 2 ≤ d → d * d ≤ n → n % d ≠ 0
def prB (n : Nat) : Bool := decide (1 < n) && (List.range n).all fun d => decide (d < 2) || decide (n < d * d) || decide (n % d ≠ 0)
theorem prB_iff (n : Nat) : prB n = true ↔ IsPr n := by
  unfold prB IsPr
  simp only [Bool.and_eq_true, Bool.or_eq_true, decide_eq_true_eq, List.all_eq_true, List.mem_range]
  constructor
  · rintro ⟨h1, h2⟩
    refine ⟨h1, fun d hd hdd => ?_⟩
    have hlt : d < n := Nat.lt_of_lt_of_le (by have := Nat.mul_le_mul_right d hd; omega : d < d * d) hdd
    rcases h2 d hlt with (h | h) | h
    · omega
    · omega
    · exact h
  · rintro ⟨h1, h2⟩
    refine ⟨h1, fun d _ => ?_⟩
    rcases Nat.lt_or_ge d 2 with h | h
    · exact .inl (.inl h)
    · rcases Nat.lt_or_ge n (d * d) with h' | h'
      · exact .inl (.inr h')
      · exact .inr (h2 d h h')
theorem prB_yes {n : Nat} (h : IsPr n) : prB n = true := (prB_iff n).2 h
theorem prB_no {n : Nat} (h : ¬ IsPr n) : prB n = false := Bool.eq_false_iff.2 fun e => h ((prB_iff n).1 e)
theorem sq_le {x : Nat} (h : x * x ≤ 2147483647) : x ≤ 46340 := by
  rcases Nat.lt_or_ge 46340 x with hx | hx
  · have := Nat.mul_le_mul hx hx; omega
  · exact hx
theorem not_pr {n d : Nat} (h2 : 2 ≤ d) (hd : d * d ≤ n) (h : n % d = 0) : ¬ IsPr n := fun hp => hp.2 d h2 hd h
/-- no divisor below d: a prime where d's square is above n -/
theorem pr_of {n d : Nat} (hn : 1 < n) (hlt : n < d * d) (h : ∀ k, 2 ≤ k → k < d → n % k ≠ 0) : IsPr n := by
  refine ⟨hn, fun k hk hkn => ?_⟩
  rcases Nat.lt_or_ge k d with h1 | h1
  · exact h k hk h1
  · have := Nat.mul_le_mul h1 h1; omega
theorem not_pr_small {n : Nat} (hn : ¬ 1 < n) : ¬ IsPr n := fun h => hn h.1
/-- an even one -/
theorem pr_even {n : Nat} (h : n % 2 = 0) : IsPr n ↔ n = 2 := by
  constructor
  · intro hp
    rcases Nat.lt_or_ge n 4 with h4 | h4
    · have := hp.1; omega
    · exact absurd h (hp.2 2 (by omega) (by omega))
  · rintro rfl
    refine ⟨by omega, fun d h2 hd => ?_⟩
    have := Nat.mul_le_mul h2 h2; omega
/-- an odd one: odd divisors alone -/
theorem odd_div {n k : Nat} (h : n % 2 = 1) (hk : k % 2 = 0) : n % k ≠ 0 := by
  intro h0
  obtain ⟨c, hc⟩ := Nat.dvd_of_mod_eq_zero h0
  obtain ⟨b, hb⟩ := Nat.dvd_of_mod_eq_zero hk
  rw [hc, hb, Nat.mul_assoc, Nat.mul_mod_right] at h
  omega

theorem bez : ∀ (a b : Nat), ∃ x y : Int, x * a + y * b = (Nat.gcd a b : Int) := by
  intro a b
  induction a, b using Nat.gcd.induction with
  | H0 n => exact ⟨0, 1, by simp⟩
  | H1 m n hm ih =>
    obtain ⟨x, y, h⟩ := ih
    refine ⟨y - x * ((n / m : Nat) : Int), x, ?_⟩
    rw [← Nat.gcd_rec m n] at h
    have e : (n : Int) = (m : Int) * ((n / m : Nat) : Int) + ((n % m : Nat) : Int) := by exact_mod_cast (Nat.div_add_mod n m).symm
    generalize ((n / m : Nat) : Int) = q at *
    generalize ((n % m : Nat) : Int) = r at *
    rw [← h, e]
    simp only [Int.sub_mul, Int.mul_add, Int.mul_assoc, Int.mul_comm q (m : Int)]
    omega

/-- what is 1 when taken e times, mod m -/
def IsInv (e m d : Nat) : Prop := 1 ≤ d ∧ d < m ∧ e * d % m = 1
theorem inv_uniq {e m d c : Nat} (hd : IsInv e m d) (hc : IsInv e m c) : d = c := by
  obtain ⟨_, d2, d3⟩ := hd
  obtain ⟨_, c2, c3⟩ := hc
  have h1 : d * (e * c) % m = d := by rw [Nat.mul_mod, c3, Nat.mul_one, Nat.mod_mod, Nat.mod_eq_of_lt d2]
  have h2 : (e * d) * c % m = c := by rw [Nat.mul_mod, d3, Nat.one_mul, Nat.mod_mod, Nat.mod_eq_of_lt c2]
  exact h1.symm.trans ((by rw [Nat.mul_comm e d, Nat.mul_assoc] : d * (e * c) % m = (e * d) * c % m).trans h2)
theorem inv_gcd {e m d : Nat} (hd : IsInv e m d) : Nat.gcd e m = 1 := by
  obtain ⟨_, _, h⟩ := hd
  have h1 : Nat.gcd e m ∣ e * d := Nat.dvd_trans (Nat.gcd_dvd_left e m) (Nat.dvd_mul_right e d)
  have h2 : Nat.gcd e m ∣ m := Nat.gcd_dvd_right e m
  have h3 : Nat.gcd e m ∣ e * d % m := (Nat.dvd_mod_iff h2).2 h1
  rw [h] at h3
  exact Nat.dvd_one.1 h3
/-- out of 'x times e is 1 and some m' -/
theorem inv_of {e m : Nat} (hm : 2 ≤ m) (x u : Int) (h : x * e = 1 + u * m) : IsInv e m (x % (m : Int)).toNat := by
  have hm0 : (0 : Int) < (m : Int) := by omega
  have r0 := Int.emod_nonneg x (show (m : Int) ≠ 0 by omega)
  have r1 := Int.emod_lt_of_pos x hm0
  have e1 : x = (m : Int) * (x / (m : Int)) + x % (m : Int) := (Int.mul_ediv_add_emod x m).symm
  obtain ⟨d, hd⟩ : ∃ d : Nat, x % (m : Int) = (d : Int) := ⟨(x % (m : Int)).toNat, by omega⟩
  rw [hd] at e1 r1 ⊢
  generalize x / (m : Int) = q at *
  have h2 : (e : Int) * (d : Int) = 1 + (m : Int) * (u - q * e) := by
    have : (x : Int) * (e : Int) = ((m : Int) * q + d) * e := by rw [← e1]
    rw [h, Int.add_mul] at this
    rw [Int.mul_comm (e : Int) d, Int.mul_sub, Int.mul_comm (m : Int) u, ← Int.mul_assoc (m : Int) q e]
    omega
  generalize u - q * (e : Int) = k at h2
  have hk : 0 ≤ k := by
    rcases Int.lt_or_le k 0 with hk | hk
    · exfalso
      have h3 : (m : Int) * k ≤ (m : Int) * (-1) := Int.mul_le_mul_of_nonneg_left (by omega) (by omega)
      have h4 : (0 : Int) ≤ (e : Int) * (d : Int) := Int.mul_nonneg (by omega) (by omega)
      omega
    · exact hk
  obtain ⟨j, rfl⟩ : ∃ j : Nat, k = (j : Int) := ⟨k.toNat, by omega⟩
  have h5 : e * d = 1 + m * j := by exact_mod_cast h2
  have hdl : d < m := by omega
  refine ⟨?_, by simpa using hdl, ?_⟩
  · rcases Nat.eq_zero_or_pos d with h0 | h0
    · rw [h0] at h5; simp only [Nat.mul_zero] at h5; omega
    · simp only [Int.toNat_natCast]; exact h0
  · simp only [Int.toNat_natCast]
    rw [h5, Nat.add_mul_mod_self_left, Nat.mod_eq_of_lt (by omega)]
theorem inv_ex {e m : Nat} (hm : 2 ≤ m) (hg : Nat.gcd e m = 1) : ∃ d, IsInv e m d := by
  obtain ⟨x, y, h⟩ := bez e m
  rw [hg] at h
  exact ⟨_, inv_of hm x (-y) (by rw [Int.neg_mul]; omega)⟩
/-- the inverse, or 0 -/
def invN (e m : Nat) : Nat := ((List.range m).find? fun d => decide (1 ≤ d) && decide (e * d % m = 1)).getD 0
theorem invN_eq {e m d : Nat} (h : IsInv e m d) : invN e m = d := by
  unfold invN
  cases hf : (List.range m).find? fun d => decide (1 ≤ d) && decide (e * d % m = 1) with
  | none =>
    have := List.find?_eq_none.1 hf d (List.mem_range.2 h.2.1)
    simp [h.1, h.2.2] at this
  | some c =>
    have h1 := List.find?_some hf
    have h2 := List.mem_of_find?_eq_some hf
    simp only [Bool.and_eq_true, decide_eq_true_eq] at h1
    exact inv_uniq ⟨h1.1, List.mem_range.1 h2, h1.2⟩ h
theorem invN_no {e m : Nat} (h : Nat.gcd e m ≠ 1) : invN e m = 0 := by
  unfold invN
  cases hf : (List.range m).find? fun d => decide (1 ≤ d) && decide (e * d % m = 1) with
  | none => rfl
  | some c =>
    have h1 := List.find?_some hf
    have h2 := List.mem_of_find?_eq_some hf
    simp only [Bool.and_eq_true, decide_eq_true_eq] at h1
    exact absurd (inv_gcd ⟨h1.1, List.mem_range.1 h2, h1.2⟩) h
theorem invN_yes {e m : Nat} (hm : 2 ≤ m) (h : Nat.gcd e m = 1) : IsInv e m (invN e m) := by
  obtain ⟨d, hd⟩ := inv_ex hm h
  rw [invN_eq hd]; exact hd
/-- the first k for which e divides 1 + k m -/
theorem inv_k {e m k : Nat} (hm : 2 ≤ m) (he : 1 ≤ e) (hk : k < e) (h : (1 + k * m) % e = 0) : invN e m = (1 + k * m) / e := by
  obtain ⟨d, hd⟩ := Nat.dvd_of_mod_eq_zero h
  rw [hd, Nat.mul_div_cancel_left _ (by omega)]
  refine invN_eq ⟨?_, ?_, ?_⟩
  · rcases Nat.eq_zero_or_pos d with h0 | h0
    · rw [h0] at hd; omega
    · exact h0
  · rcases Nat.lt_or_ge d m with h1 | h1
    · exact h1
    · exfalso
      have a1 : e * m ≤ e * d := Nat.mul_le_mul_left e h1
      have a2 : (k + 1) * m ≤ e * m := Nat.mul_le_mul_right m hk
      rw [Nat.add_mul] at a2
      omega
  · rw [← hd, Nat.add_mul_mod_self_right, Nat.mod_eq_of_lt (by omega)]
theorem k_ex {e m : Nat} (hm : 2 ≤ m) (he : 1 ≤ e) (h : Nat.gcd e m = 1) : ∃ k, k < e ∧ (1 + k * m) % e = 0 := by
  obtain ⟨h1, h2, h3⟩ := invN_yes hm h
  generalize invN e m = d at *
  refine ⟨e * d / m, ?_, ?_⟩
  · rw [Nat.div_lt_iff_lt_mul (by omega)]
    exact Nat.mul_lt_mul_of_pos_left h2 he
  · have := Nat.div_add_mod (e * d) m
    rw [h3] at this
    rw [show 1 + e * d / m * m = e * d by rw [Nat.mul_comm (e * d / m) m]; omega]
    exact Nat.mul_mod_right e d
end Go.Proofs.YtklpgjgnghdcjaaGreat.Nm
