import Derived.Test.YtennkhdhnbdbeaaGreatSk1G
import Derived.Test.YtennkhdhnbdbeaaGreatSk11
import Derived.Test.YtennkhdhnbdbeaaGreatRc1G
import Derived.Test.YtennkhdhnbdbeaaGreatSf5
import Derived.Test.YtennkhdhnbdbeaaGreatSk8
import Derived.Test.YtennkhdhnbdbeaaGreatSg8
import Derived.Test.YtennkhdhnbdbeaaGreatSg4
import Derived.Test.YtennkhdhnbdbeaaGreatMath13G
/-
  Plain facts on powers: what is taken to the power of e and then of d, mod two primes' product, is what it was. No program, no memory. (The verifier's own text.)
-/
namespace Go.Proofs.YtennkhdhnbdbeaaGreat.Nm
set_option linter.unusedVariables false

/-- a divisor of a prime -/
theorem pr_div {p d : Nat} (hp : IsPr p) (h : d ∣ p) : d = 1 ∨ d = p := by
  obtain ⟨c, hc⟩ := h
  have h1 := hp.1
  rcases Nat.lt_or_ge d 2 with hd | hd
  · left
    rcases (show d = 0 ∨ d = 1 by omega) with rfl | rfl
    · simp at hc; omega
    · rfl
  rcases Nat.lt_or_ge c 2 with hc2 | hc2
  · right
    rcases (show c = 0 ∨ c = 1 by omega) with rfl | rfl
    · simp at hc; omega
    · simp at hc; exact hc.symm
  exfalso
  rcases Nat.le_total d c with hdc | hdc
  · refine hp.2 d hd (by rw [hc]; exact Nat.mul_le_mul_left d hdc) (by rw [hc]; exact Nat.mul_mod_right d c)
  · refine hp.2 c hc2 (by rw [hc]; exact Nat.mul_le_mul_right c hdc) (by rw [hc]; exact Nat.mul_mod_left d c)
theorem pr_cop {p a : Nat} (hp : IsPr p) (h : ¬ p ∣ a) : Nat.Coprime p a := by
  rcases pr_div hp (Nat.gcd_dvd_left p a) with h1 | h1
  · exact h1
  · exact absurd (h1 ▸ Nat.gcd_dvd_right p a) h
theorem pr_mul {p a b : Nat} (hp : IsPr p) (h : p ∣ a * b) : p ∣ a ∨ p ∣ b := by
  rcases Classical.em (p ∣ a) with ha | ha
  · exact .inl ha
  · exact .inr ((pr_cop hp ha).dvd_of_dvd_mul_left h)
/-- how many ways to take k out of n -/
def chs : Nat → Nat → Nat
  | _, 0 => 1
  | 0, _ + 1 => 0
  | n + 1, k + 1 => chs n k + chs n (k + 1)
theorem chs_zero (n : Nat) : chs n 0 = 1 := by cases n <;> rfl
theorem chs_succ (n k : Nat) : chs (n + 1) (k + 1) = chs n k + chs n (k + 1) := rfl
theorem chs_none : ∀ (n k : Nat), n < k → chs n k = 0
  | 0, k + 1, _ => rfl
  | n + 1, k + 1, h => by rw [chs_succ, chs_none n k (by omega), chs_none n (k + 1) (by omega)]
theorem chs_all : ∀ n : Nat, chs n n = 1
  | 0 => rfl
  | n + 1 => by rw [chs_succ, chs_all n, chs_none n (n + 1) (by omega)]
theorem chs_abs : ∀ (n k : Nat), (k + 1) * chs (n + 1) (k + 1) = (n + 1) * chs n k
  | 0, 0 => rfl
  | 0, k + 1 => by rw [chs_none 1 (k + 2) (by omega)]; simp [chs]
  | n + 1, 0 => by
    have h := chs_abs n 0
    rw [chs_zero] at h
    rw [chs_succ (n + 1) 0, chs_zero, Nat.mul_add]
    omega
  | n + 1, k + 1 => by
    have h1 := chs_abs n k
    have h2 := chs_abs n (k + 1)
    rw [chs_succ (n + 1) (k + 1), Nat.mul_add, h2, Nat.add_mul (k + 1) 1, h1]
    have h3 : chs (n + 1) (k + 1) = chs n k + chs n (k + 1) := rfl
    have h4 : (n + 1) * chs (n + 1) (k + 1) = (n + 1) * chs n k + (n + 1) * chs n (k + 1) := by rw [h3, Nat.mul_add]
    rw [Nat.add_mul (n + 1) 1, h4]
    omega
theorem pr_chs {p k : Nat} (hp : IsPr p) (h0 : 0 < k) (hk : k < p) : p ∣ chs p k := by
  obtain ⟨j, rfl⟩ : ∃ j, k = j + 1 := ⟨k - 1, by omega⟩
  obtain ⟨n, rfl⟩ : ∃ n, p = n + 1 := ⟨p - 1, by omega⟩
  have h := chs_abs n j
  have hd : n + 1 ∣ (j + 1) * chs (n + 1) (j + 1) := by rw [h]; exact Nat.dvd_mul_right _ _
  rcases pr_mul hp hd with h1 | h1
  · have := Nat.le_of_dvd (by omega) h1; omega
  · exact h1
/-- the sum of the first m of (x + 1) ^ n -/
def bin (n x : Nat) : Nat → Nat
  | 0 => 0
  | m + 1 => bin n x m + chs n m * x ^ m
theorem bin_succ (n x : Nat) : ∀ m : Nat, bin (n + 1) x (m + 1) = x * bin n x m + bin n x (m + 1)
  | 0 => by simp [bin, chs_zero]
  | m + 1 => by
    have h := bin_succ n x m
    have L : bin (n + 1) x (m + 1 + 1) = bin (n + 1) x (m + 1) + chs (n + 1) (m + 1) * x ^ (m + 1) := rfl
    have R1 : bin n x (m + 1) = bin n x m + chs n m * x ^ m := rfl
    have R2 : bin n x (m + 1 + 1) = bin n x (m + 1) + chs n (m + 1) * x ^ (m + 1) := rfl
    have e2 : x * bin n x (m + 1) = x * bin n x m + chs n m * x ^ (m + 1) := by
      rw [R1, Nat.mul_add, Nat.pow_succ, ← Nat.mul_assoc (chs n m), Nat.mul_comm x (chs n m * x ^ m)]
    rw [L, h, R2, chs_succ, Nat.add_mul, e2]
    omega
theorem bin_pow (x : Nat) : ∀ n : Nat, (x + 1) ^ n = bin n x (n + 1)
  | 0 => by simp [bin, chs_zero]
  | n + 1 => by
    have R2 : bin n x (n + 1 + 1) = bin n x (n + 1) + chs n (n + 1) * x ^ (n + 1) := rfl
    rw [Nat.pow_succ, bin_pow x n, bin_succ n x (n + 1), R2, chs_none n (n + 1) (by omega), Nat.zero_mul, Nat.mul_add, Nat.mul_one, Nat.mul_comm x (bin n x (n + 1))]
    omega
theorem bin_mod {p x : Nat} (hp : IsPr p) : ∀ m, m < p → bin p x (m + 1) % p = 1 % p
  | 0, _ => by simp [bin, chs_zero]
  | m + 1, h => by
    have ih := bin_mod hp m (by omega) (x := x)
    rw [bin, Nat.add_mod, ih]
    obtain ⟨c, hc⟩ := pr_chs hp (show 0 < m + 1 by omega) h
    rw [hc, Nat.mul_assoc, Nat.mul_mod_right, Nat.add_zero, Nat.mod_mod]
theorem fermat {p : Nat} (hp : IsPr p) : ∀ x : Nat, x ^ p % p = x % p
  | 0 => by rw [Nat.zero_pow (by have := hp.1; omega)]
  | x + 1 => by
    have h1 := hp.1
    rw [bin_pow, bin, chs_all, Nat.one_mul, Nat.add_mod, fermat hp x]
    obtain ⟨n, hn⟩ : ∃ n, p = n + 1 := ⟨p - 1, by omega⟩
    have h2 := bin_mod hp n (by omega) (x := x)
    rw [← hn] at h2
    rw [h2, ← Nat.add_mod, Nat.add_comm]
theorem fermat1 {p x : Nat} (hp : IsPr p) (h : ¬ p ∣ x) : x ^ (p - 1) % p = 1 := by
  have h1 := hp.1
  have h2 := fermat hp x
  obtain ⟨n, rfl⟩ : ∃ n, p = n + 1 := ⟨p - 1, by omega⟩
  simp only [Nat.add_sub_cancel]
  have hx : 0 < x := by
    rcases Nat.eq_zero_or_pos x with hx | hx
    · exact absurd (hx ▸ Nat.dvd_zero _) h
    · exact hx
  have h3 : 1 ≤ x ^ n := Nat.pow_pos hx
  have h4 : n + 1 ∣ x * (x ^ n - 1) := by
    have h5 := Nat.dvd_of_mod_eq_zero (Nat.sub_mod_eq_zero_of_mod_eq h2)
    rw [Nat.mul_sub, Nat.mul_one, Nat.mul_comm x, ← Nat.pow_succ]
    exact h5
  rcases pr_mul hp h4 with h5 | h5
  · exact absurd h5 h
  · obtain ⟨c, hc⟩ := h5
    rw [show x ^ n = 1 + (n + 1) * c by omega, Nat.add_mul_mod_self_left, Nat.mod_eq_of_lt h1]
/-- one prime -/
theorem rsa1 {p x k : Nat} (hp : IsPr p) : x ^ (1 + (p - 1) * k) % p = x % p := by
  have h1 := hp.1
  rcases Classical.em (p ∣ x) with h | h
  · have e1 : x % p = 0 := Nat.mod_eq_zero_of_dvd h
    have e2 : x ^ (1 + (p - 1) * k) % p = 0 := Nat.mod_eq_zero_of_dvd (Nat.dvd_trans h (by rw [Nat.pow_add, Nat.pow_one]; exact Nat.dvd_mul_right _ _))
    rw [e1, e2]
  · rw [Nat.pow_add, Nat.pow_one, Nat.pow_mul, Nat.mul_mod, Nat.pow_mod, fermat1 hp h, Nat.one_pow, Nat.mod_eq_of_lt h1, Nat.mul_one, Nat.mod_mod]
theorem mod_of_two {p q a b : Nat} (hp : IsPr p) (hq : IsPr q) (hne : p ≠ q) (h1 : a % p = b % p) (h2 : a % q = b % q) : a % (p * q) = b % (p * q) := by
  have hc : Nat.Coprime p q := pr_cop hp (fun h => by
    rcases pr_div hq h with h | h
    · have := hp.1; omega
    · exact hne h)
  have key : ∀ a b : Nat, b ≤ a → a % p = b % p → a % q = b % q → a % (p * q) = b % (p * q) := by
    intro a b hle h1 h2
    have d1 := Nat.dvd_of_mod_eq_zero (Nat.sub_mod_eq_zero_of_mod_eq h1)
    have d2 := Nat.dvd_of_mod_eq_zero (Nat.sub_mod_eq_zero_of_mod_eq h2)
    obtain ⟨c, hcc⟩ := hc.mul_dvd_of_dvd_of_dvd d1 d2
    rw [show a = b + p * q * c by omega, Nat.add_mul_mod_self_left]
  rcases Nat.le_total b a with h | h
  · exact key a b h h1 h2
  · exact (key b a h h1.symm h2.symm).symm
/-- what is taken to the power of d and then of e -/
theorem rsa {p q e d x : Nat} (hp : IsPr p) (hq : IsPr q) (hne : p ≠ q) (hd : IsInv e ((p - 1) * (q - 1)) d) : (x ^ d % (p * q)) ^ e % (p * q) = x % (p * q) := by
  rw [← Nat.pow_mod, ← Nat.pow_mul, Nat.mul_comm d e]
  have h := Nat.div_add_mod (e * d) ((p - 1) * (q - 1))
  rw [hd.2.2] at h
  generalize e * d / ((p - 1) * (q - 1)) = k at h
  refine mod_of_two hp hq hne ?_ ?_
  · have h1 := rsa1 (x := x) (k := (q - 1) * k) hp
    rw [← Nat.mul_assoc] at h1
    rw [← h, Nat.add_comm]; exact h1
  · have h1 := rsa1 (x := x) (k := (p - 1) * k) hq
    rw [← Nat.mul_assoc, Nat.mul_comm (q - 1)] at h1
    rw [← h, Nat.add_comm]; exact h1
end Go.Proofs.YtennkhdhnbdbeaaGreat.Nm

/-
  seal.keyOf, told fully. (The verifier's own text.)
-/
namespace Go.Proofs.YtennkhdhnbdbeaaGreat
set_option linter.unusedVariables false
set_option linter.unusedSimpArgs false
open Go.RowKit Go.Shelf Go.Proofs.YtennkhdhnbdbeaaGreat.Nm

/-- the numbers of a key that data tell -/
def kyF (d : ByteArray) : Int := if d.size = 12 then (vN (d.extract 0 2) 2 : Int) else 0
def kyM (d : ByteArray) : Int := if d.size = 12 then (vN (d.extract 4 8) 4 : Int) else 0
def kyE (d : ByteArray) : Int := if d.size = 12 then (vN (d.extract 8 12) 4 : Int) else 0
def kyS (d : ByteArray) : Int := if d.size = 12 then 1 else 0
set_option maxRecDepth 100000 in
set_option maxHeartbeats 2000000 in
/-- seal.keyOf, with the key -/
theorem keyOf_full (d : ByteArray) (w : World) (hd : d.size ≤ 1048576) :
    Calls Tryz.prog 48 #[.string d] w fun r w' => r = .returned (.tuple #[.agg #[.int .i64 (kyF d), .int .i64 (kyM d), .int .i64 (kyE d), .int .i64 (kyS d)], .bool (keyB d)]) ∧ Below w.heap.size w w' := by
  by_cases h12 : d.size = 12
  · have z1 : (d.extract 0 2).size = 2 := by simp [ByteArray.size_extract]; omega
    have z2 : (d.extract 4 8).size = 4 := by simp [ByteArray.size_extract]; omega
    have z3 : (d.extract 8 12).size = 4 := by simp [ByteArray.size_extract]; omega
    have V1 := hide' (fun w => spellValue_any (d.extract 0 2) w (by omega))
    have V2 := hide' (fun w => spellValue_any (d.extract 4 8) w (by omega))
    have V3 := hide' (fun w => spellValue_any (d.extract 8 12) w (by omega))
    rw [z1] at V1
    rw [z2] at V2
    rw [z3] at V3
    have hI : (d.size : Int) = 12 := by omega
    have HP := hide' (fun w => public_any (vN (d.extract 0 2) 2 : Int) (vN (d.extract 4 8) 4 : Int) (vN (d.extract 8 12) 4 : Int) 1 w)
    obtain ⟨K, hK⟩ : ∃ K, pubB (vN (d.extract 0 2) 2 : Int) (vN (d.extract 4 8) 4 : Int) (vN (d.extract 8 12) 4 : Int) 1 = K := ⟨_, rfl⟩
    rw [hK] at HP
    have HK : Hid (keyB d = (K.toList == d.toList)) := by unfold Hid; rw [keyB_12 h12, ← hK]; rfl
    have HKV : Hid (kyF d = (vN (d.extract 0 2) 2 : Int) ∧ kyM d = (vN (d.extract 4 8) 4 : Int) ∧ kyE d = (vN (d.extract 8 12) 4 : Int) ∧ kyS d = 1) := by unfold Hid kyF kyM kyE kyS; rw [if_pos h12, if_pos h12, if_pos h12, if_pos h12]; exact ⟨rfl, rfl, rfl, rfl⟩
    rw [HKV.out.1, HKV.out.2.1, HKV.out.2.2.1, HKV.out.2.2.2]
    clear hK z1 z2 z3 HKV
    generalize vN (d.extract 0 2) 2 = v1 at *
    generalize vN (d.extract 4 8) 4 = v2 at *
    generalize vN (d.extract 8 12) 4 = v3 at *
    have T1 : Hid True := trivial
    have T2 : Hid True := trivial
    go_enter Tryz.func48, Tryz.ntmps48
    go_wp2_with fail
    go_region_with (first
      | (go_at_call 88; have _ := T1; clear T1; refine (V1.out _).mono ?_; rintro r w1 ⟨rfl, rfl⟩)
      | (go_at_call 88; have _ := T2; clear T2; refine (V2.out _).mono ?_; rintro r w1 ⟨rfl, rfl⟩)
      | (go_at_call 88; refine (V3.out _).mono ?_; rintro r w1 ⟨rfl, rfl⟩))
    all_goals
      go_wp2_with fail
      obtain ⟨W1, hW1⟩ : ∃ W1, ((w.alloc (.cells #[.int .i64 0, .int .i64 0, .int .i64 0, .int .i64 0] 23)).alloc (.cells #[.int .i64 (v1 : Int), .int .i64 (v2 : Int), .int .i64 (v3 : Int), .int .i64 1] 23)).drew = W1 := ⟨_, rfl⟩
      rw [hW1]
      obtain ⟨X1, Y1, B1⟩ := ko_start w _ _ _ _ W1 hW1.symm
      have HX1 := hide' X1
      have HY1 := hide' Y1
      have HB1 := hide' B1
      have y0 := Y1.cell (j := 0) rfl
      have y1 := Y1.cell (j := 1) rfl
      have y2 := Y1.cell (j := 2) rfl
      have y3 := Y1.cell (j := 3) rfl
      clear X1 Y1 B1 hW1
      go_region_held3 (fun w' => w'.cell? ⟨w.heap.size + 1, 0, none⟩ = some (.int .i64 (v1 : Int)) ∧ w'.cell? ⟨w.heap.size + 1, 1, none⟩ = some (.int .i64 (v2 : Int)) ∧ w'.cell? ⟨w.heap.size + 1, 2, none⟩ = some (.int .i64 (v3 : Int)) ∧ w'.cell? ⟨w.heap.size + 1, 3, none⟩ = some (.int .i64 1)) (first | go_keep | exact S2.out | exact ⟨HY3.out.cell rfl, HY3.out.cell rfl, HY3.out.cell rfl, HY3.out.cell rfl⟩) ((go_at_call 15; refine (HP.out _).mono ?_; rintro r w2 ⟨rfl, hB2⟩; have HX2 := hide' (show Bx w2 w.heap.size #[.int .i64 0, .int .i64 0, .int .i64 0, .int .i64 0] 23 by first | exact HX1.out.below hB2 HX1.out.lt | exact (show Bx W1.drew w.heap.size #[.int .i64 0, .int .i64 0, .int .i64 0, .int .i64 0] 23 from HX1.out).below hB2 HX1.out.lt); have HY2 := hide' (show Bx w2 (w.heap.size + 1) #[.int .i64 (v1 : Int), .int .i64 (v2 : Int), .int .i64 (v3 : Int), .int .i64 1] 23 by first | exact HY1.out.below hB2 HY1.out.lt | exact (show Bx W1.drew (w.heap.size + 1) #[.int .i64 (v1 : Int), .int .i64 (v2 : Int), .int .i64 (v3 : Int), .int .i64 1] 23 from HY1.out).below hB2 HY1.out.lt); have HB2 := hide' (show Below w.heap.size w w2 by first | exact bstep HB1.out hB2 HB1.out.size | exact bstep HB1.out.drew hB2 HB1.out.size); have S2 := hide' (show w2.cell? ⟨w.heap.size + 1, 0, none⟩ = some (.int .i64 (v1 : Int)) ∧ w2.cell? ⟨w.heap.size + 1, 1, none⟩ = some (.int .i64 (v2 : Int)) ∧ w2.cell? ⟨w.heap.size + 1, 2, none⟩ = some (.int .i64 (v3 : Int)) ∧ w2.cell? ⟨w.heap.size + 1, 3, none⟩ = some (.int .i64 1) from ⟨HY2.out.cell rfl, HY2.out.cell rfl, HY2.out.cell rfl, HY2.out.cell rfl⟩); have x0 : w2.cell? ⟨w.heap.size, 0, none⟩ = some (.int .i64 0) := HX2.out.cell rfl; have x1 : w2.cell? ⟨w.heap.size, 1, none⟩ = some (.int .i64 0) := HX2.out.cell rfl; have x2 : w2.cell? ⟨w.heap.size, 2, none⟩ = some (.int .i64 0) := HX2.out.cell rfl; have x3 : w2.cell? ⟨w.heap.size, 3, none⟩ = some (.int .i64 0) := HX2.out.cell rfl; have g0 := HX2.out.free 0; have g1 := HX2.out.free 1; have g2 := HX2.out.free 2; have g3 := HX2.out.free 3; clear hB2))
    all_goals
      have E3 := (((HX2.out.set 0 (.int .i64 (v1 : Int))).set 1 (.int .i64 (v2 : Int))).set 2 (.int .i64 (v3 : Int))).set 3 (.int .i64 1)
      have q0 := E3.cell (j := 0) (v := .int .i64 (v1 : Int)) (by simp)
      have q1 := E3.cell (j := 1) (v := .int .i64 (v2 : Int)) (by simp)
      have q2 := E3.cell (j := 2) (v := .int .i64 (v3 : Int)) (by simp)
      have q3 := E3.cell (j := 3) (v := .int .i64 1) (by simp)
      have BE := hide' ((((HB2.out.setCell (p := ⟨w.heap.size, 0, none⟩) (Nat.le_refl _) (.int .i64 (v1 : Int))).setCell (p := ⟨w.heap.size, 1, none⟩) (Nat.le_refl _) (.int .i64 (v2 : Int))).setCell (p := ⟨w.heap.size, 2, none⟩) (Nat.le_refl _) (.int .i64 (v3 : Int))).setCell (p := ⟨w.heap.size, 3, none⟩) (Nat.le_refl _) (.int .i64 1))
      go_wp2_with fail
      refine bodyPost_ret (v := .tuple #[.agg #[.int .i64 (v1 : Int), .int .i64 (v2 : Int), .int .i64 (v3 : Int), .int .i64 1], .bool (K.toList == d.toList)]) (by simp [results, go_sem, q0, q1, q2, q3]) rfl ⟨by rw [HK.out], by first | exact BE.out | exact BE.out.drew⟩
  · have HKV : Hid (kyF d = 0 ∧ kyM d = 0 ∧ kyE d = 0 ∧ kyS d = 0) := by unfold Hid kyF kyM kyE kyS; rw [if_neg h12, if_neg h12, if_neg h12, if_neg h12]; exact ⟨rfl, rfl, rfl, rfl⟩
    rw [HKV.out.1, HKV.out.2.1, HKV.out.2.2.1, HKV.out.2.2.2]
    have HK : Hid (keyB d = false) := by unfold Hid keyB; rw [decide_eq_false h12]; rfl
    have hI : ((d.size : Int) == 12) = false := by rw [beq_eq_false_iff_ne]; omega
    have hJ : ¬ (d.size : Int) = 12 := by omega
    go_enter Tryz.func48, Tryz.ntmps48
    go_wp2
    obtain ⟨q0, q1, q2, q3⟩ := cells4 w (.int .i64 0) (.int .i64 0) (.int .i64 0) (.int .i64 0) 23
    refine bodyPost_ret (v := .tuple #[.agg #[.int .i64 0, .int .i64 0, .int .i64 0, .int .i64 0], .bool false]) (by simp [results, go_sem, q0, q1, q2, q3]) rfl ⟨by rw [HK.out], below_one w _⟩
end Go.Proofs.YtennkhdhnbdbeaaGreat

/-
  An RRSIG's data, plainly: what a stamp writes is read. (The verifier's own text.)
-/
namespace Go.Proofs.YtennkhdhnbdbeaaGreat.Nm
set_option linter.unusedVariables false
set_option linter.unusedSimpArgs false

theorem vN_part (v n : Nat) : ∀ k, k ≤ n → vN (nB v n) k = v / 256 ^ (n - k) % 256 ^ k
  | 0, _ => by simp [vN, Nat.mod_one]
  | k + 1, h => by
    rw [vN, vN_part v n k (by omega), nB_bt v n k (by omega)]
    have e : n - k = n - (k + 1) + 1 := by omega
    have e2 : n - 1 - k = n - (k + 1) := by omega
    rw [e, e2, Nat.pow_succ 256 (n - (k + 1)), ← Nat.div_div_eq_div_mul, Nat.pow_succ 256 k, Nat.mul_comm (256 ^ k) 256, Nat.mod_mul]
    omega
theorem vN_nB {v k : Nat} (h : v < 256 ^ k) : vN (nB v k) k = v := by
  rw [vN_part v k k (Nat.le_refl _), Nat.sub_self, Nat.pow_zero, Nat.div_one, Nat.mod_eq_of_lt h]
theorem arr_none (A B : ByteArray) : A.data.extract A.size (A.size + B.size) = #[] := by
  apply Array.eq_empty_of_size_eq_zero
  rw [Array.size_extract]
  have h : A.data.size = A.size := rfl
  omega
theorem arr_all (B : ByteArray) : B.data.extract 0 B.size = B.data := Array.extract_size (xs := B.data)
theorem ext_all (A B : ByteArray) {n : Nat} (h : A.size = n) : (A ++ B).extract n (A ++ B).size = B := by
  subst h
  apply ByteArray.ext
  simp [ByteArray.data_extract, ByteArray.data_append, ByteArray.size_append, Array.extract_append]
  rw [arr_none A, arr_all B]
  try simp
theorem ext_left (A B : ByteArray) {n : Nat} (h : A.size = n) : (A ++ B).extract 0 n = A := by
  subst h
  apply ByteArray.ext
  simp [ByteArray.data_extract, ByteArray.data_append, Array.extract_append]
theorem ext_mid (A B C : ByteArray) {i j : Nat} (hi : A.size = i) (hj : A.size + B.size = j) : (A ++ B ++ C).extract i j = B := by
  subst hi
  subst hj
  apply ByteArray.ext
  simp [ByteArray.data_extract, ByteArray.data_append, ByteArray.size_append, Array.extract_append]
  rw [arr_none A, arr_all B]
  try simp
end Go.Proofs.YtennkhdhnbdbeaaGreat.Nm
namespace Go.Proofs.YtennkhdhnbdbeaaGreat
set_option linter.unusedVariables false
set_option linter.unusedSimpArgs false
open Go.RowKit Go.Shelf Go.Proofs.YtennkhdhnbdbeaaGreat.Nm

theorem parts_num (k v : Nat) (R : ByteArray) (ks : List Kind) : partsOf (.num k :: ks) (nB v k ++ R) = (partsOf ks R).map ((Kind.num k, nB v k) :: ·) := by
  have hz : kindSize (.num k) (nB v k ++ R) = some k := by
    show fixS k _ = _
    exact fixS_yes (by rw [ByteArray.size_append, nB_size]; omega)
  rw [partsOf, hz]
  show (partsOf ks _).map _ = _
  rw [ext_all _ _ (nB_size v k), ext_left _ _ (nB_size v k)]
theorem parts_one (v : Nat) (R : ByteArray) (ks : List Kind) (h1 : 1 ≤ v) (h2 : v < 65536) : partsOf (.one :: ks) (nB v 2 ++ R) = (partsOf ks R).map ((Kind.one, nB v 2) :: ·) := by
  have hz : kindSize .one (nB v 2 ++ R) = some 2 := by
    show oneS _ = _
    have hs := nB_size v 2
    unfold oneS
    rw [if_neg]
    rintro (h | ⟨ha, hb⟩)
    · rw [ByteArray.size_append] at h; omega
    · rw [bt_append_left _ _ _ (by omega), nB_bt _ _ _ (by omega)] at ha hb
      simp at ha hb
      omega
  rw [partsOf, hz]
  show (partsOf ks _).map _ = _
  rw [ext_all _ _ (nB_size v 2), ext_left _ _ (nB_size v 2)]
theorem parts_dom (n : ByteArray) (R : ByteArray) (ks : List Kind) (h : isN n = true) : partsOf (.dom :: ks) (n ++ R) = (partsOf ks R).map ((Kind.dom, n) :: ·) := by
  have hz : kindSize .dom (n ++ R) = some n.size := by
    show domS _ = _
    exact dom_of_name (by rw [ByteArray.size_append]; omega) (by rw [ext_left _ _ rfl]; exact h)
  rw [partsOf, hz]
  show (partsOf ks _).map _ = _
  rw [ext_all _ _ rfl, ext_left _ _ rfl]
theorem parts_b64 (R : ByteArray) (h : 0 < R.size) : partsOf [.b64] R = some [(Kind.b64, R)] := by
  have hz : kindSize .b64 R = some R.size := by
    show endS _ = _
    unfold endS
    rw [if_neg (by omega)]
  rw [partsOf, hz]
  show (partsOf [] _).map _ = _
  have e : (R.extract R.size R.size).size = 0 := by simp
  rw [partsOf, if_pos e]
  show some [(_, R.extract 0 R.size)] = _
  rw [ByteArray.extract_zero_size]
theorem kinds46 : kindsOf 46 = some [.one, .num 1, .num 1, .num 4, .num 4, .num 4, .num 2, .dom, .b64] := by decide
/-- the fields of what a stamp and a signature are -/
theorem parts_stamp (c a l g u f t : Nat) (sg X : ByteArray) (h1 : 1 ≤ c) (h2 : c < 65536) (hs : isN sg = true) (hx : 0 < X.size) (hz : X.size ≤ 65000) :
    partsD 46 (stB c a l g u f t sg ++ X) = some [(.one, nB c 2), (.num 1, nB a 1), (.num 1, nB l 1), (.num 4, nB g 4), (.num 4, nB u 4), (.num 4, nB f 4), (.num 2, nB t 2), (.dom, sg), (.b64, X)] := by
  have hsz := ((isN_iff sg).1 hs).1
  unfold partsD
  rw [kinds46]
  show (if _ then _ else _) = _
  rw [if_neg (by unfold stB; simp only [ByteArray.size_append, nB_size]; omega)]
  unfold stB
  simp only [ByteArray.append_assoc]
  rw [parts_one _ _ _ h1 h2, parts_num 1, parts_num 1, parts_num 4, parts_num 4, parts_num 4, parts_num 2, parts_dom _ _ _ hs, parts_b64 _ hx]
  rfl
theorem err_stamp (c a l g u f t : Nat) (sg X : ByteArray) (h1 : 1 ≤ c) (h2 : c < 65536) (hs : isN sg = true) (hx : 0 < X.size) (hz : X.size ≤ 65000) : errD 46 (stB c a l g u f t sg ++ X) = 0 := by
  unfold errD
  rw [kinds46, parts_stamp c a l g u f t sg X h1 h2 hs hx hz]
theorem names_stamp (c a l g u f t : Nat) (sg X : ByteArray) (h1 : 1 ≤ c) (h2 : c < 65536) (hs : isN sg = true) (hx : 0 < X.size) (hz : X.size ≤ 65000) : namesD 46 (stB c a l g u f t sg ++ X) = [sg] := by
  unfold namesD
  rw [parts_stamp c a l g u f t sg X h1 h2 hs hx hz]
  rfl
/-- an RRSIG's numbers -/
theorem nums_stamp (c a l g u f t : Nat) (sg X : ByteArray) (hc : c < 65536) (ha : a < 256) (hl : l < 256) (hg : g < 4294967296) (hu : u < 4294967296) (hf : f < 4294967296) (ht : t < 65536) :
    vN ((stB c a l g u f t sg ++ X).extract 0 2) 2 = c ∧ vN ((stB c a l g u f t sg ++ X).extract 2 3) 1 = a ∧ vN ((stB c a l g u f t sg ++ X).extract 3 4) 1 = l ∧ vN ((stB c a l g u f t sg ++ X).extract 4 8) 4 = g ∧ vN ((stB c a l g u f t sg ++ X).extract 8 12) 4 = u ∧ vN ((stB c a l g u f t sg ++ X).extract 12 16) 4 = f ∧ vN ((stB c a l g u f t sg ++ X).extract 16 18) 2 = t ∧ (stB c a l g u f t sg ++ X).extract (18 + sg.size) (stB c a l g u f t sg ++ X).size = X := by
  have e0 : (stB c a l g u f t sg ++ X).extract 0 2 = nB c 2 := by
    have h : stB c a l g u f t sg ++ X = nB c 2 ++ (nB a 1 ++ nB l 1 ++ nB g 4 ++ nB u 4 ++ nB f 4 ++ nB t 2 ++ sg ++ X) := by unfold stB; simp only [ByteArray.append_assoc]
    rw [h]; exact ext_left _ _ (nB_size _ _)
  have e1 : (stB c a l g u f t sg ++ X).extract 2 3 = nB a 1 := by
    have h : stB c a l g u f t sg ++ X = nB c 2 ++ nB a 1 ++ (nB l 1 ++ nB g 4 ++ nB u 4 ++ nB f 4 ++ nB t 2 ++ sg ++ X) := by unfold stB; simp only [ByteArray.append_assoc]
    rw [h]; exact ext_mid _ _ _ (by simp only [ByteArray.size_append, nB_size]) (by simp only [ByteArray.size_append, nB_size])
  have e2 : (stB c a l g u f t sg ++ X).extract 3 4 = nB l 1 := by
    have h : stB c a l g u f t sg ++ X = (nB c 2 ++ nB a 1) ++ nB l 1 ++ (nB g 4 ++ nB u 4 ++ nB f 4 ++ nB t 2 ++ sg ++ X) := by unfold stB; simp only [ByteArray.append_assoc]
    rw [h]; exact ext_mid _ _ _ (by simp only [ByteArray.size_append, nB_size]) (by simp only [ByteArray.size_append, nB_size])
  have e3 : (stB c a l g u f t sg ++ X).extract 4 8 = nB g 4 := by
    have h : stB c a l g u f t sg ++ X = (nB c 2 ++ nB a 1 ++ nB l 1) ++ nB g 4 ++ (nB u 4 ++ nB f 4 ++ nB t 2 ++ sg ++ X) := by unfold stB; simp only [ByteArray.append_assoc]
    rw [h]; exact ext_mid _ _ _ (by simp only [ByteArray.size_append, nB_size]) (by simp only [ByteArray.size_append, nB_size])
  have e4 : (stB c a l g u f t sg ++ X).extract 8 12 = nB u 4 := by
    have h : stB c a l g u f t sg ++ X = (nB c 2 ++ nB a 1 ++ nB l 1 ++ nB g 4) ++ nB u 4 ++ (nB f 4 ++ nB t 2 ++ sg ++ X) := by unfold stB; simp only [ByteArray.append_assoc]
    rw [h]; exact ext_mid _ _ _ (by simp only [ByteArray.size_append, nB_size]) (by simp only [ByteArray.size_append, nB_size])
  have e5 : (stB c a l g u f t sg ++ X).extract 12 16 = nB f 4 := by
    have h : stB c a l g u f t sg ++ X = (nB c 2 ++ nB a 1 ++ nB l 1 ++ nB g 4 ++ nB u 4) ++ nB f 4 ++ (nB t 2 ++ sg ++ X) := by unfold stB; simp only [ByteArray.append_assoc]
    rw [h]; exact ext_mid _ _ _ (by simp only [ByteArray.size_append, nB_size]) (by simp only [ByteArray.size_append, nB_size])
  have e6 : (stB c a l g u f t sg ++ X).extract 16 18 = nB t 2 := by
    have h : stB c a l g u f t sg ++ X = (nB c 2 ++ nB a 1 ++ nB l 1 ++ nB g 4 ++ nB u 4 ++ nB f 4) ++ nB t 2 ++ (sg ++ X) := by unfold stB; simp only [ByteArray.append_assoc]
    rw [h]; exact ext_mid _ _ _ (by simp only [ByteArray.size_append, nB_size]) (by simp only [ByteArray.size_append, nB_size])
  rw [e0, e1, e2, e3, e4, e5, e6]
  exact ⟨vN_nB (by omega), vN_nB (by omega), vN_nB (by omega), vN_nB (by omega), vN_nB (by omega), vN_nB (by omega), vN_nB (by omega), ext_all _ _ (by unfold stB; simp only [ByteArray.size_append, nB_size])⟩
theorem parts_cons {k : Kind} {ks : List Kind} {d : ByteArray} {ps : List (Kind × ByteArray)} (h : partsOf (k :: ks) d = some ps) : ∃ n qs, kindSize k d = some n ∧ partsOf ks (d.extract n d.size) = some qs ∧ ps = (k, d.extract 0 n) :: qs := by
  rw [partsOf] at h
  cases hk : kindSize k d with
  | none => rw [hk] at h; cases h
  | some n =>
    rw [hk] at h
    change (partsOf ks _).map _ = _ at h
    cases hq : partsOf ks (d.extract n d.size) with
    | none => rw [hq] at h; cases h
    | some qs => rw [hq] at h; simp at h; exact ⟨n, qs, rfl, hq, h.symm⟩
theorem fix_some {k n : Nat} {d : ByteArray} (h : kindSize (.num k) d = some n) : n = k ∧ k ≤ d.size := by
  change fixS k d = some n at h
  unfold fixS at h
  split at h
  · cases h
  · simp at h; omega
theorem ext_ext (d : ByteArray) (a b : Nat) (ha : a ≤ d.size) : (d.extract a d.size).extract b (d.extract a d.size).size = d.extract (a + b) d.size := by
  apply ByteArray.ext
  simp [ByteArray.data_extract, ByteArray.size_extract, Array.extract_extract]
  try (congr 1; omega)
theorem ext_sub (d : ByteArray) (a n : Nat) (h : a + n ≤ d.size) : (d.extract a d.size).extract 0 n = d.extract a (a + n) := by
  apply ByteArray.ext
  rw [ByteArray.data_extract, ByteArray.data_extract, ByteArray.data_extract, Array.extract_extract, Nat.add_zero, Nat.min_eq_left h]
theorem names9 (a b c d e f g x y : ByteArray) : namesOf [(Kind.one, a), (Kind.num 1, b), (Kind.num 1, c), (Kind.num 4, d), (Kind.num 4, e), (Kind.num 4, f), (Kind.num 2, g), (Kind.dom, x), (Kind.b64, y)] = [x] := rfl
/-- what an RRSIG's data have -/
theorem rrsig_form {d : ByteArray} (h : errD 46 d = 0) : ∃ n, namesD 46 d = [d.extract 18 (18 + n)] ∧ isN (d.extract 18 (18 + n)) = true ∧ 18 + n < d.size ∧ d.size ≤ 65535 ∧ 1 ≤ n ∧ n ≤ 255 := by
  obtain ⟨ps, hp⟩ := errD_zero h
  have hn : namesD 46 d = namesOf ps := by unfold namesD; rw [hp]
  unfold partsD at hp
  rw [kinds46] at hp
  change (if _ then _ else _) = _ at hp
  split at hp
  · cases hp
  rename_i hd
  obtain ⟨n0, q0, k0, hp0, rfl⟩ := parts_cons hp
  have hn0 : n0 = 2 ∧ 2 ≤ d.size := by
    change oneS d = some n0 at k0
    unfold oneS at k0
    split at k0
    · cases k0
    · simp at k0; omega
  obtain ⟨rfl, h0⟩ := hn0
  obtain ⟨n1, q1, k1, hp1, rfl⟩ := parts_cons hp0
  obtain ⟨rfl, h1⟩ := fix_some k1
  rw [ext_ext _ _ _ h0] at hp1
  rw [size_extract' _ _ _ (Nat.le_refl _)] at h1
  obtain ⟨n2, q2, k2, hp2, rfl⟩ := parts_cons hp1
  obtain ⟨rfl, h2⟩ := fix_some k2
  rw [ext_ext _ _ _ (by omega)] at hp2
  rw [size_extract' _ _ _ (Nat.le_refl _)] at h2
  obtain ⟨n3, q3, k3, hp3, rfl⟩ := parts_cons hp2
  obtain ⟨rfl, h3⟩ := fix_some k3
  rw [ext_ext _ _ _ (by omega)] at hp3
  rw [size_extract' _ _ _ (Nat.le_refl _)] at h3
  obtain ⟨n4, q4, k4, hp4, rfl⟩ := parts_cons hp3
  obtain ⟨rfl, h4⟩ := fix_some k4
  rw [ext_ext _ _ _ (by omega)] at hp4
  rw [size_extract' _ _ _ (Nat.le_refl _)] at h4
  obtain ⟨n5, q5, k5, hp5, rfl⟩ := parts_cons hp4
  obtain ⟨rfl, h5⟩ := fix_some k5
  rw [ext_ext _ _ _ (by omega)] at hp5
  rw [size_extract' _ _ _ (Nat.le_refl _)] at h5
  obtain ⟨n6, q6, k6, hp6, rfl⟩ := parts_cons hp5
  obtain ⟨rfl, h6⟩ := fix_some k6
  rw [ext_ext _ _ _ (by omega)] at hp6
  rw [size_extract' _ _ _ (Nat.le_refl _)] at h6
  obtain ⟨n, q7, k7, hp7, rfl⟩ := parts_cons hp6
  obtain ⟨n8, q8, k8, hp8, rfl⟩ := parts_cons hp7
  change domS _ = some n at k7
  obtain ⟨d1, d2, d3, d4⟩ := domS_some k7
  rw [size_extract' _ _ _ (Nat.le_refl _)] at d1
  have he : (d.extract (2 + 1 + 1 + 4 + 4 + 4 + 2) d.size).extract 0 n = d.extract 18 (18 + n) := by
    exact ext_sub d 18 n (by omega)
  change endS _ = some n8 at k8
  have hend : 18 + n < d.size := by
    unfold endS at k8
    split at k8
    · cases k8
    · rename_i hz
      rw [ext_ext _ _ _ (by omega), size_extract' _ _ _ (Nat.le_refl _)] at hz
      omega
  rw [he] at d4
  have hq8 : q8 = [] := by
    rw [partsOf] at hp8
    split at hp8
    · cases hp8; rfl
    · cases hp8
  subst hq8
  refine ⟨n, ?_, d4, hend, by omega, d3, d2⟩
  rw [hn, ← he]
  exact names9 _ _ _ _ _ _ _ _ _
end Go.Proofs.YtennkhdhnbdbeaaGreat

/-
  What is signed fits, plainly. (The verifier's own text.)
-/
namespace Go.Proofs.YtennkhdhnbdbeaaGreat.Nm
set_option linter.unusedVariables false
set_option linter.unusedSimpArgs false
theorem low_low (s : ByteArray) : lowB (lowB s) = lowB s := by
  refine ba_ext (by rw [lowB_size]) fun j _ => ?_
  rw [lowB_bt, lowB_bt]
  unfold lowN
  split
  · next h => rw [if_neg (by omega)]
  · rfl
theorem map_low_low (l : List ByteArray) : (l.map lowB).map lowB = l.map lowB := by
  rw [List.map_map]
  apply List.map_congr_left
  intro x _
  exact low_low x
theorem isN_fold {n : ByteArray} (h : isN n = true) : isN (foldB n) = true ∧ labs (foldB n) = (labs n).map lowB := by rw [foldB_yes h]; exact isN_low h
theorem fold_fold {n : ByteArray} (h : isN n = true) : foldB (foldB n) = foldB n := by
  rw [foldB_yes (isN_fold h).1, foldB_yes h, low_low]
theorem eq_self {n : ByteArray} (h : isN n = true) : eqB n n = true := by unfold eqB; rw [h]; simp
theorem eq_fold {n : ByteArray} (h : isN n = true) : eqB n (foldB n) = true := by unfold eqB; rw [h, fold_fold h]; simp
theorem within_fold {o n : ByteArray} (h : withinB o n = true) : withinB o (foldB n) = true := by
  obtain ⟨h1, h2, h3, h4⟩ := (withinB_iff o n).1 h
  obtain ⟨f1, f2⟩ := isN_fold h2
  refine (withinB_iff _ _).2 ⟨h1, f1, ?_, ?_⟩
  · rw [f2, List.length_map]; exact h3
  · rw [f2, List.length_map, map_low_low]; exact h4
theorem star_facts {n : ByteArray} (h : isN (starB n) = true) : isN n = true ∧ n.size ≤ 253 ∧ labs (starB n) = ⟨#[42]⟩ :: labs n ∧ isStarB (starB n) = true := by
  by_cases hc : isN n = true ∧ n.size ≤ 253
  · have e := starB_yes hc.1 hc.2
    have hok : OkL (⟨#[42]⟩ :: labs n) := by
      intro x hx
      rcases List.mem_cons.1 hx with rfl | hx
      · decide
      · exact okL_labs n x hx
    refine ⟨hc.1, hc.2, ?_, ?_⟩
    · rw [e, ← starB_put hc.1, labs_putB hok]
    · unfold isStarB
      rw [h, Bool.true_and]
      apply decide_eq_true
      rw [e]
      exact ⟨by rw [bt_append_left _ _ _ (by decide)]; rfl, by rw [bt_append_left _ _ _ (by decide)]; rfl⟩
  · rw [starB_no hc, isN_empty] at h; cases h
theorem cnt_pos {n : ByteArray} (h : isStarB n = true) : isN n = true ∧ 0 < (labs n).length := by
  unfold isStarB at h
  rw [Bool.and_eq_true] at h
  refine ⟨h.1, ?_⟩
  rcases Nat.eq_zero_or_pos (labs n).length with h0 | h0
  · have := (isStar_short h.1 h0).1
    have := (of_decide_eq_true h.2).1
    omega
  · exact h0
theorem lb_rng {n : ByteArray} (h : isN n = true) : 0 ≤ lbI n ∧ lbI n ≤ 254 := by
  have h2 := labs_len_le h
  cases hs : isStarB n with
  | true => have := (cnt_pos hs).2; rw [lbI_star hs, cntI_yes h]; omega
  | false => rw [lbI_none hs, cntI_yes h]; omega
theorem lb_star {n : ByteArray} (h : isN (starB n) = true) : lbI (starB n) = ((labs n).length : Nat) := by
  obtain ⟨-, -, h3, h4⟩ := star_facts h
  rw [lbI_star h4, cntI_yes h, h3, List.length_cons]
  omega
/-- a name below that which the star stands for -/
theorem full_facts {n : ByteArray} {ah : List ByteArray} (hn : isN n = true) (ho : OkL (ah ++ labs n)) (hz : (putB (ah ++ labs n)).size ≤ 255) (hne : ah ≠ []) (hs : isN (starB n) = true) :
    isN (putB (ah ++ labs n)) = true ∧ ((labs n).length : Int) ≤ lbI (putB (ah ++ labs n)) ∧ owB ((labs n).length : Int) (putB (ah ++ labs n)) = foldB (starB n) ∧ withinB (putB (ah ++ labs n)) (foldB n) = true := by
  have hN : isN (putB (ah ++ labs n)) = true := by rw [isN_putB ho]; exact decide_eq_true hz
  have hl : labs (putB (ah ++ labs n)) = ah ++ labs n := labs_putB ho
  have hal : 0 < ah.length := List.length_pos_iff.2 hne
  have hc : cntI (putB (ah ++ labs n)) = ((ah.length + (labs n).length : Nat) : Int) := by rw [cntI_yes hN, hl, List.length_append]
  have hw : withinB (putB (ah ++ labs n)) n = true := by
    refine (withinB_iff _ _).2 ⟨hN, hn, ?_, ?_⟩
    · rw [hl, List.length_append]; omega
    · rw [hl, List.length_append, show ah.length + (labs n).length - (labs n).length = ah.length by omega, List.drop_left]
  have htl : tailB (putB (ah ++ labs n)) ((labs n).length : Int) = n := by
    obtain ⟨-, -, t3⟩ := tailB_yes (k := (labs n).length) hN (by rw [hl, List.length_append]; omega)
    rw [t3, hl, List.length_append, show ah.length + (labs n).length - (labs n).length = ah.length by omega, List.drop_left, putB_labs hn]
  refine ⟨hN, ?_, ?_, within_fold hw⟩
  · cases hst : isStarB (putB (ah ++ labs n)) with
    | true => rw [lbI_star hst, hc]; omega
    | false => rw [lbI_none hst, hc]; omega
  · unfold owB
    by_cases hlt : ((labs n).length : Int) < lbI (putB (ah ++ labs n))
    · rw [if_pos hlt, htl]
    · rw [if_neg hlt]
      cases hst : isStarB (putB (ah ++ labs n)) with
      | false => rw [lbI_none hst, hc] at hlt; omega
      | true =>
        rw [lbI_star hst, hc] at hlt
        have ha1 : ah.length = 1 := by omega
        obtain ⟨x, rfl⟩ := List.length_eq_one_iff.1 ha1
        have h2 : decide (bt (putB ([x] ++ labs n)) 0 = 1 ∧ bt (putB ([x] ++ labs n)) 1 = 42) = true := by unfold isStarB at hst; rw [hN] at hst; exact hst
        have hb := of_decide_eq_true h2
        have hx := ho x (by simp)
        rw [show putB ([x] ++ labs n) = chunk x ++ putB (labs n) from putB_cons x (labs n)] at hb
        have c0 : bt (chunk x ++ putB (labs n)) 0 = x.size := by rw [bt_append_left _ _ _ (by rw [chunk_size]; omega), bt_chunk _ (by omega)]
        rw [c0] at hb
        have c1 : bt (chunk x ++ putB (labs n)) 1 = bt x 0 := by
          rw [bt_append_left _ _ _ (by rw [chunk_size]; omega)]
          unfold chunk
          exact bt_append_right _ _ 1 (Nat.le_refl 1)
        rw [c1] at hb
        have h4 : x = ⟨#[42]⟩ := by
          refine ba_ext (by rw [hb.1]; rfl) fun j hj => ?_
          obtain rfl : j = 0 := by omega
          rw [hb.2]; rfl
        obtain ⟨s1, s2, -, -⟩ := star_facts hs
        rw [h4, starB_yes s1 s2]
        show foldB (putB (⟨#[42]⟩ :: labs n)) = _
        rw [starB_put s1]
theorem ow_star {n : ByteArray} (h : isN (starB n) = true) : owB ((labs n).length : Int) (starB n) = foldB (starB n) := by
  unfold owB
  rw [lb_star h, if_neg (by omega)]
end Go.Proofs.YtennkhdhnbdbeaaGreat.Nm
namespace Go.Proofs.YtennkhdhnbdbeaaGreat
set_option linter.unusedVariables false
set_option linter.unusedSimpArgs false
open Go.RowKit Go.Shelf Go.Sort Go.Proofs.YtennkhdhnbdbeaaGreat.Nm
theorem kinds_rng {t : Int} {ks : List Kind} (h : kindsOf t = some ks) : 1 ≤ t ∧ t ≤ 65535 := by
  rcases Classical.em (1 ≤ t ∧ t ≤ 65535) with hc | hc
  · exact hc
  · unfold kindsOf at h
    iterate 16 rw [if_neg (by omega)] at h
    have hd : ¬ isDT t = true := by
      intro hd
      unfold isDT isTy at hd
      simp at hd
      omega
    rw [if_neg hd] at h
    cases h
theorem zon_of {o d : ByteArray} {t c l : Int} (h : zonB o d t c l = true) : isN o = true ∧ c = 1 ∧ 0 ≤ l ∧ l ≤ 2147483647 ∧ errD t d = 0 ∧ 1 ≤ t ∧ t ≤ 65535 ∧ d.size ≤ 65535 := by
  unfold zonB at h
  simp only [Bool.and_eq_true, decide_eq_true_eq] at h
  obtain ⟨⟨⟨⟨h1, h2⟩, h3⟩, h4⟩, h5⟩ := h
  obtain ⟨ps, hp⟩ := errD_zero h5
  have hk : ∃ ks, kindsOf t = some ks := by
    cases hk : kindsOf t with
    | none => unfold errD at h5; rw [hk] at h5; cases h5
    | some ks => exact ⟨ks, rfl⟩
  obtain ⟨ks, hk⟩ := hk
  exact ⟨h1, h2, h3, h4, h5, (kinds_rng hk).1, (kinds_rng hk).2, (parts_few hp).2⟩
theorem parts_sum : ∀ (ks : List Kind) (d : ByteArray) (ps : List (Kind × ByteArray)), partsOf ks d = some ps → (foldL ps).length ≤ d.size
  | [], d, ps, h => by
    rw [partsOf] at h
    split at h
    · simp at h; subst h; simp [foldL]
    · cases h
  | k :: ks, d, ps, h => by
    obtain ⟨n, qs, h1, h2, rfl⟩ := parts_cons h
    have h3 := kindSize_le h1
    have h4 := parts_sum ks _ qs h2
    rw [size_extract' _ _ _ (Nat.le_refl _)] at h4
    have h5 : (foldL ((k, d.extract 0 n) :: qs)).length = (foldP (k, d.extract 0 n)).size + (foldL qs).length := by
      show ((foldP (k, d.extract 0 n)).data.toList ++ foldL qs).length = _
      rw [List.length_append, Array.length_toList]; rfl
    have h6 := foldP_size (k, d.extract 0 n)
    rw [size_extract' _ _ _ h3] at h6
    omega
theorem foldD_size {t : Int} {d : ByteArray} (h : errD t d = 0) : (foldD t d).size ≤ 65535 := by
  obtain ⟨ps, hp⟩ := errD_zero h
  unfold foldD
  rw [hp]
  show (foldL ps).length ≤ 65535
  have h2 := (parts_few hp).2
  unfold partsD at hp
  cases hk : kindsOf t with
  | none => rw [hk] at hp; cases hp
  | some ks =>
    rw [hk] at hp
    change (if _ then _ else _) = _ at hp
    split at hp
    · cases hp
    · have := parts_sum ks d ps hp; omega
/-- what the numbers of a made key are -/
def KY (m e s : Nat) : Prop := ∃ a b, IsPr a ∧ IsPr b ∧ a ≠ b ∧ m = a * b ∧ 65537 ≤ m ∧ m ≤ 2147483647 ∧ 3 ≤ e ∧ e ≤ 65535 ∧ IsInv e ((a - 1) * (b - 1)) s ∧ s ≤ 2147483647
theorem KY.rsa {m e s : Nat} (h : KY m e s) (x : Nat) (hx : x < m) : (x ^ s % m) ^ e % m = x := by
  obtain ⟨a, b, h1, h2, h3, rfl, -, -, -, -, h4, -⟩ := h
  rw [Nm.rsa h1 h2 h3 h4, Nat.mod_eq_of_lt hx]
theorem KY.rk {m e s : Nat} (h : KY m e s) {f : Int} (hf : f = 256 ∨ f = 257) : rkB f m e s = true := by
  obtain ⟨a, b, -, -, -, -, h1, h2, h3, h4, h5, h6⟩ := h
  exact rkB_yes ⟨hf, by omega, by omega, by have := h5.1; omega⟩
theorem ky_of {p q e f : Int} (h : KeyOK p q e f) : ∃ m c s : Nat, keyR p q e f = .tuple #[.agg #[.int .i64 f, .int .i64 (m : Int), .int .i64 (c : Int), .int .i64 (s : Int)], .int .i64 0] ∧ KY m c s := by
  have h0 := h
  obtain ⟨h1, h2, h3, h4⟩ := h
  obtain ⟨a, rfl⟩ : ∃ a : Nat, p = (a : Int) := ⟨p.toNat, by have := h3.1; omega⟩
  obtain ⟨b, rfl⟩ : ∃ b : Nat, q = (b : Int) := ⟨q.toNat, by have := h3.2.1; omega⟩
  obtain ⟨c, rfl⟩ : ∃ c : Nat, e = (c : Int) := ⟨e.toNat, by have := h2.1; omega⟩
  obtain ⟨n1, n2, n3, n4, n5⟩ := pair_nat.1 h3
  obtain ⟨p1, p2⟩ := phi_le n4.1 n5.1 n1 n3
  simp only [Int.toNat_natCast] at h4
  have hv := invN_yes p1 h4
  have e1 := h2.1
  have e2 := h2.2.1
  exact ⟨_, _, _, keyR_yes h0, a, b, n4, n5, n1, rfl, n2, n3, by omega, by omega, hv, by have := hv.2.1; omega⟩
/-- a key's data are read -/
theorem key_round {m e s : Nat} (h : KY m e s) {f : Int} (hf : f = 256 ∨ f = 257) : keyB (pubB f m e s) = true ∧ kyF (pubB f m e s) = f ∧ kyM (pubB f m e s) = (m : Int) ∧ kyE (pubB f m e s) = (e : Int) ∧ kyS (pubB f m e s) = 1 := by
  obtain ⟨g, rfl⟩ : ∃ g : Nat, f = (g : Int) := ⟨f.toNat, by omega⟩
  have hr := h.rk hf
  have hp := pubB_yes hr
  have hr1 : rkB (g : Int) (m : Int) (e : Int) 1 = true := by
    obtain ⟨r1, r2, r3, r4⟩ := rk_of hr
    exact rkB_yes ⟨r1, r2, r3, by omega, by omega⟩
  obtain ⟨a, b, -, -, -, -, h1, h2, h3, h4, -⟩ := h
  rw [hp]
  have hz := pubN_size g m e
  have e0 : (pubN g m e).extract 0 2 = nB g 2 := by
    have h : pubN g m e = nB g 2 ++ (bts [3] ++ bts [253] ++ nB m 4 ++ nB e 4) := by unfold pubN; simp only [ByteArray.append_assoc]
    rw [h]; exact ext_left _ _ (nB_size _ _)
  have e1 : (pubN g m e).extract 4 8 = nB m 4 := by
    have h : pubN g m e = (nB g 2 ++ bts [3] ++ bts [253]) ++ nB m 4 ++ nB e 4 := by unfold pubN; simp only [ByteArray.append_assoc]
    rw [h]; exact ext_mid _ _ _ (by simp only [ByteArray.size_append, nB_size, bts_size]; rfl) (by simp only [ByteArray.size_append, nB_size, bts_size]; rfl)
  have e2 : (pubN g m e).extract 8 12 = nB e 4 := by
    have h : pubN g m e = (nB g 2 ++ bts [3] ++ bts [253] ++ nB m 4) ++ nB e 4 ++ ByteArray.empty := by unfold pubN; simp only [ByteArray.append_assoc, ByteArray.append_empty]
    rw [h]; exact ext_mid _ _ _ (by simp only [ByteArray.size_append, nB_size, bts_size]; rfl) (by simp only [ByteArray.size_append, nB_size, bts_size]; rfl)
  have v0 : vN (nB g 2) 2 = g := vN_nB (by omega)
  have v1 : vN (nB m 4) 4 = m := vN_nB (by omega)
  have v2 : vN (nB e 4) 4 = e := vN_nB (by omega)
  refine ⟨?_, ?_, ?_, ?_, ?_⟩
  · rw [keyB_12 hz]
    unfold kyB
    rw [e0, e1, e2, v0, v1, v2, pubB_yes hr1]
    exact beq_self_eq_true _
  · unfold kyF; rw [if_pos hz, e0, v0]
  · unfold kyM; rw [if_pos hz, e1, v1]
  · unfold kyE; rw [if_pos hz, e2, v2]
  · unfold kyS; rw [if_pos hz]
theorem star_small (n : ByteArray) : (starB n).size ≤ maxLen := by
  unfold starB
  split
  · rename_i h; simp only [ByteArray.size_append]; have h2 : (⟨#[1, 42]⟩ : ByteArray).size = 2 := rfl; unfold maxLen; omega
  · simp
theorem foldB_small (n : ByteArray) : (foldB n).size ≤ 255 := by
  unfold foldB
  split
  · rename_i h; rw [lowB_size]; exact ((isN_iff _).1 h).1
  · simp
theorem ow_small (n : ByteArray) (l : Int) : (owB l n).size ≤ 1048576 := by
  unfold owB
  exact Nat.le_trans (foldB_small _) (by omega)
theorem pub_small (f m e s : Int) : (pubB f m e s).size ≤ 1048576 := by
  unfold pubB
  cases rkB f m e s with
  | false => show 0 ≤ 1048576; omega
  | true => show (pubN _ _ _).size ≤ _; rw [pubN_size]; omega
/-- one record -/
theorem set_one (x : Rn) : setOK [x] = (!(x.t == 46) && !(strB x.t x.o x)) := by
  have h1 : (Lib.compact (srt (fdL [x]))).length = 1 := by simp [srt, fdL, Lib.compact, Lib.compactUpTo, List.range_succ, Lib.keeps_lt_one]
  unfold setOK
  show (!(x.t == 46) && !([x].any (strB x.t x.o)) && ((Lib.compact (srt (fdL [x]))).length == [x].length)) = _
  rw [h1]
  simp
theorem strB_self {x : Rn} : strB x.t x.o x = (!zonB x.o x.d x.t x.c x.l || !eqB x.o x.o) := by
  unfold strB
  simp
end Go.Proofs.YtennkhdhnbdbeaaGreat
