import Derived.Test.YtjnhkiibnmbmfaaSk3
namespace Go.Proofs.Ytjnhkiibnmbmfaa.Nm
set_option linter.unusedVariables false

def PairOK (p q : Int) : Prop := 2 ≤ p ∧ 2 ≤ q ∧ p ≠ q ∧ 65537 ≤ p * q ∧ p * q ≤ 2147483647 ∧ IsPr p.toNat ∧ IsPr q.toNat
def pairB (p q : Int) : Bool := decide (2 ≤ p ∧ 2 ≤ q ∧ p ≠ q ∧ 65537 ≤ p * q ∧ p * q ≤ 2147483647) && (prB p.toNat && prB q.toNat)
theorem pairB_iff (p q : Int) : pairB p q = true ↔ PairOK p q := by
  unfold pairB PairOK
  simp only [Bool.and_eq_true, decide_eq_true_eq, prB_iff, and_assoc]
theorem pairB_yes {p q : Int} (h : PairOK p q) : pairB p q = true := (pairB_iff p q).2 h
theorem pairB_no {p q : Int} (h : ¬ PairOK p q) : pairB p q = false := Bool.eq_false_iff.2 fun e => h ((pairB_iff p q).1 e)
theorem pair_of {p q : Int} (h : pairB p q = true) : PairOK p q := (pairB_iff p q).1 h
theorem pair_not {p q : Int} (h : pairB p q = false) : ¬ PairOK p q := fun e => by rw [pairB_yes e] at h; cases h
theorem prB_of {n : Nat} (h : prB n = true) : IsPr n := (prB_iff n).1 h
theorem prB_not {n : Nat} (h : prB n = false) : ¬ IsPr n := fun e => by rw [prB_yes e] at h; cases h
theorem pair_le {p q : Int} (h : PairOK p q) : p ≤ 2147483647 ∧ q ≤ 2147483647 := by
  obtain ⟨h1, h2, _, _, h5, _⟩ := h
  constructor
  · rcases Int.lt_or_le 2147483647 p with h | h
    · have := Int.mul_le_mul (show (2147483648 : Int) ≤ p by omega) h2 (by omega) (by omega); omega
    · exact h
  · rcases Int.lt_or_le 2147483647 q with h | h
    · have := Int.mul_le_mul h1 (show (2147483648 : Int) ≤ q by omega) (by omega) (by omega); omega
    · exact h
/-- of two numbers -/
theorem pair_nat {a b : Nat} : PairOK (a : Int) (b : Int) ↔ (a ≠ b ∧ 65537 ≤ a * b ∧ a * b ≤ 2147483647 ∧ IsPr a ∧ IsPr b) := by
  unfold PairOK
  simp only [Int.toNat_natCast]
  have e : (a : Int) * (b : Int) = ((a * b : Nat) : Int) := by simp
  rw [e]
  constructor
  · rintro ⟨_, _, h3, h4, h5, h6, h7⟩; exact ⟨by omega, by omega, by omega, h6, h7⟩
  · rintro ⟨h3, h4, h5, h6, h7⟩
    have := h6.1
    have := h7.1
    exact ⟨by omega, by omega, by omega, by omega, by omega, h6, h7⟩
theorem phi_le {a b : Nat} (ha : 2 ≤ a) (hb : 2 ≤ b) (hne : a ≠ b) (hl : a * b ≤ 2147483647) : 2 ≤ (a - 1) * (b - 1) ∧ (a - 1) * (b - 1) ≤ 2147483647 := by
  constructor
  · rcases (show 3 ≤ a ∨ 3 ≤ b by omega) with h | h
    · exact Nat.mul_le_mul (show 2 ≤ a - 1 by omega) (show 1 ≤ b - 1 by omega)
    · exact Nat.mul_le_mul (show 1 ≤ a - 1 by omega) (show 2 ≤ b - 1 by omega)
  · exact Nat.le_trans (Nat.mul_le_mul (Nat.sub_le a 1) (Nat.sub_le b 1)) hl

def EOK (e : Int) : Prop := 3 ≤ e ∧ e ≤ 65535 ∧ e % 2 = 1
def FlagOK (f : Int) : Prop := f = 256 ∨ f = 257
def flB (f : Int) : Bool := decide (f = 256 ∨ f = 257)
def nmB (n : Int) : Bool := decide (1 ≤ n ∧ n ≤ 2147483647)
theorem flB_yes {f : Int} (h : FlagOK f) : flB f = true := decide_eq_true h
theorem flB_no {f : Int} (h : ¬ FlagOK f) : flB f = false := decide_eq_false h
theorem nmB_yes {n : Int} (h : 1 ≤ n ∧ n ≤ 2147483647) : nmB n = true := decide_eq_true h
theorem nmB_no {n : Int} (h : ¬ (1 ≤ n ∧ n ≤ 2147483647)) : nmB n = false := decide_eq_false h
def KeyOK (p q e f : Int) : Prop := FlagOK f ∧ EOK e ∧ PairOK p q ∧ Nat.gcd e.toNat ((p.toNat - 1) * (q.toNat - 1)) = 1
def keyOKB (p q e f : Int) : Bool := flB f && (decide (3 ≤ e ∧ e ≤ 65535 ∧ e % 2 = 1) && (pairB p q && decide (Nat.gcd e.toNat ((p.toNat - 1) * (q.toNat - 1)) = 1)))
theorem keyOKB_iff (p q e f : Int) : keyOKB p q e f = true ↔ KeyOK p q e f := by
  unfold keyOKB KeyOK EOK FlagOK flB
  simp only [Bool.and_eq_true, decide_eq_true_eq, pairB_iff]
def keyR (p q e f : Int) : Value :=
  bif keyOKB p q e f then (.tuple #[.agg #[.int .i64 f, .int .i64 (p * q), .int .i64 e, .int .i64 (invN e.toNat ((p.toNat - 1) * (q.toNat - 1)) : Int)], .int .i64 0]) else (.tuple #[.agg #[.int .i64 0, .int .i64 0, .int .i64 0, .int .i64 0], .int .i64 24])
theorem keyR_no {p q e f : Int} (h : ¬ KeyOK p q e f) : keyR p q e f = .tuple #[.agg #[.int .i64 0, .int .i64 0, .int .i64 0, .int .i64 0], .int .i64 24] := by
  unfold keyR
  rw [show keyOKB p q e f = false from Bool.eq_false_iff.2 fun e' => h ((keyOKB_iff p q e f).1 e')]
  rfl
theorem keyR_yes {a b c : Nat} {f : Int} (h : KeyOK a b c f) : keyR a b c f = .tuple #[.agg #[.int .i64 f, .int .i64 ((a * b : Nat) : Int), .int .i64 (c : Int), .int .i64 (invN c ((a - 1) * (b - 1)) : Int)], .int .i64 0] := by
  unfold keyR
  rw [(keyOKB_iff _ _ _ _).2 h]
  simp
end Go.Proofs.Ytjnhkiibnmbmfaa.Nm
namespace Go.Proofs.Ytjnhkiibnmbmfaa
set_option linter.unusedVariables false
open Go.RowKit Go.Shelf Go.Proofs.Ytjnhkiibnmbmfaa.Nm

set_option maxRecDepth 100000 in
set_option maxHeartbeats 1000000 in
/-- seal.isFlags -/
theorem isFlags_any (f : Int) (w : World) :
    Calls Try.prog 10 #[.int .i64 f] w fun e w' => e = .returned (.bool (flB f)) ∧ w' = w := by
  by_cases h1 : f = 256
  · have HF : Hid (flB f = true) := flB_yes (.inl h1)
    subst h1
    go_enter Try.func10, Try.ntmps10
    go_wp2
    go_ret
    exact ⟨by rw [HF.out]; rfl, rfl⟩
  · have e1 : (f == 256) = false := by rw [beq_eq_false_iff_ne]; exact h1
    by_cases h2 : f = 257
    · have HF : Hid (flB f = true) := flB_yes (.inr h2)
      subst h2
      go_enter Try.func10, Try.ntmps10
      go_wp2
      go_ret
      exact ⟨by rw [HF.out]; rfl, rfl⟩
    · have e2 : (f == 257) = false := by rw [beq_eq_false_iff_ne]; exact h2
      have HF : Hid (flB f = false) := flB_no (by unfold FlagOK; omega)
      go_enter Try.func10, Try.ntmps10
      go_wp2
      go_ret
      exact ⟨by rw [HF.out]; rfl, rfl⟩

set_option maxRecDepth 100000 in
set_option maxHeartbeats 1000000 in
/-- seal.isNumber -/
theorem isNumber_any (n : Int) (w : World) :
    Calls Try.prog 27 #[.int .i64 n] w fun e w' => e = .returned (.bool (nmB n)) ∧ w' = w := by
  by_cases h1 : 1 ≤ n
  · by_cases h2 : n ≤ 2147483647
    · have HD : Hid (nmB n = true) := nmB_yes ⟨h1, h2⟩
      go_enter Try.func27, Try.ntmps27
      go_wp2
      go_ret
      exact ⟨by rw [HD.out]; rfl, rfl⟩
    · have HD : Hid (nmB n = false) := nmB_no (by omega)
      go_enter Try.func27, Try.ntmps27
      go_wp2
      go_ret
      exact ⟨by rw [HD.out]; rfl, rfl⟩
  · have HD : Hid (nmB n = false) := nmB_no (by omega)
    go_enter Try.func27, Try.ntmps27
    go_wp2
    go_ret
    exact ⟨by rw [HD.out]; rfl, rfl⟩

set_option maxRecDepth 100000 in
set_option maxHeartbeats 1000000 in
/-- seal.isPair -/
theorem isPair_any (p q : Int) (w : World) :
    Calls Try.prog 11 #[.int .i64 p, .int .i64 q] w fun e w' => e = .returned (.bool (pairB p q)) ∧ w' = w := by
  by_cases h1 : p = q
  · have HP : Hid (pairB p q = false) := pairB_no (fun h => h.2.2.1 h1)
    have e1 : (p == q) = true := by rw [h1]; simp
    clear h1
    go_enter Try.func11, Try.ntmps11
    go_wp2
    go_ret
    exact ⟨by rw [HP.out]; rfl, rfl⟩
  · have e1 : (p == q) = false := by rw [beq_eq_false_iff_ne]; exact h1
    by_cases h2 : 1 ≤ p ∧ p ≤ 2147483647
    · have D2 := hide' (nmB_yes h2)
      by_cases h3 : 1 ≤ q ∧ q ≤ 2147483647
      · have D3 := hide' (nmB_yes h3)
        obtain ⟨a, rfl⟩ : ∃ a : Nat, p = (a : Int) := ⟨p.toNat, by omega⟩
        obtain ⟨b, rfl⟩ : ∃ b : Nat, q = (b : Int) := ⟨q.toNat, by omega⟩
        obtain ⟨z, hz⟩ : ∃ z : Nat, a * b = z := ⟨_, rfl⟩
        have hzi : (a : Int) * (b : Int) = (z : Int) := by rw [← hz]; simp
        have hzl : z ≤ 4611686014132420609 := by rw [← hz]; exact Nat.mul_le_mul (show a ≤ 2147483647 by omega) (show b ≤ 2147483647 by omega)
        have HZ := hide' hz
        have hal : a ≤ 2147483647 := by omega
        have hbl : b ≤ 2147483647 := by omega
        clear hz
        by_cases h4 : 65537 ≤ z
        · by_cases h5 : z ≤ 2147483647
          · have HV : Hid (pairB a b = (prB a && prB b)) := by
              unfold Hid
              cases hpa : prB a with
              | false => exact pairB_no (fun h => prB_not hpa (pair_nat.1 h).2.2.2.1)
              | true =>
                cases hpb : prB b with
                | false => exact pairB_no (fun h => prB_not hpb (pair_nat.1 h).2.2.2.2)
                | true => exact pairB_yes (pair_nat.2 ⟨by omega, by rw [HZ.out]; omega, by rw [HZ.out]; omega, prB_of hpa, prB_of hpb⟩)
            cases hpa : prB a with
            | false =>
              have HA := hide' hpa
              rw [HV.out, hpa]
              clear hpa h2 h3
              go_enter Try.func11, Try.ntmps11
              go_wp2_with (first
                | (go_at_call 27; refine (isNumber_any _ _).mono ?_; (first | rw [D2.out] | rw [D3.out]); rintro e w1 ⟨rfl, rfl⟩)
                | (go_at_call 28; refine (isPrime_any _ _ hal).mono ?_; rw [HA.out]; rintro e w1 ⟨rfl, rfl⟩))
              go_ret
              exact ⟨rfl, rfl⟩
            | true =>
              have HA := hide' hpa
              rw [HV.out, hpa]
              cases hpb : prB b with
              | false =>
                have HB := hide' hpb
                have T1 : Hid True := trivial
                clear hpa hpb h2 h3
                go_enter Try.func11, Try.ntmps11
                go_wp2_with (first
                  | (go_at_call 27; refine (isNumber_any _ _).mono ?_; (first | rw [D2.out] | rw [D3.out]); rintro e w1 ⟨rfl, rfl⟩)
                  | (go_at_call 28; have _ := T1; clear T1; refine (isPrime_any a _ hal).mono ?_; rw [HA.out]; rintro e w1 ⟨rfl, rfl⟩)
                  | (go_at_call 28; refine (isPrime_any b _ hbl).mono ?_; rw [HB.out]; rintro e w1 ⟨rfl, rfl⟩))
                go_ret
                exact ⟨rfl, rfl⟩
              | true =>
                have HB := hide' hpb
                have T1 : Hid True := trivial
                clear hpa hpb h2 h3
                go_enter Try.func11, Try.ntmps11
                go_wp2_with (first
                  | (go_at_call 27; refine (isNumber_any _ _).mono ?_; (first | rw [D2.out] | rw [D3.out]); rintro e w1 ⟨rfl, rfl⟩)
                  | (go_at_call 28; have _ := T1; clear T1; refine (isPrime_any a _ hal).mono ?_; rw [HA.out]; rintro e w1 ⟨rfl, rfl⟩)
                  | (go_at_call 28; refine (isPrime_any b _ hbl).mono ?_; rw [HB.out]; rintro e w1 ⟨rfl, rfl⟩))
                go_ret
                exact ⟨rfl, rfl⟩
          · have HP : Hid (pairB a b = false) := pairB_no (fun h => by have := (pair_nat.1 h).2.2.1; rw [HZ.out] at this; omega)
            clear h2 h3
            go_enter Try.func11, Try.ntmps11
            go_wp2_with (go_at_call 27; refine (isNumber_any _ _).mono ?_; (first | rw [D2.out] | rw [D3.out]); rintro e w1 ⟨rfl, rfl⟩)
            go_ret
            exact ⟨by rw [HP.out]; rfl, rfl⟩
        · have HP : Hid (pairB a b = false) := pairB_no (fun h => by have := (pair_nat.1 h).2.1; rw [HZ.out] at this; omega)
          clear h2 h3
          go_enter Try.func11, Try.ntmps11
          go_wp2_with (go_at_call 27; refine (isNumber_any _ _).mono ?_; (first | rw [D2.out] | rw [D3.out]); rintro e w1 ⟨rfl, rfl⟩)
          go_ret
          exact ⟨by rw [HP.out]; rfl, rfl⟩
      · have HP : Hid (pairB p q = false) := pairB_no (fun h => by have := (pair_le h).2; have := h.2.1; omega)
        have D3 := hide' (nmB_no h3)
        clear h2 h3
        go_enter Try.func11, Try.ntmps11
        go_wp2_with (go_at_call 27; refine (isNumber_any _ _).mono ?_; (first | rw [D2.out] | rw [D3.out]); rintro e w1 ⟨rfl, rfl⟩)
        go_ret
        exact ⟨by rw [HP.out]; rfl, rfl⟩
    · have HP : Hid (pairB p q = false) := pairB_no (fun h => by have := (pair_le h).1; have := h.1; omega)
      have D2 := hide' (nmB_no h2)
      clear h2
      go_enter Try.func11, Try.ntmps11
      go_wp2_with (go_at_call 27; refine (isNumber_any _ _).mono ?_; rw [D2.out]; rintro e w1 ⟨rfl, rfl⟩)
      go_ret
      exact ⟨by rw [HP.out]; rfl, rfl⟩
end Go.Proofs.Ytjnhkiibnmbmfaa
