import Derived.Test.YtennkhdhnbdbeaaGreatSk1G
namespace Go.Proofs.YtennkhdhnbdbeaaGreat.Nm
set_option linter.unusedVariables false

def PairOK (p q : Int) : Prop := 2 ≤ p ∧ 2 ≤ q ∧ p ≠ q ∧ 65537 ≤ p * q ∧ p * q ≤ 2147483647 ∧ IsPr p.toNat ∧ IsPr q.toNat
def pairB (p q : Int) : Bool := decide (2 ≤ p ∧ 2 ≤ q ∧ p ≠ q ∧ 65537 ≤ p * q ∧ p * q ≤ 2147483647) && (prB p.toNat && prB q.toNat)
theorem pairB_iff (p q : Int) : pairB p q = true ↔ PairOK p q := by
  unfold pairB PairOK
  simp only [Bool.and_eq_true, decide_eq_true_eq, prB_iff, and_assoc]
theorem pairB_yes {p q : Int} (h : PairOK p q) : pairB p q = true := (pairB_iff p q).2 h
theorem pairB_no {p q : Int} (h : ¬ PairOK p q) : pairB p q = false := Bool.eq_false_iff.2 fun e => h ((pairB_iff p q).1 e)
theorem pair_of {p q : Int} (h : pairB p q = true) : PairOK p q := (pairB_iff p q).1 h
theorem pair_not {p q : Int} (h : pairB p q = false) : ¬ PairOK p q := fun e => by rw [pairB_yes e] at h; cases h
theorem prB_of {n : Nat} (h : prB n = true) : IsPr n := (prB_iff n).1 h
theorem prB_not {n : Nat} (h : prB n = false) : ¬ IsPr n := fun e => by rw [prB_yes e] at h; cases h
theorem pair_le {p q : Int} (h : PairOK p q) : p ≤ 2147483647 ∧ q ≤ 2147483647 := by
  obtain ⟨h1, h2, _, _, h5, _⟩ := h
  constructor
  · rcases Int.lt_or_le 2147483647 p with h | h
    · have := Int.mul_le_mul (show (2147483648 : Int) ≤ p by omega) h2 (by omega) (by omega); omega
    · exact h
  · rcases Int.lt_or_le 2147483647 q with h | h
    · have := Int.mul_le_mul h1 (show (2147483648 : Int) ≤ q by omega) (by omega) (by omega); omega
    · exact h
/-- of two numbers -/
theorem pair_nat {a b : Nat} : PairOK (a : Int) (b : Int) ↔ (a ≠ b ∧ 65537 ≤ a * b ∧ a * b ≤ 2147483647 ∧ IsPr a ∧ IsPr b) := by
  unfold PairOK
  simp only [Int.toNat_natCast]
  have e : (a : Int) * (b : Int) = ((a * b : Nat) : Int) := by simp
  rw [e]
  constructor
  · rintro ⟨_, _, h3, h4, h5, h6, h7⟩; exact ⟨by omega, by omega, by omega, h6, h7⟩
  · rintro ⟨h3, h4, h5, h6, h7⟩
    have := h6.1
    have := h7.1
    exact ⟨by omega, by omega, by omega, by omega, by omega, h6, h7⟩
theorem phi_le {a b : Nat} (ha : 2 ≤ a) (hb : 2 ≤ b) (hne : a ≠ b) (hl : a * b ≤ 2147483647) : 2 ≤ (a - 1) * (b - 1) ∧ (a - 1) * (b - 1) ≤ 2147483647 := by
  constructor
  · rcases (show 3 ≤ a ∨ 3 ≤ b by omega) with h | h
    · exact Nat.mul_le_mul (show 2 ≤ a - 1 by omega) (show 1 ≤ b - 1 by omega)
    · exact Nat.mul_le_mul (show 1 ≤ a - 1 by omega) (show 2 ≤ b - 1 by omega)
  · exact Nat.le_trans (Nat.mul_le_mul (Nat.sub_le a 1) (Nat.sub_le b 1)) hl

def EOK (e : Int) : Prop := 3 ≤ e ∧ e ≤ 65535 ∧ e % 2 = 1
def FlagOK (f : Int) : Prop := f = 256 ∨ f = 257
def flB (f : Int) : Bool := decide (f = 256 ∨ f = 257)
def nmB (n : Int) : Bool := decide (1 ≤ n ∧ n ≤ 2147483647)
theorem flB_yes {f : Int} (h : FlagOK f) : flB f = true := decide_eq_true h
theorem flB_no {f : Int} (h : ¬ FlagOK f) : flB f = false := decide_eq_false h
theorem nmB_yes {n : Int} (h : 1 ≤ n ∧ n ≤ 2147483647) : nmB n = true := decide_eq_true h
theorem nmB_no {n : Int} (h : ¬ (1 ≤ n ∧ n ≤ 2147483647)) : nmB n = false := decide_eq_false h
def KeyOK (p q e f : Int) : Prop := FlagOK f ∧ EOK e ∧ PairOK p q ∧ Nat.gcd e.toNat ((p.toNat - 1) * (q.toNat - 1)) = 1
def keyOKB (p q e f : Int) : Bool := flB f && (decide (3 ≤ e ∧ e ≤ 65535 ∧ e % 2 = 1) && (pairB p q && decide (Nat.gcd e.toNat ((p.toNat - 1) * (q.toNat - 1)) = 1)))
theorem keyOKB_iff (p q e f : Int) : keyOKB p q e f = true ↔ KeyOK p q e f := by
  unfold keyOKB KeyOK EOK FlagOK flB
  simp only [Bool.and_eq_true, decide_eq_true_eq, pairB_iff]
def keyR (p q e f : Int) : Value :=
  bif keyOKB p q e f then (.tuple #[.agg #[.int .i64 f, .int .i64 (p * q), .int .i64 e, .int .i64 (invN e.toNat ((p.toNat - 1) * (q.toNat - 1)) : Int)], .int .i64 0]) else (.tuple #[.agg #[.int .i64 0, .int .i64 0, .int .i64 0, .int .i64 0], .int .i64 24])
theorem keyR_no {p q e f : Int} (h : ¬ KeyOK p q e f) : keyR p q e f = .tuple #[.agg #[.int .i64 0, .int .i64 0, .int .i64 0, .int .i64 0], .int .i64 24] := by
  unfold keyR
  rw [show keyOKB p q e f = false from Bool.eq_false_iff.2 fun e' => h ((keyOKB_iff p q e f).1 e')]
  rfl
theorem keyR_yes {a b c : Nat} {f : Int} (h : KeyOK a b c f) : keyR a b c f = .tuple #[.agg #[.int .i64 f, .int .i64 ((a * b : Nat) : Int), .int .i64 (c : Int), .int .i64 (invN c ((a - 1) * (b - 1)) : Int)], .int .i64 0] := by
  unfold keyR
  rw [(keyOKB_iff _ _ _ _).2 h]
  simp
end Go.Proofs.YtennkhdhnbdbeaaGreat.Nm
namespace Go.Proofs.YtennkhdhnbdbeaaGreat
set_option linter.unusedVariables false
open Go.RowKit Go.Shelf Go.Proofs.YtennkhdhnbdbeaaGreat.Nm

set_option maxRecDepth 100000 in
set_option maxHeartbeats 1000000 in
/-- seal.isFlags -/
theorem isFlags_any (f : Int) (w : World) :
    Calls Tryz.prog 57 #[.int .i64 f] w fun e w' => e = .returned (.bool (flB f)) ∧ w' = w := by
  by_cases h1 : f = 256
  · have HF : Hid (flB f = true) := flB_yes (.inl h1)
    subst h1
    go_enter Tryz.func57, Tryz.ntmps57
    go_wp2
    go_ret
    exact ⟨by rw [HF.out]; rfl, rfl⟩
  · have e1 : (f == 256) = false := by rw [beq_eq_false_iff_ne]; exact h1
    by_cases h2 : f = 257
    · have HF : Hid (flB f = true) := flB_yes (.inr h2)
      subst h2
      go_enter Tryz.func57, Tryz.ntmps57
      go_wp2
      go_ret
      exact ⟨by rw [HF.out]; rfl, rfl⟩
    · have e2 : (f == 257) = false := by rw [beq_eq_false_iff_ne]; exact h2
      have HF : Hid (flB f = false) := flB_no (by unfold FlagOK; omega)
      go_enter Tryz.func57, Tryz.ntmps57
      go_wp2
      go_ret
      exact ⟨by rw [HF.out]; rfl, rfl⟩

set_option maxRecDepth 100000 in
set_option maxHeartbeats 1000000 in
/-- seal.isNumber -/
theorem isNumber_any (n : Int) (w : World) :
    Calls Tryz.prog 62 #[.int .i64 n] w fun e w' => e = .returned (.bool (nmB n)) ∧ w' = w := by
  by_cases h1 : 1 ≤ n
  · by_cases h2 : n ≤ 2147483647
    · have HD : Hid (nmB n = true) := nmB_yes ⟨h1, h2⟩
      go_enter Tryz.func62, Tryz.ntmps62
      go_wp2
      go_ret
      exact ⟨by rw [HD.out]; rfl, rfl⟩
    · have HD : Hid (nmB n = false) := nmB_no (by omega)
      go_enter Tryz.func62, Tryz.ntmps62
      go_wp2
      go_ret
      exact ⟨by rw [HD.out]; rfl, rfl⟩
  · have HD : Hid (nmB n = false) := nmB_no (by omega)
    go_enter Tryz.func62, Tryz.ntmps62
    go_wp2
    go_ret
    exact ⟨by rw [HD.out]; rfl, rfl⟩

set_option maxRecDepth 100000 in
set_option maxHeartbeats 1000000 in
/-- seal.isPair -/
theorem isPair_any (p q : Int) (w : World) :
    Calls Tryz.prog 58 #[.int .i64 p, .int .i64 q] w fun e w' => e = .returned (.bool (pairB p q)) ∧ w' = w := by
  by_cases h1 : p = q
  · have HP : Hid (pairB p q = false) := pairB_no (fun h => h.2.2.1 h1)
    have e1 : (p == q) = true := by rw [h1]; simp
    clear h1
    go_enter Tryz.func58, Tryz.ntmps58
    go_wp2
    go_ret
    exact ⟨by rw [HP.out]; rfl, rfl⟩
  · have e1 : (p == q) = false := by rw [beq_eq_false_iff_ne]; exact h1
    by_cases h2 : 1 ≤ p ∧ p ≤ 2147483647
    · have D2 := hide' (nmB_yes h2)
      by_cases h3 : 1 ≤ q ∧ q ≤ 2147483647
      · have D3 := hide' (nmB_yes h3)
        obtain ⟨a, rfl⟩ : ∃ a : Nat, p = (a : Int) := ⟨p.toNat, by omega⟩
        obtain ⟨b, rfl⟩ : ∃ b : Nat, q = (b : Int) := ⟨q.toNat, by omega⟩
        obtain ⟨z, hz⟩ : ∃ z : Nat, a * b = z := ⟨_, rfl⟩
        have hzi : (a : Int) * (b : Int) = (z : Int) := by rw [← hz]; simp
        have hzl : z ≤ 4611686014132420609 := by rw [← hz]; exact Nat.mul_le_mul (show a ≤ 2147483647 by omega) (show b ≤ 2147483647 by omega)
        have HZ := hide' hz
        have hal : a ≤ 2147483647 := by omega
        have hbl : b ≤ 2147483647 := by omega
        clear hz
        by_cases h4 : 65537 ≤ z
        · by_cases h5 : z ≤ 2147483647
          · have HV : Hid (pairB a b = (prB a && prB b)) := by
              unfold Hid
              cases hpa : prB a with
              | false => exact pairB_no (fun h => prB_not hpa (pair_nat.1 h).2.2.2.1)
              | true =>
                cases hpb : prB b with
                | false => exact pairB_no (fun h => prB_not hpb (pair_nat.1 h).2.2.2.2)
                | true => exact pairB_yes (pair_nat.2 ⟨by omega, by rw [HZ.out]; omega, by rw [HZ.out]; omega, prB_of hpa, prB_of hpb⟩)
            cases hpa : prB a with
            | false =>
              have HA := hide' hpa
              rw [HV.out, hpa]
              clear hpa h2 h3
              go_enter Tryz.func58, Tryz.ntmps58
              go_wp2_with (first
                | (go_at_call 62; refine (isNumber_any _ _).mono ?_; (first | rw [D2.out] | rw [D3.out]); rintro e w1 ⟨rfl, rfl⟩)
                | (go_at_call 91; refine (isPrime_any _ _ hal).mono ?_; rw [HA.out]; rintro e w1 ⟨rfl, rfl⟩))
              go_ret
              exact ⟨rfl, rfl⟩
            | true =>
              have HA := hide' hpa
              rw [HV.out, hpa]
              cases hpb : prB b with
              | false =>
                have HB := hide' hpb
                have T1 : Hid True := trivial
                clear hpa hpb h2 h3
                go_enter Tryz.func58, Tryz.ntmps58
                go_wp2_with (first
                  | (go_at_call 62; refine (isNumber_any _ _).mono ?_; (first | rw [D2.out] | rw [D3.out]); rintro e w1 ⟨rfl, rfl⟩)
                  | (go_at_call 91; have _ := T1; clear T1; refine (isPrime_any a _ hal).mono ?_; rw [HA.out]; rintro e w1 ⟨rfl, rfl⟩)
                  | (go_at_call 91; refine (isPrime_any b _ hbl).mono ?_; rw [HB.out]; rintro e w1 ⟨rfl, rfl⟩))
                go_ret
                exact ⟨rfl, rfl⟩
              | true =>
                have HB := hide' hpb
                have T1 : Hid True := trivial
                clear hpa hpb h2 h3
                go_enter Tryz.func58, Tryz.ntmps58
                go_wp2_with (first
                  | (go_at_call 62; refine (isNumber_any _ _).mono ?_; (first | rw [D2.out] | rw [D3.out]); rintro e w1 ⟨rfl, rfl⟩)
                  | (go_at_call 91; have _ := T1; clear T1; refine (isPrime_any a _ hal).mono ?_; rw [HA.out]; rintro e w1 ⟨rfl, rfl⟩)
                  | (go_at_call 91; refine (isPrime_any b _ hbl).mono ?_; rw [HB.out]; rintro e w1 ⟨rfl, rfl⟩))
                go_ret
                exact ⟨rfl, rfl⟩
          · have HP : Hid (pairB a b = false) := pairB_no (fun h => by have := (pair_nat.1 h).2.2.1; rw [HZ.out] at this; omega)
            clear h2 h3
            go_enter Tryz.func58, Tryz.ntmps58
            go_wp2_with (go_at_call 62; refine (isNumber_any _ _).mono ?_; (first | rw [D2.out] | rw [D3.out]); rintro e w1 ⟨rfl, rfl⟩)
            go_ret
            exact ⟨by rw [HP.out]; rfl, rfl⟩
        · have HP : Hid (pairB a b = false) := pairB_no (fun h => by have := (pair_nat.1 h).2.1; rw [HZ.out] at this; omega)
          clear h2 h3
          go_enter Tryz.func58, Tryz.ntmps58
          go_wp2_with (go_at_call 62; refine (isNumber_any _ _).mono ?_; (first | rw [D2.out] | rw [D3.out]); rintro e w1 ⟨rfl, rfl⟩)
          go_ret
          exact ⟨by rw [HP.out]; rfl, rfl⟩
      · have HP : Hid (pairB p q = false) := pairB_no (fun h => by have := (pair_le h).2; have := h.2.1; omega)
        have D3 := hide' (nmB_no h3)
        clear h2 h3
        go_enter Tryz.func58, Tryz.ntmps58
        go_wp2_with (go_at_call 62; refine (isNumber_any _ _).mono ?_; (first | rw [D2.out] | rw [D3.out]); rintro e w1 ⟨rfl, rfl⟩)
        go_ret
        exact ⟨by rw [HP.out]; rfl, rfl⟩
    · have HP : Hid (pairB p q = false) := pairB_no (fun h => by have := (pair_le h).1; have := h.1; omega)
      have D2 := hide' (nmB_no h2)
      clear h2
      go_enter Tryz.func58, Tryz.ntmps58
      go_wp2_with (go_at_call 62; refine (isNumber_any _ _).mono ?_; rw [D2.out]; rintro e w1 ⟨rfl, rfl⟩)
      go_ret
      exact ⟨by rw [HP.out]; rfl, rfl⟩
end Go.Proofs.YtennkhdhnbdbeaaGreat

namespace Go.Proofs.YtennkhdhnbdbeaaGreat
set_option linter.unusedVariables false
open Go.RowKit Go.Shelf Go.Proofs.YtennkhdhnbdbeaaGreat.Nm

theorem not_eok_even {e : Int} (h : e.tmod 2 = 0) : ¬ EOK e := fun ⟨h1, _, h3⟩ => by
  rw [Int.tmod_eq_emod_of_nonneg (by omega)] at h; omega

theorem cells4 (w : World) (a b c d : Value) (t : TypeId) : (w.alloc (.cells #[a, b, c, d] t)).cell? ⟨w.heap.size, 0, none⟩ = some a ∧ (w.alloc (.cells #[a, b, c, d] t)).cell? ⟨w.heap.size, 1, none⟩ = some b ∧ (w.alloc (.cells #[a, b, c, d] t)).cell? ⟨w.heap.size, 2, none⟩ = some c ∧ (w.alloc (.cells #[a, b, c, d] t)).cell? ⟨w.heap.size, 3, none⟩ = some d := by
  refine ⟨?_, ?_, ?_, ?_⟩ <;> (rw [World.cell?_alloc_mark]; rfl)

set_option maxRecDepth 100000 in
set_option maxHeartbeats 1000000 in
/-- seal.NewKey, where something is wrong with flags, exponent or primes -/
theorem newKey_bad (p q e f : Int) (w : World) (hbad : ¬ (FlagOK f ∧ EOK e ∧ PairOK p q)) :
    Calls Tryz.prog 13 #[.int .i64 p, .int .i64 q, .int .i64 e, .int .i64 f] w fun r w' => r = .returned (keyR p q e f) ∧ Below w.heap.size w w' := by
  rw [keyR_no (fun h => hbad ⟨h.1, h.2.1, h.2.2.1⟩)]
  by_cases hf : FlagOK f
  · have HF := hide' (flB_yes hf)
    by_cases h0 : e.tmod 2 = 0
    · have e0 : (e.tmod 2 == 0) = true := by rw [h0]; rfl
      clear hbad h0
      go_enter Tryz.func13, Tryz.ntmps13
      go_wp2_with (go_at_call 57; refine (isFlags_any _ _).mono ?_; rw [HF.out]; rintro e w1 ⟨rfl, rfl⟩)
      obtain ⟨q0, q1, q2, q3⟩ := cells4 w (.int .i64 0) (.int .i64 0) (.int .i64 0) (.int .i64 0) 23
      refine bodyPost_ret (v := .tuple #[.agg #[.int .i64 0, .int .i64 0, .int .i64 0, .int .i64 0], .int .i64 24]) (by simp [results, go_sem, q0, q1, q2, q3]) rfl ⟨rfl, (Below.refl _ _).alloc (Nat.le_refl _) _⟩
    · have e0 : (e.tmod 2 == 0) = false := by rw [beq_eq_false_iff_ne]; exact h0
      by_cases h3 : e < 3
      · clear hbad h0
        go_enter Tryz.func13, Tryz.ntmps13
        go_wp2_with (go_at_call 57; refine (isFlags_any _ _).mono ?_; rw [HF.out]; rintro e w1 ⟨rfl, rfl⟩)
        obtain ⟨q0, q1, q2, q3⟩ := cells4 w (.int .i64 0) (.int .i64 0) (.int .i64 0) (.int .i64 0) 23
        refine bodyPost_ret (v := .tuple #[.agg #[.int .i64 0, .int .i64 0, .int .i64 0, .int .i64 0], .int .i64 24]) (by simp [results, go_sem, q0, q1, q2, q3]) rfl ⟨rfl, (Below.refl _ _).alloc (Nat.le_refl _) _⟩
      · have ho : e % 2 = 1 := by rw [Int.tmod_eq_emod_of_nonneg (by omega)] at h0; omega
        by_cases h6 : 65535 < e
        · clear hbad h0
          go_enter Tryz.func13, Tryz.ntmps13
          go_wp2_with (go_at_call 57; refine (isFlags_any _ _).mono ?_; rw [HF.out]; rintro e w1 ⟨rfl, rfl⟩)
          obtain ⟨q0, q1, q2, q3⟩ := cells4 w (.int .i64 0) (.int .i64 0) (.int .i64 0) (.int .i64 0) 23
          refine bodyPost_ret (v := .tuple #[.agg #[.int .i64 0, .int .i64 0, .int .i64 0, .int .i64 0], .int .i64 24]) (by simp [results, go_sem, q0, q1, q2, q3]) rfl ⟨rfl, (Below.refl _ _).alloc (Nat.le_refl _) _⟩
        · have HP : Hid (pairB p q = false) := pairB_no (fun h => hbad ⟨hf, ⟨by omega, by omega, by rw [Int.tmod_eq_emod_of_nonneg (by omega)] at h0; omega⟩, h⟩)
          clear hbad h0
          go_enter Tryz.func13, Tryz.ntmps13
          go_wp2_with (first
            | (go_at_call 57; refine (isFlags_any _ _).mono ?_; rw [HF.out]; rintro e w1 ⟨rfl, rfl⟩)
            | (go_at_call 58; refine (isPair_any _ _ _).mono ?_; rw [HP.out]; rintro e w1 ⟨rfl, rfl⟩))
          obtain ⟨q0, q1, q2, q3⟩ := cells4 w (.int .i64 0) (.int .i64 0) (.int .i64 0) (.int .i64 0) 23
          refine bodyPost_ret (v := .tuple #[.agg #[.int .i64 0, .int .i64 0, .int .i64 0, .int .i64 0], .int .i64 24]) (by simp [results, go_sem, q0, q1, q2, q3]) rfl ⟨rfl, (Below.refl _ _).alloc (Nat.le_refl _) _⟩
  · have HF := hide' (flB_no hf)
    clear hbad
    go_enter Tryz.func13, Tryz.ntmps13
    go_wp2_with (go_at_call 57; refine (isFlags_any _ _).mono ?_; rw [HF.out]; rintro e w1 ⟨rfl, rfl⟩)
    obtain ⟨q0, q1, q2, q3⟩ := cells4 w (.int .i64 0) (.int .i64 0) (.int .i64 0) (.int .i64 0) 23
    refine bodyPost_ret (v := .tuple #[.agg #[.int .i64 0, .int .i64 0, .int .i64 0, .int .i64 0], .int .i64 24]) (by simp [results, go_sem, q0, q1, q2, q3]) rfl ⟨rfl, (Below.refl _ _).alloc (Nat.le_refl _) _⟩

set_option maxRecDepth 100000 in
set_option maxHeartbeats 1000000 in
/-- seal.NewKey, where all of them are right -/
theorem newKey_good (a b c : Nat) (f : Int) (w : World) (hf : FlagOK f) (he : EOK c) (hp : PairOK a b) :
    Calls Tryz.prog 13 #[.int .i64 (a : Int), .int .i64 (b : Int), .int .i64 (c : Int), .int .i64 f] w fun r w' => r = .returned (keyR a b c f) ∧ Below w.heap.size w w' := by
  have HF := hide' (flB_yes hf)
  have HP := hide' (pairB_yes hp)
  obtain ⟨hne, h1, h2, hpa, hpb⟩ := pair_nat.1 hp
  obtain ⟨e3, e6, eo⟩ := he
  have ha2 := hpa.1
  have hb2 := hpb.1
  have hle := pair_le hp
  obtain ⟨hm2, hml⟩ := phi_le (show 2 ≤ a by omega) (show 2 ≤ b by omega) hne h2
  have hto : (c : Int).tmod 2 = 1 := by rw [Int.tmod_eq_emod_of_nonneg (by omega)]; exact eo
  obtain ⟨a1, ha1⟩ : ∃ a1 : Nat, a - 1 = a1 := ⟨_, rfl⟩
  obtain ⟨b1, hb1⟩ : ∃ b1 : Nat, b - 1 = b1 := ⟨_, rfl⟩
  obtain ⟨m, hm⟩ : ∃ m : Nat, a1 * b1 = m := ⟨_, rfl⟩
  obtain ⟨z, hz⟩ : ∃ z : Nat, a * b = z := ⟨_, rfl⟩
  rw [ha1, hb1, hm] at hm2 hml
  have ia : (a : Int) - 1 = (a1 : Int) := by omega
  have ib : (b : Int) - 1 = (b1 : Int) := by omega
  have im : (a1 : Int) * (b1 : Int) = (m : Int) := by rw [← hm]; simp
  have iz : (a : Int) * (b : Int) = (z : Int) := by rw [← hz]; simp
  have HI := hide' (fun w => inverse_any c m w (by omega) hm2 hml)
  rw [hz] at h1 h2
  have HMM := hide' (show (a - 1) * (b - 1) = m by rw [ha1, hb1, hm])
  have HZZ := hide' hz
  by_cases hg : Nat.gcd c m = 1
  · have hinv := invN_yes hm2 hg
    have HR : Hid (keyR a b c f = .tuple #[.agg #[.int .i64 f, .int .i64 (z : Int), .int .i64 (c : Int), .int .i64 (invN c m : Int)], .int .i64 0]) := by
      unfold Hid; rw [keyR_yes ⟨hf, ⟨e3, e6, eo⟩, hp, by simp only [Int.toNat_natCast]; rw [HMM.out]; exact hg⟩, HMM.out, HZZ.out]
    have i1 := hinv.1
    have i2 := hinv.2.1
    rw [HR.out]
    generalize invN c m = d at *
    have hd0 : ((d : Int) == 0) = false := by rw [beq_eq_false_iff_ne]; omega
    have hal : a ≤ 2147483647 := by omega
    have hbl : b ≤ 2147483647 := by omega
    have ha1l : a1 ≤ 2147483647 := by omega
    have hb1l : b1 ≤ 2147483647 := by omega
    clear hinv hp hpa hpb hm hz ha1 hb1 HR eo hg hne
    go_enter Tryz.func13, Tryz.ntmps13
    go_wp2_with (first
      | (go_at_call 57; refine (isFlags_any _ _).mono ?_; rw [HF.out]; rintro e w1 ⟨rfl, rfl⟩)
      | (go_at_call 58; refine (isPair_any _ _ _).mono ?_; rw [HP.out]; rintro e w1 ⟨rfl, rfl⟩)
      | (go_at_call 59; refine (HI.out _).mono ?_; rintro e w1 ⟨rfl, rfl⟩))
    obtain ⟨q0, q1, q2, q3⟩ := cells4 w (.int .i64 f) (.int .i64 (z : Int)) (.int .i64 (c : Int)) (.int .i64 (d : Int)) 23
    refine bodyPost_ret (v := .tuple #[.agg #[.int .i64 f, .int .i64 (z : Int), .int .i64 (c : Int), .int .i64 (d : Int)], .int .i64 0]) (by simp [results, go_sem, q0, q1, q2, q3]) rfl ⟨rfl, (Below.refl _ _).alloc (Nat.le_refl _) _⟩
  · have HV := invN_no hg
    rw [HV] at HI
    have HR : Hid (keyR a b c f = .tuple #[.agg #[.int .i64 0, .int .i64 0, .int .i64 0, .int .i64 0], .int .i64 24]) := keyR_no (fun h => by
      have := h.2.2.2; simp only [Int.toNat_natCast] at this; rw [HMM.out] at this; exact hg this)
    rw [HR.out]
    have hal : a ≤ 2147483647 := by omega
    have hbl : b ≤ 2147483647 := by omega
    have ha1l : a1 ≤ 2147483647 := by omega
    have hb1l : b1 ≤ 2147483647 := by omega
    clear hp hpa hpb hm hz ha1 hb1 HR eo hg hne HV
    go_enter Tryz.func13, Tryz.ntmps13
    go_wp2_with (first
      | (go_at_call 57; refine (isFlags_any _ _).mono ?_; rw [HF.out]; rintro e w1 ⟨rfl, rfl⟩)
      | (go_at_call 58; refine (isPair_any _ _ _).mono ?_; rw [HP.out]; rintro e w1 ⟨rfl, rfl⟩)
      | (go_at_call 59; refine (HI.out _).mono ?_; rintro e w1 ⟨rfl, rfl⟩))
    obtain ⟨q0, q1, q2, q3⟩ := cells4 w (.int .i64 0) (.int .i64 0) (.int .i64 0) (.int .i64 0) 23
    refine bodyPost_ret (v := .tuple #[.agg #[.int .i64 0, .int .i64 0, .int .i64 0, .int .i64 0], .int .i64 24]) (by simp [results, go_sem, q0, q1, q2, q3]) rfl ⟨rfl, (Below.refl _ _).alloc (Nat.le_refl _) _⟩

/-- seal.NewKey -/
theorem newKey_any (p q e f : Int) (w : World) :
    Calls Tryz.prog 13 #[.int .i64 p, .int .i64 q, .int .i64 e, .int .i64 f] w fun r w' => r = .returned (keyR p q e f) ∧ Below w.heap.size w w' := by
  rcases Classical.em (FlagOK f ∧ EOK e ∧ PairOK p q) with h | h
  · obtain ⟨hf, he, hp⟩ := h
    obtain ⟨a, rfl⟩ : ∃ a : Nat, p = (a : Int) := ⟨p.toNat, by have := hp.1; omega⟩
    obtain ⟨b, rfl⟩ : ∃ b : Nat, q = (b : Int) := ⟨q.toNat, by have := hp.2.1; omega⟩
    obtain ⟨c, rfl⟩ : ∃ c : Nat, e = (c : Int) := ⟨e.toNat, by have := he.1; omega⟩
    exact newKey_good a b c f w hf he hp
  · exact newKey_bad p q e f w h
end Go.Proofs.YtennkhdhnbdbeaaGreat
