import Derived.Test.YtgbbcalkiekfeaaSk6
namespace Go.Proofs.Ytgbbcalkiekfeaa
set_option linter.unusedVariables false
open Go.RowKit Go.Shelf Go.Proofs.Ytgbbcalkiekfeaa.Nm

set_option maxRecDepth 100000 in
set_option maxHeartbeats 4000000 in
/-- gazetteerref4.NewKey, where the primes are -/
theorem refKey_good (a b : Nat) (e f : Int) (w : World) (hp : PairOK a b) :
    Calls Try.prog 5 #[.int .i64 (a : Int), .int .i64 (b : Int), .int .i64 e, .int .i64 f] w fun r w' => r = .returned (keyR a b e f) ∧ Below w.heap.size w w' := by
  obtain ⟨hne, h1, h2, hpa, hpb⟩ := pair_nat.1 hp
  have ha2 := hpa.1
  have hb2 := hpb.1
  have hle := pair_le hp
  obtain ⟨hm2, hml⟩ := phi_le (show 2 ≤ a by omega) (show 2 ≤ b by omega) hne h2
  obtain ⟨a1, ha1⟩ : ∃ a1 : Nat, a - 1 = a1 := ⟨_, rfl⟩
  obtain ⟨b1, hb1⟩ : ∃ b1 : Nat, b - 1 = b1 := ⟨_, rfl⟩
  obtain ⟨m, hm⟩ : ∃ m : Nat, a1 * b1 = m := ⟨_, rfl⟩
  obtain ⟨z, hz⟩ : ∃ z : Nat, a * b = z := ⟨_, rfl⟩
  rw [ha1, hb1, hm] at hm2 hml
  have ia : (a : Int) - 1 = (a1 : Int) := by omega
  have ib : (b : Int) - 1 = (b1 : Int) := by omega
  have im : (a1 : Int) * (b1 : Int) = (m : Int) := by rw [← hm]; simp
  have iz : (a : Int) * (b : Int) = (z : Int) := by rw [← hz]; simp
  rw [hz] at h1 h2
  have HMM := hide' (show (a - 1) * (b - 1) = m by rw [ha1, hb1, hm])
  have HZZ := hide' hz
  have HA := hide' (prB_yes hpa)
  have HB := hide' (prB_yes hpb)
  have HP := hide' hp
  have ja : 2 ≤ (a : Int) := by omega
  have jb : 2 ≤ (b : Int) := by omega
  have ka : (a : Int) ≤ 2147483648 := by omega
  have kb : (b : Int) ≤ 2147483648 := by omega
  have e1 : ((a : Int) == (b : Int)) = false := by rw [beq_eq_false_iff_ne]; omega
  have hzl : z ≤ 4611686018427387904 := by omega
  have g7 : decide ((2147483648 : Int) ≤ (z : Int)) = false := decide_eq_false (by omega)
  have hal : a ≤ 2147483647 := by omega
  have hbl : b ≤ 2147483647 := by omega
  have ha1l : a1 ≤ 2147483647 := by omega
  have hb1l : b1 ≤ 2147483647 := by omega
  have h6 : 65537 ≤ z := h1
  obtain ⟨q0, q1, q2, q3⟩ := cells4t w (.int .i64 0) (.int .i64 0) (.int .i64 0) (.int .i64 0) 23 (.cells #[.int .i64 0, .int .i64 0, .int .i64 0, .int .i64 0] 23)
  have HQ := hide' (And.intro q0 (And.intro q1 (And.intro q2 q3)))
  have T1 : Hid True := trivial
  clear q0 q1 q2 q3 hp hpa hpb hm hz ha1 hb1 hne h1 h2 hle ha2 hb2
  by_cases h3 : e < 3
  · rw [keyR_no (fun h => by have := h.2.1.1; omega)]
    go_enter Try.func5, Try.ntmps5
    go_wp2_with (first
      | (go_at_call 15; have _ := T1; clear T1; refine (refPrime_any a _ hal).mono ?_; rw [HA.out]; rintro e w1 ⟨rfl, rfl⟩)
      | (go_at_call 15; refine (refPrime_any b _ hbl).mono ?_; rw [HB.out]; rintro e w1 ⟨rfl, rfl⟩))
    obtain ⟨q0, q1, q2, q3⟩ := HQ.out
    refine bodyPost_ret (v := .tuple #[.agg #[.int .i64 0, .int .i64 0, .int .i64 0, .int .i64 0], .int .i64 24]) (by simp [results, go_sem, q0, q1, q2, q3]) rfl ⟨rfl, below_two w _ _⟩
  by_cases h5 : 65535 < e
  · rw [keyR_no (fun h => by have := h.2.1.2.1; omega)]
    go_enter Try.func5, Try.ntmps5
    go_wp2_with (first
      | (go_at_call 15; have _ := T1; clear T1; refine (refPrime_any a _ hal).mono ?_; rw [HA.out]; rintro e w1 ⟨rfl, rfl⟩)
      | (go_at_call 15; refine (refPrime_any b _ hbl).mono ?_; rw [HB.out]; rintro e w1 ⟨rfl, rfl⟩))
    obtain ⟨q0, q1, q2, q3⟩ := HQ.out
    refine bodyPost_ret (v := .tuple #[.agg #[.int .i64 0, .int .i64 0, .int .i64 0, .int .i64 0], .int .i64 24]) (by simp [results, go_sem, q0, q1, q2, q3]) rfl ⟨rfl, below_two w _ _⟩
  obtain ⟨c, rfl⟩ : ∃ c : Nat, e = (c : Int) := ⟨e.toNat, by omega⟩
  by_cases ho : (c : Int) % 2 = 0
  · rw [keyR_no (fun h => by have := h.2.1.2.2; omega)]
    have ht : (c : Int).tmod 2 = 0 := by rw [Int.tmod_eq_emod_of_nonneg (by omega)]; exact ho
    go_enter Try.func5, Try.ntmps5
    go_wp2_with (first
      | (go_at_call 15; have _ := T1; clear T1; refine (refPrime_any a _ hal).mono ?_; rw [HA.out]; rintro e w1 ⟨rfl, rfl⟩)
      | (go_at_call 15; refine (refPrime_any b _ hbl).mono ?_; rw [HB.out]; rintro e w1 ⟨rfl, rfl⟩))
    obtain ⟨q0, q1, q2, q3⟩ := HQ.out
    refine bodyPost_ret (v := .tuple #[.agg #[.int .i64 0, .int .i64 0, .int .i64 0, .int .i64 0], .int .i64 24]) (by simp [results, go_sem, q0, q1, q2, q3]) rfl ⟨rfl, below_two w _ _⟩
  have ho1 : (c : Int) % 2 = 1 := by omega
  have ht : (c : Int).tmod 2 = 1 := by rw [Int.tmod_eq_emod_of_nonneg (by omega)]; exact ho1
  clear ho
  have HCM := hide' (fun w => common_any m c w (by omega) (by omega))
  have hgl : Nat.gcd c m ≤ 65535 := Nat.le_trans (Nat.gcd_le_left m (by omega)) (by omega)
  by_cases hg : Nat.gcd c m = 1
  · rw [hg] at HCM
    by_cases hf : FlagOK f
    · have HR : Hid (keyR a b c f = .tuple #[.agg #[.int .i64 f, .int .i64 (z : Int), .int .i64 (c : Int), .int .i64 (invN c m : Int)], .int .i64 0]) := by
        unfold Hid; rw [keyR_yes ⟨hf, ⟨by omega, by omega, ho1⟩, HP.out, by simp only [Int.toNat_natCast]; rw [HMM.out]; exact hg⟩, HMM.out, HZZ.out]
      obtain ⟨k0, hk0, hz0⟩ := k_ex hm2 (show 1 ≤ c by omega) hg
      have HK0 := hide' hz0
      have HIK := hide' (fun k (hk : k < c) (h : (1 + k * m) % c = 0) => inv_k hm2 (show 1 ≤ c by omega) hk h)
      have hfl : f = 256 ∨ f = 257 := hf
      obtain ⟨d, hdd⟩ : ∃ d : Nat, invN c m = d := ⟨_, rfl⟩
      rw [HR.out, hdd]
      rw [hdd] at HIK
      clear hdd
      clear HR hf hg hgl hz0
      rcases hfl with rfl | rfl
      all_goals
        go_enter Try.func5, Try.ntmps5
        go_wp2_with (first
          | (go_at_call 15; have _ := T1; clear T1; refine (refPrime_any a _ hal).mono ?_; rw [HA.out]; rintro e w1 ⟨rfl, rfl⟩)
          | (go_at_call 15; refine (refPrime_any b _ hbl).mono ?_; rw [HB.out]; rintro e w1 ⟨rfl, rfl⟩)
          | (go_at_call 16; refine (HCM.out _).mono ?_; rintro e w1 ⟨rfl, rfl⟩))
      all_goals
        go_loop [12] (fun i => ∃ k : Nat, i = .int .i64 (k : Int) ∧ k ≤ k0) (fun i => k0 - (intOf i).toNat)
        case atStart => exact ⟨0, rfl, Nat.zero_le _⟩
        case round =>
          obtain ⟨k, rfl, hk⟩ := hrel
          obtain ⟨t, htt⟩ : ∃ t : Nat, k * m = t := ⟨_, rfl⟩
          have hti : (k : Int) * (m : Int) = (t : Int) := by rw [← htt]; simp
          have htl : t ≤ 65535 * 2147483647 := by rw [← htt]; exact Nat.mul_le_mul (show k ≤ 65535 by omega) hml
          have hc0 : ¬ (c : Int) = 0 := by omega
          obtain ⟨r, hr⟩ : ∃ r : Nat, (1 + t) % c = r := ⟨_, rfl⟩
          have hmr : (1 + (t : Int)).tmod (c : Int) = (r : Int) := by rw [← hr]; rfl
          by_cases h0 : r = 0
          · have hd := HIK.out k (by omega) (by rw [htt, hr]; exact h0)
            rw [htt] at hd
            have hdl : (1 + t) / c ≤ 1 + t := Nat.div_le_self _ _
            have hq : (1 + (t : Int)).tdiv (c : Int) = (d : Int) := by rw [hd]; rfl
            rw [← hd] at hdl
            subst h0
            clear hr htt hd HIK HK0
            go_wp2_with fail
            first
              | (obtain ⟨q0, q1, q2, q3⟩ := cells4t w (.int .i64 256) (.int .i64 (z : Int)) (.int .i64 (c : Int)) (.int .i64 (d : Int)) 23 (.cells #[.int .i64 0, .int .i64 0, .int .i64 0, .int .i64 0] 23); refine bodyPost_ret (v := .tuple #[.agg #[.int .i64 256, .int .i64 (z : Int), .int .i64 (c : Int), .int .i64 (d : Int)], .int .i64 0]) (by simp [results, go_sem, q0, q1, q2, q3]) rfl ⟨rfl, below_two w _ _⟩)
              | (obtain ⟨q0, q1, q2, q3⟩ := cells4t w (.int .i64 257) (.int .i64 (z : Int)) (.int .i64 (c : Int)) (.int .i64 (d : Int)) 23 (.cells #[.int .i64 0, .int .i64 0, .int .i64 0, .int .i64 0] 23); refine bodyPost_ret (v := .tuple #[.agg #[.int .i64 257, .int .i64 (z : Int), .int .i64 (c : Int), .int .i64 (d : Int)], .int .i64 0]) (by simp [results, go_sem, q0, q1, q2, q3]) rfl ⟨rfl, below_two w _ _⟩)
          · have hb : ((r : Int) == 0) = false := by rw [beq_eq_false_iff_ne]; omega
            have hlt : k < k0 := by
              rcases Nat.lt_or_ge k k0 with h | h
              · exact h
              · obtain rfl : k = k0 := by omega
                have := HK0.out
                rw [htt, hr] at this
                exact absurd this h0
            clear hr htt
            go_wp2_with fail
            go_round
            case rel => exact ⟨k + 1, by go_num, by omega⟩
            case measure => simp [intOf]; omega
    · rw [keyR_no (fun h => hf h.1)]
      have f1 : (f == 256) = false := by rw [beq_eq_false_iff_ne]; exact fun h => hf (.inl h)
      have f2 : (f == 257) = false := by rw [beq_eq_false_iff_ne]; exact fun h => hf (.inr h)
      have n1 : ¬ f = 256 := fun h => hf (.inl h)
      have n2 : ¬ f = 257 := fun h => hf (.inr h)
      have m1 : (f != 256) = true := by simp [n1]
      have m2 : (f != 257) = true := by simp [n2]
      clear hf n1 n2 f1 f2
      go_enter Try.func5, Try.ntmps5
      go_wp2_with (first
        | (go_at_call 15; have _ := T1; clear T1; refine (refPrime_any a _ hal).mono ?_; rw [HA.out]; rintro e w1 ⟨rfl, rfl⟩)
        | (go_at_call 15; refine (refPrime_any b _ hbl).mono ?_; rw [HB.out]; rintro e w1 ⟨rfl, rfl⟩)
        | (go_at_call 16; refine (HCM.out _).mono ?_; rintro e w1 ⟨rfl, rfl⟩))
      obtain ⟨q0, q1, q2, q3⟩ := HQ.out
      refine bodyPost_ret (v := .tuple #[.agg #[.int .i64 0, .int .i64 0, .int .i64 0, .int .i64 0], .int .i64 24]) (by simp [results, go_sem, q0, q1, q2, q3]) rfl ⟨rfl, below_two w _ _⟩
  · rw [keyR_no (fun h => by have := h.2.2.2; simp only [Int.toNat_natCast] at this; rw [HMM.out] at this; exact hg this)]
    generalize Nat.gcd c m = gg at *
    have hgb : ((gg : Int) == 1) = false := by rw [beq_eq_false_iff_ne]; omega
    have hgi : ¬ (gg : Int) = 1 := by omega
    go_enter Try.func5, Try.ntmps5
    go_wp2_with (first
      | (go_at_call 15; have _ := T1; clear T1; refine (refPrime_any a _ hal).mono ?_; rw [HA.out]; rintro e w1 ⟨rfl, rfl⟩)
      | (go_at_call 15; refine (refPrime_any b _ hbl).mono ?_; rw [HB.out]; rintro e w1 ⟨rfl, rfl⟩)
      | (go_at_call 16; refine (HCM.out _).mono ?_; rintro e w1 ⟨rfl, rfl⟩))
    obtain ⟨q0, q1, q2, q3⟩ := HQ.out
    refine bodyPost_ret (v := .tuple #[.agg #[.int .i64 0, .int .i64 0, .int .i64 0, .int .i64 0], .int .i64 24]) (by simp [results, go_sem, q0, q1, q2, q3]) rfl ⟨rfl, below_two w _ _⟩

/-- gazetteerref4.NewKey -/
theorem refKey_any (p q e f : Int) (w : World) :
    Calls Try.prog 5 #[.int .i64 p, .int .i64 q, .int .i64 e, .int .i64 f] w fun r w' => r = .returned (keyR p q e f) ∧ Below w.heap.size w w' := by
  rcases Classical.em (PairOK p q) with hp | hp
  · obtain ⟨a, rfl⟩ : ∃ a : Nat, p = (a : Int) := ⟨p.toNat, by have := hp.1; omega⟩
    obtain ⟨b, rfl⟩ : ∃ b : Nat, q = (b : Int) := ⟨q.toNat, by have := hp.2.1; omega⟩
    exact refKey_good a b e f w hp
  · exact refKey_pair p q e f w hp
end Go.Proofs.Ytgbbcalkiekfeaa
