import Derived.Test.YtjnhkiibnmbmfaaSk4
namespace Go.Proofs.Ytjnhkiibnmbmfaa
set_option linter.unusedVariables false
open Go.RowKit Go.Shelf Go.Proofs.Ytjnhkiibnmbmfaa.Nm

theorem not_eok_even {e : Int} (h : e.tmod 2 = 0) : ¬ EOK e := fun ⟨h1, _, h3⟩ => by
  rw [Int.tmod_eq_emod_of_nonneg (by omega)] at h; omega

theorem cells4 (w : World) (a b c d : Value) (t : TypeId) : (w.alloc (.cells #[a, b, c, d] t)).cell? ⟨w.heap.size, 0, none⟩ = some a ∧ (w.alloc (.cells #[a, b, c, d] t)).cell? ⟨w.heap.size, 1, none⟩ = some b ∧ (w.alloc (.cells #[a, b, c, d] t)).cell? ⟨w.heap.size, 2, none⟩ = some c ∧ (w.alloc (.cells #[a, b, c, d] t)).cell? ⟨w.heap.size, 3, none⟩ = some d := by
  refine ⟨?_, ?_, ?_, ?_⟩ <;> (rw [World.cell?_alloc_mark]; rfl)

set_option maxRecDepth 100000 in
set_option maxHeartbeats 1000000 in
/-- seal.NewKey, where something is wrong with flags, exponent or primes -/
theorem newKey_bad (p q e f : Int) (w : World) (hbad : ¬ (FlagOK f ∧ EOK e ∧ PairOK p q)) :
    Calls Try.prog 4 #[.int .i64 p, .int .i64 q, .int .i64 e, .int .i64 f] w fun r w' => r = .returned (keyR p q e f) ∧ Below w.heap.size w w' := by
  rw [keyR_no (fun h => hbad ⟨h.1, h.2.1, h.2.2.1⟩)]
  by_cases hf : FlagOK f
  · have HF := hide' (flB_yes hf)
    by_cases h0 : e.tmod 2 = 0
    · have e0 : (e.tmod 2 == 0) = true := by rw [h0]; rfl
      clear hbad h0
      go_enter Try.func4, Try.ntmps4
      go_wp2_with (go_at_call 10; refine (isFlags_any _ _).mono ?_; rw [HF.out]; rintro e w1 ⟨rfl, rfl⟩)
      obtain ⟨q0, q1, q2, q3⟩ := cells4 w (.int .i64 0) (.int .i64 0) (.int .i64 0) (.int .i64 0) 24
      refine bodyPost_ret (v := .tuple #[.agg #[.int .i64 0, .int .i64 0, .int .i64 0, .int .i64 0], .int .i64 24]) (by simp [results, go_sem, q0, q1, q2, q3]) rfl ⟨rfl, (Below.refl _ _).alloc (Nat.le_refl _) _⟩
    · have e0 : (e.tmod 2 == 0) = false := by rw [beq_eq_false_iff_ne]; exact h0
      by_cases h3 : e < 3
      · clear hbad h0
        go_enter Try.func4, Try.ntmps4
        go_wp2_with (go_at_call 10; refine (isFlags_any _ _).mono ?_; rw [HF.out]; rintro e w1 ⟨rfl, rfl⟩)
        obtain ⟨q0, q1, q2, q3⟩ := cells4 w (.int .i64 0) (.int .i64 0) (.int .i64 0) (.int .i64 0) 24
        refine bodyPost_ret (v := .tuple #[.agg #[.int .i64 0, .int .i64 0, .int .i64 0, .int .i64 0], .int .i64 24]) (by simp [results, go_sem, q0, q1, q2, q3]) rfl ⟨rfl, (Below.refl _ _).alloc (Nat.le_refl _) _⟩
      · have ho : e % 2 = 1 := by rw [Int.tmod_eq_emod_of_nonneg (by omega)] at h0; omega
        by_cases h6 : 65535 < e
        · clear hbad h0
          go_enter Try.func4, Try.ntmps4
          go_wp2_with (go_at_call 10; refine (isFlags_any _ _).mono ?_; rw [HF.out]; rintro e w1 ⟨rfl, rfl⟩)
          obtain ⟨q0, q1, q2, q3⟩ := cells4 w (.int .i64 0) (.int .i64 0) (.int .i64 0) (.int .i64 0) 24
          refine bodyPost_ret (v := .tuple #[.agg #[.int .i64 0, .int .i64 0, .int .i64 0, .int .i64 0], .int .i64 24]) (by simp [results, go_sem, q0, q1, q2, q3]) rfl ⟨rfl, (Below.refl _ _).alloc (Nat.le_refl _) _⟩
        · have HP : Hid (pairB p q = false) := pairB_no (fun h => hbad ⟨hf, ⟨by omega, by omega, by rw [Int.tmod_eq_emod_of_nonneg (by omega)] at h0; omega⟩, h⟩)
          clear hbad h0
          go_enter Try.func4, Try.ntmps4
          go_wp2_with (first
            | (go_at_call 10; refine (isFlags_any _ _).mono ?_; rw [HF.out]; rintro e w1 ⟨rfl, rfl⟩)
            | (go_at_call 11; refine (isPair_any _ _ _).mono ?_; rw [HP.out]; rintro e w1 ⟨rfl, rfl⟩))
          obtain ⟨q0, q1, q2, q3⟩ := cells4 w (.int .i64 0) (.int .i64 0) (.int .i64 0) (.int .i64 0) 24
          refine bodyPost_ret (v := .tuple #[.agg #[.int .i64 0, .int .i64 0, .int .i64 0, .int .i64 0], .int .i64 24]) (by simp [results, go_sem, q0, q1, q2, q3]) rfl ⟨rfl, (Below.refl _ _).alloc (Nat.le_refl _) _⟩
  · have HF := hide' (flB_no hf)
    clear hbad
    go_enter Try.func4, Try.ntmps4
    go_wp2_with (go_at_call 10; refine (isFlags_any _ _).mono ?_; rw [HF.out]; rintro e w1 ⟨rfl, rfl⟩)
    obtain ⟨q0, q1, q2, q3⟩ := cells4 w (.int .i64 0) (.int .i64 0) (.int .i64 0) (.int .i64 0) 24
    refine bodyPost_ret (v := .tuple #[.agg #[.int .i64 0, .int .i64 0, .int .i64 0, .int .i64 0], .int .i64 24]) (by simp [results, go_sem, q0, q1, q2, q3]) rfl ⟨rfl, (Below.refl _ _).alloc (Nat.le_refl _) _⟩

set_option maxRecDepth 100000 in
set_option maxHeartbeats 1000000 in
/-- seal.NewKey, where all of them are right -/
theorem newKey_good (a b c : Nat) (f : Int) (w : World) (hf : FlagOK f) (he : EOK c) (hp : PairOK a b) :
    Calls Try.prog 4 #[.int .i64 (a : Int), .int .i64 (b : Int), .int .i64 (c : Int), .int .i64 f] w fun r w' => r = .returned (keyR a b c f) ∧ Below w.heap.size w w' := by
  have HF := hide' (flB_yes hf)
  have HP := hide' (pairB_yes hp)
  obtain ⟨hne, h1, h2, hpa, hpb⟩ := pair_nat.1 hp
  obtain ⟨e3, e6, eo⟩ := he
  have ha2 := hpa.1
  have hb2 := hpb.1
  have hle := pair_le hp
  obtain ⟨hm2, hml⟩ := phi_le (show 2 ≤ a by omega) (show 2 ≤ b by omega) hne h2
  have hto : (c : Int).tmod 2 = 1 := by rw [Int.tmod_eq_emod_of_nonneg (by omega)]; exact eo
  obtain ⟨a1, ha1⟩ : ∃ a1 : Nat, a - 1 = a1 := ⟨_, rfl⟩
  obtain ⟨b1, hb1⟩ : ∃ b1 : Nat, b - 1 = b1 := ⟨_, rfl⟩
  obtain ⟨m, hm⟩ : ∃ m : Nat, a1 * b1 = m := ⟨_, rfl⟩
  obtain ⟨z, hz⟩ : ∃ z : Nat, a * b = z := ⟨_, rfl⟩
  rw [ha1, hb1, hm] at hm2 hml
  have ia : (a : Int) - 1 = (a1 : Int) := by omega
  have ib : (b : Int) - 1 = (b1 : Int) := by omega
  have im : (a1 : Int) * (b1 : Int) = (m : Int) := by rw [← hm]; simp
  have iz : (a : Int) * (b : Int) = (z : Int) := by rw [← hz]; simp
  have HI := hide' (fun w => inverse_any c m w (by omega) hm2 hml)
  rw [hz] at h1 h2
  have HMM := hide' (show (a - 1) * (b - 1) = m by rw [ha1, hb1, hm])
  have HZZ := hide' hz
  by_cases hg : Nat.gcd c m = 1
  · have hinv := invN_yes hm2 hg
    have HR : Hid (keyR a b c f = .tuple #[.agg #[.int .i64 f, .int .i64 (z : Int), .int .i64 (c : Int), .int .i64 (invN c m : Int)], .int .i64 0]) := by
      unfold Hid; rw [keyR_yes ⟨hf, ⟨e3, e6, eo⟩, hp, by simp only [Int.toNat_natCast]; rw [HMM.out]; exact hg⟩, HMM.out, HZZ.out]
    have i1 := hinv.1
    have i2 := hinv.2.1
    rw [HR.out]
    generalize invN c m = d at *
    have hd0 : ((d : Int) == 0) = false := by rw [beq_eq_false_iff_ne]; omega
    have hal : a ≤ 2147483647 := by omega
    have hbl : b ≤ 2147483647 := by omega
    have ha1l : a1 ≤ 2147483647 := by omega
    have hb1l : b1 ≤ 2147483647 := by omega
    clear hinv hp hpa hpb hm hz ha1 hb1 HR eo hg hne
    go_enter Try.func4, Try.ntmps4
    go_wp2_with (first
      | (go_at_call 10; refine (isFlags_any _ _).mono ?_; rw [HF.out]; rintro e w1 ⟨rfl, rfl⟩)
      | (go_at_call 11; refine (isPair_any _ _ _).mono ?_; rw [HP.out]; rintro e w1 ⟨rfl, rfl⟩)
      | (go_at_call 12; refine (HI.out _).mono ?_; rintro e w1 ⟨rfl, rfl⟩))
    obtain ⟨q0, q1, q2, q3⟩ := cells4 w (.int .i64 f) (.int .i64 (z : Int)) (.int .i64 (c : Int)) (.int .i64 (d : Int)) 24
    refine bodyPost_ret (v := .tuple #[.agg #[.int .i64 f, .int .i64 (z : Int), .int .i64 (c : Int), .int .i64 (d : Int)], .int .i64 0]) (by simp [results, go_sem, q0, q1, q2, q3]) rfl ⟨rfl, (Below.refl _ _).alloc (Nat.le_refl _) _⟩
  · have HV := invN_no hg
    rw [HV] at HI
    have HR : Hid (keyR a b c f = .tuple #[.agg #[.int .i64 0, .int .i64 0, .int .i64 0, .int .i64 0], .int .i64 24]) := keyR_no (fun h => by
      have := h.2.2.2; simp only [Int.toNat_natCast] at this; rw [HMM.out] at this; exact hg this)
    rw [HR.out]
    have hal : a ≤ 2147483647 := by omega
    have hbl : b ≤ 2147483647 := by omega
    have ha1l : a1 ≤ 2147483647 := by omega
    have hb1l : b1 ≤ 2147483647 := by omega
    clear hp hpa hpb hm hz ha1 hb1 HR eo hg hne HV
    go_enter Try.func4, Try.ntmps4
    go_wp2_with (first
      | (go_at_call 10; refine (isFlags_any _ _).mono ?_; rw [HF.out]; rintro e w1 ⟨rfl, rfl⟩)
      | (go_at_call 11; refine (isPair_any _ _ _).mono ?_; rw [HP.out]; rintro e w1 ⟨rfl, rfl⟩)
      | (go_at_call 12; refine (HI.out _).mono ?_; rintro e w1 ⟨rfl, rfl⟩))
    obtain ⟨q0, q1, q2, q3⟩ := cells4 w (.int .i64 0) (.int .i64 0) (.int .i64 0) (.int .i64 0) 24
    refine bodyPost_ret (v := .tuple #[.agg #[.int .i64 0, .int .i64 0, .int .i64 0, .int .i64 0], .int .i64 24]) (by simp [results, go_sem, q0, q1, q2, q3]) rfl ⟨rfl, (Below.refl _ _).alloc (Nat.le_refl _) _⟩

/-- seal.NewKey -/
theorem newKey_any (p q e f : Int) (w : World) :
    Calls Try.prog 4 #[.int .i64 p, .int .i64 q, .int .i64 e, .int .i64 f] w fun r w' => r = .returned (keyR p q e f) ∧ Below w.heap.size w w' := by
  rcases Classical.em (FlagOK f ∧ EOK e ∧ PairOK p q) with h | h
  · obtain ⟨hf, he, hp⟩ := h
    obtain ⟨a, rfl⟩ : ∃ a : Nat, p = (a : Int) := ⟨p.toNat, by have := hp.1; omega⟩
    obtain ⟨b, rfl⟩ : ∃ b : Nat, q = (b : Int) := ⟨q.toNat, by have := hp.2.1; omega⟩
    obtain ⟨c, rfl⟩ : ∃ c : Nat, e = (c : Int) := ⟨e.toNat, by have := he.1; omega⟩
    exact newKey_good a b c f w hf he hp
  · exact newKey_bad p q e f w h
end Go.Proofs.Ytjnhkiibnmbmfaa
