import Derived.Test.YtgbbcalkiekfeaaSk5
namespace Go.Proofs.Ytgbbcalkiekfeaa
set_option linter.unusedVariables false
open Go.RowKit Go.Shelf Go.Proofs.Ytgbbcalkiekfeaa.Nm

theorem below_two (w : World) (o o' : Obj) : Below w.heap.size w ((w.alloc o).alloc o') := ((Below.refl _ _).alloc (Nat.le_refl _) _).alloc (by rw [World.size_alloc]; omega) _
theorem cells4t (w : World) (a b c d : Value) (t : TypeId) (o : Obj) : ((w.alloc (.cells #[a, b, c, d] t)).alloc o).cell? ⟨w.heap.size, 0, none⟩ = some a ∧ ((w.alloc (.cells #[a, b, c, d] t)).alloc o).cell? ⟨w.heap.size, 1, none⟩ = some b ∧ ((w.alloc (.cells #[a, b, c, d] t)).alloc o).cell? ⟨w.heap.size, 2, none⟩ = some c ∧ ((w.alloc (.cells #[a, b, c, d] t)).alloc o).cell? ⟨w.heap.size, 3, none⟩ = some d := by
  obtain ⟨h0, h1, h2, h3⟩ := cells4 w a b c d t
  exact ⟨cell_alloc_l _ h0, cell_alloc_l _ h1, cell_alloc_l _ h2, cell_alloc_l _ h3⟩

set_option maxRecDepth 100000 in
set_option maxHeartbeats 1000000 in
/-- gazetteerref4.NewKey, where the primes aren't -/
theorem refKey_pair (p q e f : Int) (w : World) (hbad : ¬ PairOK p q) :
    Calls Try.prog 5 #[.int .i64 p, .int .i64 q, .int .i64 e, .int .i64 f] w fun r w' => r = .returned (keyR p q e f) ∧ Below w.heap.size w w' := by
  rw [keyR_no (fun h => hbad h.2.2.1)]
  obtain ⟨q0, q1, q2, q3⟩ := cells4t w (.int .i64 0) (.int .i64 0) (.int .i64 0) (.int .i64 0) 23 (.cells #[.int .i64 0, .int .i64 0, .int .i64 0, .int .i64 0] 23)
  have HQ := hide' (And.intro q0 (And.intro q1 (And.intro q2 q3)))
  clear q0 q1 q2 q3
  have hcase : p < 2 ∨ (2 ≤ p ∧ q < 2) ∨ (2 ≤ p ∧ 2 ≤ q ∧ 2147483648 < p) ∨ (2 ≤ p ∧ 2 ≤ q ∧ p ≤ 2147483648 ∧ 2147483648 < q) ∨ (2 ≤ p ∧ 2 ≤ q ∧ p ≤ 2147483648 ∧ q ≤ 2147483648) := by omega
  rcases hcase with h1 | ⟨h1, h2⟩ | ⟨h1, h2, h3⟩ | ⟨h1, h2, h3, h4⟩ | ⟨h1, h2, h3, h4⟩
  iterate 4
    · clear hbad
      go_enter Try.func5, Try.ntmps5
      go_wp2
      obtain ⟨q0, q1, q2, q3⟩ := HQ.out
      refine bodyPost_ret (v := .tuple #[.agg #[.int .i64 0, .int .i64 0, .int .i64 0, .int .i64 0], .int .i64 24]) (by simp [results, go_sem, q0, q1, q2, q3]) rfl ⟨rfl, below_two w _ _⟩
  obtain ⟨a, rfl⟩ : ∃ a : Nat, p = (a : Int) := ⟨p.toNat, by omega⟩
  obtain ⟨b, rfl⟩ : ∃ b : Nat, q = (b : Int) := ⟨q.toNat, by omega⟩
  by_cases h5 : a = b
  · have e1 : ((a : Int) == (b : Int)) = true := by rw [h5]; simp
    clear hbad h5
    go_enter Try.func5, Try.ntmps5
    go_wp2
    obtain ⟨q0, q1, q2, q3⟩ := HQ.out
    refine bodyPost_ret (v := .tuple #[.agg #[.int .i64 0, .int .i64 0, .int .i64 0, .int .i64 0], .int .i64 24]) (by simp [results, go_sem, q0, q1, q2, q3]) rfl ⟨rfl, below_two w _ _⟩
  have e1 : ((a : Int) == (b : Int)) = false := by rw [beq_eq_false_iff_ne]; omega
  obtain ⟨z, hz⟩ : ∃ z : Nat, a * b = z := ⟨_, rfl⟩
  have hzi : (a : Int) * (b : Int) = (z : Int) := by rw [← hz]; simp
  have hzl : z ≤ 4611686018427387904 := by rw [← hz]; exact Nat.mul_le_mul (show a ≤ 2147483648 by omega) (show b ≤ 2147483648 by omega)
  by_cases h6 : 65537 ≤ z
  · by_cases h7 : z ≤ 2147483647
    · have hal : a ≤ 2147483647 := by
        have : a * 2 ≤ a * b := Nat.mul_le_mul_left a (by omega)
        omega
      have hbl : b ≤ 2147483647 := by
        have : 2 * b ≤ a * b := Nat.mul_le_mul_right b (by omega)
        omega
      have g7 : decide ((2147483648 : Int) ≤ (z : Int)) = false := decide_eq_false (by omega)
      have T1 : Hid True := trivial
      cases hpa : prB a with
      | false =>
        have HA := hide' hpa
        clear hbad hpa hz h5 h7
        go_enter Try.func5, Try.ntmps5
        go_wp2_with (go_at_call 15; have _ := T1; clear T1; refine (refPrime_any a _ hal).mono ?_; rw [HA.out]; rintro e w1 ⟨rfl, rfl⟩)
        obtain ⟨q0, q1, q2, q3⟩ := HQ.out
        refine bodyPost_ret (v := .tuple #[.agg #[.int .i64 0, .int .i64 0, .int .i64 0, .int .i64 0], .int .i64 24]) (by simp [results, go_sem, q0, q1, q2, q3]) rfl ⟨rfl, below_two w _ _⟩
      | true =>
        cases hpb : prB b with
        | false =>
          have HA := hide' hpa
          have HB := hide' hpb
          clear hbad hpa hpb hz h5 h7
          go_enter Try.func5, Try.ntmps5
          go_wp2_with (first
            | (go_at_call 15; have _ := T1; clear T1; refine (refPrime_any a _ hal).mono ?_; rw [HA.out]; rintro e w1 ⟨rfl, rfl⟩)
            | (go_at_call 15; refine (refPrime_any b _ hbl).mono ?_; rw [HB.out]; rintro e w1 ⟨rfl, rfl⟩))
          obtain ⟨q0, q1, q2, q3⟩ := HQ.out
          refine bodyPost_ret (v := .tuple #[.agg #[.int .i64 0, .int .i64 0, .int .i64 0, .int .i64 0], .int .i64 24]) (by simp [results, go_sem, q0, q1, q2, q3]) rfl ⟨rfl, below_two w _ _⟩
        | true => exact absurd (pair_nat.2 ⟨h5, by omega, by omega, prB_of hpa, prB_of hpb⟩) hbad
    · have g7 : (2147483648 : Int) ≤ (z : Int) := by omega
      clear hbad hz h5 h7
      go_enter Try.func5, Try.ntmps5
      go_wp2
      obtain ⟨q0, q1, q2, q3⟩ := HQ.out
      refine bodyPost_ret (v := .tuple #[.agg #[.int .i64 0, .int .i64 0, .int .i64 0, .int .i64 0], .int .i64 24]) (by simp [results, go_sem, q0, q1, q2, q3]) rfl ⟨rfl, below_two w _ _⟩
  · clear hbad hz h5
    go_enter Try.func5, Try.ntmps5
    go_wp2
    obtain ⟨q0, q1, q2, q3⟩ := HQ.out
    refine bodyPost_ret (v := .tuple #[.agg #[.int .i64 0, .int .i64 0, .int .i64 0, .int .i64 0], .int .i64 24]) (by simp [results, go_sem, q0, q1, q2, q3]) rfl ⟨rfl, below_two w _ _⟩
end Go.Proofs.Ytgbbcalkiekfeaa
