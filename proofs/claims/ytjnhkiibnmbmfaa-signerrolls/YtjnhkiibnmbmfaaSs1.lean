import Derived.Test.YtjnhkiibnmbmfaaSp9
import Derived.Test.YtjnhkiibnmbmfaaSk10
/-
  Chapter 7: ages, right keys, lines. (The verifier's own text.)
-/
namespace Go.Proofs.Ytjnhkiibnmbmfaa
set_option linter.unusedVariables false
set_option linter.unusedSimpArgs false
open Go.RowKit Go.Shelf Go.Proofs.Ytjnhkiibnmbmfaa.Nm

/-- may something be kept so long -/
def ageB (n : Int) : Bool := decide (0 ≤ n) && decide (n ≤ 2147483647)
set_option maxRecDepth 100000 in
set_option maxHeartbeats 1000000 in
/-- signer.isAge -/
theorem isAge_any (n : Int) (w : World) : Calls Try.prog 13 #[.int .i64 n] w fun r w' => r = .returned (.bool (ageB n)) ∧ w' = w := by
  unfold ageB
  go_enter Try.func13, Try.ntmps13
  by_cases h1 : 0 ≤ n
  · by_cases h2 : n ≤ 2147483647
    · go_wp2
      go_ret
      exact ⟨by simp [h1, h2], rfl⟩
    · go_wp2
      go_ret
      exact ⟨by simp [h1, h2], rfl⟩
  · go_wp2
    go_ret
    exact ⟨by simp; omega, rfl⟩
theorem pubB_empty (f m e s : Int) : (pubB f m e s = ⟨#[]⟩) ↔ rkB f m e s = false := by
  unfold pubB
  cases h : rkB f m e s with
  | true =>
    simp only [cond_true, reduceCtorEq, iff_false]
    intro e'
    have := congrArg ByteArray.size e'
    rw [pubN_size] at this
    cases this
  | false => simp
set_option maxRecDepth 100000 in
set_option maxHeartbeats 1000000 in
/-- signer.isRight -/
theorem sIsRight_any (f m e s : Int) (w : World) : Calls Try.prog 16 #[.agg #[.int .i64 f, .int .i64 m, .int .i64 e, .int .i64 s]] w fun r w' => r = .returned (.bool (rkB f m e s)) ∧ Below w.heap.size w w' := by
  have HP := hide' (public_any f m e s)
  have HE := hide' (pubB_empty f m e s)
  obtain ⟨P, hP⟩ : ∃ P, pubB f m e s = P := ⟨_, rfl⟩
  rw [hP] at HP HE
  clear hP
  cases hr : rkB f m e s with
  | true =>
    have hne : P ≠ ⟨#[]⟩ := fun h => by rw [HE.out.1 h] at hr; cases hr
    clear hr HE
    go_enter Try.func16, Try.ntmps16
    go_wp2_with (go_at_call 18; refine (HP.out _).mono ?_; rintro r w1 ⟨rfl, hB1⟩)
    go_ret
    refine ⟨?_, bstep (below_one w _) hB1 (by rw [World.size_alloc]; omega)⟩
    have hl : P.toList.isEmpty = false := isEmpty_false (Nat.pos_of_ne_zero fun hz => hne (ByteArray.ext (Array.eq_empty_of_size_eq_zero hz)))
    simp [hl]
  | false =>
    obtain rfl : P = ⟨#[]⟩ := HE.out.2 hr
    clear hr HE
    go_enter Try.func16, Try.ntmps16
    go_wp2_with (go_at_call 18; refine (HP.out _).mono ?_; rintro r w1 ⟨rfl, hB1⟩)
    go_ret
    exact ⟨rfl, bstep (below_one w _) hB1 (by rw [World.size_alloc]; omega)⟩
end Go.Proofs.Ytjnhkiibnmbmfaa
