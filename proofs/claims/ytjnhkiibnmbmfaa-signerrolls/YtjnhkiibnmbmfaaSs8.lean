import Derived.Test.YtjnhkiibnmbmfaaSs7
/-
  Chapter 7: Safe, walked. (The verifier's own text.)
-/
namespace Go.Proofs.Ytjnhkiibnmbmfaa
set_option linter.unusedVariables false
set_option linter.unusedSimpArgs false
open Go.RowKit Go.Shelf Go.Sort Go.Proofs.Ytjnhkiibnmbmfaa.Nm

set_option maxRecDepth 100000 in
set_option maxHeartbeats 2000000 in
/-- signer.Safe, at wrong ages or times -/
theorem safe_args (L : List Tk) (p : Option Addr) (cap : Nat) (ka sa fr to : Int) (w : World) (h : argsB ka sa fr to = false) :
    Calls Try.prog 8 #[.slice p L.length cap, .int .i64 ka, .int .i64 sa, .int .i64 fr, .int .i64 to] w fun r w' => r = errR 23 ∧ Below w.heap.size w w' := by
  have HA1 := hide' (isAge_any ka)
  have HA2 := hide' (isAge_any sa)
  unfold argsB at h
  cases h1 : ageB ka with
  | false =>
    rw [h1] at HA1
    clear h h1
    go_enter Try.func8, Try.ntmps8
    go_wp2_with (first | (go_at_call 13; refine (HA1.out _).mono ?_; rintro r1 w1 ⟨rfl, rfl⟩) | (go_at_call 13; refine (HA2.out _).mono ?_; rintro r2 w2 ⟨rfl, rfl⟩))
    refine bodyPost_ret (v := .tuple #[.int .i64 0, .int .i64 0, .int .i64 23]) (by simp [results, go_sem]) rfl ?_
    exact ⟨rfl, Below.refl _ _⟩
  | true =>
    cases h2 : ageB sa with
    | false =>
      rw [h1] at HA1
      rw [h2] at HA2
      clear h h1 h2
      go_enter Try.func8, Try.ntmps8
      go_wp2_with (first | (go_at_call 13; refine (HA1.out _).mono ?_; rintro r1 w1 ⟨rfl, rfl⟩) | (go_at_call 13; refine (HA2.out _).mono ?_; rintro r2 w2 ⟨rfl, rfl⟩))
      refine bodyPost_ret (v := .tuple #[.int .i64 0, .int .i64 0, .int .i64 23]) (by simp [results, go_sem]) rfl ?_
      exact ⟨rfl, Below.refl _ _⟩
    | true =>
      rw [h1, h2] at h
      rw [h1] at HA1
      rw [h2] at HA2
      clear h1 h2
      by_cases h3 : 0 ≤ fr
      · by_cases h4 : fr ≤ to
        · have h5 : ¬ to ≤ 4294967295 := fun h5 => by rw [decide_eq_true h3, decide_eq_true h4, decide_eq_true h5] at h; cases h
          clear h
          go_enter Try.func8, Try.ntmps8
          go_wp2_with (first | (go_at_call 13; refine (HA1.out _).mono ?_; rintro r1 w1 ⟨rfl, rfl⟩) | (go_at_call 13; refine (HA2.out _).mono ?_; rintro r2 w2 ⟨rfl, rfl⟩))
          refine bodyPost_ret (v := .tuple #[.int .i64 0, .int .i64 0, .int .i64 23]) (by simp [results, go_sem]) rfl ?_
          exact ⟨rfl, Below.refl _ _⟩
        · clear h
          go_enter Try.func8, Try.ntmps8
          go_wp2_with (first | (go_at_call 13; refine (HA1.out _).mono ?_; rintro r1 w1 ⟨rfl, rfl⟩) | (go_at_call 13; refine (HA2.out _).mono ?_; rintro r2 w2 ⟨rfl, rfl⟩))
          refine bodyPost_ret (v := .tuple #[.int .i64 0, .int .i64 0, .int .i64 23]) (by simp [results, go_sem]) rfl ?_
          exact ⟨rfl, Below.refl _ _⟩
      · clear h
        go_enter Try.func8, Try.ntmps8
        go_wp2_with (first | (go_at_call 13; refine (HA1.out _).mono ?_; rintro r1 w1 ⟨rfl, rfl⟩) | (go_at_call 13; refine (HA2.out _).mono ?_; rintro r2 w2 ⟨rfl, rfl⟩))
        refine bodyPost_ret (v := .tuple #[.int .i64 0, .int .i64 0, .int .i64 23]) (by simp [results, go_sem]) rfl ?_
        exact ⟨rfl, Below.refl _ _⟩
set_option maxRecDepth 100000 in
set_option maxHeartbeats 2000000 in
/-- signer.Safe, at a line that isn't right -/
theorem safe_form (L : List Tk) (p : Option Addr) (cap : Nat) (ka sa fr to : Int) (w : World) (hL : L.length ≤ 1048576) (hat : TsAt w p L) (h : argsB ka sa fr to = true) (hl : lineB L = false) :
    Calls Try.prog 8 #[.slice p L.length cap, .int .i64 ka, .int .i64 sa, .int .i64 fr, .int .i64 to] w fun r w' => r = errR 8 ∧ Below w.heap.size w w' := by
  have HA1 := hide' (isAge_any ka)
  have HA2 := hide' (isAge_any sa)
  have HLN := hide' (isLine_any L p cap w (by omega) hat)
  rw [hl] at HLN
  simp only [argsB, Bool.and_eq_true, decide_eq_true_eq] at h
  obtain ⟨h1, h2, h3, h4, h5⟩ := h
  rw [h1] at HA1
  rw [h2] at HA2
  clear h1 h2 hat hl
  go_enter Try.func8, Try.ntmps8
  go_wp2_with (first | (go_at_call 13; refine (HA1.out _).mono ?_; rintro r1 w1 ⟨rfl, rfl⟩) | (go_at_call 13; refine (HA2.out _).mono ?_; rintro r2 w2 ⟨rfl, rfl⟩) | (go_at_call 15; refine HLN.out.mono ?_; rintro r3 w3 ⟨rfl, hB3⟩))
  refine bodyPost_ret (v := .tuple #[.int .i64 0, .int .i64 0, .int .i64 8]) (by simp [results, go_sem]) rfl ?_
  exact ⟨rfl, hB3⟩
end Go.Proofs.Ytjnhkiibnmbmfaa
