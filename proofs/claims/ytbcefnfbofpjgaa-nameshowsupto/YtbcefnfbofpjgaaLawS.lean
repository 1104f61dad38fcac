import Derived.Test.YtbcefnfbofpjgaaShP
namespace Go.Proofs.Ytbcefnfbofpjgaa
set_option linter.unusedVariables false
open Go.RowKit Go.Shelf Nm

set_option maxHeartbeats 1000000 in
theorem shows_walk (n : ByteArray) (w : World) (hn : n.size ≤ 1048576) :
    Calls Try.prog 3 #[.string n] w fun e w' => e = .returned (.bool true) ∧ Below w.heap.size w w' := by
  have hB0 := Below.refl w.heap.size w
  have hn' := small_max hn
  go_enter Try.func3, Try.ntmps3
  go_wp2_with (first
    | (go_at_call 8; refine (check_any _ _ hn').mono ?_; rintro e w1 ⟨rfl, hB1⟩; have hB0 := ext_t hB0 hB1; clear hB1)
    | (go_at_call 9; refine (refCheck_any _ _ hn).mono ?_; rintro e w1 ⟨rfl, hB1⟩; have hB0 := ext_t hB0 hB1; clear hB1)
    | (go_at_call 10; refine (show_any _ _ hn').mono ?_; rintro e w1 ⟨rfl, hB1⟩; have hB0 := ext_t hB0 hB1; clear hB1)
    | (go_at_call 11; refine (showName_any _ _ hn).mono ?_; rintro e w1 ⟨rfl, hB1⟩; have hB0 := ext_t hB0 hB1; clear hB1)
    | (go_at_call 12; refine (fold_any _ _ hn').mono ?_; rintro e w1 ⟨rfl, hB1⟩; have hB0 := ext_t hB0 hB1; clear hB1)
    | (go_at_call 13; refine (foldName_any _ _ hn).mono ?_; rintro e w1 ⟨rfl, hB1⟩; have hB0 := ext_t hB0 hB1; clear hB1))
  go_ret
  refine ⟨by simp, ?_⟩
  assumption
end Go.Proofs.Ytbcefnfbofpjgaa
