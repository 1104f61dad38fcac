import Derived.Test.YtbcefnfbofpjgaaRCm
namespace Go.Proofs.Ytbcefnfbofpjgaa
set_option linter.unusedVariables false
open Go.RowKit Go.Shelf Nm

set_option maxRecDepth 100000 in
set_option maxHeartbeats 1000000 in
theorem compares_walk (a b : ByteArray) (w : World) (ha : a.size ≤ 1048576) (hb : b.size ≤ 1048576) :
    Calls Try.prog 4 #[.string a, .string b] w fun e w' => e = .returned (.bool true) ∧ Below w.heap.size w w' := by
  have hB0 := Below.refl w.heap.size w
  have ha' := small_max ha
  have hb' := small_max hb
  go_enter Try.func4, Try.ntmps4
  go_wp2_with (first
    | (go_at_call 14; refine (equal_any _ _ _ ha' hb').mono ?_; rintro e w1 ⟨rfl, hB1⟩; have hB0 := ext_t hB0 hB1; clear hB1)
    | (go_at_call 15; refine (equalName_any _ _ _ ha hb).mono ?_; rintro e w1 ⟨rfl, hB1⟩; have hB0 := ext_t hB0 hB1; clear hB1)
    | (go_at_call 16; refine (compare_any _ _ _ ha' hb').mono ?_; rintro e w1 ⟨rfl, hB1⟩; have hB0 := ext_t hB0 hB1; clear hB1)
    | (go_at_call 17; refine (refCompare_any _ _ _ ha hb).mono ?_; rintro e w1 ⟨rfl, hB1⟩; have hB0 := ext_t hB0 hB1; clear hB1)
    | (go_at_call 18; refine (within_any _ _ _ ha' hb').mono ?_; rintro e w1 ⟨rfl, hB1⟩; have hB0 := ext_t hB0 hB1; clear hB1)
    | (go_at_call 19; refine (refWithin_any _ _ _ ha hb).mono ?_; rintro e w1 ⟨rfl, hB1⟩; have hB0 := ext_t hB0 hB1; clear hB1)
    | (go_at_call 20; refine (common_any _ _ _ ha' hb').mono ?_; rintro e w1 ⟨rfl, hB1⟩; have hB0 := ext_t hB0 hB1; clear hB1)
    | (go_at_call 21; refine (refCommon_any _ _ _ ha hb).mono ?_; rintro e w1 ⟨rfl, hB1⟩; have hB0 := ext_t hB0 hB1; clear hB1))
  go_ret
  refine ⟨?_, ?_⟩
  · simp
  · assumption
end Go.Proofs.Ytbcefnfbofpjgaa
