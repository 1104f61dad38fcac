import Derived.Test.YtnnmgcdhidmmeaaWu3
import Derived.Test.YtnnmgcdhidmmeaaGr1
namespace Go.Proofs.Ytnnmgcdhidmmeaa
set_option linter.unusedVariables false
open Go.RowKit Go.Shelf Go.Proofs.Ytnnmgcdhidmmeaa.Nm

set_option maxRecDepth 100000 in
set_option maxHeartbeats 1000000 in
/-- wire.shapeOf -/
theorem shapeOf_any (t : Int) (w : World) :
    Calls Try.prog 34 #[.int .i64 t] w fun e w' => e = .returned (.agg #[.int .i64 ((shp t).1 : Int), .int .i64 ((shp t).2 : Int)]) ∧ Below w.heap.size w w' := by
  have hB0 : ∀ o : Obj, Below w.heap.size w (w.alloc o) := fun o => (Below.refl _ w).alloc (Nat.le_refl _) o
  by_cases h2 : t = 2
  · subst h2
    go_enter Try.func34, Try.ntmps34
    go_wp2
    refine bodyPost_ret (v := .agg #[.int .i64 0, .int .i64 1]) (by simp [results, go_sem]) rfl ⟨rfl, hB0 _⟩
  have b2 : (t == 2) = false := by rw [beq_eq_false_iff_ne]; exact h2
  by_cases h5 : t = 5
  · subst h5
    go_enter Try.func34, Try.ntmps34
    go_wp2
    refine bodyPost_ret (v := .agg #[.int .i64 0, .int .i64 1]) (by simp [results, go_sem]) rfl ⟨rfl, hB0 _⟩
  have b5 : (t == 5) = false := by rw [beq_eq_false_iff_ne]; exact h5
  by_cases h12 : t = 12
  · subst h12
    go_enter Try.func34, Try.ntmps34
    go_wp2
    refine bodyPost_ret (v := .agg #[.int .i64 0, .int .i64 1]) (by simp [results, go_sem]) rfl ⟨rfl, hB0 _⟩
  have b12 : (t == 12) = false := by rw [beq_eq_false_iff_ne]; exact h12
  by_cases h6 : t = 6
  · subst h6
    go_enter Try.func34, Try.ntmps34
    go_wp2
    refine bodyPost_ret (v := .agg #[.int .i64 0, .int .i64 2]) (by simp [results, go_sem]) rfl ⟨rfl, hB0 _⟩
  have b6 : (t == 6) = false := by rw [beq_eq_false_iff_ne]; exact h6
  by_cases h15 : t = 15
  · subst h15
    go_enter Try.func34, Try.ntmps34
    go_wp2
    refine bodyPost_ret (v := .agg #[.int .i64 2, .int .i64 1]) (by simp [results, go_sem]) rfl ⟨rfl, hB0 _⟩
  have b15 : (t == 15) = false := by rw [beq_eq_false_iff_ne]; exact h15
  have HE : Hid (shp t = (0, 0)) := by unfold Hid shp; rw [if_neg (by omega), if_neg (by omega), if_neg (by omega)]
  go_enter Try.func34, Try.ntmps34
  go_wp2
  refine bodyPost_ret (v := .agg #[.int .i64 0, .int .i64 0]) (by simp [results, go_sem]) rfl ⟨by rw [HE.out]; rfl, hB0 _⟩

end Go.Proofs.Ytnnmgcdhidmmeaa
