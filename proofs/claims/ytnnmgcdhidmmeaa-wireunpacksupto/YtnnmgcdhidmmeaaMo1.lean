import Derived.Test.YtnnmgcdhidmmeaaWc3G
import Derived.Test.YtnnmgcdhidmmeaaGr1
namespace Go.Proofs.Ytnnmgcdhidmmeaa
set_option linter.unusedVariables false
open Go.RowKit Go.Shelf Go.Proofs.Ytnnmgcdhidmmeaa.Nm

set_option maxRecDepth 100000 in
set_option maxHeartbeats 4000000 in
/-- wire.marksOf -/
theorem marksOf_any (g : Nat) (w : World) :
    Calls Try.prog 18 #[.pointer (some ⟨g, 0, none⟩)] w fun e w' => e = .returned (.agg #[.pointer (some ⟨g, 1, none⟩), .int .i64 15, .pointer (some ⟨g, 3, none⟩), .int .i64 10, .pointer (some ⟨g, 4, none⟩), .int .i64 9, .pointer (some ⟨g, 5, none⟩), .int .i64 8, .pointer (some ⟨g, 6, none⟩), .int .i64 7, .pointer (some ⟨g, 7, none⟩), .int .i64 5, .pointer (some ⟨g, 8, none⟩), .int .i64 4]) ∧ Below w.heap.size w w' := by
  go_enter Try.func18, Try.ntmps18
  go_wp2
  go_region
  go_wp2
  refine bodyPost_ret (v := .agg #[.pointer (some ⟨g, 1, none⟩), .int .i64 15, .pointer (some ⟨g, 3, none⟩), .int .i64 10, .pointer (some ⟨g, 4, none⟩), .int .i64 9, .pointer (some ⟨g, 5, none⟩), .int .i64 8, .pointer (some ⟨g, 6, none⟩), .int .i64 7, .pointer (some ⟨g, 7, none⟩), .int .i64 5, .pointer (some ⟨g, 8, none⟩), .int .i64 4]) (by simp [results, go_sem]) rfl ⟨rfl, ?_⟩
  exact ((Below.refl _ w).alloc (Nat.le_refl _) _).drew
end Go.Proofs.Ytnnmgcdhidmmeaa
