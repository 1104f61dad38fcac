import Derived.Test.YtjnhkiibnmbmfaaSp1
import Derived.Deep.AppendLies
import Derived.Deep.RegionHeldLaw
import Derived.Deep.RegionLaw
import Derived.Maps.AppendAt
/-
  Chapter 7: the plan of a time, of the program and of the reference. (The verifier's own text.)
-/
namespace Go.Proofs.Ytjnhkiibnmbmfaa
set_option linter.unusedVariables false
set_option linter.unusedSimpArgs false
open Go.RowKit Go.Shelf Go.Proofs.Ytjnhkiibnmbmfaa.Nm

/-- a key with its times, as it is handed over -/
def tkA (k : Tk) : Value := .agg #[.int .i64 k.f, .int .i64 k.m, .int .i64 k.e, .int .i64 k.s, .int .i64 k.p, .int .i64 k.a, .int .i64 k.r, .int .i64 k.x]
set_option maxRecDepth 100000 in
set_option maxHeartbeats 1000000 in
/-- signer.isTold -/
theorem isTold_any (k : Tk) (t : Int) (w : World) :
    Calls Try.prog 40 #[tkA k, .int .i64 t] w fun r w' => r = .returned (.bool (told k t)) ∧ Below w.heap.size w w' := by
  obtain ⟨f, m, e, s, p, a, r, x⟩ := k
  unfold told tkA
  go_enter Try.func40, Try.ntmps40
  by_cases h1 : p ≤ t
  · by_cases h2 : t < x
    · go_wp2
      go_ret
      exact ⟨by simp [h1, h2], (Below.refl _ _).alloc (Nat.le_refl _) _⟩
    · go_wp2
      go_ret
      exact ⟨by simp [h1, h2], (Below.refl _ _).alloc (Nat.le_refl _) _⟩
  · go_wp2
    go_ret
    exact ⟨by simp; omega, (Below.refl _ _).alloc (Nat.le_refl _) _⟩
set_option maxRecDepth 100000 in
set_option maxHeartbeats 1000000 in
/-- signer.doesSign -/
theorem doesSign_any (k : Tk) (t : Int) (w : World) :
    Calls Try.prog 41 #[tkA k, .int .i64 t] w fun r w' => r = .returned (.bool (signs k t)) ∧ Below w.heap.size w w' := by
  obtain ⟨f, m, e, s, p, a, r, x⟩ := k
  unfold signs tkA
  go_enter Try.func41, Try.ntmps41
  by_cases h1 : a ≤ t
  · by_cases h2 : t < r
    · go_wp2
      go_ret
      exact ⟨by simp [h1, h2], (Below.refl _ _).alloc (Nat.le_refl _) _⟩
    · go_wp2
      go_ret
      exact ⟨by simp [h1, h2], (Below.refl _ _).alloc (Nat.le_refl _) _⟩
  · go_wp2
    go_ret
    exact ⟨by simp; omega, (Below.refl _ _).alloc (Nat.le_refl _) _⟩
end Go.Proofs.Ytjnhkiibnmbmfaa
