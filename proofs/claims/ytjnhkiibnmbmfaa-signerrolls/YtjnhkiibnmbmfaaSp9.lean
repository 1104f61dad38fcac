import Derived.Test.YtjnhkiibnmbmfaaSp8
/-
  Chapter 7: sameLine, samePlanKeys. (The verifier's own text.)
-/
namespace Go.Proofs.Ytjnhkiibnmbmfaa
set_option linter.unusedVariables false
set_option linter.unusedSimpArgs false
open Go.RowKit Go.Shelf Go.Proofs.Ytjnhkiibnmbmfaa.Nm

set_option maxRecDepth 100000 in
set_option maxHeartbeats 1000000 in
/-- sameLine, at two lines that are the same -/
theorem sameLine_same (L : List Tk) (px py : Option Addr) (n cx cy : Nat) (w : World) (hn : L.length = n) (hx : TsAt w px L) (hy : TsAt w py L) (hll : L.length ≤ 4294967296) :
    Calls Try.prog 7 #[.slice px n cx, .slice py n cy] w fun e w' => e = .returned (.bool true) ∧ Below w.heap.size w w' := by
  subst hn
  have HX := hide' hx
  have HY := hide' hy
  clear hx hy
  go_enter Try.func7, Try.ntmps7
  go_wp2
  go_loopw [13] (fun i wr => ∃ k : Nat, i = .int .i64 k ∧ k ≤ L.length ∧ Below w.heap.size w wr) (fun i _ => L.length - (intOf i).toNat)
  case atStart => exact ⟨0, rfl, Nat.zero_le _, Below.refl _ _⟩
  case round =>
    obtain ⟨k, rfl, hk, hB⟩ := hrel
    by_cases hlt : k < L.length
    · obtain ⟨gx, ox, rfl, hgx, e0, e1, e2, e3, e4, e5, e6, e7⟩ := TsAt.cells (row_below' HX.out hB) k hlt
      obtain ⟨gy, oy, rfl, hgy, d0, d1, d2, d3, d4, d5, d6, d7⟩ := TsAt.cells (row_below' HY.out hB) k hlt
      generalize L[k] = X at *
      obtain ⟨f, m, e, s, p, a, r, x⟩ := X
      dsimp only at e0 e1 e2 e3 e4 e5 e6 e7 d0 d1 d2 d3 d4 d5 d6 d7
      go_wp2
      go_quiet (fail)
      go_wp2
      all_goals
        go_roundw
        case rel => exact ⟨k + 1, by go_num, by omega, below_drewN hB _⟩
        case measure => simp [intOf]; omega
    · go_wp2
      go_ret
      exact ⟨rfl, hB⟩
end Go.Proofs.Ytjnhkiibnmbmfaa
