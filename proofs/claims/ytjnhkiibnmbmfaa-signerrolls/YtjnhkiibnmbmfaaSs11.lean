import Derived.Test.YtjnhkiibnmbmfaaSs8
import Derived.Test.YtjnhkiibnmbmfaaSs10
import Derived.Deep.Cut
/-
  Chapter 7: Safe, in all. (The verifier's own text.)
-/
namespace Go.Proofs.Ytjnhkiibnmbmfaa
set_option linter.unusedVariables false
set_option linter.unusedSimpArgs false
open Go.RowKit Go.Shelf Go.Sort Go.Proofs.Ytjnhkiibnmbmfaa.Nm

set_option maxRecDepth 100000 in
set_option maxHeartbeats 4000000 in
/-- signer.Safe, in all -/
theorem safe_good (L : List Tk) (p : Option Addr) (cap : Nat) (ka sa fr to : Int) (w : World) (hL : L.length ≤ 1048576) (hat : TsAt w p L) (h : argsB ka sa fr to = true) (hl : lineB L = true) :
    Calls Try.prog 8 #[.slice p L.length cap, .int .i64 ka, .int .i64 sa, .int .i64 fr, .int .i64 to] w fun r w' => safeEnd L ka sa fr to r ∧ Below w.heap.size w w' := by
  have HA1 := hide' (isAge_any ka)
  have HA2 := hide' (isAge_any sa)
  have HLN := hide' (isLine_any L p cap w (by omega) hat)
  rw [hl] at HLN
  have HARG := hide' h
  have HLB := hide' hl
  have HAT := hide' hat
  simp only [argsB, Bool.and_eq_true, decide_eq_true_eq] at h
  obtain ⟨h1, h2, h3, h4, h5⟩ := h
  rw [h1] at HA1
  rw [h2] at HA2
  have hk1 : 0 ≤ ka ∧ ka ≤ 2147483647 := by simpa [ageB] using h1
  have hk2 : 0 ≤ sa ∧ sa ≤ 2147483647 := by simpa [ageB] using h2
  clear h1 h2 hat hl
  go_enter Try.func8, Try.ntmps8
  go_upto_region 5 with (first
    | (go_at_call 13; refine (HA1.out _).mono ?_; rintro r1 w1 ⟨rfl, rfl⟩)
    | (go_at_call 13; refine (HA2.out _).mono ?_; rintro r2 w2 ⟨rfl, rfl⟩)
    | (go_at_call 15; refine HLN.out.mono ?_; rintro r3 w3 ⟨rfl, hB3⟩; have HB3 := hide' hB3; clear hB3))
  rename_i K hK
  have HK := hide' hK
  clear hK
  go_wp2_with (go_at_call 23; refine (turns1_any L p cap fr _ hL (TsAt.below HAT.out HB3.out)).mono ?_; rintro r4 w4 ⟨g4, c4, M4, rfl, hg4, hgl4, hn4, hm4, hl4, hB4⟩; have HB4 := hide' (bstep HB3.out hB4 HB3.out.size); have HN4 := hide' hn4; have HM4 := hide' hm4; clear hB4 hn4 hm4)
  refine HK.out _ _ ?_
  exact safe_tail5 L p cap ka sa fr to _ w4 hL HAT HB4 hk1 hk2 h3 h4 h5 HARG HLB g4 c4 M4 HN4 hgl4 HM4 (by omega) _ _ _ _ _ _ _ _ _ _ _ _ _ _ _ _ _ _ _ _ _ _ _ _ _ _ _ _ _ _ _ _ _ _ _ _ _ _ _ _ _ _ _ _ _ _ _ _ _ _ _ _ _ _ _ _ _ _ _ _ _ _ _ _ _ _ _ _ _ _ _ _ _ _ _ _ _ _ _ _ _ _ _
/-- signer.Safe -/
theorem safe_any (L : List Tk) (p : Option Addr) (cap : Nat) (ka sa fr to : Int) (w : World) (hL : L.length ≤ 1048576) (hat : TsAt w p L) :
    Calls Try.prog 8 #[.slice p L.length cap, .int .i64 ka, .int .i64 sa, .int .i64 fr, .int .i64 to] w fun r w' => safeEnd L ka sa fr to r ∧ Below w.heap.size w w' := by
  cases h : argsB ka sa fr to with
  | false => exact (safe_args L p cap ka sa fr to w h).mono fun r w' ⟨h1, h2⟩ => ⟨.inl ⟨h, h1⟩, h2⟩
  | true =>
    cases hl : lineB L with
    | false => exact (safe_form L p cap ka sa fr to w hL hat h hl).mono fun r w' ⟨h1, h2⟩ => ⟨.inr (.inl ⟨h, hl, h1⟩), h2⟩
    | true => exact safe_good L p cap ka sa fr to w hL hat h hl
end Go.Proofs.Ytjnhkiibnmbmfaa
