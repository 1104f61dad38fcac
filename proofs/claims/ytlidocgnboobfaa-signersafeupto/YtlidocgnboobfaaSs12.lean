import Derived.Test.YtlidocgnboobfaaSs11
import Derived.Test.YtlidocgnboobfaaSp7
/-
  SignerSafe: the walk. (The verifier's own text.)
-/
namespace Go.Proofs.Ytlidocgnboobfaa
set_option linter.unusedVariables false
set_option linter.unusedSimpArgs false
open Go.RowKit Go.Shelf Go.Proofs.Ytlidocgnboobfaa.Nm

set_option maxRecDepth 100000 in
set_option maxHeartbeats 4000000 in
/-- gazetteerlaw4.SignerSafe -/
theorem signerSafe_any (L : List Tk) (p : Option Addr) (cap : Nat) (ka sa fr tt a b : Int) (w : World) (hL : L.length ≤ 1048576) (hat : TsAt w p L) (hnone : p = none → cap = 0) :
    Calls Try.prog 4 #[.slice p L.length cap, .int .i64 ka, .int .i64 sa, .int .i64 fr, .int .i64 tt, .int .i64 a, .int .i64 b] w fun e w' => e = .returned (.bool true) ∧ Below w.heap.size w w' := by
  have HA := hide' hat
  have HN := hide' hnone
  have HSF := hide' (fun (q : Option Addr) (c : Nat) (W : World) (h : TsAt W q L) => safe_any L q c ka sa fr tt W hL h)
  have HSL := hide' (fun (q : Option Addr) (c : Nat) (W : World) (h1 : TsAt W q L) (h2 : TsAt W p L) => sameLine_same L q p _ c cap W rfl h1 h2 (by omega))
  have HRL := hide' (fun (W : World) (h : TsAt W p L) => refLine_any L p cap W (by omega) h)
  have HSV := hide' (fun (u v : Int) (W : World) (h : TsAt W p L) => refServed_any L p cap u v W (by omega) h)
  clear hat hnone
  go_enter Try.func4, Try.ntmps4
  go_wp2_with (first
    | (at_builtin; refine wpList_append_rows (V := tkV) Try.underlying22 infoTk rfl (by decide) (by decide) tkV_len tkV_one rfl _ _ rfl w.heap.size (.slice none 0 0) 0 [] rfl (row_nil _ _ _ _) p L cap rfl HA.out HN.out (by omega) (Nat.le_refl _) ?_; intro v1 w1 ho1 hg1; rw [Nat.zero_add, List.nil_append] at ho1; obtain ⟨p1, c1, rfl, _, _, _⟩ := own_shape ho1; have HO := hide' (row_own tkV_len ho1); have HB := hide' ((Below.refl _ _).grown hg1 (Nat.le_refl _) (fun k e => by cases e)); clear ho1 hg1))
  refine (HSF.out p1 c1 _ HO.out).mono ?_
  rintro r2 w2 ⟨hs, hB2⟩
  have HO2 := hide' (row_below' HO.out hB2)
  have HB2 := hide' (bstep HB.out hB2 HB.out.size)
  have HL2 := hide' (row_below' HA.out HB2.out)
  clear hB2
  have hargs : argsB ka sa fr tt = true ↔ (0 ≤ ka ∧ ka ≤ 2147483647) ∧ (0 ≤ sa ∧ sa ≤ 2147483647) ∧ 0 ≤ fr ∧ fr ≤ tt ∧ tt ≤ 4294967295 := by simp [argsB, ageB]
  rcases hs with ⟨h1, rfl⟩ | ⟨h1, h2, rfl⟩ | ⟨h1, h2, x, y, rfl, hx1, hx2, hy1, hy2, hm1, hm2, hv⟩ | ⟨h1, h2, rfl, hall⟩
  · have hbad : ¬ ((0 ≤ ka ∧ ka ≤ 2147483647) ∧ (0 ≤ sa ∧ sa ≤ 2147483647) ∧ 0 ≤ fr ∧ fr ≤ tt ∧ tt ≤ 4294967295) := fun h => by rw [hargs.2 h] at h1; cases h1
    clear h1 hargs
    dsimp only [errR]
    by_cases q1 : ka < 0
    · go_wp2_with (first
        | (go_at_call 9; refine (HSL.out p1 c1 _ HO2.out HL2.out).mono ?_; rintro r3 w3 ⟨rfl, hB3⟩; have HB3 := hide' (bstep HB2.out hB3 HB2.out.size); have HL3 := hide' (row_below' HL2.out hB3); clear hB3))
      go_ret
      exact ⟨rfl, HB3.out⟩
    · by_cases q2 : ka > 2147483647
      · go_wp2_with (first
          | (go_at_call 9; refine (HSL.out p1 c1 _ HO2.out HL2.out).mono ?_; rintro r3 w3 ⟨rfl, hB3⟩; have HB3 := hide' (bstep HB2.out hB3 HB2.out.size); have HL3 := hide' (row_below' HL2.out hB3); clear hB3))
        go_ret
        exact ⟨rfl, HB3.out⟩
      · by_cases q3 : sa < 0
        · go_wp2_with (first
            | (go_at_call 9; refine (HSL.out p1 c1 _ HO2.out HL2.out).mono ?_; rintro r3 w3 ⟨rfl, hB3⟩; have HB3 := hide' (bstep HB2.out hB3 HB2.out.size); have HL3 := hide' (row_below' HL2.out hB3); clear hB3))
          go_ret
          exact ⟨rfl, HB3.out⟩
        · by_cases q4 : sa > 2147483647
          · go_wp2_with (first
              | (go_at_call 9; refine (HSL.out p1 c1 _ HO2.out HL2.out).mono ?_; rintro r3 w3 ⟨rfl, hB3⟩; have HB3 := hide' (bstep HB2.out hB3 HB2.out.size); have HL3 := hide' (row_below' HL2.out hB3); clear hB3))
            go_ret
            exact ⟨rfl, HB3.out⟩
          · by_cases q5 : fr < 0
            · go_wp2_with (first
                | (go_at_call 9; refine (HSL.out p1 c1 _ HO2.out HL2.out).mono ?_; rintro r3 w3 ⟨rfl, hB3⟩; have HB3 := hide' (bstep HB2.out hB3 HB2.out.size); have HL3 := hide' (row_below' HL2.out hB3); clear hB3))
              go_ret
              exact ⟨rfl, HB3.out⟩
            · by_cases q6 : fr > tt
              · go_wp2_with (first
                  | (go_at_call 9; refine (HSL.out p1 c1 _ HO2.out HL2.out).mono ?_; rintro r3 w3 ⟨rfl, hB3⟩; have HB3 := hide' (bstep HB2.out hB3 HB2.out.size); have HL3 := hide' (row_below' HL2.out hB3); clear hB3))
                go_ret
                exact ⟨rfl, HB3.out⟩
              · by_cases q7 : tt > 4294967295
                · go_wp2_with (first
                    | (go_at_call 9; refine (HSL.out p1 c1 _ HO2.out HL2.out).mono ?_; rintro r3 w3 ⟨rfl, hB3⟩; have HB3 := hide' (bstep HB2.out hB3 HB2.out.size); have HL3 := hide' (row_below' HL2.out hB3); clear hB3))
                  go_ret
                  exact ⟨rfl, HB3.out⟩
                · exact absurd ⟨⟨by omega, by omega⟩, ⟨by omega, by omega⟩, by omega, by omega, by omega⟩ hbad
  · obtain ⟨⟨k1, k2⟩, ⟨k3, k4⟩, k5, k6, k7⟩ := hargs.1 h1
    have HLB := hide' h2
    clear h1 h2 hargs
    dsimp only [errR]
    go_wp2_with (first
      | (go_at_call 9; refine (HSL.out p1 c1 _ HO2.out HL2.out).mono ?_; rintro r3 w3 ⟨rfl, hB3⟩; have HB3 := hide' (bstep HB2.out hB3 HB2.out.size); have HL3 := hide' (row_below' HL2.out hB3); clear hB3)
      | (go_at_call 11; refine (HRL.out _ HL3.out).mono ?_; rw [HLB.out]; rintro r4 w4 ⟨rfl, hB4⟩; have HB4 := hide' (bstep HB3.out hB4 HB3.out.size); have HL4 := hide' (row_below' HL3.out hB4); clear hB4))
    go_ret
    exact ⟨rfl, HB4.out⟩
  · obtain ⟨⟨k1, k2⟩, ⟨k3, k4⟩, k5, k6, k7⟩ := hargs.1 h1
    have HLB := hide' h2
    have HV := hide' hv
    clear h1 h2 hargs hv
    go_wp2_with (first
      | (go_at_call 9; refine (HSL.out p1 c1 _ HO2.out HL2.out).mono ?_; rintro r3 w3 ⟨rfl, hB3⟩; have HB3 := hide' (bstep HB2.out hB3 HB2.out.size); have HL3 := hide' (row_below' HL2.out hB3); clear hB3)
      | (go_at_call 11; refine (HRL.out _ HL3.out).mono ?_; rw [HLB.out]; rintro r4 w4 ⟨rfl, hB4⟩; have HB4 := hide' (bstep HB3.out hB4 HB3.out.size); have HL4 := hide' (row_below' HL3.out hB4); clear hB4)
      | (go_at_call 12; refine (HSV.out _ _ _ HL4.out).mono ?_; rw [HV.out]; rintro r5 w5 ⟨rfl, hB5⟩; have HB5 := hide' (bstep HB4.out hB5 HB4.out.size); clear hB5))
    go_ret
    exact ⟨rfl, HB5.out⟩
  · obtain ⟨⟨k1, k2⟩, ⟨k3, k4⟩, k5, k6, k7⟩ := hargs.1 h1
    have HLB := hide' h2
    have HALL := hide' hall
    clear h1 h2 hargs hall
    dsimp only [errR]
    by_cases z1 : a < fr
    · go_wp2_with (first
        | (go_at_call 9; refine (HSL.out p1 c1 _ HO2.out HL2.out).mono ?_; rintro r3 w3 ⟨rfl, hB3⟩; have HB3 := hide' (bstep HB2.out hB3 HB2.out.size); have HL3 := hide' (row_below' HL2.out hB3); clear hB3)
        | (go_at_call 11; refine (HRL.out _ HL3.out).mono ?_; rw [HLB.out]; rintro r4 w4 ⟨rfl, hB4⟩; have HB4 := hide' (bstep HB3.out hB4 HB3.out.size); have HL4 := hide' (row_below' HL3.out hB4); clear hB4))
      go_ret
      exact ⟨rfl, HB4.out⟩
    · by_cases z2 : a > tt
      · go_wp2_with (first
          | (go_at_call 9; refine (HSL.out p1 c1 _ HO2.out HL2.out).mono ?_; rintro r3 w3 ⟨rfl, hB3⟩; have HB3 := hide' (bstep HB2.out hB3 HB2.out.size); have HL3 := hide' (row_below' HL2.out hB3); clear hB3)
          | (go_at_call 11; refine (HRL.out _ HL3.out).mono ?_; rw [HLB.out]; rintro r4 w4 ⟨rfl, hB4⟩; have HB4 := hide' (bstep HB3.out hB4 HB3.out.size); have HL4 := hide' (row_below' HL3.out hB4); clear hB4))
        go_ret
        exact ⟨rfl, HB4.out⟩
      · by_cases z3 : b < fr
        · go_wp2_with (first
            | (go_at_call 9; refine (HSL.out p1 c1 _ HO2.out HL2.out).mono ?_; rintro r3 w3 ⟨rfl, hB3⟩; have HB3 := hide' (bstep HB2.out hB3 HB2.out.size); have HL3 := hide' (row_below' HL2.out hB3); clear hB3)
            | (go_at_call 11; refine (HRL.out _ HL3.out).mono ?_; rw [HLB.out]; rintro r4 w4 ⟨rfl, hB4⟩; have HB4 := hide' (bstep HB3.out hB4 HB3.out.size); have HL4 := hide' (row_below' HL3.out hB4); clear hB4))
          go_ret
          exact ⟨rfl, HB4.out⟩
        · by_cases z4 : b > tt
          · go_wp2_with (first
              | (go_at_call 9; refine (HSL.out p1 c1 _ HO2.out HL2.out).mono ?_; rintro r3 w3 ⟨rfl, hB3⟩; have HB3 := hide' (bstep HB2.out hB3 HB2.out.size); have HL3 := hide' (row_below' HL2.out hB3); clear hB3)
              | (go_at_call 11; refine (HRL.out _ HL3.out).mono ?_; rw [HLB.out]; rintro r4 w4 ⟨rfl, hB4⟩; have HB4 := hide' (bstep HB3.out hB4 HB3.out.size); have HL4 := hide' (row_below' HL3.out hB4); clear hB4))
            go_ret
            exact ⟨rfl, HB4.out⟩
          · by_cases z5 : b - a > ka
            · go_wp2_with (first
                | (go_at_call 9; refine (HSL.out p1 c1 _ HO2.out HL2.out).mono ?_; rintro r3 w3 ⟨rfl, hB3⟩; have HB3 := hide' (bstep HB2.out hB3 HB2.out.size); have HL3 := hide' (row_below' HL2.out hB3); clear hB3)
                | (go_at_call 11; refine (HRL.out _ HL3.out).mono ?_; rw [HLB.out]; rintro r4 w4 ⟨rfl, hB4⟩; have HB4 := hide' (bstep HB3.out hB4 HB3.out.size); have HL4 := hide' (row_below' HL3.out hB4); clear hB4))
              go_ret
              exact ⟨rfl, HB4.out⟩
            · by_cases z6 : a - b > sa
              · go_wp2_with (first
                  | (go_at_call 9; refine (HSL.out p1 c1 _ HO2.out HL2.out).mono ?_; rintro r3 w3 ⟨rfl, hB3⟩; have HB3 := hide' (bstep HB2.out hB3 HB2.out.size); have HL3 := hide' (row_below' HL2.out hB3); clear hB3)
                  | (go_at_call 11; refine (HRL.out _ HL3.out).mono ?_; rw [HLB.out]; rintro r4 w4 ⟨rfl, hB4⟩; have HB4 := hide' (bstep HB3.out hB4 HB3.out.size); have HL4 := hide' (row_below' HL3.out hB4); clear hB4))
                go_ret
                exact ⟨rfl, HB4.out⟩
              · have HV := hide' (HALL.out a b (by omega) (by omega) (by omega) (by omega) (by omega) (by omega))
                go_wp2_with (first
                  | (go_at_call 9; refine (HSL.out p1 c1 _ HO2.out HL2.out).mono ?_; rintro r3 w3 ⟨rfl, hB3⟩; have HB3 := hide' (bstep HB2.out hB3 HB2.out.size); have HL3 := hide' (row_below' HL2.out hB3); clear hB3)
                  | (go_at_call 11; refine (HRL.out _ HL3.out).mono ?_; rw [HLB.out]; rintro r4 w4 ⟨rfl, hB4⟩; have HB4 := hide' (bstep HB3.out hB4 HB3.out.size); have HL4 := hide' (row_below' HL3.out hB4); clear hB4)
                  | (go_at_call 12; refine (HSV.out _ _ _ HL4.out).mono ?_; rw [HV.out]; rintro r5 w5 ⟨rfl, hB5⟩; have HB5 := hide' (bstep HB4.out hB5 HB4.out.size); clear hB5))
                go_ret
                exact ⟨rfl, HB5.out⟩
end Go.Proofs.Ytlidocgnboobfaa
