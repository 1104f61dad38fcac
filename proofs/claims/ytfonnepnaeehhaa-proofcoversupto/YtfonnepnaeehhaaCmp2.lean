import Derived.Test.YtfonnepnaeehhaaCmp
namespace Go.Proofs.Ytfonnepnaeehhaa
set_option linter.unusedVariables false
open Go.RowKit Go.Shelf Nm

set_option maxRecDepth 100000 in
set_option maxHeartbeats 1000000 in
/-- name.Compare -/
theorem compare_any (a b : ByteArray) (w : World) (ha : a.size ≤ maxLen) (hb : b.size ≤ maxLen) :
    Calls Try.prog 8 #[.string a, .string b] w fun e w' => e = .returned (.int .i64 (cmpB a b)) ∧ Below w.heap.size w w' := by
  by_cases hall : isN a = true ∧ isN b = true
  · obtain ⟨h1, h2⟩ := hall
    have HC := cmpB_yes h1 h2
    obtain ⟨la, lla⟩ := isN_low h1
    obtain ⟨lb, llb⟩ := isN_low h2
    have hal := labs_len_le h1
    have hbl := labs_len_le h2
    obtain ⟨X, hX⟩ : ∃ X, (labs a).map lowB = X := ⟨_, rfl⟩
    obtain ⟨Y, hY⟩ : ∃ Y, (labs b).map lowB = Y := ⟨_, rfl⟩
    rw [hX] at lla
    rw [hY] at llb
    have HC2 : Hid (cmpB a b = cmpL X.reverse Y.reverse) := by unfold Hid; rw [HC, hX, hY]
    have hXl : X.length ≤ 254 := by rw [← hX]; simpa using hal
    have hYl : Y.length ≤ 254 := by rw [← hY]; simpa using hbl
    have hza : (lowB a).size ≤ maxLen := by rw [lowB_size]; exact ha
    have hzb : (lowB b).size ≤ maxLen := by rw [lowB_size]; exact hb
    have HLA : Hid (labs (lowB a) = X) := lla
    have HLB : Hid (labs (lowB b) = Y) := llb
    have HFA : Hid (foldB a = lowB a) := foldB_yes h1
    have HFB : Hid (foldB b = lowB b) := foldB_yes h2
    clear HC lla llb hX hY hal hbl
    go_enter Try.func8, Try.ntmps8
    go_wp2_with fail
    refine (isName_any a _ ha).mono ?_
    rintro e w1 ⟨rfl, hB1⟩
    go_wp2_with fail
    refine (isName_any b _ hb).mono ?_
    rintro e w2 ⟨rfl, hB2⟩
    go_wp2_with fail
    refine (fold_any a _ ha).mono ?_
    rintro e w3 ⟨rfl, hB3⟩
    rw [HFA.out]
    go_wp2_with fail
    refine (labels_yes (lowB a) _ hza la).mono ?_
    rintro e w4 ⟨px, cx, rfl, ⟨hpx, hcx, hcx2⟩, hB4⟩
    rw [HLA.out] at hpx hcx ⊢
    go_wp2_with fail
    refine (fold_any b _ hb).mono ?_
    rintro e w5 ⟨rfl, hB5⟩
    rw [HFB.out]
    go_wp2_with fail
    refine (labels_yes (lowB b) _ hzb lb).mono ?_
    rintro e w6 ⟨py, cy, rfl, ⟨hpy, hcy, hcy2⟩, hB6⟩
    rw [HLB.out] at hpy hcy ⊢
    have hpx6 := (hpx.below hB5).below hB6
    clear hpx
    have hBx := ext_t (ext_t (ext_t (ext_t (ext_t hB1 hB2) hB3) hB4) hB5) hB6
    clear hB1 hB2 hB3 hB4 hB5 hB6
    go_wp2_with fail
    refine (sameTail_any px py cx cy X Y _ hpx6 hpy (by omega) (by omega)).mono ?_
    rintro e w7 ⟨k, rfl, hst, hB7⟩
    have hpx7 := hpx6.below hB7
    have hpy7 := hpy.below hB7
    have hBy := ext_t hBx hB7
    have hkx := hst.lx
    have hky := hst.ly
    clear hpx6 hpy hBx hB7
    by_cases e1 : k = X.length
    · have HV : Hid (cmpB a b = sgnI X.length Y.length) := by unfold Hid; rw [HC2.out, hst.cmp_end (.inl e1)]
      have e1' : ((k : Int) == (X.length : Int)) = true := by rw [beq_iff_eq]; omega
      clear e1
      go_wp2_with (go_at_call 16; refine (cmpCompare_any _ _ _).mono ?_; rintro e w8 ⟨rfl, rfl⟩)
      go_ret
      exact ⟨by rw [HV.out]; rfl, hBy⟩
    · by_cases e2 : k = Y.length
      · have HV : Hid (cmpB a b = sgnI X.length Y.length) := by unfold Hid; rw [HC2.out, hst.cmp_end (.inr e2)]
        have e1' : ((k : Int) == (X.length : Int)) = false := by rw [beq_eq_false_iff_ne]; omega
        have e2' : ((k : Int) == (Y.length : Int)) = true := by rw [beq_iff_eq]; omega
        clear e1 e2
        go_wp2_with (go_at_call 16; refine (cmpCompare_any _ _ _).mono ?_; rintro e w8 ⟨rfl, rfl⟩)
        go_ret
        exact ⟨by rw [HV.out]; rfl, hBy⟩
      · have e1' : ((k : Int) == (X.length : Int)) = false := by rw [beq_eq_false_iff_ne]; omega
        have e2' : ((k : Int) == (Y.length : Int)) = false := by rw [beq_eq_false_iff_ne]; omega
        have HV0 := hst.cmp_mid (by omega) (by omega)
        obtain ⟨dx, hdx, HDX, hdx1⟩ : ∃ d : Nat, (X.length : Int) - 1 - (k : Int) = (d : Int) ∧ X.length - 1 - k = d ∧ d < X.length := ⟨X.length - 1 - k, by omega, rfl, by omega⟩
        obtain ⟨dy, hdy, HDY, hdy1⟩ : ∃ d : Nat, (Y.length : Int) - 1 - (k : Int) = (d : Int) ∧ Y.length - 1 - k = d ∧ d < Y.length := ⟨Y.length - 1 - k, by omega, rfl, by omega⟩
        obtain ⟨gx, ox, rfl, hgx, hcx0⟩ := hpx7 dx hdx1
        obtain ⟨gy, oy, rfl, hgy, hcy0⟩ := hpy7 dy hdy1
        have HV : Hid (cmpB a b = cb X[dx] Y[dy]) := by
          unfold Hid
          rw [HC2.out, HV0]
          congr 1
          · congr 1
          · congr 1
        generalize X[dx] = x at *
        generalize Y[dy] = y at *
        clear HV0 e1 e2 HDX HDY
        go_wp2_with fail
        go_quiet ((go_at_call 17; exact Calls.quiet_of_same (stringsCompare_any _ _ _)))
        go_wp2
        all_goals
          go_ret
          exact ⟨by rw [HV.out]; rfl, below_drewN hBy _⟩
  · have HV : Hid (cmpB a b = 0) := cmpB_no hall
    have hB0 := Below.refl w.heap.size w
    cases h1 : isN a with
    | false =>
      clear hall
      go_enter Try.func8, Try.ntmps8
      go_wp2_with (go_at_call 12; refine (isName_any _ _ (by assumption)).mono ?_; rintro e w1 ⟨rfl, hB1⟩; have hB0 := ext_t hB0 hB1; clear hB1)
      go_ret
      refine ⟨by rw [HV.out]; rfl, ?_⟩
      assumption
    | true =>
      have h2 : isN b = false := by
        cases h2 : isN b with
        | false => rfl
        | true => exact absurd ⟨h1, h2⟩ hall
      clear hall
      go_enter Try.func8, Try.ntmps8
      go_wp2_with (go_at_call 12; refine (isName_any _ _ (by assumption)).mono ?_; rintro e w1 ⟨rfl, hB1⟩; have hB0 := ext_t hB0 hB1; clear hB1)
      go_ret
      refine ⟨by rw [HV.out]; rfl, ?_⟩
      assumption
end Go.Proofs.Ytfonnepnaeehhaa
