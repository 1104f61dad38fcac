import Derived.Test.YtbcefnfbofpjgaaCmp2
import Derived.Test.YtbcefnfbofpjgaaGrf
import Derived.Test.YtbcefnfbofpjgaaMath11
namespace Go.Proofs.Ytbcefnfbofpjgaa
set_option linter.unusedVariables false
open Go.RowKit Go.Shelf Nm

set_option maxRecDepth 100000 in
set_option maxHeartbeats 1000000 in
/-- name.Common -/
theorem common_any (a b : ByteArray) (w : World) (ha : a.size ≤ maxLen) (hb : b.size ≤ maxLen) :
    Calls Try.prog 20 #[.string a, .string b] w fun e w' => e = .returned (.string (comB a b)) ∧ Below w.heap.size w w' := by
  by_cases hall : isN a = true ∧ isN b = true
  · obtain ⟨h1, h2⟩ := hall
    obtain ⟨la, lla⟩ := isN_low h1
    obtain ⟨lb, llb⟩ := isN_low h2
    have hal := labs_len_le h1
    have hbl := labs_len_le h2
    obtain ⟨X, hX⟩ : ∃ X, (labs a).map lowB = X := ⟨_, rfl⟩
    obtain ⟨Y, hY⟩ : ∃ Y, (labs b).map lowB = Y := ⟨_, rfl⟩
    rw [hX] at lla
    rw [hY] at llb
    have HC : Hid (∀ k : Nat, IsST X Y k → comB a b = tailB a k) := fun k hk => comB_st h1 h2 (by rw [hX, hY]; exact hk)
    have hXl : X.length ≤ 254 := by rw [← hX]; simpa using hal
    have hYl : Y.length ≤ 254 := by rw [← hY]; simpa using hbl
    have hza : (lowB a).size ≤ maxLen := by rw [lowB_size]; exact ha
    have hzb : (lowB b).size ≤ maxLen := by rw [lowB_size]; exact hb
    have HLA : Hid (labs (lowB a) = X) := lla
    have HLB : Hid (labs (lowB b) = Y) := llb
    have HFA : Hid (foldB a = lowB a) := foldB_yes h1
    have HFB : Hid (foldB b = lowB b) := foldB_yes h2
    clear lla llb hX hY hal hbl
    go_enter Try.func20, Try.ntmps20
    go_wp2_with fail
    refine (isName_any a _ ha).mono ?_
    rintro e w1 ⟨rfl, hB1⟩
    go_wp2_with fail
    refine (isName_any b _ hb).mono ?_
    rintro e w2 ⟨rfl, hB2⟩
    go_wp2_with fail
    refine (fold_any a _ ha).mono ?_
    rintro e w3 ⟨rfl, hB3⟩
    rw [HFA.out]
    go_wp2_with fail
    refine (labels_yes (lowB a) _ hza la).mono ?_
    rintro e w4 ⟨px, cx, rfl, ⟨hpx, hcx, hcx2⟩, hB4⟩
    rw [HLA.out] at hpx hcx ⊢
    go_wp2_with fail
    refine (fold_any b _ hb).mono ?_
    rintro e w5 ⟨rfl, hB5⟩
    rw [HFB.out]
    go_wp2_with fail
    refine (labels_yes (lowB b) _ hzb lb).mono ?_
    rintro e w6 ⟨py, cy, rfl, ⟨hpy, hcy, hcy2⟩, hB6⟩
    rw [HLB.out] at hpy hcy ⊢
    have hpx6 := (hpx.below hB5).below hB6
    clear hpx
    have hBx := ext_t (ext_t (ext_t (ext_t (ext_t hB1 hB2) hB3) hB4) hB5) hB6
    clear hB1 hB2 hB3 hB4 hB5 hB6
    go_wp2_with fail
    refine (sameTail_any px py cx cy X Y _ hpx6 hpy (by omega) (by omega)).mono ?_
    rintro e w7 ⟨k, rfl, hst, hB7⟩
    have hBy := ext_t hBx hB7
    clear hpx6 hpy hBx hB7
    have HV : Hid (comB a b = tailB a k) := HC.out k hst
    clear hst HC
    go_wp2_with fail
    refine (tail_any a _ _ ha).mono ?_
    rintro e w8 ⟨rfl, hB8⟩
    go_wp2
    go_ret
    exact ⟨by rw [HV.out]; rfl, ext_t hBy hB8⟩
  · have HV : Hid (comB a b = ByteArray.empty) := comB_no hall
    have hB0 := Below.refl w.heap.size w
    cases h1 : isN a with
    | false =>
      clear hall
      go_enter Try.func20, Try.ntmps20
      go_wp2_with (go_at_call 41; refine (isName_any _ _ (by assumption)).mono ?_; rintro e w1 ⟨rfl, hB1⟩; have hB0 := ext_t hB0 hB1; clear hB1)
      go_ret
      refine ⟨by rw [HV.out]; rfl, ?_⟩
      assumption
    | true =>
      have h2 : isN b = false := by
        cases h2 : isN b with
        | false => rfl
        | true => exact absurd ⟨h1, h2⟩ hall
      clear hall
      go_enter Try.func20, Try.ntmps20
      go_wp2_with (go_at_call 41; refine (isName_any _ _ (by assumption)).mono ?_; rintro e w1 ⟨rfl, hB1⟩; have hB0 := ext_t hB0 hB1; clear hB1)
      go_ret
      refine ⟨by rw [HV.out]; rfl, ?_⟩
      assumption

set_option maxRecDepth 100000 in
set_option maxHeartbeats 1000000 in
/-- gazetteerref1.Common -/
theorem refCommon_any (a b : ByteArray) (w : World) (ha : a.size ≤ 1048576) (hb : b.size ≤ 1048576) :
    Calls Try.prog 21 #[.string a, .string b] w fun e w' => e = .returned (.string (comB a b)) ∧ Below w.heap.size w w' := by
  obtain ⟨c, hc, hcN⟩ : ∃ c : Int, cntI a = c ∧ (isN a = true → c = ((labs a).length : Nat)) ∧ (isN a = false → c = -1) := ⟨_, rfl, cntI_yes, cntI_no⟩
  have HC : Hid (cntI a = c) := hc
  have HCN : Hid ((isN a = true → c = ((labs a).length : Nat)) ∧ (isN a = false → c = -1)) := hcN
  have hc1 : -1 ≤ c ∧ c ≤ 254 := by
    cases hN : isN a with
    | false => have := HCN.out.2 hN; omega
    | true => have := HCN.out.1 hN; have := labs_len_le hN; omega
  obtain ⟨hc1, hc2⟩ := hc1
  clear hc hcN
  go_enter Try.func21, Try.ntmps21
  go_wp2_with (go_at_call 29; refine (refCount_any _ _ ha).mono ?_; rintro e w0 ⟨rfl, hB0⟩; rw [HC.out])
  go_loopw [5] (fun i wr => ∃ k : Int, i = .int .i64 k ∧ -1 ≤ k ∧ k ≤ c ∧ Hid (∀ j : Int, k < j → j ≤ c → withinB b (tailB a j) = false) ∧ Below w.heap.size w wr)
    (fun i _ => (intOf i + 1).toNat)
  case atStart => exact ⟨c, rfl, hc1, Int.le_refl _, fun j h1 h2 => by omega, hB0⟩
  case round =>
    obtain ⟨k, rfl, hk1, hk2, HA, hB⟩ := hrel
    by_cases hlt : 0 ≤ k
    · cases hE : withinB b (tailB a k) with
      | true =>
        have HW : Hid (comB a b = tailB a k) := comB_found hE (fun j h1 h2 => HA.out j h1 (by
          cases hN : isN a with
          | false => have := HCN.out.2 hN; omega
          | true => have := HCN.out.1 hN; omega))
        go_wp2_with (first
          | (go_at_call 33; refine (refTail_any _ _ _ ha).mono ?_; rintro e w1 ⟨rfl, hB1⟩; have hB := ext_t hB hB1; clear hB1)
          | (go_at_call 19; refine (refWithin_any _ _ _ hb (tail_small _ _)).mono ?_; rintro e w1 ⟨rfl, hB1⟩; have hB := ext_t hB hB1; clear hB1))
        go_ret
        refine ⟨by rw [HW.out]; rfl, ?_⟩
        assumption
      | false =>
        have HA2 : Hid (∀ j : Int, k - 1 < j → j ≤ c → withinB b (tailB a j) = false) := by
          intro j h1 h2
          by_cases e : j = k
          · subst e; exact hE
          · exact HA.out j (by omega) h2
        go_wp2_with (first
          | (go_at_call 33; refine (refTail_any _ _ _ ha).mono ?_; rintro e w1 ⟨rfl, hB1⟩; have hB := ext_t hB hB1; clear hB1)
          | (go_at_call 19; refine (refWithin_any _ _ _ hb (tail_small _ _)).mono ?_; rintro e w1 ⟨rfl, hB1⟩; have hB := ext_t hB hB1; clear hB1))
        go_roundw
        case rel => exact ⟨k - 1, by go_num, by omega, by omega, HA2, by assumption⟩
        case measure => simp [intOf]; omega
    · have HW : Hid (comB a b = ByteArray.empty) := by
        cases hN : isN a with
        | false => exact comB_no (fun h => by rw [hN] at h; cases h.1)
        | true =>
          have := HCN.out.1 hN
          exact comB_none (fun j h1 h2 => HA.out j (by omega) (by omega))
      go_wp2
      go_ret
      exact ⟨by rw [HW.out]; rfl, hB⟩
end Go.Proofs.Ytbcefnfbofpjgaa
