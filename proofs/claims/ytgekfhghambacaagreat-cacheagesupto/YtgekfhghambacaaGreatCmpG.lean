import Derived.Test.YtgekfhghambacaaGreatWkG
import Derived.Deep.QuietTactic
import Derived.BigQuiet
import Derived.Deep.RegionWith
import Derived.Lib.Bytealg
import Derived.WalkSmall
import Derived.Test.YtgekfhghambacaaGreatMath8G
import Derived.Deep.RegionHeld3
import Derived.Test.YtgekfhghambacaaGreatMath13G
namespace Go.Proofs.YtgekfhghambacaaGreat
set_option linter.unusedVariables false
open Go.RowKit Go.Shelf Go.Proofs.YtgekfhghambacaaGreat.Nm

set_option maxRecDepth 100000 in
/-- strings.Compare -/
theorem bytealgCompare_any (a b : ByteArray) (w : World) :
    Calls Tryz.prog 149 #[.string a, .string b] w fun e w' => e = .returned (.int .i64 (Lib.compareBytes a.data.toList b.data.toList)) ∧ w' = w := by
  go_enter Tryz.func149, Tryz.ntmps149
  go_wp2
  rw [run_callFunc_extern Tryz.func152 (by kernel_rfl) (by kernel_rfl) (by kernel_rfl) (e := Extern.BytealgCompare.compare) (by kernel_rfl), Lib.run_compareString]
  simp only [Result.andThen]
  rw [Oper.upon_value]
  go_wp2
  go_ret
  exact ⟨rfl, rfl⟩
theorem stringsCompare_any (a b : ByteArray) (w : World) :
    Calls Tryz.prog 144 #[.string a, .string b] w fun e w' => e = .returned (.int .i64 (Lib.compareBytes a.data.toList b.data.toList)) ∧ w' = w := by
  go_enter Tryz.func144, Tryz.ntmps144
  go_wp2_with (go_at_call 149; refine (bytealgCompare_any _ _ _).mono ?_; rintro e w1 ⟨rfl, rfl⟩)
  go_ret
  exact ⟨rfl, rfl⟩

theorem isNaN_any (a : Int) (w : World) : Calls Tryz.prog 148 #[.int .i64 a] w fun e w' => e = .returned (.bool false) ∧ w' = w := by
  go_enter Tryz.func148, Tryz.ntmps148
  go_wp2
  go_ret
  exact ⟨by simp, rfl⟩


theorem cmpCompare_any (a b : Int) (w : World) : Calls Tryz.prog 143 #[.int .i64 a, .int .i64 b] w fun e w' => e = .returned (.int .i64 (sgnI a b)) ∧ w' = w := by
  rcases Int.lt_trichotomy a b with h | h | h
  · have HS : Hid (sgnI a b = -1) := by unfold Hid sgnI; rw [if_pos h]
    go_enter Tryz.func143, Tryz.ntmps143
    go_wp2_with (go_at_call 148; refine (isNaN_any _ _).mono ?_; rintro e w1 ⟨rfl, rfl⟩)
    go_ret
    exact ⟨by rw [HS.out]; rfl, rfl⟩
  · subst h
    have HS : Hid (sgnI a a = 0) := by unfold Hid sgnI; simp
    go_enter Tryz.func143, Tryz.ntmps143
    go_wp2_with (go_at_call 148; refine (isNaN_any _ _).mono ?_; rintro e w1 ⟨rfl, rfl⟩)
    go_ret
    exact ⟨by rw [HS.out]; rfl, rfl⟩
  · have HS : Hid (sgnI a b = 1) := by unfold Hid sgnI; rw [if_neg (by omega), if_pos h]
    have h' : ¬ a < b := by omega
    go_enter Tryz.func143, Tryz.ntmps143
    go_wp2_with (go_at_call 148; refine (isNaN_any _ _).mono ?_; rintro e w1 ⟨rfl, rfl⟩)
    go_ret
    exact ⟨by rw [HS.out]; rfl, rfl⟩

set_option maxRecDepth 100000 in
set_option maxHeartbeats 1000000 in
/-- name.sameTail -/
theorem sameTail_any (px py : Option Addr) (cx cy : Nat) (x y : List ByteArray) (w : World) (hx : StrsAt w px x) (hy : StrsAt w py y) (hlx : x.length ≤ 1000) (hly : y.length ≤ 1000) :
    Calls Tryz.prog 137 #[.slice px x.length cx, .slice py y.length cy] w fun e w' => ∃ k : Nat, e = .returned (.int .i64 k) ∧ IsST x y k ∧ Below w.heap.size w w' := by
  by_cases hmin : y.length < x.length
  · have hle : y.length ≤ x.length := by omega
    go_enter Tryz.func137, Tryz.ntmps137
    go_wp2
    go_loopw [13] (fun i wr => ∃ k : Nat, i = .int .i64 k ∧ k ≤ y.length ∧ Hid (∀ j, j < k → x[x.length - 1 - j]? = y[y.length - 1 - j]?) ∧ Below w.heap.size w wr)
      (fun i _ => y.length - (intOf i).toNat)
    case atStart => exact ⟨0, rfl, Nat.zero_le _, fun j hj => absurd hj (Nat.not_lt_zero _), Below.refl _ _⟩
    case round =>
      obtain ⟨k, rfl, hk, HS, hB⟩ := hrel
      by_cases hlt : k < y.length
      · obtain ⟨dx, hdx, HDX, hdx1⟩ : ∃ d : Nat, (x.length : Int) - 1 - (k : Int) = (d : Int) ∧ Hid (x.length - 1 - k = d) ∧ d < x.length := ⟨x.length - 1 - k, by omega, rfl, by omega⟩
        obtain ⟨dy, hdy, HDY, hdy1⟩ : ∃ d : Nat, (y.length : Int) - 1 - (k : Int) = (d : Int) ∧ Hid (y.length - 1 - k = d) ∧ d < y.length := ⟨y.length - 1 - k, by omega, rfl, by omega⟩
        obtain ⟨gx, ox, rfl, hgx, hcx0⟩ := hx dx hdx1
        obtain ⟨gy, oy, rfl, hgy, hcy0⟩ := hy dy hdy1
        have hcx := (hB.cell (p := ⟨gx, ox + dx, none⟩) hgx).trans hcx0
        have hcy := (hB.cell (p := ⟨gy, oy + dy, none⟩) hgy).trans hcy0
        have HX : Hid (x[x.length - 1 - k]? = some x[dx]) := by unfold Hid; rw [HDX.out]; exact List.getElem?_eq_getElem hdx1
        have HY : Hid (y[y.length - 1 - k]? = some y[dy]) := by unfold Hid; rw [HDY.out]; exact List.getElem?_eq_getElem hdy1
        generalize x[dx] = X at *
        generalize y[dy] = Y at *
        clear hcx0 hcy0
        by_cases hE : X = Y
        · have hE' : (X.toList == Y.toList) = true := by rw [hE]; exact beq_self_eq_true _
          have HS2 : Hid (∀ j, j < k + 1 → x[x.length - 1 - j]? = y[y.length - 1 - j]?) := by
            intro j hj
            by_cases e : j = k
            · subst e; rw [HX.out, HY.out, hE]
            · exact HS.out j (by omega)
          clear hE
          go_wp2
          go_quiet (fail)
          go_wp2
          all_goals
            go_roundw
            case rel => exact ⟨k + 1, by go_num, by omega, HS2, below_drewN hB _⟩
            case measure => simp [intOf]; omega
        · have hE' : (X.toList == Y.toList) = false := by rw [beq_eq_false_iff_ne]; intro e; exact hE (toList_inj.1 e)
          have HK : Hid (IsST x y k) := ⟨by omega, by omega, HS.out, fun _ _ => by rw [HX.out, HY.out]; intro e; exact hE (Option.some.inj e)⟩
          clear hE
          go_wp2
          go_quiet (fail)
          go_wp2
          all_goals
            go_ret
            exact ⟨k, rfl, HK.out, below_drewN hB _⟩
      · have HK : Hid (IsST x y k) := ⟨by omega, by omega, HS.out, fun h1 h2 => by omega⟩
        have hkM : k = y.length := by omega
        subst hkM
        go_wp2
        go_ret
        exact ⟨_, rfl, HK.out, hB⟩
  · have hle : x.length ≤ y.length := by omega
    go_enter Tryz.func137, Tryz.ntmps137
    go_wp2
    go_loopw [13] (fun i wr => ∃ k : Nat, i = .int .i64 k ∧ k ≤ x.length ∧ Hid (∀ j, j < k → x[x.length - 1 - j]? = y[y.length - 1 - j]?) ∧ Below w.heap.size w wr)
      (fun i _ => x.length - (intOf i).toNat)
    case atStart => exact ⟨0, rfl, Nat.zero_le _, fun j hj => absurd hj (Nat.not_lt_zero _), Below.refl _ _⟩
    case round =>
      obtain ⟨k, rfl, hk, HS, hB⟩ := hrel
      by_cases hlt : k < x.length
      · obtain ⟨dx, hdx, HDX, hdx1⟩ : ∃ d : Nat, (x.length : Int) - 1 - (k : Int) = (d : Int) ∧ Hid (x.length - 1 - k = d) ∧ d < x.length := ⟨x.length - 1 - k, by omega, rfl, by omega⟩
        obtain ⟨dy, hdy, HDY, hdy1⟩ : ∃ d : Nat, (y.length : Int) - 1 - (k : Int) = (d : Int) ∧ Hid (y.length - 1 - k = d) ∧ d < y.length := ⟨y.length - 1 - k, by omega, rfl, by omega⟩
        obtain ⟨gx, ox, rfl, hgx, hcx0⟩ := hx dx hdx1
        obtain ⟨gy, oy, rfl, hgy, hcy0⟩ := hy dy hdy1
        have hcx := (hB.cell (p := ⟨gx, ox + dx, none⟩) hgx).trans hcx0
        have hcy := (hB.cell (p := ⟨gy, oy + dy, none⟩) hgy).trans hcy0
        have HX : Hid (x[x.length - 1 - k]? = some x[dx]) := by unfold Hid; rw [HDX.out]; exact List.getElem?_eq_getElem hdx1
        have HY : Hid (y[y.length - 1 - k]? = some y[dy]) := by unfold Hid; rw [HDY.out]; exact List.getElem?_eq_getElem hdy1
        generalize x[dx] = X at *
        generalize y[dy] = Y at *
        clear hcx0 hcy0
        by_cases hE : X = Y
        · have hE' : (X.toList == Y.toList) = true := by rw [hE]; exact beq_self_eq_true _
          have HS2 : Hid (∀ j, j < k + 1 → x[x.length - 1 - j]? = y[y.length - 1 - j]?) := by
            intro j hj
            by_cases e : j = k
            · subst e; rw [HX.out, HY.out, hE]
            · exact HS.out j (by omega)
          clear hE
          go_wp2
          go_quiet (fail)
          go_wp2
          all_goals
            go_roundw
            case rel => exact ⟨k + 1, by go_num, by omega, HS2, below_drewN hB _⟩
            case measure => simp [intOf]; omega
        · have hE' : (X.toList == Y.toList) = false := by rw [beq_eq_false_iff_ne]; intro e; exact hE (toList_inj.1 e)
          have HK : Hid (IsST x y k) := ⟨by omega, by omega, HS.out, fun _ _ => by rw [HX.out, HY.out]; intro e; exact hE (Option.some.inj e)⟩
          clear hE
          go_wp2
          go_quiet (fail)
          go_wp2
          all_goals
            go_ret
            exact ⟨k, rfl, HK.out, below_drewN hB _⟩
      · have HK : Hid (IsST x y k) := ⟨by omega, by omega, HS.out, fun h1 h2 => by omega⟩
        have hkM : k = x.length := by omega
        subst hkM
        go_wp2
        go_ret
        exact ⟨_, rfl, HK.out, hB⟩
end Go.Proofs.YtgekfhghambacaaGreat

namespace Go.Proofs.YtgekfhghambacaaGreat
set_option linter.unusedVariables false
open Go.RowKit Go.Shelf Go.Proofs.YtgekfhghambacaaGreat.Nm

set_option maxRecDepth 100000 in
set_option maxHeartbeats 1000000 in
/-- name.Compare -/
theorem compare_any (a b : ByteArray) (w : World) (ha : a.size ≤ maxLen) (hb : b.size ≤ maxLen) :
    Calls Tryz.prog 140 #[.string a, .string b] w fun e w' => e = .returned (.int .i64 (cmpB a b)) ∧ Below w.heap.size w w' := by
  by_cases hall : isN a = true ∧ isN b = true
  · obtain ⟨h1, h2⟩ := hall
    have HC := cmpB_yes h1 h2
    obtain ⟨la, lla⟩ := isN_low h1
    obtain ⟨lb, llb⟩ := isN_low h2
    have hal := labs_len_le h1
    have hbl := labs_len_le h2
    obtain ⟨X, hX⟩ : ∃ X, (labs a).map lowB = X := ⟨_, rfl⟩
    obtain ⟨Y, hY⟩ : ∃ Y, (labs b).map lowB = Y := ⟨_, rfl⟩
    rw [hX] at lla
    rw [hY] at llb
    have HC2 : Hid (cmpB a b = cmpL X.reverse Y.reverse) := by unfold Hid; rw [HC, hX, hY]
    have hXl : X.length ≤ 254 := by rw [← hX]; simpa using hal
    have hYl : Y.length ≤ 254 := by rw [← hY]; simpa using hbl
    have hza : (lowB a).size ≤ maxLen := by rw [lowB_size]; exact ha
    have hzb : (lowB b).size ≤ maxLen := by rw [lowB_size]; exact hb
    have HLA : Hid (labs (lowB a) = X) := lla
    have HLB : Hid (labs (lowB b) = Y) := llb
    have HFA : Hid (foldB a = lowB a) := foldB_yes h1
    have HFB : Hid (foldB b = lowB b) := foldB_yes h2
    clear HC lla llb hX hY hal hbl
    go_enter Tryz.func140, Tryz.ntmps140
    go_wp2_with fail
    refine (isName_any a _ ha).mono ?_
    rintro e w1 ⟨rfl, hB1⟩
    go_wp2_with fail
    refine (isName_any b _ hb).mono ?_
    rintro e w2 ⟨rfl, hB2⟩
    go_wp2_with fail
    refine (fold_any a _ ha).mono ?_
    rintro e w3 ⟨rfl, hB3⟩
    rw [HFA.out]
    go_wp2_with fail
    refine (labels_yes (lowB a) _ hza la).mono ?_
    rintro e w4 ⟨px, cx, rfl, ⟨hpx, hcx, hcx2⟩, hB4⟩
    rw [HLA.out] at hpx hcx ⊢
    go_wp2_with fail
    refine (fold_any b _ hb).mono ?_
    rintro e w5 ⟨rfl, hB5⟩
    rw [HFB.out]
    go_wp2_with fail
    refine (labels_yes (lowB b) _ hzb lb).mono ?_
    rintro e w6 ⟨py, cy, rfl, ⟨hpy, hcy, hcy2⟩, hB6⟩
    rw [HLB.out] at hpy hcy ⊢
    have hpx6 := (hpx.below hB5).below hB6
    clear hpx
    have hBx := ext_t (ext_t (ext_t (ext_t (ext_t hB1 hB2) hB3) hB4) hB5) hB6
    clear hB1 hB2 hB3 hB4 hB5 hB6
    go_wp2_with fail
    refine (sameTail_any px py cx cy X Y _ hpx6 hpy (by omega) (by omega)).mono ?_
    rintro e w7 ⟨k, rfl, hst, hB7⟩
    have hpx7 := hpx6.below hB7
    have hpy7 := hpy.below hB7
    have hBy := ext_t hBx hB7
    have hkx := hst.lx
    have hky := hst.ly
    clear hpx6 hpy hBx hB7
    by_cases e1 : k = X.length
    · have HV : Hid (cmpB a b = sgnI X.length Y.length) := by unfold Hid; rw [HC2.out, hst.cmp_end (.inl e1)]
      have e1' : ((k : Int) == (X.length : Int)) = true := by rw [beq_iff_eq]; omega
      clear e1
      go_wp2_with (go_at_call 143; refine (cmpCompare_any _ _ _).mono ?_; rintro e w8 ⟨rfl, rfl⟩)
      go_ret
      exact ⟨by rw [HV.out]; rfl, hBy⟩
    · by_cases e2 : k = Y.length
      · have HV : Hid (cmpB a b = sgnI X.length Y.length) := by unfold Hid; rw [HC2.out, hst.cmp_end (.inr e2)]
        have e1' : ((k : Int) == (X.length : Int)) = false := by rw [beq_eq_false_iff_ne]; omega
        have e2' : ((k : Int) == (Y.length : Int)) = true := by rw [beq_iff_eq]; omega
        clear e1 e2
        go_wp2_with (go_at_call 143; refine (cmpCompare_any _ _ _).mono ?_; rintro e w8 ⟨rfl, rfl⟩)
        go_ret
        exact ⟨by rw [HV.out]; rfl, hBy⟩
      · have e1' : ((k : Int) == (X.length : Int)) = false := by rw [beq_eq_false_iff_ne]; omega
        have e2' : ((k : Int) == (Y.length : Int)) = false := by rw [beq_eq_false_iff_ne]; omega
        have HV0 := hst.cmp_mid (by omega) (by omega)
        obtain ⟨dx, hdx, HDX, hdx1⟩ : ∃ d : Nat, (X.length : Int) - 1 - (k : Int) = (d : Int) ∧ X.length - 1 - k = d ∧ d < X.length := ⟨X.length - 1 - k, by omega, rfl, by omega⟩
        obtain ⟨dy, hdy, HDY, hdy1⟩ : ∃ d : Nat, (Y.length : Int) - 1 - (k : Int) = (d : Int) ∧ Y.length - 1 - k = d ∧ d < Y.length := ⟨Y.length - 1 - k, by omega, rfl, by omega⟩
        obtain ⟨gx, ox, rfl, hgx, hcx0⟩ := hpx7 dx hdx1
        obtain ⟨gy, oy, rfl, hgy, hcy0⟩ := hpy7 dy hdy1
        have HV : Hid (cmpB a b = cb X[dx] Y[dy]) := by
          unfold Hid
          rw [HC2.out, HV0]
          congr 1
          · congr 1
          · congr 1
        generalize X[dx] = x at *
        generalize Y[dy] = y at *
        clear HV0 e1 e2 HDX HDY
        go_wp2_with fail
        go_quiet ((go_at_call 144; exact Calls.quiet_of_same (stringsCompare_any _ _ _)))
        go_wp2
        all_goals
          go_ret
          exact ⟨by rw [HV.out]; rfl, below_drewN hBy _⟩
  · have HV : Hid (cmpB a b = 0) := cmpB_no hall
    have hB0 := Below.refl w.heap.size w
    cases h1 : isN a with
    | false =>
      clear hall
      go_enter Tryz.func140, Tryz.ntmps140
      go_wp2_with (go_at_call 56; refine (isName_any _ _ (by assumption)).mono ?_; rintro e w1 ⟨rfl, hB1⟩; have hB0 := ext_t hB0 hB1; clear hB1)
      go_ret
      refine ⟨by rw [HV.out]; rfl, ?_⟩
      assumption
    | true =>
      have h2 : isN b = false := by
        cases h2 : isN b with
        | false => rfl
        | true => exact absurd ⟨h1, h2⟩ hall
      clear hall
      go_enter Tryz.func140, Tryz.ntmps140
      go_wp2_with (go_at_call 56; refine (isName_any _ _ (by assumption)).mono ?_; rintro e w1 ⟨rfl, hB1⟩; have hB0 := ext_t hB0 hB1; clear hB1)
      go_ret
      refine ⟨by rw [HV.out]; rfl, ?_⟩
      assumption
end Go.Proofs.YtgekfhghambacaaGreat

namespace Go.Proofs.YtgekfhghambacaaGreat
set_option linter.unusedVariables false
open Go.RowKit Go.Shelf Go.Proofs.YtgekfhghambacaaGreat.Nm

set_option maxRecDepth 100000 in
set_option maxHeartbeats 1000000 in
/-- name.Common -/
theorem common_any (a b : ByteArray) (w : World) (ha : a.size ≤ maxLen) (hb : b.size ≤ maxLen) :
    Calls Tryz.prog 129 #[.string a, .string b] w fun e w' => e = .returned (.string (comB a b)) ∧ Below w.heap.size w w' := by
  by_cases hall : isN a = true ∧ isN b = true
  · obtain ⟨h1, h2⟩ := hall
    obtain ⟨la, lla⟩ := isN_low h1
    obtain ⟨lb, llb⟩ := isN_low h2
    have hal := labs_len_le h1
    have hbl := labs_len_le h2
    obtain ⟨X, hX⟩ : ∃ X, (labs a).map lowB = X := ⟨_, rfl⟩
    obtain ⟨Y, hY⟩ : ∃ Y, (labs b).map lowB = Y := ⟨_, rfl⟩
    rw [hX] at lla
    rw [hY] at llb
    have HC : Hid (∀ k : Nat, IsST X Y k → comB a b = tailB a k) := fun k hk => comB_st h1 h2 (by rw [hX, hY]; exact hk)
    have hXl : X.length ≤ 254 := by rw [← hX]; simpa using hal
    have hYl : Y.length ≤ 254 := by rw [← hY]; simpa using hbl
    have hza : (lowB a).size ≤ maxLen := by rw [lowB_size]; exact ha
    have hzb : (lowB b).size ≤ maxLen := by rw [lowB_size]; exact hb
    have HLA : Hid (labs (lowB a) = X) := lla
    have HLB : Hid (labs (lowB b) = Y) := llb
    have HFA : Hid (foldB a = lowB a) := foldB_yes h1
    have HFB : Hid (foldB b = lowB b) := foldB_yes h2
    clear lla llb hX hY hal hbl
    go_enter Tryz.func129, Tryz.ntmps129
    go_wp2_with fail
    refine (isName_any a _ ha).mono ?_
    rintro e w1 ⟨rfl, hB1⟩
    go_wp2_with fail
    refine (isName_any b _ hb).mono ?_
    rintro e w2 ⟨rfl, hB2⟩
    go_wp2_with fail
    refine (fold_any a _ ha).mono ?_
    rintro e w3 ⟨rfl, hB3⟩
    rw [HFA.out]
    go_wp2_with fail
    refine (labels_yes (lowB a) _ hza la).mono ?_
    rintro e w4 ⟨px, cx, rfl, ⟨hpx, hcx, hcx2⟩, hB4⟩
    rw [HLA.out] at hpx hcx ⊢
    go_wp2_with fail
    refine (fold_any b _ hb).mono ?_
    rintro e w5 ⟨rfl, hB5⟩
    rw [HFB.out]
    go_wp2_with fail
    refine (labels_yes (lowB b) _ hzb lb).mono ?_
    rintro e w6 ⟨py, cy, rfl, ⟨hpy, hcy, hcy2⟩, hB6⟩
    rw [HLB.out] at hpy hcy ⊢
    have hpx6 := (hpx.below hB5).below hB6
    clear hpx
    have hBx := ext_t (ext_t (ext_t (ext_t (ext_t hB1 hB2) hB3) hB4) hB5) hB6
    clear hB1 hB2 hB3 hB4 hB5 hB6
    go_wp2_with fail
    refine (sameTail_any px py cx cy X Y _ hpx6 hpy (by omega) (by omega)).mono ?_
    rintro e w7 ⟨k, rfl, hst, hB7⟩
    have hBy := ext_t hBx hB7
    clear hpx6 hpy hBx hB7
    have HV : Hid (comB a b = tailB a k) := HC.out k hst
    clear hst HC
    go_wp2_with fail
    refine (tail_any a _ _ ha).mono ?_
    rintro e w8 ⟨rfl, hB8⟩
    go_wp2
    go_ret
    exact ⟨by rw [HV.out]; rfl, ext_t hBy hB8⟩
  · have HV : Hid (comB a b = ByteArray.empty) := comB_no hall
    have hB0 := Below.refl w.heap.size w
    cases h1 : isN a with
    | false =>
      clear hall
      go_enter Tryz.func129, Tryz.ntmps129
      go_wp2_with (go_at_call 56; refine (isName_any _ _ (by assumption)).mono ?_; rintro e w1 ⟨rfl, hB1⟩; have hB0 := ext_t hB0 hB1; clear hB1)
      go_ret
      refine ⟨by rw [HV.out]; rfl, ?_⟩
      assumption
    | true =>
      have h2 : isN b = false := by
        cases h2 : isN b with
        | false => rfl
        | true => exact absurd ⟨h1, h2⟩ hall
      clear hall
      go_enter Tryz.func129, Tryz.ntmps129
      go_wp2_with (go_at_call 56; refine (isName_any _ _ (by assumption)).mono ?_; rintro e w1 ⟨rfl, hB1⟩; have hB0 := ext_t hB0 hB1; clear hB1)
      go_ret
      refine ⟨by rw [HV.out]; rfl, ?_⟩
      assumption

end Go.Proofs.YtgekfhghambacaaGreat

namespace Go.Proofs.YtgekfhghambacaaGreat
set_option linter.unusedVariables false
open Go.RowKit Go.Shelf Go.Proofs.YtgekfhghambacaaGreat.Nm

theorem below_any {B : Nat} {a b b' c : World} (h : Below B a b) (k : Below b'.heap.size b' c) (e : b' = b ∨ b' = b.drew) (hB : B ≤ b.heap.size) : Below B a c := by
  rcases e with rfl | rfl
  · exact bstep h k hB
  · exact bstep h.drew k hB
end Go.Proofs.YtgekfhghambacaaGreat

namespace Go.Proofs.YtgekfhghambacaaGreat
set_option linter.unusedVariables false
open Go.RowKit Go.Shelf Go.Proofs.YtgekfhghambacaaGreat.Nm

/-- name.Parent -/
theorem parent_any (s : ByteArray) (w : World) (hm : s.size ≤ maxLen) :
    Calls Tryz.prog 46 #[.string s] w fun e w' => e = .returned (.string (parB s)) ∧ Below w.heap.size w w' := by
  have HP : Hid (parB s = tailB s (cntI s - 1)) := rfl
  obtain ⟨c, hc, h1, h2⟩ : ∃ c : Int, cntI s = c ∧ -1 ≤ c ∧ c ≤ 254 := ⟨_, rfl, by
    cases hN : isN s with
    | false => rw [cntI_no hN]; omega
    | true => rw [cntI_yes hN]; have := labs_len_le hN; omega⟩
  have HC : Hid (cntI s = c) := hc
  clear hc
  have HP2 : Hid (parB s = tailB s (c - 1)) := by unfold Hid; rw [HP.out, HC.out]
  go_enter Tryz.func46, Tryz.ntmps46
  go_wp2_with (first
    | (go_at_call 50; refine (count_any _ _ hm).mono ?_; rintro e w1 ⟨rfl, hB1⟩; rw [HC.out])
    | (go_at_call 49; refine (tail_any _ _ _ hm).mono ?_; rintro e w2 ⟨rfl, hB2⟩))
  go_ret
  exact ⟨by rw [HP2.out]; rfl, ext_t hB1 hB2⟩

/-- name.Star -/
theorem star_any (s : ByteArray) (w : World) (hm : s.size ≤ maxLen) :
    Calls Tryz.prog 120 #[.string s] w fun e w' => e = .returned (.string (starB s)) ∧ Below w.heap.size w w' := by
  cases hN : isN s with
  | false =>
    have HT : Hid (starB s = ByteArray.empty) := starB_no (fun e => by rw [hN] at e; cases e.1)
    go_enter Tryz.func120, Tryz.ntmps120
    go_wp2_with (go_at_call 56; refine (isName_any _ _ hm).mono ?_; rintro e w1 ⟨rfl, hB1⟩)
    go_ret
    exact ⟨by rw [HT.out]; rfl, hB1⟩
  | true =>
    have hz := ((isN_iff s).1 hN).1
    by_cases h253 : s.size ≤ 253
    · have HT : Hid (starB s = ⟨#[1, 42]⟩ ++ s) := starB_yes hN h253
      go_enter Tryz.func120, Tryz.ntmps120
      go_wp2_with (go_at_call 56; refine (isName_any _ _ hm).mono ?_; rintro e w1 ⟨rfl, hB1⟩)
      go_ret
      exact ⟨by rw [HT.out]; rfl, hB1⟩
    · have HT : Hid (starB s = ByteArray.empty) := starB_no (fun e => h253 e.2)
      have h253' : 253 < s.size := by omega
      go_enter Tryz.func120, Tryz.ntmps120
      go_wp2_with (go_at_call 56; refine (isName_any _ _ hm).mono ?_; rintro e w1 ⟨rfl, hB1⟩)
      go_ret
      exact ⟨by rw [HT.out]; rfl, hB1⟩

end Go.Proofs.YtgekfhghambacaaGreat

namespace Go.Proofs.YtgekfhghambacaaGreat
set_option linter.unusedVariables false
open Go.RowKit Go.Shelf Go.Proofs.YtgekfhghambacaaGreat.Nm

theorem Tryz.infoByte : (Tryz.prog.info? 5).map (fun i => (i.zero, i.size, i.bytes)) = some (some (.int .u8 0), 1, 1) := by kernel_rfl

/-- the bytes of an owned row, as a text -/
theorem owns_str {w : World} {base g cap : Nat} {t : ByteArray} (h : w.ownsRow base 5 1 (.slice (some ⟨g, 0, none⟩) t.size cap) t.size (Go.Lib.strCells t)) :
    (convert 125 9 (.slice (some ⟨g, 0, none⟩) t.size cap)).run Tryz.prog w = .ok (.string t) w := by
  obtain ⟨hl, (⟨h1, _⟩ | ⟨g', cap', cur, h1, hb, hg, hn, hcap, hsz, ht⟩)⟩ := h
  · cases h1
  · simp at h1
    obtain ⟨rfl, rfl⟩ := h1
    have hlen : t.data.toList.length = t.size := by simp
    have := run_convert_bytes_back (P := Tryz.prog) w 125 9 5 ⟨g, 0, none⟩ cap t.data.toList Tryz.underlying125 Tryz.underlying5 Tryz.underlying9 (fun j hj => by
      have hj' : j < t.size := by omega
      have hcur : cur[j]? = some (.int .u8 (t.data.toList[j].toNat : Int)) := by
        have := congrArg (fun l => l[j]?) ht
        simp only [Nat.mul_one] at this
        rw [List.getElem?_take, if_pos hj'] at this
        rw [← Array.getElem?_toList, this]
        unfold Go.Lib.strCells
        rw [List.getElem?_map, List.getElem?_eq_getElem hj]; rfl
      rw [addr_add, Nat.zero_add]
      simp [World.cell?, hg, hcur])
    rw [hlen] at this
    simpa using this
end Go.Proofs.YtgekfhghambacaaGreat

namespace Go.Proofs.YtgekfhghambacaaGreat
set_option linter.unusedVariables false
open Go.RowKit Go.Shelf Go.Proofs.YtgekfhghambacaaGreat.Nm

theorem owns_some {w : World} {base e size : Nat} {v : Value} {n : Nat} {xs : List Value} (h : w.ownsRow base e size v n xs) (hn : 0 < n) : ∃ g cap, v = .slice (some ⟨g, 0, none⟩) n cap := by
  obtain ⟨_, (⟨_, h0⟩ | ⟨g, cap, cur, rfl, _⟩)⟩ := h
  · omega
  · exact ⟨g, cap, rfl⟩

end Go.Proofs.YtgekfhghambacaaGreat
