import Derived.Test.YtfonnepnaeehhaaLbl
import Derived.Deep.QuietTactic
import Derived.BigQuiet
import Derived.Deep.RegionWith
import Derived.Lib.Bytealg
import Derived.WalkSmall
import Derived.Test.YtfonnepnaeehhaaMath9
namespace Go.Proofs.Ytfonnepnaeehhaa
set_option linter.unusedVariables false
open Go.RowKit Go.Shelf Nm

/-- strings.Compare -/
theorem bytealgCompare_any (a b : ByteArray) (w : World) :
    Calls Try.prog 23 #[.string a, .string b] w fun e w' => e = .returned (.int .i64 (Lib.compareBytes a.data.toList b.data.toList)) ∧ w' = w := by
  go_enter Try.func23, Try.ntmps23
  go_wp2
  rw [run_callFunc_extern Try.func24 (by kernel_rfl) (by kernel_rfl) (by kernel_rfl) (e := Extern.BytealgCompare.compare) (by kernel_rfl), Lib.run_compareString]
  simp only [Result.andThen]
  rw [Oper.upon_value]
  go_wp2
  go_ret
  exact ⟨rfl, rfl⟩
theorem stringsCompare_any (a b : ByteArray) (w : World) :
    Calls Try.prog 17 #[.string a, .string b] w fun e w' => e = .returned (.int .i64 (Lib.compareBytes a.data.toList b.data.toList)) ∧ w' = w := by
  go_enter Try.func17, Try.ntmps17
  go_wp2_with (go_at_call 23; refine (bytealgCompare_any _ _ _).mono ?_; rintro e w1 ⟨rfl, rfl⟩)
  go_ret
  exact ⟨rfl, rfl⟩

theorem isNaN_any (a : Int) (w : World) : Calls Try.prog 22 #[.int .i64 a] w fun e w' => e = .returned (.bool false) ∧ w' = w := by
  go_enter Try.func22, Try.ntmps22
  go_wp2
  go_ret
  exact ⟨by simp, rfl⟩


theorem cmpCompare_any (a b : Int) (w : World) : Calls Try.prog 16 #[.int .i64 a, .int .i64 b] w fun e w' => e = .returned (.int .i64 (sgnI a b)) ∧ w' = w := by
  rcases Int.lt_trichotomy a b with h | h | h
  · have HS : Hid (sgnI a b = -1) := by unfold Hid sgnI; rw [if_pos h]
    go_enter Try.func16, Try.ntmps16
    go_wp2_with (go_at_call 22; refine (isNaN_any _ _).mono ?_; rintro e w1 ⟨rfl, rfl⟩)
    go_ret
    exact ⟨by rw [HS.out]; rfl, rfl⟩
  · subst h
    have HS : Hid (sgnI a a = 0) := by unfold Hid sgnI; simp
    go_enter Try.func16, Try.ntmps16
    go_wp2_with (go_at_call 22; refine (isNaN_any _ _).mono ?_; rintro e w1 ⟨rfl, rfl⟩)
    go_ret
    exact ⟨by rw [HS.out]; rfl, rfl⟩
  · have HS : Hid (sgnI a b = 1) := by unfold Hid sgnI; rw [if_neg (by omega), if_pos h]
    have h' : ¬ a < b := by omega
    go_enter Try.func16, Try.ntmps16
    go_wp2_with (go_at_call 22; refine (isNaN_any _ _).mono ?_; rintro e w1 ⟨rfl, rfl⟩)
    go_ret
    exact ⟨by rw [HS.out]; rfl, rfl⟩

set_option maxRecDepth 100000 in
set_option maxHeartbeats 1000000 in
/-- name.sameTail -/
theorem sameTail_any (px py : Option Addr) (cx cy : Nat) (x y : List ByteArray) (w : World) (hx : StrsAt w px x) (hy : StrsAt w py y) (hlx : x.length ≤ 1000) (hly : y.length ≤ 1000) :
    Calls Try.prog 15 #[.slice px x.length cx, .slice py y.length cy] w fun e w' => ∃ k : Nat, e = .returned (.int .i64 k) ∧ IsST x y k ∧ Below w.heap.size w w' := by
  by_cases hmin : y.length < x.length
  · have hle : y.length ≤ x.length := by omega
    go_enter Try.func15, Try.ntmps15
    go_wp2
    go_loopw [13] (fun i wr => ∃ k : Nat, i = .int .i64 k ∧ k ≤ y.length ∧ Hid (∀ j, j < k → x[x.length - 1 - j]? = y[y.length - 1 - j]?) ∧ Below w.heap.size w wr)
      (fun i _ => y.length - (intOf i).toNat)
    case atStart => exact ⟨0, rfl, Nat.zero_le _, fun j hj => absurd hj (Nat.not_lt_zero _), Below.refl _ _⟩
    case round =>
      obtain ⟨k, rfl, hk, HS, hB⟩ := hrel
      by_cases hlt : k < y.length
      · obtain ⟨dx, hdx, HDX, hdx1⟩ : ∃ d : Nat, (x.length : Int) - 1 - (k : Int) = (d : Int) ∧ Hid (x.length - 1 - k = d) ∧ d < x.length := ⟨x.length - 1 - k, by omega, rfl, by omega⟩
        obtain ⟨dy, hdy, HDY, hdy1⟩ : ∃ d : Nat, (y.length : Int) - 1 - (k : Int) = (d : Int) ∧ Hid (y.length - 1 - k = d) ∧ d < y.length := ⟨y.length - 1 - k, by omega, rfl, by omega⟩
        obtain ⟨gx, ox, rfl, hgx, hcx0⟩ := hx dx hdx1
        obtain ⟨gy, oy, rfl, hgy, hcy0⟩ := hy dy hdy1
        have hcx := (hB.cell (p := ⟨gx, ox + dx, none⟩) hgx).trans hcx0
        have hcy := (hB.cell (p := ⟨gy, oy + dy, none⟩) hgy).trans hcy0
        have HX : Hid (x[x.length - 1 - k]? = some x[dx]) := by unfold Hid; rw [HDX.out]; exact List.getElem?_eq_getElem hdx1
        have HY : Hid (y[y.length - 1 - k]? = some y[dy]) := by unfold Hid; rw [HDY.out]; exact List.getElem?_eq_getElem hdy1
        generalize x[dx] = X at *
        generalize y[dy] = Y at *
        clear hcx0 hcy0
        by_cases hE : X = Y
        · have hE' : (X.toList == Y.toList) = true := by rw [hE]; exact beq_self_eq_true _
          have HS2 : Hid (∀ j, j < k + 1 → x[x.length - 1 - j]? = y[y.length - 1 - j]?) := by
            intro j hj
            by_cases e : j = k
            · subst e; rw [HX.out, HY.out, hE]
            · exact HS.out j (by omega)
          clear hE
          go_wp2
          go_quiet (fail)
          go_wp2
          all_goals
            go_roundw
            case rel => exact ⟨k + 1, by go_num, by omega, HS2, below_drewN hB _⟩
            case measure => simp [intOf]; omega
        · have hE' : (X.toList == Y.toList) = false := by rw [beq_eq_false_iff_ne]; intro e; exact hE (toList_inj.1 e)
          have HK : Hid (IsST x y k) := ⟨by omega, by omega, HS.out, fun _ _ => by rw [HX.out, HY.out]; intro e; exact hE (Option.some.inj e)⟩
          clear hE
          go_wp2
          go_quiet (fail)
          go_wp2
          all_goals
            go_ret
            exact ⟨k, rfl, HK.out, below_drewN hB _⟩
      · have HK : Hid (IsST x y k) := ⟨by omega, by omega, HS.out, fun h1 h2 => by omega⟩
        have hkM : k = y.length := by omega
        subst hkM
        go_wp2
        go_ret
        exact ⟨_, rfl, HK.out, hB⟩
  · have hle : x.length ≤ y.length := by omega
    go_enter Try.func15, Try.ntmps15
    go_wp2
    go_loopw [13] (fun i wr => ∃ k : Nat, i = .int .i64 k ∧ k ≤ x.length ∧ Hid (∀ j, j < k → x[x.length - 1 - j]? = y[y.length - 1 - j]?) ∧ Below w.heap.size w wr)
      (fun i _ => x.length - (intOf i).toNat)
    case atStart => exact ⟨0, rfl, Nat.zero_le _, fun j hj => absurd hj (Nat.not_lt_zero _), Below.refl _ _⟩
    case round =>
      obtain ⟨k, rfl, hk, HS, hB⟩ := hrel
      by_cases hlt : k < x.length
      · obtain ⟨dx, hdx, HDX, hdx1⟩ : ∃ d : Nat, (x.length : Int) - 1 - (k : Int) = (d : Int) ∧ Hid (x.length - 1 - k = d) ∧ d < x.length := ⟨x.length - 1 - k, by omega, rfl, by omega⟩
        obtain ⟨dy, hdy, HDY, hdy1⟩ : ∃ d : Nat, (y.length : Int) - 1 - (k : Int) = (d : Int) ∧ Hid (y.length - 1 - k = d) ∧ d < y.length := ⟨y.length - 1 - k, by omega, rfl, by omega⟩
        obtain ⟨gx, ox, rfl, hgx, hcx0⟩ := hx dx hdx1
        obtain ⟨gy, oy, rfl, hgy, hcy0⟩ := hy dy hdy1
        have hcx := (hB.cell (p := ⟨gx, ox + dx, none⟩) hgx).trans hcx0
        have hcy := (hB.cell (p := ⟨gy, oy + dy, none⟩) hgy).trans hcy0
        have HX : Hid (x[x.length - 1 - k]? = some x[dx]) := by unfold Hid; rw [HDX.out]; exact List.getElem?_eq_getElem hdx1
        have HY : Hid (y[y.length - 1 - k]? = some y[dy]) := by unfold Hid; rw [HDY.out]; exact List.getElem?_eq_getElem hdy1
        generalize x[dx] = X at *
        generalize y[dy] = Y at *
        clear hcx0 hcy0
        by_cases hE : X = Y
        · have hE' : (X.toList == Y.toList) = true := by rw [hE]; exact beq_self_eq_true _
          have HS2 : Hid (∀ j, j < k + 1 → x[x.length - 1 - j]? = y[y.length - 1 - j]?) := by
            intro j hj
            by_cases e : j = k
            · subst e; rw [HX.out, HY.out, hE]
            · exact HS.out j (by omega)
          clear hE
          go_wp2
          go_quiet (fail)
          go_wp2
          all_goals
            go_roundw
            case rel => exact ⟨k + 1, by go_num, by omega, HS2, below_drewN hB _⟩
            case measure => simp [intOf]; omega
        · have hE' : (X.toList == Y.toList) = false := by rw [beq_eq_false_iff_ne]; intro e; exact hE (toList_inj.1 e)
          have HK : Hid (IsST x y k) := ⟨by omega, by omega, HS.out, fun _ _ => by rw [HX.out, HY.out]; intro e; exact hE (Option.some.inj e)⟩
          clear hE
          go_wp2
          go_quiet (fail)
          go_wp2
          all_goals
            go_ret
            exact ⟨k, rfl, HK.out, below_drewN hB _⟩
      · have HK : Hid (IsST x y k) := ⟨by omega, by omega, HS.out, fun h1 h2 => by omega⟩
        have hkM : k = x.length := by omega
        subst hkM
        go_wp2
        go_ret
        exact ⟨_, rfl, HK.out, hB⟩
end Go.Proofs.Ytfonnepnaeehhaa
