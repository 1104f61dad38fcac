import Derived.Test.YtoabnpdoicbpiaaGreatWkG
import Derived.Deep.QuietTactic
import Derived.BigQuiet
import Derived.Deep.RegionWith
import Derived.Lib.Bytealg
import Derived.WalkSmall
import Derived.Test.YtoabnpdoicbpiaaGreatMath8G
import Derived.Deep.RegionHeld3
import Derived.Test.YtoabnpdoicbpiaaGreatMath13G
namespace Go.Proofs.YtoabnpdoicbpiaaGreat
set_option linter.unusedVariables false
open Go.RowKit Go.Shelf Go.Proofs.YtoabnpdoicbpiaaGreat.Nm
set_option maxRecDepth 100000 in
theorem bytealgCompare_any (a b : ByteArray) (w : World) :
  Calls Tryz.prog 127 #[.string a, .string b] w fun e w' => e = .returned (.int .i64 (Lib.compareBytes a.data.toList b.data.toList)) ∧ w' = w := by
 go_enter Tryz.func127, Tryz.ntmps127
 go_wp2
 rw [run_callFunc_extern Tryz.func140 (by kernel_rfl) (by kernel_rfl) (by kernel_rfl) (e := Extern.BytealgCompare.compare) (by kernel_rfl), Lib.run_compareString]
 simp only [Result.andThen]
 rw [Oper.upon_value]
 go_wp2
 go_ret
 exact ⟨rfl, rfl⟩
theorem stringsCompare_any (a b : ByteArray) (w : World) :
  Calls Tryz.prog 107 #[.string a, .string b] w fun e w' => e = .returned (.int .i64 (Lib.compareBytes a.data.toList b.data.toList)) ∧ w' = w := by
 go_enter Tryz.func107, Tryz.ntmps107
 go_wp2_with (go_at_call 127; refine (bytealgCompare_any _ _ _).mono ?_; rintro e w1 ⟨rfl, rfl⟩)
 go_ret
 exact ⟨rfl, rfl⟩
theorem isNaN_any (a : Int) (w : World) : Calls Tryz.prog 126 #[.int .i64 a] w fun e w' => e = .returned (.bool false) ∧ w' = w := by
 go_enter Tryz.func126, Tryz.ntmps126
 go_wp2
 go_ret
 exact ⟨by simp, rfl⟩
theorem cmpCompare_any (a b : Int) (w : World) : Calls Tryz.prog 106 #[.int .i64 a, .int .i64 b] w fun e w' => e = .returned (.int .i64 (sgnI a b)) ∧ w' = w := by
 rcases Int.lt_trichotomy a b with h | h | h
 ·have HS : Hid (sgnI a b = -1) := by unfold Hid sgnI; rw [if_pos h]
  go_enter Tryz.func106, Tryz.ntmps106
  go_wp2_with (go_at_call 126; refine (isNaN_any _ _).mono ?_; rintro e w1 ⟨rfl, rfl⟩)
  go_ret
  exact ⟨by rw [HS.out]; rfl, rfl⟩
 ·subst h
  have HS : Hid (sgnI a a = 0) := by unfold Hid sgnI; simp
  go_enter Tryz.func106, Tryz.ntmps106
  go_wp2_with (go_at_call 126; refine (isNaN_any _ _).mono ?_; rintro e w1 ⟨rfl, rfl⟩)
  go_ret
  exact ⟨by rw [HS.out]; rfl, rfl⟩
 ·have HS : Hid (sgnI a b = 1) := by unfold Hid sgnI; rw [if_neg (by omega), if_pos h]
  have h' : ¬ a < b := by omega
  go_enter Tryz.func106, Tryz.ntmps106
  go_wp2_with (go_at_call 126; refine (isNaN_any _ _).mono ?_; rintro e w1 ⟨rfl, rfl⟩)
  go_ret
  exact ⟨by rw [HS.out]; rfl, rfl⟩
set_option maxRecDepth 100000 in
set_option maxHeartbeats 1000000 in
theorem sameTail_any (px py : Option Addr) (cx cy : Nat) (x y : List ByteArray) (w : World) (hx : StrsAt w px x) (hy : StrsAt w py y) (hlx : x.length ≤ 1000) (hly : y.length ≤ 1000) :
  Calls Tryz.prog 125 #[.slice px x.length cx, .slice py y.length cy] w fun e w' => ∃ k : Nat, e = .returned (.int .i64 k) ∧ IsST x y k ∧ Below w.heap.size w w' := by
 by_cases hmin : y.length < x.length
 ·have hle : y.length ≤ x.length := by omega
  go_enter Tryz.func125, Tryz.ntmps125
  go_wp2
  go_loopw [13] (fun i wr => ∃ k : Nat, i = .int .i64 k ∧ k ≤ y.length ∧ Hid (∀ j, j < k → x[x.length - 1 - j]? = y[y.length - 1 - j]?) ∧ Below w.heap.size w wr)
   (fun i _ => y.length - (intOf i).toNat)
  case atStart => exact ⟨0, rfl, Nat.zero_le _, fun j hj => absurd hj (Nat.not_lt_zero _), Below.refl _ _⟩
  case round =>
   obtain ⟨k, rfl, hk, HS, hB⟩ := hrel
   by_cases hlt : k < y.length
   ·obtain ⟨dx, hdx, HDX, hdx1⟩ : ∃ d : Nat, (x.length : Int) - 1 - (k : Int) = (d : Int) ∧ Hid (x.length - 1 - k = d) ∧ d < x.length := ⟨x.length - 1 - k, by omega, rfl, by omega⟩
    obtain ⟨dy, hdy, HDY, hdy1⟩ : ∃ d : Nat, (y.length : Int) - 1 - (k : Int) = (d : Int) ∧ Hid (y.length - 1 - k = d) ∧ d < y.length := ⟨y.length - 1 - k, by omega, rfl, by omega⟩
    obtain ⟨gx, ox, rfl, hgx, hcx0⟩ := hx dx hdx1
    obtain ⟨gy, oy, rfl, hgy, hcy0⟩ := hy dy hdy1
    have hcx := (hB.cell (p := ⟨gx, ox + dx, none⟩) hgx).trans hcx0
    have hcy := (hB.cell (p := ⟨gy, oy + dy, none⟩) hgy).trans hcy0
    have HX : Hid (x[x.length - 1 - k]? = some x[dx]) := by unfold Hid; rw [HDX.out]; exact List.getElem?_eq_getElem hdx1
    have HY : Hid (y[y.length - 1 - k]? = some y[dy]) := by unfold Hid; rw [HDY.out]; exact List.getElem?_eq_getElem hdy1
    generalize x[dx] = X at *
    generalize y[dy] = Y at *
    clear hcx0 hcy0
    by_cases hE : X = Y
    ·have hE' : (X.toList == Y.toList) = true := by rw [hE]; exact beq_self_eq_true _
     have HS2 : Hid (∀ j, j < k + 1 → x[x.length - 1 - j]? = y[y.length - 1 - j]?) := by
      intro j hj
      by_cases e : j = k
      ·subst e; rw [HX.out, HY.out, hE]
      ·exact HS.out j (by omega)
     clear hE
     go_wp2
     go_quiet (fail)
     go_wp2
     all_goals
      go_roundw
      case rel => exact ⟨k + 1, by go_num, by omega, HS2, below_drewN hB _⟩
      case measure => simp [intOf]; omega
    ·have hE' : (X.toList == Y.toList) = false := by rw [beq_eq_false_iff_ne]; intro e; exact hE (toList_inj.1 e)
     have HK : Hid (IsST x y k) := ⟨by omega, by omega, HS.out, fun _ _ => by rw [HX.out, HY.out]; intro e; exact hE (Option.some.inj e)⟩
     clear hE
     go_wp2
     go_quiet (fail)
     go_wp2
     all_goals
      go_ret
      exact ⟨k, rfl, HK.out, below_drewN hB _⟩
   ·have HK : Hid (IsST x y k) := ⟨by omega, by omega, HS.out, fun h1 h2 => by omega⟩
    have hkM : k = y.length := by omega
    subst hkM
    go_wp2
    go_ret
    exact ⟨_, rfl, HK.out, hB⟩
 ·have hle : x.length ≤ y.length := by omega
  go_enter Tryz.func125, Tryz.ntmps125
  go_wp2
  go_loopw [13] (fun i wr => ∃ k : Nat, i = .int .i64 k ∧ k ≤ x.length ∧ Hid (∀ j, j < k → x[x.length - 1 - j]? = y[y.length - 1 - j]?) ∧ Below w.heap.size w wr)
   (fun i _ => x.length - (intOf i).toNat)
  case atStart => exact ⟨0, rfl, Nat.zero_le _, fun j hj => absurd hj (Nat.not_lt_zero _), Below.refl _ _⟩
  case round =>
   obtain ⟨k, rfl, hk, HS, hB⟩ := hrel
   by_cases hlt : k < x.length
   ·obtain ⟨dx, hdx, HDX, hdx1⟩ : ∃ d : Nat, (x.length : Int) - 1 - (k : Int) = (d : Int) ∧ Hid (x.length - 1 - k = d) ∧ d < x.length := ⟨x.length - 1 - k, by omega, rfl, by omega⟩
    obtain ⟨dy, hdy, HDY, hdy1⟩ : ∃ d : Nat, (y.length : Int) - 1 - (k : Int) = (d : Int) ∧ Hid (y.length - 1 - k = d) ∧ d < y.length := ⟨y.length - 1 - k, by omega, rfl, by omega⟩
    obtain ⟨gx, ox, rfl, hgx, hcx0⟩ := hx dx hdx1
    obtain ⟨gy, oy, rfl, hgy, hcy0⟩ := hy dy hdy1
    have hcx := (hB.cell (p := ⟨gx, ox + dx, none⟩) hgx).trans hcx0
    have hcy := (hB.cell (p := ⟨gy, oy + dy, none⟩) hgy).trans hcy0
    have HX : Hid (x[x.length - 1 - k]? = some x[dx]) := by unfold Hid; rw [HDX.out]; exact List.getElem?_eq_getElem hdx1
    have HY : Hid (y[y.length - 1 - k]? = some y[dy]) := by unfold Hid; rw [HDY.out]; exact List.getElem?_eq_getElem hdy1
    generalize x[dx] = X at *
    generalize y[dy] = Y at *
    clear hcx0 hcy0
    by_cases hE : X = Y
    ·have hE' : (X.toList == Y.toList) = true := by rw [hE]; exact beq_self_eq_true _
     have HS2 : Hid (∀ j, j < k + 1 → x[x.length - 1 - j]? = y[y.length - 1 - j]?) := by
      intro j hj
      by_cases e : j = k
      ·subst e; rw [HX.out, HY.out, hE]
      ·exact HS.out j (by omega)
     clear hE
     go_wp2
     go_quiet (fail)
     go_wp2
     all_goals
      go_roundw
      case rel => exact ⟨k + 1, by go_num, by omega, HS2, below_drewN hB _⟩
      case measure => simp [intOf]; omega
    ·have hE' : (X.toList == Y.toList) = false := by rw [beq_eq_false_iff_ne]; intro e; exact hE (toList_inj.1 e)
     have HK : Hid (IsST x y k) := ⟨by omega, by omega, HS.out, fun _ _ => by rw [HX.out, HY.out]; intro e; exact hE (Option.some.inj e)⟩
     clear hE
     go_wp2
     go_quiet (fail)
     go_wp2
     all_goals
      go_ret
      exact ⟨k, rfl, HK.out, below_drewN hB _⟩
   ·have HK : Hid (IsST x y k) := ⟨by omega, by omega, HS.out, fun h1 h2 => by omega⟩
    have hkM : k = x.length := by omega
    subst hkM
    go_wp2
    go_ret
    exact ⟨_, rfl, HK.out, hB⟩
end Go.Proofs.YtoabnpdoicbpiaaGreat
namespace Go.Proofs.YtoabnpdoicbpiaaGreat
set_option linter.unusedVariables false
open Go.RowKit Go.Shelf Go.Proofs.YtoabnpdoicbpiaaGreat.Nm
set_option maxRecDepth 100000 in
set_option maxHeartbeats 1000000 in
theorem compare_any (a b : ByteArray) (w : World) (ha : a.size ≤ maxLen) (hb : b.size ≤ maxLen) :
  Calls Tryz.prog 104 #[.string a, .string b] w fun e w' => e = .returned (.int .i64 (cmpB a b)) ∧ Below w.heap.size w w' := by
 by_cases hall : isN a = true ∧ isN b = true
 ·obtain ⟨h1, h2⟩ := hall
  have HC := cmpB_yes h1 h2
  obtain ⟨la, lla⟩ := isN_low h1
  obtain ⟨lb, llb⟩ := isN_low h2
  have hal := labs_len_le h1
  have hbl := labs_len_le h2
  obtain ⟨X, hX⟩ : ∃ X, (labs a).map lowB = X := ⟨_, rfl⟩
  obtain ⟨Y, hY⟩ : ∃ Y, (labs b).map lowB = Y := ⟨_, rfl⟩
  rw [hX] at lla
  rw [hY] at llb
  have HC2 : Hid (cmpB a b = cmpL X.reverse Y.reverse) := by unfold Hid; rw [HC, hX, hY]
  have hXl : X.length ≤ 254 := by rw [← hX]; simpa using hal
  have hYl : Y.length ≤ 254 := by rw [← hY]; simpa using hbl
  have hza : (lowB a).size ≤ maxLen := by rw [lowB_size]; exact ha
  have hzb : (lowB b).size ≤ maxLen := by rw [lowB_size]; exact hb
  have HLA : Hid (labs (lowB a) = X) := lla
  have HLB : Hid (labs (lowB b) = Y) := llb
  have HFA : Hid (foldB a = lowB a) := foldB_yes h1
  have HFB : Hid (foldB b = lowB b) := foldB_yes h2
  clear HC lla llb hX hY hal hbl
  go_enter Tryz.func104, Tryz.ntmps104
  go_wp2_with fail
  refine (isName_any a _ ha).mono ?_
  rintro e w1 ⟨rfl, hB1⟩
  go_wp2_with fail
  refine (isName_any b _ hb).mono ?_
  rintro e w2 ⟨rfl, hB2⟩
  go_wp2_with fail
  refine (fold_any a _ ha).mono ?_
  rintro e w3 ⟨rfl, hB3⟩
  rw [HFA.out]
  go_wp2_with fail
  refine (labels_yes (lowB a) _ hza la).mono ?_
  rintro e w4 ⟨px, cx, rfl, ⟨hpx, hcx, hcx2⟩, hB4⟩
  rw [HLA.out] at hpx hcx ⊢
  go_wp2_with fail
  refine (fold_any b _ hb).mono ?_
  rintro e w5 ⟨rfl, hB5⟩
  rw [HFB.out]
  go_wp2_with fail
  refine (labels_yes (lowB b) _ hzb lb).mono ?_
  rintro e w6 ⟨py, cy, rfl, ⟨hpy, hcy, hcy2⟩, hB6⟩
  rw [HLB.out] at hpy hcy ⊢
  have hpx6 := (hpx.below hB5).below hB6
  clear hpx
  have hBx := ext_t (ext_t (ext_t (ext_t (ext_t hB1 hB2) hB3) hB4) hB5) hB6
  clear hB1 hB2 hB3 hB4 hB5 hB6
  go_wp2_with fail
  refine (sameTail_any px py cx cy X Y _ hpx6 hpy (by omega) (by omega)).mono ?_
  rintro e w7 ⟨k, rfl, hst, hB7⟩
  have hpx7 := hpx6.below hB7
  have hpy7 := hpy.below hB7
  have hBy := ext_t hBx hB7
  have hkx := hst.lx
  have hky := hst.ly
  clear hpx6 hpy hBx hB7
  by_cases e1 : k = X.length
  ·have HV : Hid (cmpB a b = sgnI X.length Y.length) := by unfold Hid; rw [HC2.out, hst.cmp_end (.inl e1)]
   have e1' : ((k : Int) == (X.length : Int)) = true := by rw [beq_iff_eq]; omega
   clear e1
   go_wp2_with (go_at_call 106; refine (cmpCompare_any _ _ _).mono ?_; rintro e w8 ⟨rfl, rfl⟩)
   go_ret
   exact ⟨by rw [HV.out]; rfl, hBy⟩
  ·by_cases e2 : k = Y.length
   ·have HV : Hid (cmpB a b = sgnI X.length Y.length) := by unfold Hid; rw [HC2.out, hst.cmp_end (.inr e2)]
    have e1' : ((k : Int) == (X.length : Int)) = false := by rw [beq_eq_false_iff_ne]; omega
    have e2' : ((k : Int) == (Y.length : Int)) = true := by rw [beq_iff_eq]; omega
    clear e1 e2
    go_wp2_with (go_at_call 106; refine (cmpCompare_any _ _ _).mono ?_; rintro e w8 ⟨rfl, rfl⟩)
    go_ret
    exact ⟨by rw [HV.out]; rfl, hBy⟩
   ·have e1' : ((k : Int) == (X.length : Int)) = false := by rw [beq_eq_false_iff_ne]; omega
    have e2' : ((k : Int) == (Y.length : Int)) = false := by rw [beq_eq_false_iff_ne]; omega
    have HV0 := hst.cmp_mid (by omega) (by omega)
    obtain ⟨dx, hdx, HDX, hdx1⟩ : ∃ d : Nat, (X.length : Int) - 1 - (k : Int) = (d : Int) ∧ X.length - 1 - k = d ∧ d < X.length := ⟨X.length - 1 - k, by omega, rfl, by omega⟩
    obtain ⟨dy, hdy, HDY, hdy1⟩ : ∃ d : Nat, (Y.length : Int) - 1 - (k : Int) = (d : Int) ∧ Y.length - 1 - k = d ∧ d < Y.length := ⟨Y.length - 1 - k, by omega, rfl, by omega⟩
    obtain ⟨gx, ox, rfl, hgx, hcx0⟩ := hpx7 dx hdx1
    obtain ⟨gy, oy, rfl, hgy, hcy0⟩ := hpy7 dy hdy1
    have HV : Hid (cmpB a b = cb X[dx] Y[dy]) := by
     unfold Hid
     rw [HC2.out, HV0]
     congr 1
     ·congr 1
     ·congr 1
    generalize X[dx] = x at *
    generalize Y[dy] = y at *
    clear HV0 e1 e2 HDX HDY
    go_wp2_with fail
    go_quiet ((go_at_call 107; exact Calls.quiet_of_same (stringsCompare_any _ _ _)))
    go_wp2
    all_goals
     go_ret
     exact ⟨by rw [HV.out]; rfl, below_drewN hBy _⟩
 ·have HV : Hid (cmpB a b = 0) := cmpB_no hall
  have hB0 := Below.refl w.heap.size w
  cases h1 : isN a with
  | false =>
   clear hall
   go_enter Tryz.func104, Tryz.ntmps104
   go_wp2_with (go_at_call 67; refine (isName_any _ _ (by assumption)).mono ?_; rintro e w1 ⟨rfl, hB1⟩; have hB0 := ext_t hB0 hB1; clear hB1)
   go_ret
   refine ⟨by rw [HV.out]; rfl, ?_⟩
   assumption
  | true =>
   have h2 : isN b = false := by
    cases h2 : isN b with
    | false => rfl
    | true => exact absurd ⟨h1, h2⟩ hall
   clear hall
   go_enter Tryz.func104, Tryz.ntmps104
   go_wp2_with (go_at_call 67; refine (isName_any _ _ (by assumption)).mono ?_; rintro e w1 ⟨rfl, hB1⟩; have hB0 := ext_t hB0 hB1; clear hB1)
   go_ret
   refine ⟨by rw [HV.out]; rfl, ?_⟩
   assumption
end Go.Proofs.YtoabnpdoicbpiaaGreat
namespace Go.Proofs.YtoabnpdoicbpiaaGreat
set_option linter.unusedVariables false
open Go.RowKit Go.Shelf Go.Proofs.YtoabnpdoicbpiaaGreat.Nm
end Go.Proofs.YtoabnpdoicbpiaaGreat
namespace Go.Proofs.YtoabnpdoicbpiaaGreat
set_option linter.unusedVariables false
open Go.RowKit Go.Shelf Go.Proofs.YtoabnpdoicbpiaaGreat.Nm
theorem wrap_nat (d : Nat) (h : d ≤ 4294967296) : IntKind.i64.wrap (d : Int) = (d : Int) := by
 have e := Go.IntWalk.wrap64_in (d : Int) ⟨by omega, by omega⟩
 rw [Go.IntWalk.i64_left, e]
theorem below_any {B : Nat} {a b b' c : World} (h : Below B a b) (k : Below b'.heap.size b' c) (e : b' = b ∨ b' = b.drew) (hB : B ≤ b.heap.size) : Below B a c := by
 rcases e with rfl | rfl
 ·exact bstep h k hB
 ·exact bstep h.drew k hB
def lenOf : Value → Nat | .slice _ n _ => n | _ => 0
set_option maxRecDepth 100000 in
set_option maxHeartbeats 2000000 in
theorem refCompare_yes (a b : ByteArray) (w : World) (ha : a.size ≤ 1048576) (hb : b.size ≤ 1048576) (h1 : isN a = true) (h2 : isN b = true) :
  Calls Tryz.prog 134 #[.string a, .string b] w fun e w' => e = .returned (.int .i64 (cmpB a b)) ∧ Below w.heap.size w w' := by
 have HC : Hid (cmpB a b = cmpL ((labs a).map lowB).reverse ((labs b).map lowB).reverse) := cmpB_yes h1 h2
 have hal := labs_len_le h1
 have hbl := labs_len_le h2
 have HMA : Hid (∀ x ∈ labs a, x.size ≤ 63) := fun x hx => (labs_mem hx).2
 have HMB : Hid (∀ x ∈ labs b, x.size ≤ 63) := fun x hx => (labs_mem hx).2
 go_enter Tryz.func134, Tryz.ntmps134
 go_wp2_with fail
 refine (split_yes a _ ha h1).mono ?_
 rintro e w1 ⟨px, cx, rfl, ⟨hpx, hcx, hcx2, _⟩, hB1⟩
 go_wp2_with fail
 refine (split_yes b _ hb h2).mono ?_
 rintro e w2 ⟨py, cy, rfl, ⟨hpy, hcy, hcy2, _⟩, hB2⟩
 have hpx2 := hpx.below hB2
 have hBx := ext_t hB1 hB2
 clear hpx hB1 hB2
 go_wp2
 go_loopw [5, 7] (fun xv yv wr => ∃ i j : Nat, xv = .slice px i cx ∧ yv = .slice py j cy ∧ i ≤ (labs a).length ∧ j ≤ (labs b).length ∧
         Hid (cmpB a b = cmpL (((labs a).take i).map lowB).reverse (((labs b).take j).map lowB).reverse) ∧ Below w2.heap.size w2 wr)
  (fun xv _ _ => lenOf xv)
 case atStart => exact ⟨(labs a).length, (labs b).length, rfl, rfl, Nat.le_refl _, Nat.le_refl _, by rw [List.take_of_length_le (Nat.le_refl _), List.take_of_length_le (Nat.le_refl _)]; exact HC.out, Below.refl _ _⟩
 case round =>
  obtain ⟨i, j, rfl, rfl, hi, hj, HI, hB⟩ := hrel
  by_cases i0 : i = 0
  ·subst i0
   by_cases j0 : j = 0
   ·subst j0
    have HV : Hid (cmpB a b = 0) := by unfold Hid; rw [HI.out]; rfl
    go_wp2
    go_ret
    exact ⟨by rw [HV.out]; rfl, hBx.trans (hB.mono hBx.size)⟩
   ·have HV : Hid (cmpB a b = -1) := by
     unfold Hid; rw [HI.out]
     cases hd : (((labs b).take j).map lowB).reverse with
     | nil => have := congrArg List.length hd; simp only [List.length_reverse, List.length_map, List.length_take, List.length_nil] at this; omega
     | cons => rfl
    have j0' : ((j : Int) == 0) = false := by rw [beq_eq_false_iff_ne]; omega
    go_wp2
    go_ret
    exact ⟨by rw [HV.out]; rfl, hBx.trans (hB.mono hBx.size)⟩
  ·have i0' : ((i : Int) == 0) = false := by rw [beq_eq_false_iff_ne]; omega
   by_cases j0 : j = 0
   ·subst j0
    have HV : Hid (cmpB a b = 1) := by
     unfold Hid; rw [HI.out]
     cases hd : (((labs a).take i).map lowB).reverse with
     | nil => have := congrArg List.length hd; simp only [List.length_reverse, List.length_map, List.length_take, List.length_nil] at this; omega
     | cons => rfl
    go_wp2
    go_ret
    exact ⟨by rw [HV.out]; rfl, hBx.trans (hB.mono hBx.size)⟩
   ·have j0' : ((j : Int) == 0) = false := by rw [beq_eq_false_iff_ne]; omega
    obtain ⟨dx, hdx, hdx1, HDX⟩ : ∃ d : Nat, (i : Int) - 1 = (d : Int) ∧ d < (labs a).length ∧ Hid (i = d + 1) := ⟨i - 1, by omega, by omega, by unfold Hid; omega⟩
    obtain ⟨dy, hdy, hdy1, HDY⟩ : ∃ d : Nat, (j : Int) - 1 = (d : Int) ∧ d < (labs b).length ∧ Hid (j = d + 1) := ⟨j - 1, by omega, by omega, by unfold Hid; omega⟩
    have hdi : dx < i := by omega
    have hdj : dy < j := by omega
    have hdi' : (dx : Int) < (i : Int) := by omega
    have hdj' : (dy : Int) < (j : Int) := by omega
    have hdi0 : (0 : Int) ≤ (dx : Int) := by omega
    have hdj0 : (0 : Int) ≤ (dy : Int) := by omega
    have hwi : IntKind.i64.wrap ((i : Int) - 1) = (dx : Int) := by rw [hdx]; exact wrap_nat dx (by omega)
    have hwj : IntKind.i64.wrap ((j : Int) - 1) = (dy : Int) := by rw [hdy]; exact wrap_nat dy (by omega)
    have hwi2 : IntKind.i64.wrap (dx : Int) = (dx : Int) := wrap_nat dx (by omega)
    have hwj2 : IntKind.i64.wrap (dy : Int) = (dy : Int) := wrap_nat dy (by omega)
    obtain ⟨gx, ox, rfl, hgx, hcx0⟩ := hpx2 dx hdx1
    obtain ⟨gy, oy, rfl, hgy, hcy0⟩ := hpy dy hdy1
    have hcx1 := (hB.cell (p := ⟨gx, ox + dx, none⟩) hgx).trans hcx0
    have hcy1 := (hB.cell (p := ⟨gy, oy + dy, none⟩) hgy).trans hcy0
    have hxs : (labs a)[dx].size ≤ 1048576 := by have := HMA.out _ (List.getElem_mem hdx1); omega
    have hys : (labs b)[dy].size ≤ 1048576 := by have := HMB.out _ (List.getElem_mem hdy1); omega
    have HI2 : Hid (cmpB a b = cmpL (lowB (labs a)[dx] :: (((labs a).take dx).map lowB).reverse) (lowB (labs b)[dy] :: (((labs b).take dy).map lowB).reverse)) := by
     unfold Hid
     rw [HI.out, HDX.out, HDY.out, List.take_succ_eq_append_getElem hdx1, List.take_succ_eq_append_getElem hdy1, List.map_append, List.map_append, List.reverse_append, List.reverse_append]
     rfl
    generalize (labs a)[dx] = X at *
    generalize (labs b)[dy] = Y at *
    have hless1 := cb_less (lowB X) (lowB Y)
    have hr := cb_range (lowB X) (lowB Y)
    by_cases hc : cb (lowB X) (lowB Y) = 0
    ·have HX : Hid (cmpB a b = cmpL (((labs a).take dx).map lowB).reverse (((labs b).take dy).map lowB).reverse) := by
      unfold Hid; rw [HI2.out]; simp only [cmpL]; rw [if_pos hc]
     have hl1 : Op.bytesLess (lowB X).toList (lowB Y).toList = false := by rw [hless1, hc]; rfl
     have hl2 : ((lowB X).toList == (lowB Y).toList) = true := by rw [(cb_zero _ _).1 hc]; exact beq_self_eq_true _
     clear hless1 hr hc HI HI2
     go_wp2_with fail
     go_region_held3 (fun w' => w'.cell? ⟨gx, ox + dx, none⟩ = some (.string X) ∧ w'.cell? ⟨gy, oy + dy, none⟩ = some (.string Y)) (first | go_keep | exact ⟨hcx1, hcy1⟩) ((go_at_call 143; refine (low_any _ _ ?_).mono ?_; assumption; rintro e w5 ⟨rfl, hB5⟩; have hB := below_any hB hB5 (by first | exact .inl rfl | exact .inr rfl) hB.size; have hcx1 := (hB.cell (p := ⟨gx, ox + dx, none⟩) hgx).trans hcx0; have hcy1 := (hB.cell (p := ⟨gy, oy + dy, none⟩) hgy).trans hcy0; clear hB5))
     go_wp2
     go_quiet (fail)
     go_wp2
     all_goals
      go_roundw
      case rel => exact ⟨dx, dy, rfl, rfl, by omega, by omega, HX, below_drewN hB _⟩
      case measure => simp [lenOf]; omega
    ·have HX : Hid (cmpB a b = cb (lowB X) (lowB Y)) := by
      unfold Hid; rw [HI2.out]; simp only [cmpL]; rw [if_neg hc]
     have hl2 : ((lowB X).toList == (lowB Y).toList) = false := by rw [beq_eq_false_iff_ne]; intro e; exact hc ((cb_zero _ _).2 (toList_inj.1 e))
     by_cases hneg : cb (lowB X) (lowB Y) = -1
     ·have hl1 : Op.bytesLess (lowB X).toList (lowB Y).toList = true := by rw [hless1, hneg]; rfl
      have HV : Hid (cmpB a b = -1) := by unfold Hid; rw [HX.out, hneg]
      clear hless1 hr hc HI HI2 hneg
      go_wp2_with fail
      go_region_held3 (fun w' => w'.cell? ⟨gx, ox + dx, none⟩ = some (.string X) ∧ w'.cell? ⟨gy, oy + dy, none⟩ = some (.string Y)) (first | go_keep | exact ⟨hcx1, hcy1⟩) ((go_at_call 143; refine (low_any _ _ ?_).mono ?_; assumption; rintro e w5 ⟨rfl, hB5⟩; have hB := below_any hB hB5 (by first | exact .inl rfl | exact .inr rfl) hB.size; have hcx1 := (hB.cell (p := ⟨gx, ox + dx, none⟩) hgx).trans hcx0; have hcy1 := (hB.cell (p := ⟨gy, oy + dy, none⟩) hgy).trans hcy0; clear hB5))
      go_wp2
      go_ret
      exact ⟨by rw [HV.out]; rfl, hBx.trans (hB.mono hBx.size)⟩
     ·have hl1 : Op.bytesLess (lowB X).toList (lowB Y).toList = false := by rw [hless1]; exact decide_eq_false hneg
      have HV : Hid (cmpB a b = 1) := by unfold Hid; rw [HX.out]; omega
      clear hless1 hr hc HI HI2 hneg
      go_wp2_with fail
      go_region_held3 (fun w' => w'.cell? ⟨gx, ox + dx, none⟩ = some (.string X) ∧ w'.cell? ⟨gy, oy + dy, none⟩ = some (.string Y)) (first | go_keep | exact ⟨hcx1, hcy1⟩) ((go_at_call 143; refine (low_any _ _ ?_).mono ?_; assumption; rintro e w5 ⟨rfl, hB5⟩; have hB := below_any hB hB5 (by first | exact .inl rfl | exact .inr rfl) hB.size; have hcx1 := (hB.cell (p := ⟨gx, ox + dx, none⟩) hgx).trans hcx0; have hcy1 := (hB.cell (p := ⟨gy, oy + dy, none⟩) hgy).trans hcy0; clear hB5))
      go_wp2
      go_ret
      exact ⟨by rw [HV.out]; rfl, hBx.trans (hB.mono hBx.size)⟩
theorem refCompare_any (a b : ByteArray) (w : World) (ha : a.size ≤ 1048576) (hb : b.size ≤ 1048576) :
  Calls Tryz.prog 134 #[.string a, .string b] w fun e w' => e = .returned (.int .i64 (cmpB a b)) ∧ Below w.heap.size w w' := by
 by_cases hall : isN a = true ∧ isN b = true
 ·exact refCompare_yes a b w ha hb hall.1 hall.2
 ·have HV : Hid (cmpB a b = 0) := cmpB_no hall
  have hB0 := Below.refl w.heap.size w
  cases h1 : isN a with
  | false =>
   clear hall
   go_enter Tryz.func134, Tryz.ntmps134
   go_wp2_with (go_at_call 109; refine (split_any _ _ (by assumption)).mono ?_; rintro e w1 ⟨v, rfl, _, hB1⟩; have hB0 := ext_t hB0 hB1; clear hB1)
   go_ret
   refine ⟨by rw [HV.out]; rfl, ?_⟩
   assumption
  | true =>
   have h2 : isN b = false := by
    cases h2 : isN b with
    | false => rfl
    | true => exact absurd ⟨h1, h2⟩ hall
   clear hall
   go_enter Tryz.func134, Tryz.ntmps134
   go_wp2_with (go_at_call 109; refine (split_any _ _ (by assumption)).mono ?_; rintro e w1 ⟨v, rfl, _, hB1⟩; have hB0 := ext_t hB0 hB1; clear hB1)
   go_ret
   refine ⟨by rw [HV.out]; rfl, ?_⟩
   assumption
end Go.Proofs.YtoabnpdoicbpiaaGreat
namespace Go.Proofs.YtoabnpdoicbpiaaGreat
set_option linter.unusedVariables false
open Go.RowKit Go.Shelf Go.Proofs.YtoabnpdoicbpiaaGreat.Nm
theorem hasStar_any (s : ByteArray) (w : World) (hm : s.size ≤ 255) :
  Calls Tryz.prog 108 #[.string s, .string ⟨#[1, 42]⟩] w fun e w' => e = .returned (.bool (decide (2 ≤ s.size) && ((s.extract 0 2).toList == [1, 42]))) ∧ w' = w := by
 by_cases h : 2 ≤ s.size
 ·have HD : Hid (decide (2 ≤ s.size) = true) := decide_eq_true h
  go_enter Tryz.func108, Tryz.ntmps108
  go_wp2
  go_ret
  exact ⟨by first | rfl | (rw [HD.out]; rfl), rfl⟩
 ·have HD : Hid (decide (2 ≤ s.size) = false) := decide_eq_false h
  have h' : s.size < 2 := by omega
  go_enter Tryz.func108, Tryz.ntmps108
  go_wp2
  go_ret
  exact ⟨by first | rfl | (rw [HD.out]; rfl), rfl⟩
theorem hasPrefix_any (s : ByteArray) (w : World) (hm : s.size ≤ 255) :
  Calls Tryz.prog 77 #[.string s, .string ⟨#[1, 42]⟩] w fun e w' => e = .returned (.bool (decide (2 ≤ s.size) && ((s.extract 0 2).toList == [1, 42]))) ∧ w' = w := by
 go_enter Tryz.func77, Tryz.ntmps77
 go_wp2_with (go_at_call 108; refine (hasStar_any _ _ hm).mono ?_; rintro e w1 ⟨rfl, rfl⟩)
 go_ret
 exact ⟨rfl, rfl⟩
theorem isStar_any (s : ByteArray) (w : World) (hm : s.size ≤ maxLen) :
  Calls Tryz.prog 75 #[.string s] w fun e w' => e = .returned (.bool (isStarB s)) ∧ Below w.heap.size w w' := by
 cases hN : isN s with
 | false =>
  have HT : Hid (isStarB s = false) := by unfold Hid isStarB; rw [hN]; rfl
  go_enter Tryz.func75, Tryz.ntmps75
  go_wp2_with (go_at_call 67; refine (isName_any _ _ hm).mono ?_; rintro e w1 ⟨rfl, hB1⟩)
  go_ret
  exact ⟨by rw [HT.out]; rfl, hB1⟩
 | true =>
  have hz := ((isN_iff s).1 hN).1
  have HT : Hid (isStarB s = (decide (2 ≤ s.size) && ((s.extract 0 2).toList == [1, 42]))) := by
   unfold Hid isStarB
   rw [hN, Bool.true_and]
   by_cases h2 : 2 ≤ s.size
   ·rw [prefix_star h2, decide_eq_true h2]; rfl
   ·rw [decide_eq_false h2, Bool.false_and, decide_eq_false_iff_not]
    rintro ⟨h0, _⟩
    have hl : (labs s).length = 0 := by
     by_cases e : (labs s).length = 0
     ·exact e
     ·have := isStar_long hN (by omega); omega
    have := isStar_short hN hl
    omega
  go_enter Tryz.func75, Tryz.ntmps75
  go_wp2_with (first
   | (go_at_call 67; refine (isName_any _ _ hm).mono ?_; rintro e w1 ⟨rfl, hB1⟩)
   | (go_at_call 77; refine (hasPrefix_any _ _ hz).mono ?_; rintro e w2 ⟨rfl, rfl⟩))
  go_ret
  exact ⟨by rw [HT.out]; rfl, hB1⟩
theorem refIsStar_any (s : ByteArray) (w : World) (hs : s.size ≤ 1048576) :
  Calls Tryz.prog 114 #[.string s] w fun e w' => e = .returned (.bool (isStarB s)) ∧ Below w.heap.size w w' := by
 cases hN : isN s with
 | false =>
  have HT : Hid (isStarB s = false) := by unfold Hid isStarB; rw [hN]; rfl
  go_enter Tryz.func114, Tryz.ntmps114
  go_wp2_with (go_at_call 109; refine (split_no s _ hs hN).mono ?_; rintro e w1 ⟨v, rfl, hB1⟩)
  go_ret
  exact ⟨by rw [HT.out]; rfl, hB1⟩
 | true =>
  by_cases h0 : 0 < (labs s).length
  ·have HT : Hid (isStarB s = ((labs s)[0].toList == [42])) := by
    unfold Hid isStarB; rw [hN, isStar_first hN h0]; rfl
   generalize hX : (labs s)[0] = X at *
   have HX : Hid ((labs s)[0] = X) := hX
   clear hX
   go_enter Tryz.func114, Tryz.ntmps114
   go_wp2_with (go_at_call 109; refine (split_yes s _ hs hN).mono ?_; rintro e w1 ⟨p, cap, rfl, ⟨hc, hcap, hcap2, _⟩, hB1⟩; obtain ⟨g, off, rfl, hg, hcell⟩ := hc 0 h0; rw [HX.out, Nat.add_zero] at hcell)
   go_ret
   exact ⟨by rw [HT.out]; rfl, hB1⟩
  ·have HT : Hid (isStarB s = false) := by
    have := isStar_short hN (by omega)
    unfold Hid isStarB; rw [hN, this.1]; rfl
   have h0' : ¬ (0 : Int) < ((labs s).length : Int) := by omega
   go_enter Tryz.func114, Tryz.ntmps114
   go_wp2_with (go_at_call 109; refine (split_yes s _ hs hN).mono ?_; rintro e w1 ⟨p, cap, rfl, ⟨hc, hcap, hcap2, _⟩, hB1⟩)
   go_ret
   exact ⟨by rw [HT.out]; rfl, hB1⟩
end Go.Proofs.YtoabnpdoicbpiaaGreat
namespace Go.Proofs.YtoabnpdoicbpiaaGreat
set_option linter.unusedVariables false
open Go.RowKit Go.Shelf Go.Proofs.YtoabnpdoicbpiaaGreat.Nm
theorem Tryz.infoByte : (Tryz.prog.info? 5).map (fun i => (i.zero, i.size, i.bytes)) = some (some (.int .u8 0), 1, 1) := by kernel_rfl
end Go.Proofs.YtoabnpdoicbpiaaGreat
namespace Go.Proofs.YtoabnpdoicbpiaaGreat
set_option linter.unusedVariables false
open Go.RowKit Go.Shelf Go.Proofs.YtoabnpdoicbpiaaGreat.Nm
end Go.Proofs.YtoabnpdoicbpiaaGreat
