import Derived.Test.YtfofdcacikbflaaDoorLow
import Derived.Test.YtfofdcacikbflaaDoorMath17
import Derived.Shelf.Pu.ParseUintPublic10
import Derived.Shelf.Lay
import Derived.Ground.MpProg
import Derived.Lib.AtoiErrMem
import Derived.BigCall
namespace Go.Proofs.YtfofdcacikbflaaDoor
set_option linter.unusedVariables false
open Go.RowKit Go.Shelf Nm

def Tryd.laysPu14_ren : Go.Shelf.Ren := ⟨fun | 14 => 31 | 16 => 40 | 17 => 41 | 19 => 49 | 20 => 50 | 21 => 51 | 22 => 52 | 23 => 53 | 24 => 54 | 25 => 70 | 27 => 14 | 26 => 71 | 28 => 29 | 29 => 38 | 30 => 45 | 31 => 46 | 32 => 47 | 33 => 48 | 35 => 65 | 34 => 66 | 36 => 67 | 37 => 68 | 38 => 69 | 39 => 78 | 40 => 79 | n => n, fun | 9 => 9 | 3 => 3 | 22 => 52 | 24 => 54 | 25 => 55 | 4 => 4 | 34 => 72 | 5 => 5 | 36 => 49 | 37 => 44 | 0 => 0 | 39 => 75 | 21 => 21 | 44 => 93 | 47 => 101 | 50 => 104 | 48 => 102 | 2 => 2 | 52 => 67 | 55 => 70 | 59 => 90 | 60 => 87 | 20 => 20 | 61 => 91 | 65 => 108 | 66 => 109 | 67 => 110 | n => n, fun | 0 => 2 | 1 => 3 | 2 => 1 | 3 => 4 | 4 => 5 | n => n⟩
theorem Tryd.laysPu14 : Go.Proofs.LaysPu.n14 Tryd.prog Tryd.laysPu14_ren := {
  mixed := by kernel_rfl
  f14 := Tryd.func31.trans (congrArg some (by kernel_rfl))
  f16 := Tryd.func40.trans (congrArg some (by kernel_rfl))
  f17 := Tryd.func41.trans (congrArg some (by kernel_rfl))
  f19 := Tryd.func49.trans (congrArg some (by kernel_rfl))
  f20 := Tryd.func50.trans (congrArg some (by kernel_rfl))
  f21 := Tryd.func51.trans (congrArg some (by kernel_rfl))
  f22 := Tryd.func52.trans (congrArg some (by kernel_rfl))
  f23 := Tryd.func53.trans (congrArg some (by kernel_rfl))
  f24 := Tryd.func54.trans (congrArg some (by kernel_rfl))
  f25 := Tryd.func70.trans (congrArg some (by kernel_rfl))
  f26 := Tryd.func71.trans (congrArg some (by kernel_rfl))
  f27 := Tryd.func14.trans (congrArg some (by kernel_rfl))
  f28 := Tryd.func29.trans (congrArg some (by kernel_rfl))
  f29 := Tryd.func38.trans (congrArg some (by kernel_rfl))
  f30 := Tryd.func45.trans (congrArg some (by kernel_rfl))
  f31 := Tryd.func46.trans (congrArg some (by kernel_rfl))
  f32 := Tryd.func47.trans (congrArg some (by kernel_rfl))
  f33 := Tryd.func48.trans (congrArg some (by kernel_rfl))
  f34 := Tryd.func66.trans (congrArg some (by kernel_rfl))
  f35 := Tryd.func65.trans (congrArg some (by kernel_rfl))
  f36 := Tryd.func67.trans (congrArg some (by kernel_rfl))
  f37 := Tryd.func68.trans (congrArg some (by kernel_rfl))
  f38 := Tryd.func69.trans (congrArg some (by kernel_rfl))
  f39 := Tryd.func78.trans (congrArg some (by kernel_rfl))
  f40 := Tryd.func79.trans (congrArg some (by kernel_rfl))
  t0 := Tryd.underlying0
  a0 := Tryd.isAgg0
  z0 := Tryd.sizeOf0
  v0 := Tryd.zeroValue0
  i0 := by kernel_rfl
  t2 := Tryd.underlying2
  a2 := Tryd.isAgg2
  z2 := Tryd.sizeOf2
  v2 := Tryd.zeroValue2
  i2 := by kernel_rfl
  t3 := Tryd.underlying3
  a3 := Tryd.isAgg3
  z3 := Tryd.sizeOf3
  v3 := Tryd.zeroValue3
  i3 := by kernel_rfl
  t4 := Tryd.underlying4
  a4 := Tryd.isAgg4
  z4 := Tryd.sizeOf4
  v4 := Tryd.zeroValue4
  i4 := by kernel_rfl
  t5 := Tryd.underlying5
  a5 := Tryd.isAgg5
  z5 := Tryd.sizeOf5
  v5 := Tryd.zeroValue5
  i5 := by kernel_rfl
  t9 := Tryd.underlying9
  a9 := Tryd.isAgg9
  z9 := Tryd.sizeOf9
  v9 := Tryd.zeroValue9
  i9 := by kernel_rfl
  t20 := Tryd.underlying20
  a20 := Tryd.isAgg20
  z20 := Tryd.sizeOf20
  v20 := Tryd.zeroValue20
  i20 := by kernel_rfl
  t21 := Tryd.underlying21
  a21 := Tryd.isAgg21
  z21 := Tryd.sizeOf21
  v21 := Tryd.zeroValue21
  i21 := by kernel_rfl
  t22 := Tryd.underlying52
  a22 := Tryd.isAgg52
  z22 := Tryd.sizeOf52
  v22 := Tryd.zeroValue52
  i22 := by kernel_rfl
  t24 := Tryd.underlying54
  a24 := Tryd.isAgg54
  z24 := Tryd.sizeOf54
  v24 := Tryd.zeroValue54
  i24 := by kernel_rfl
  t25 := Tryd.underlying55
  a25 := Tryd.isAgg55
  z25 := Tryd.sizeOf55
  v25 := Tryd.zeroValue55
  i25 := by kernel_rfl
  t34 := Tryd.underlying72
  a34 := Tryd.isAgg72
  z34 := Tryd.sizeOf72
  v34 := Tryd.zeroValue72
  i34 := by kernel_rfl
  c34 := by kernel_rfl
  t36 := Tryd.underlying49
  a36 := Tryd.isAgg49
  z36 := Tryd.sizeOf49
  v36 := Tryd.zeroValue49
  i36 := by kernel_rfl
  t37 := Tryd.underlying44
  a37 := Tryd.isAgg44
  z37 := Tryd.sizeOf44
  v37 := Tryd.zeroValue44
  i37 := by kernel_rfl
  t39 := Tryd.underlying75
  a39 := Tryd.isAgg75
  z39 := Tryd.sizeOf75
  v39 := Tryd.zeroValue75
  i39 := by kernel_rfl
  t44 := Tryd.underlying93
  a44 := Tryd.isAgg93
  z44 := Tryd.sizeOf93
  v44 := Tryd.zeroValue93
  i44 := by kernel_rfl
  t47 := Tryd.underlying101
  a47 := Tryd.isAgg101
  z47 := Tryd.sizeOf101
  v47 := Tryd.zeroValue101
  i47 := by kernel_rfl
  t48 := Tryd.underlying102
  a48 := Tryd.isAgg102
  z48 := Tryd.sizeOf102
  v48 := Tryd.zeroValue102
  i48 := by kernel_rfl
  t50 := Tryd.underlying104
  a50 := Tryd.isAgg104
  z50 := Tryd.sizeOf104
  v50 := Tryd.zeroValue104
  i50 := by kernel_rfl
  t52 := Tryd.underlying67
  a52 := Tryd.isAgg67
  z52 := Tryd.sizeOf67
  v52 := Tryd.zeroValue67
  i52 := by kernel_rfl
  t55 := Tryd.underlying70
  a55 := Tryd.isAgg70
  z55 := Tryd.sizeOf70
  v55 := Tryd.zeroValue70
  i55 := by kernel_rfl
  t59 := Tryd.underlying90
  a59 := Tryd.isAgg90
  z59 := Tryd.sizeOf90
  v59 := Tryd.zeroValue90
  i59 := by kernel_rfl
  t60 := Tryd.underlying87
  a60 := Tryd.isAgg87
  z60 := Tryd.sizeOf87
  v60 := Tryd.zeroValue87
  i60 := by kernel_rfl
  t61 := Tryd.underlying91
  a61 := Tryd.isAgg91
  z61 := Tryd.sizeOf91
  t65 := Tryd.underlying108
  a65 := Tryd.isAgg108
  z65 := Tryd.sizeOf108
  v65 := Tryd.zeroValue108
  i65 := by kernel_rfl
  t66 := Tryd.underlying109
  a66 := Tryd.isAgg109
  z66 := Tryd.sizeOf109
  v66 := Tryd.zeroValue109
  i66 := by kernel_rfl
  t67 := Tryd.underlying110
  a67 := Tryd.isAgg110
  z67 := Tryd.sizeOf110
  v67 := Tryd.zeroValue110
  i67 := by kernel_rfl
  g0 := by kernel_rfl
  m0 := by kernel_rfl
  g1 := by kernel_rfl
  m1 := by kernel_rfl
  g2 := by kernel_rfl
  m2 := by kernel_rfl
  g3 := by kernel_rfl
  m3 := by kernel_rfl
  g4 := by kernel_rfl
  m4 := by kernel_rfl }

/-- strconv's two errors lie where they must -/
def Gl (w : World) : Prop := ∃ e0 e1, w.cell? ⟨2, 0, none⟩ = some e0 ∧ (e0 = .nilIface ∨ ∃ te pe, e0 = .iface te pe) ∧ w.cell? ⟨3, 0, none⟩ = some e1 ∧ (e1 = .nilIface ∨ ∃ te pe, e1 = .iface te pe)

theorem number_at (t : ByteArray) (B most : Nat) (w : World) (hB : B = 8 ∨ B = 16 ∨ B = 32) (hm : most ≤ 1000) (ht : t.size ≤ 1048576) (hG : Gl w) :
    Calls Tryd.prog 19 #[.string t, .int .i64 (most : Int), .int .i64 (B : Int)] w fun e w' => e = .returned (.tuple #[.int .i64 (((numR B most t).getD 0 : Nat) : Int), .bool (numR B most t).isSome]) ∧ Below w.heap.size w w' := by
  obtain ⟨e0, e1, hv0, he0, hv1, he1⟩ := hG
  have HB : Hid (numR B most t = numR B most t) := rfl
  by_cases hlong : most < t.size
  · have HR : Hid (numR B most t = none) := numR_long hlong
    clear HB
    go_enter Tryd.func19, Tryd.ntmps19
    go_wp2
    go_ret2
    exact ⟨by rw [HR.out]; rfl, Below.refl _ _⟩
  · cases h : Lib.parseUintB B t.data.toList with
    | ok u =>
      have HR : Hid (numR B most t = some u) := numR_ok hlong h
      have hu : u ≤ 4294967295 := by
        have := Lib.parseUintB_le h
        rcases hB with rfl | rfl | rfl <;> omega
      clear HB
      rcases hB with rfl | rfl | rfl
      · go_enter Tryd.func19, Tryd.ntmps19
        go_wp2_with (go_at_call 31; refine (Any.strconv_ParseUint_10_at8_ok Tryd.laysPu14 t (by omega) u h _).mono ?_; rintro e w' ⟨rfl, hw⟩)
        go_ret2
        refine ⟨by rw [HR.out]; first | rfl | (congr 2; omega), ?_⟩
        rcases hw with rfl | rfl
        · exact Below.refl _ _
        · exact Lib.bytesWorld_below _ _ _
      · go_enter Tryd.func19, Tryd.ntmps19
        go_wp2_with (go_at_call 31; refine (Any.strconv_ParseUint_10_at16_ok Tryd.laysPu14 t (by omega) u h _).mono ?_; rintro e w' ⟨rfl, hw⟩)
        go_ret2
        refine ⟨by rw [HR.out]; first | rfl | (congr 2; omega), ?_⟩
        rcases hw with rfl | rfl
        · exact Below.refl _ _
        · exact Lib.bytesWorld_below _ _ _
      · go_enter Tryd.func19, Tryd.ntmps19
        go_wp2_with (go_at_call 31; refine (Any.strconv_ParseUint_10_at32_ok Tryd.laysPu14 t (by omega) u h _).mono ?_; rintro e w' ⟨rfl, hw⟩)
        go_ret2
        refine ⟨by rw [HR.out]; first | rfl | (congr 2; omega), ?_⟩
        rcases hw with rfl | rfl
        · exact Below.refl _ _
        · exact Lib.bytesWorld_below _ _ _
    | «syntax» =>
      have HR : Hid (numR B most t = none) := numR_syn hlong h
      clear HB
      rcases hB with rfl | rfl | rfl
      · go_enter Tryd.func19, Tryd.ntmps19
        go_wp2_with (go_at_call 31; refine (Any.strconv_ParseUint_10_at8_syntax Tryd.laysPu14 t (by omega) h e0 _ hv0 he0).mono ?_; rintro e w' ⟨N, rfl, -, -, hb⟩)
        go_ret2
        exact ⟨by rw [HR.out]; rfl, hb⟩
      · go_enter Tryd.func19, Tryd.ntmps19
        go_wp2_with (go_at_call 31; refine (Any.strconv_ParseUint_10_at16_syntax Tryd.laysPu14 t (by omega) h e0 _ hv0 he0).mono ?_; rintro e w' ⟨N, rfl, -, -, hb⟩)
        go_ret2
        exact ⟨by rw [HR.out]; rfl, hb⟩
      · go_enter Tryd.func19, Tryd.ntmps19
        go_wp2_with (go_at_call 31; refine (Any.strconv_ParseUint_10_at32_syntax Tryd.laysPu14 t (by omega) h e0 _ hv0 he0).mono ?_; rintro e w' ⟨N, rfl, -, -, hb⟩)
        go_ret2
        exact ⟨by rw [HR.out]; rfl, hb⟩
    | range =>
      have HR : Hid (numR B most t = none) := numR_rng hlong h
      clear HB
      rcases hB with rfl | rfl | rfl
      · go_enter Tryd.func19, Tryd.ntmps19
        go_wp2_with (go_at_call 31; refine (Any.strconv_ParseUint_10_at8_range Tryd.laysPu14 t (by omega) h e1 _ hv1 he1).mono ?_; rintro e w' ⟨N, rfl, -, -, hb⟩)
        go_ret2
        exact ⟨by rw [HR.out]; rfl, hb⟩
      · go_enter Tryd.func19, Tryd.ntmps19
        go_wp2_with (go_at_call 31; refine (Any.strconv_ParseUint_10_at16_range Tryd.laysPu14 t (by omega) h e1 _ hv1 he1).mono ?_; rintro e w' ⟨N, rfl, -, -, hb⟩)
        go_ret2
        exact ⟨by rw [HR.out]; rfl, hb⟩
      · go_enter Tryd.func19, Tryd.ntmps19
        go_wp2_with (go_at_call 31; refine (Any.strconv_ParseUint_10_at32_range Tryd.laysPu14 t (by omega) h e1 _ hv1 he1).mono ?_; rintro e w' ⟨N, rfl, -, -, hb⟩)
        go_ret2
        exact ⟨by rw [HR.out]; rfl, hb⟩
end Go.Proofs.YtfofdcacikbflaaDoor
