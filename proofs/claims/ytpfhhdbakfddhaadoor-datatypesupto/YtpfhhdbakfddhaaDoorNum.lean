import Derived.Test.YtpfhhdbakfddhaaDoorLow
import Derived.Test.YtpfhhdbakfddhaaDoorMath17
import Derived.Shelf.Pu.ParseUintPublic10
import Derived.Shelf.Lay
import Derived.Ground.MpProg
import Derived.Lib.AtoiErrMem
import Derived.BigCall
namespace Go.Proofs.YtpfhhdbakfddhaaDoor
set_option linter.unusedVariables false
open Go.RowKit Go.Shelf Nm

shelf_lay LaysPu.n14 Mp 14 at Tryd as Tryd.laysPu14

/-- strconv's two errors lie where they must -/
def Gl (w : World) : Prop := ∃ e0 e1, w.cell? ⟨2, 0, none⟩ = some e0 ∧ (e0 = .nilIface ∨ ∃ te pe, e0 = .iface te pe) ∧ w.cell? ⟨3, 0, none⟩ = some e1 ∧ (e1 = .nilIface ∨ ∃ te pe, e1 = .iface te pe)

theorem number_at (t : ByteArray) (B most : Nat) (w : World) (hB : B = 8 ∨ B = 16 ∨ B = 32) (hm : most ≤ 1000) (ht : t.size ≤ 1048576) (hG : Gl w) :
    Calls Tryd.prog 19 #[.string t, .int .i64 (most : Int), .int .i64 (B : Int)] w fun e w' => e = .returned (.tuple #[.int .i64 (((numR B most t).getD 0 : Nat) : Int), .bool (numR B most t).isSome]) ∧ Below w.heap.size w w' := by
  obtain ⟨e0, e1, hv0, he0, hv1, he1⟩ := hG
  have HB : Hid (numR B most t = numR B most t) := rfl
  by_cases hlong : most < t.size
  · have HR : Hid (numR B most t = none) := numR_long hlong
    clear HB
    go_enter Tryd.func19, Tryd.ntmps19
    go_wp2
    go_ret2
    exact ⟨by rw [HR.out]; rfl, Below.refl _ _⟩
  · cases h : Lib.parseUintB B t.data.toList with
    | ok u =>
      have HR : Hid (numR B most t = some u) := numR_ok hlong h
      have hu : u ≤ 4294967295 := by
        have := Lib.parseUintB_le h
        rcases hB with rfl | rfl | rfl <;> omega
      clear HB
      rcases hB with rfl | rfl | rfl
      · go_enter Tryd.func19, Tryd.ntmps19
        go_wp2_with (go_at_call 31; refine (Any.strconv_ParseUint_10_at8_ok Tryd.laysPu14 t (by omega) u h _).mono ?_; rintro e w' ⟨rfl, hw⟩)
        go_ret2
        refine ⟨by rw [HR.out]; first | rfl | (congr 2; omega), ?_⟩
        rcases hw with rfl | rfl
        · exact Below.refl _ _
        · exact Lib.bytesWorld_below _ _ _
      · go_enter Tryd.func19, Tryd.ntmps19
        go_wp2_with (go_at_call 31; refine (Any.strconv_ParseUint_10_at16_ok Tryd.laysPu14 t (by omega) u h _).mono ?_; rintro e w' ⟨rfl, hw⟩)
        go_ret2
        refine ⟨by rw [HR.out]; first | rfl | (congr 2; omega), ?_⟩
        rcases hw with rfl | rfl
        · exact Below.refl _ _
        · exact Lib.bytesWorld_below _ _ _
      · go_enter Tryd.func19, Tryd.ntmps19
        go_wp2_with (go_at_call 31; refine (Any.strconv_ParseUint_10_at32_ok Tryd.laysPu14 t (by omega) u h _).mono ?_; rintro e w' ⟨rfl, hw⟩)
        go_ret2
        refine ⟨by rw [HR.out]; first | rfl | (congr 2; omega), ?_⟩
        rcases hw with rfl | rfl
        · exact Below.refl _ _
        · exact Lib.bytesWorld_below _ _ _
    | «syntax» =>
      have HR : Hid (numR B most t = none) := numR_syn hlong h
      clear HB
      rcases hB with rfl | rfl | rfl
      · go_enter Tryd.func19, Tryd.ntmps19
        go_wp2_with (go_at_call 31; refine (Any.strconv_ParseUint_10_at8_syntax Tryd.laysPu14 t (by omega) h e0 _ hv0 he0).mono ?_; rintro e w' ⟨N, rfl, -, -, hb⟩)
        go_ret2
        exact ⟨by rw [HR.out]; rfl, hb⟩
      · go_enter Tryd.func19, Tryd.ntmps19
        go_wp2_with (go_at_call 31; refine (Any.strconv_ParseUint_10_at16_syntax Tryd.laysPu14 t (by omega) h e0 _ hv0 he0).mono ?_; rintro e w' ⟨N, rfl, -, -, hb⟩)
        go_ret2
        exact ⟨by rw [HR.out]; rfl, hb⟩
      · go_enter Tryd.func19, Tryd.ntmps19
        go_wp2_with (go_at_call 31; refine (Any.strconv_ParseUint_10_at32_syntax Tryd.laysPu14 t (by omega) h e0 _ hv0 he0).mono ?_; rintro e w' ⟨N, rfl, -, -, hb⟩)
        go_ret2
        exact ⟨by rw [HR.out]; rfl, hb⟩
    | range =>
      have HR : Hid (numR B most t = none) := numR_rng hlong h
      clear HB
      rcases hB with rfl | rfl | rfl
      · go_enter Tryd.func19, Tryd.ntmps19
        go_wp2_with (go_at_call 31; refine (Any.strconv_ParseUint_10_at8_range Tryd.laysPu14 t (by omega) h e1 _ hv1 he1).mono ?_; rintro e w' ⟨N, rfl, -, -, hb⟩)
        go_ret2
        exact ⟨by rw [HR.out]; rfl, hb⟩
      · go_enter Tryd.func19, Tryd.ntmps19
        go_wp2_with (go_at_call 31; refine (Any.strconv_ParseUint_10_at16_range Tryd.laysPu14 t (by omega) h e1 _ hv1 he1).mono ?_; rintro e w' ⟨N, rfl, -, -, hb⟩)
        go_ret2
        exact ⟨by rw [HR.out]; rfl, hb⟩
      · go_enter Tryd.func19, Tryd.ntmps19
        go_wp2_with (go_at_call 31; refine (Any.strconv_ParseUint_10_at32_range Tryd.laysPu14 t (by omega) h e1 _ hv1 he1).mono ?_; rintro e w' ⟨N, rfl, -, -, hb⟩)
        go_ret2
        exact ⟨by rw [HR.out]; rfl, hb⟩
end Go.Proofs.YtpfhhdbakfddhaaDoor
