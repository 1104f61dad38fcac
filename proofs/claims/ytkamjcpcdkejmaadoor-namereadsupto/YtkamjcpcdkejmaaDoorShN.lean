import Derived.Test.YtkamjcpcdkejmaaDoorShw
namespace Go.Proofs.YtkamjcpcdkejmaaDoor
set_option linter.unusedVariables false
open Go.RowKit Go.Shelf Nm

theorem extract_one {X : ByteArray} {k : Nat} (h : k < X.size) : X.extract k (k + 1) = bts [bt X k] := by
  apply ba_ext
  · rw [size_extract' _ _ _ (by omega), bts_size]; simp
  · intro j hj
    rw [size_extract' _ _ _ (by omega)] at hj
    have : j = 0 := by omega
    subst this
    rw [bt_extract _ _ _ _ (by omega) (by omega), bts_bt _ (by intro x hx; simp at hx; rw [hx]; exact bt_lt X k) 0 (by simp)]
    rfl
theorem add_bts (W : World) (l m : List Nat) (h : l.length + m.length ≤ 4294967296) : (Op.stringOp .add (bts l) (bts m)).run Tryd.prog W = .ok (.string (bts (l ++ m))) W := by
  rw [bts_append]; exact run_string_add_sum W _ _ (by rw [bts_size, bts_size]; omega)

end Go.Proofs.YtkamjcpcdkejmaaDoor
