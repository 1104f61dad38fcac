import Derived.Test.YtkamjcpcdkejmaaDoorCnt
import Derived.Test.YtkamjcpcdkejmaaDoorMath6
namespace Go.Proofs.YtkamjcpcdkejmaaDoor
set_option linter.unusedVariables false
open Go.RowKit Go.Shelf Nm

theorem ext_t {a b c : World} (h : Below a.heap.size a b) (k : Below b.heap.size b c) : Below a.heap.size a c := h.trans (k.mono h.size)
theorem small_max {n : Nat} (h : n ≤ 1048576) : n ≤ maxLen := by unfold maxLen; omega
theorem tail_max (s : ByteArray) (k : Int) : (tailB s k).size ≤ maxLen := small_max (by have := tailB_size s k; omega)
theorem tail_small (s : ByteArray) (k : Int) : (tailB s k).size ≤ 1048576 := by have := tailB_size s k; omega

theorem addr_add (g off d : Nat) : Addr.add ⟨g, off, none⟩ d = ⟨g, off + d, none⟩ := by unfold Addr.add; split <;> simp_all
theorem strs_drop1 {w : World} {p : Option Addr} {l : List ByteArray} (h : StrsAt w p l) (d cap : Nat) : Strs w (.slice (Option.map (fun x => x.add d) p) (l.length - d) cap) (l.drop d) := by
  refine ⟨_, cap, by rw [List.length_drop], fun j hj => ?_⟩
  rw [List.length_drop] at hj
  obtain ⟨g, off, rfl, hg, hc⟩ := h (d + j) (by omega)
  refine ⟨g, off + d, by simp [addr_add], hg, ?_⟩
  rw [List.getElem_drop, Nat.add_assoc]; exact hc
theorem strs_drop0 {w : World} {p : Option Addr} {l : List ByteArray} {d : Nat} (h : l.length ≤ d) (cap : Nat) : Strs w (.slice p (l.length - d) cap) (l.drop d) :=
  ⟨p, cap, by rw [List.length_drop], fun j hj => by rw [List.length_drop] at hj; omega⟩

/-- name.Equal -/
theorem equal_any (a b : ByteArray) (w : World) (ha : a.size ≤ maxLen) (hb : b.size ≤ maxLen) :
    Calls Tryd.prog 11 #[.string a, .string b] w fun e w' => e = .returned (.bool (eqB a b)) ∧ Below w.heap.size w w' := by
  cases hN : isN a with
  | false =>
    have HE : Hid (eqB a b = false) := by unfold Hid eqB; rw [hN]; rfl
    go_enter Tryd.func11, Tryd.ntmps11
    go_wp2_with (go_at_call 17; refine (isName_any _ _ ha).mono ?_; rintro e w1 ⟨rfl, hB1⟩)
    go_ret
    exact ⟨by rw [HE.out]; rfl, hB1⟩
  | true =>
    have HE : Hid (eqB a b = ((foldB a).toList == (foldB b).toList)) := by unfold Hid eqB; rw [hN]; rfl
    go_enter Tryd.func11, Tryd.ntmps11
    go_wp2_with (first
      | (go_at_call 17; refine (isName_any _ _ ha).mono ?_; rintro e w1 ⟨rfl, hB1⟩)
      | (go_at_call 9; refine (fold_any _ _ (by assumption)).mono ?_; rintro e w2 ⟨rfl, hB2⟩; have hB1 := ext_t hB1 hB2; clear hB2))
    go_ret
    refine ⟨by rw [HE.out]; rfl, ?_⟩
    assumption

/-- name.Within -/
theorem within_any (n z : ByteArray) (w : World) (hn : n.size ≤ maxLen) (hz : z.size ≤ maxLen) :
    Calls Tryd.prog 16 #[.string n, .string z] w fun e w' => e = .returned (.bool (withinB n z)) ∧ Below w.heap.size w w' := by
  have hB0 := Below.refl w.heap.size w
  go_enter Tryd.func16, Tryd.ntmps16
  go_wp2_with (first
    | (go_at_call 10; refine (count_any _ _ hz).mono ?_; rintro e w1 ⟨rfl, hB1⟩; have hB0 := ext_t hB0 hB1; clear hB1)
    | (go_at_call 14; refine (tail_any _ _ _ hn).mono ?_; rintro e w1 ⟨rfl, hB1⟩; have hB0 := ext_t hB0 hB1; clear hB1)
    | (go_at_call 11; refine (equal_any _ _ _ (tail_max _ _) hz).mono ?_; rintro e w1 ⟨rfl, hB1⟩; have hB0 := ext_t hB0 hB1; clear hB1))
  go_ret
  refine ⟨rfl, ?_⟩
  assumption

end Go.Proofs.YtkamjcpcdkejmaaDoor
