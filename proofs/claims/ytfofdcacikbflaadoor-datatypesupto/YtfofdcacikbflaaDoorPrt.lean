import Derived.Test.YtfofdcacikbflaaDoorComG
import Derived.Test.YtfofdcacikbflaaDoorMath8G
namespace Go.Proofs.YtfofdcacikbflaaDoor
set_option linter.unusedVariables false
open Go.RowKit Go.Shelf Nm

theorem owns_one (w : World) (t : TypeId) (u : Value) : (w.alloc (.cells #[u] t)).ownsRow w.heap.size t 1 (.slice (some ⟨w.heap.size, 0, none⟩) 1 1) 1 [u] :=
  ⟨rfl, .inr ⟨w.heap.size, 1, #[u], rfl, Nat.le_refl _, World.alloc_heap_new w _, Nat.le_refl _, by unfold maxLen; omega, rfl, rfl⟩⟩

/-- strings.HasPrefix, at the star -/
theorem hasStar_any (s : ByteArray) (w : World) (hm : s.size ≤ 255) :
    Calls Tryd.prog 39 #[.string s, .string ⟨#[1, 42]⟩] w fun e w' => e = .returned (.bool (decide (2 ≤ s.size) && ((s.extract 0 2).toList == [1, 42]))) ∧ w' = w := by
  by_cases h : 2 ≤ s.size
  · have HD : Hid (decide (2 ≤ s.size) = true) := decide_eq_true h
    go_enter Tryd.func39, Tryd.ntmps39
    go_wp2
    go_ret
    exact ⟨by first | rfl | (rw [HD.out]; rfl), rfl⟩
  · have HD : Hid (decide (2 ≤ s.size) = false) := decide_eq_false h
    have h' : s.size < 2 := by omega
    go_enter Tryd.func39, Tryd.ntmps39
    go_wp2
    go_ret
    exact ⟨by first | rfl | (rw [HD.out]; rfl), rfl⟩
end Go.Proofs.YtfofdcacikbflaaDoor
