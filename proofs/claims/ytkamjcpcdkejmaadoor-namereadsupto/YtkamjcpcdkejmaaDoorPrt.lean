import Derived.Test.YtkamjcpcdkejmaaDoorRCm
import Derived.Test.YtkamjcpcdkejmaaDoorMath12
namespace Go.Proofs.YtkamjcpcdkejmaaDoor
set_option linter.unusedVariables false
open Go.RowKit Go.Shelf Nm

theorem owns_one (w : World) (t : TypeId) (u : Value) : (w.alloc (.cells #[u] t)).ownsRow w.heap.size t 1 (.slice (some ⟨w.heap.size, 0, none⟩) 1 1) 1 [u] :=
  ⟨rfl, .inr ⟨w.heap.size, 1, #[u], rfl, Nat.le_refl _, World.alloc_heap_new w _, Nat.le_refl _, by unfold maxLen; omega, rfl, rfl⟩⟩

/-- name.Parent -/
theorem parent_any (s : ByteArray) (w : World) (hm : s.size ≤ maxLen) :
    Calls Tryd.prog 15 #[.string s] w fun e w' => e = .returned (.string (parB s)) ∧ Below w.heap.size w w' := by
  have HP : Hid (parB s = tailB s (cntI s - 1)) := rfl
  obtain ⟨c, hc, h1, h2⟩ : ∃ c : Int, cntI s = c ∧ -1 ≤ c ∧ c ≤ 254 := ⟨_, rfl, by
    cases hN : isN s with
    | false => rw [cntI_no hN]; omega
    | true => rw [cntI_yes hN]; have := labs_len_le hN; omega⟩
  have HC : Hid (cntI s = c) := hc
  clear hc
  have HP2 : Hid (parB s = tailB s (c - 1)) := by unfold Hid; rw [HP.out, HC.out]
  go_enter Tryd.func15, Tryd.ntmps15
  go_wp2_with (first
    | (go_at_call 10; refine (count_any _ _ hm).mono ?_; rintro e w1 ⟨rfl, hB1⟩; rw [HC.out])
    | (go_at_call 14; refine (tail_any _ _ _ hm).mono ?_; rintro e w2 ⟨rfl, hB2⟩))
  go_ret
  exact ⟨by rw [HP2.out]; rfl, ext_t hB1 hB2⟩

end Go.Proofs.YtkamjcpcdkejmaaDoor
