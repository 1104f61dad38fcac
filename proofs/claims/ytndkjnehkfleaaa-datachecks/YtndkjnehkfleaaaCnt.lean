import Derived.Test.YtndkjnehkfleaaaFld
import Derived.Test.YtndkjnehkfleaaaMathG
namespace Go.Proofs.Ytndkjnehkfleaaa
set_option linter.unusedVariables false
open Go.RowKit Go.Shelf Nm
attribute [local go_sem] Oper.semAt_some

theorem isName_in (s : ByteArray) (n : Nat) (w : World) (hm : s.size ≤ maxLen) :
    CallsIn Fence.wide n Try.prog 25 #[.string s] w fun e W' => e = .returned (.bool (isN s)) ∧ Below w.heap.size w W' := callsIn_wide.2 (isName_any s w hm)

theorem tail_cells (s t : ByteArray) (w w1 : World) (hB : Below ((w.alloc (Obj.cells #[Value.string s] 9)).alloc (Obj.cells #[Value.string t] 9)).heap.size
    ((w.alloc (Obj.cells #[Value.string s] 9)).alloc (Obj.cells #[Value.string t] 9)) w1) :
    w1.cell? ⟨w.heap.size, 0, none⟩ = some (.string s) ∧ w1.cell? ⟨w.heap.size + 1, 0, none⟩ = some (.string t) ∧ w1.frozen? ⟨w.heap.size + 1, 0, none⟩ = false ∧ Below w.heap.size w w1 ∧ w.heap.size + 2 ≤ w1.heap.size := by
  have c0 := cell_new_l w (.string s) 9
  have c1 := cell_new_l (w.alloc (.cells #[.string s] 9)) (.string t) 9
  rw [World.size_alloc] at c1
  have hz := hB.size
  simp only [World.size_alloc] at hB hz
  refine ⟨(hB.cell (p := ⟨w.heap.size, 0, none⟩) (by simp; omega)).trans (cell_alloc_l _ c0.1), (hB.cell (p := ⟨w.heap.size + 1, 0, none⟩) (by simp)).trans c1.1, (hB.frozen (p := ⟨w.heap.size + 1, 0, none⟩) (by simp)).trans c1.2, ?_, by omega⟩
  exact (((Below.refl _ w).alloc (Nat.le_refl _) _).alloc (by simp) _).trans (hB.mono (by omega))

end Go.Proofs.Ytndkjnehkfleaaa
