import Derived.Test.YtmbjmokhkonpiaaGreatDoorSd1G
namespace Go.Proofs.YtmbjmokhkonpiaaGreatDoor
set_option linter.unusedVariables false
open Go.RowKit Go.Shelf Go.Proofs.YtmbjmokhkonpiaaGreatDoor.Nm

/-- a sum in memory -/
structure SumAt (w : World) (B h M P : Nat) : Prop where
  lt : B < w.heap.size
  c0 : w.cell? ⟨B, 0, none⟩ = some (.int .u64 (h : Int))
  c1 : w.cell? ⟨B, 1, none⟩ = some (.int .u64 (M : Int))
  c2 : w.cell? ⟨B, 2, none⟩ = some (.int .u64 (P : Int))
  f0 : w.frozen? ⟨B, 0, none⟩ = false

theorem SumAt.set {w : World} {B h M P : Nat} (hS : SumAt w B h M P) (h' : Nat) : SumAt (w.setCell ⟨B, 0, none⟩ (.int .u64 (h' : Int))).drew B h' M P := by
  refine ⟨by simpa [World.setCell] using hS.lt, ?_, ?_, ?_, ?_⟩
  · exact World.cell?_setCell_same' _ _ _ (by rw [hS.c0]; rfl)
  · exact (World.cell?_setCell_other _ _ _ _ (fun e => by simp at e)).trans hS.c1
  · exact (World.cell?_setCell_other _ _ _ _ (fun e => by simp at e)).trans hS.c2
  · exact (World.frozen?_setCell _ _ _ _).trans hS.f0
theorem SumAt.other {w : World} {B C h M P : Nat} (hS : SumAt w B h M P) (hne : C ≠ B) (v : Value) : SumAt (w.setCell ⟨C, 0, none⟩ v).drew B h M P := by
  refine ⟨by simpa [World.setCell] using hS.lt, ?_, ?_, ?_, ?_⟩
  · exact (cell_far w _ _ _ hne).trans hS.c0
  · exact (cell_far w _ _ _ hne).trans hS.c1
  · exact (cell_far w _ _ _ hne).trans hS.c2
  · exact (World.frozen?_setCell _ _ _ _).trans hS.f0
theorem SumAt.below {w w' : World} {B h M P : Nat} (hS : SumAt w B h M P) (hb : Below w.heap.size w w') : SumAt w' B h M P :=
  ⟨Nat.lt_of_lt_of_le hS.lt hb.size, (hb.cell (p := ⟨B, 0, none⟩) hS.lt).trans hS.c0, (hb.cell (p := ⟨B, 1, none⟩) hS.lt).trans hS.c1, (hb.cell (p := ⟨B, 2, none⟩) hS.lt).trans hS.c2, (hb.frozen (p := ⟨B, 0, none⟩) hS.lt).trans hS.f0⟩

theorem SumAt.alloc {w : World} {B h M P : Nat} (hS : SumAt w B h M P) (o : Obj) : SumAt (w.alloc o) B h M P := hS.below ((Below.refl _ _).alloc (Nat.le_refl _) _)

end Go.Proofs.YtmbjmokhkonpiaaGreatDoor

namespace Go.Proofs.YtmbjmokhkonpiaaGreatDoor
set_option linter.unusedVariables false
open Go.RowKit Go.Shelf Go.Proofs.YtmbjmokhkonpiaaGreatDoor.Nm

end Go.Proofs.YtmbjmokhkonpiaaGreatDoor
