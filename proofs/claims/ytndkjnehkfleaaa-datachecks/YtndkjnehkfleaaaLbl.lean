import Derived.Test.YtndkjnehkfleaaaEql
import Derived.RangeFuncBox
namespace Go.Proofs.Ytndkjnehkfleaaa
set_option linter.unusedVariables false
open Go.RowKit Go.Shelf Nm
attribute [local go_sem] Oper.semAt_some

theorem appended2 {W w1 : World} {n₀ nb Bn B : Nat} {t e : TypeId} {size : Nat} {v v' : Value} {k m : Nat} {xs ys : List Value} {tmp : Obj}
    (hv : Boxed W B t v) (hte : t ≠ e) (hrow : W.ownsRow nb e size v k xs) (hnb : nb ≤ W.heap.size) (hn₀ : n₀ ≤ B) (hn₁ : n₀ ≤ nb) (hBn : Bn < nb) (hBB : Bn ≠ B)
    (hown' : w1.ownsRow nb e size v' m ys) (hgrow : (W.alloc tmp).grownBy w1 v.ownBlock) :
    Boxed w1 B t v ∧ Boxed (w1.setCell ⟨B, 0, none⟩ v') B t v' ∧ (w1.setCell ⟨B, 0, none⟩ v').ownsRow nb e size v' m ys ∧ KeepsOthers W (w1.setCell ⟨B, 0, none⟩ v') ∧ Below n₀ W (w1.setCell ⟨B, 0, none⟩ v') ∧ KpB Bn W (w1.setCell ⟨B, 0, none⟩ v') := by
  have hv1 : Boxed w1 B t v := (hv.alloc tmp).kept hgrow (hv.not_row hte hrow)
  refine ⟨hv1, hv1.set v', hown'.kept (grownBy_setCell' w1 B v') (.inr (hv1.not_row hte hown').symm), ?_, ?_, ?_⟩
  · refine ((KeepsOthers.alloc W tmp).trans (KeepsOthers.of_grownBy hgrow fun j o ej hj => ?_)).trans (KeepsOthers.setCell _ _ _)
    rcases (hrow.alloc tmp).2 with ⟨rfl, _⟩ | ⟨g, cap, cur, rfl, _, hgb, _⟩
    · simp [Value.ownBlock] at ej
    · obtain rfl : g = j := by simpa [Value.ownBlock] using ej
      rw [hgb] at hj; cases hj; rfl
  · refine (((Below.refl n₀ W).alloc (by omega) tmp).grown hgrow (by simp; omega) fun j ej => ?_).setCell (p := ⟨B, 0, none⟩) hn₀ v'
    have := ownBlock_le hrow ej
    omega
  · intro u hu
    rw [cell_far _ _ _ _ (fun e => hBB e.symm)]
    refine hgrow.cell (cell_alloc_l _ hu) ?_
    intro e
    have := ownBlock_le hrow e.symm
    simp at this; omega

def labsOr (s : ByteArray) : List ByteArray := if isN s = true then labs s else []
theorem labsOr_yes {s : ByteArray} (h : isN s = true) : labsOr s = labs s := by simp [labsOr, h]
theorem labsOr_no {s : ByteArray} (h : isN s = false) : labsOr s = [] := by simp [labsOr, h]

end Go.Proofs.Ytndkjnehkfleaaa
