import Derived.Test.YtfofdcacikbflaaDoorEql
import Derived.Test.YtfofdcacikbflaaDoorMathG
import Derived.Laws.AppendOwnNone
namespace Go.Proofs.YtfofdcacikbflaaDoor
set_option linter.unusedVariables false
open Go.RowKit Go.Shelf Nm

theorem grownBy_refl (w : World) (row : Option Nat) : w.grownBy w row := ⟨rfl, rfl, rfl, Nat.le_refl _, fun _ _ _ => rfl⟩

theorem StrsAt.take {w : World} {p : Option Addr} {l : List ByteArray} (h : StrsAt w p l) (d : Nat) : StrsAt w p (l.take d) := by
  intro j hj
  rw [List.length_take] at hj
  obtain ⟨g, off, hp, hg, hc⟩ := h j (by omega)
  exact ⟨g, off, hp, hg, by rw [List.getElem_take]; exact hc⟩

end Go.Proofs.YtfofdcacikbflaaDoor
