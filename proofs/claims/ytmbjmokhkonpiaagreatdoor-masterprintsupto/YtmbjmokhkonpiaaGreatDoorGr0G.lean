import Derived.Shelf.RegionOpen
import Derived.WalkKit
import Derived.WalkSpells
import Derived.WalkLawsBesides
import Derived.OwnWalkIn
import Derived.BigQuiet
import Derived.Deep.QuietTactic
import Derived.RangeFuncBox
import Derived.Lib.SlBytesRow
import Derived.Test.YtmbjmokhkonpiaaGreatDoorRows
import Derived.Laws.AppendOwnNone
/-
  Boxes in memory. (The verifier's own text.)
-/
namespace Go.Proofs.YtmbjmokhkonpiaaGreatDoor
set_option linter.unusedVariables false
open Go.RowKit Go.Shelf

/-- a box in memory -/
def Bx (w : World) (R : Nat) (cs : Array Value) (T : TypeId) : Prop := w.heap[R]? = some (.cells cs T (0, 0))
section
variable {w w' : World} {R : Nat} {cs : Array Value} {T : TypeId}
theorem Bx.lt (h : Bx w R cs T) : R < w.heap.size := (Array.getElem?_eq_some_iff.1 h).1
theorem Bx.cell (h : Bx w R cs T) {j : Nat} {v : Value} (hj : cs[j]? = some v) : w.cell? ⟨R, j, none⟩ = some v := by unfold Bx at h; simp [World.cell?, h, hj]
theorem Bx.free (h : Bx w R cs T) (j : Nat) : w.frozen? ⟨R, j, none⟩ = false := by unfold Bx at h; simp [World.frozen?, h]
theorem Bx.set (h : Bx w R cs T) (j : Nat) (u : Value) : Bx (w.setCell ⟨R, j, none⟩ u) R (cs.setIfInBounds j u) T := by
  unfold Bx at *
  simp [World.setCell, Array.getElem?_modify, h]
theorem Bx.grown {r : Option Nat} (h : Bx w R cs T) (hg : w.grownBy w' r) (hne : r ≠ some R) : Bx w' R cs T := (hg.block R h.lt (fun e => hne e.symm)).trans h
theorem Bx.below {n : Nat} (h : Bx w R cs T) (hb : Below n w w') (hn : R < n) : Bx w' R cs T := (hb.block R hn).trans h
end
theorem bx3 {w : World} {R : Nat} {T : TypeId} {a b c : Value} (h : Bx w R #[a, b, c] T) : w.cell? ⟨R, 0, none⟩ = some a ∧ w.cell? ⟨R, 1, none⟩ = some b ∧ w.cell? ⟨R, 2, none⟩ = some c ∧ w.frozen? ⟨R, 0, none⟩ = false ∧ w.frozen? ⟨R, 1, none⟩ = false ∧ w.frozen? ⟨R, 2, none⟩ = false :=
  ⟨h.cell rfl, h.cell rfl, h.cell rfl, h.free 0, h.free 1, h.free 2⟩
theorem own_shape {w : World} {base e size : Nat} {v : Value} {n : Nat} {xs : List Value} (h : w.ownsRow base e size v n xs) : ∃ p c, v = .slice p n c ∧ n ≤ c ∧ c ≤ maxLen ∧ (p = none → c = 0) := by
  obtain ⟨hl, (⟨rfl, rfl⟩ | ⟨g, cap, cur, rfl, hb, hg, hn, hcap, hsz, ht⟩)⟩ := h
  · exact ⟨none, 0, rfl, Nat.le_refl _, Nat.zero_le _, fun _ => rfl⟩
  · exact ⟨_, cap, rfl, hn, hcap, fun e => by cases e⟩
end Go.Proofs.YtmbjmokhkonpiaaGreatDoor

/-
  Rows of structs in memory, whatever the struct. (The verifier's own text.)
-/
namespace Go.Proofs.YtmbjmokhkonpiaaGreatDoor
set_option linter.unusedVariables false
open Go.RowKit Go.Shelf

section
variable {α : Type} {C : Nat} {V : α → List Value}
end

end Go.Proofs.YtmbjmokhkonpiaaGreatDoor
