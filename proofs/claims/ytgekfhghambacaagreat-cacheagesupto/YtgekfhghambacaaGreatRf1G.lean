import Derived.Test.YtgekfhghambacaaGreatDg1G
import Derived.Test.YtgekfhghambacaaGreatPrWG
import Derived.Laws.BytesString
namespace Go.Proofs.YtgekfhghambacaaGreat
set_option linter.unusedVariables false
open Go.RowKit Go.Shelf Go.Proofs.YtgekfhghambacaaGreat.Nm

theorem Tryz.infoInt : (Tryz.prog.info? 3).map (fun i => (i.zero, i.size, i.bytes)) = some (some (.int .i64 0), 1, 8) := by kernel_rfl

/-- numbers in memory -/
def NumsAt (w : World) (p : Option Addr) (l : List Nat) : Prop := ∀ k (h : k < l.length), ∃ g off, p = some ⟨g, off, none⟩ ∧ g < w.heap.size ∧ w.cell? ⟨g, off + k, none⟩ = some (.int .i64 (l[k] : Nat))
theorem NumsAt.below {w w' : World} {p : Option Addr} {l : List Nat} (h : NumsAt w p l) (hb : Below w.heap.size w w') : NumsAt w' p l := fun k hk => by
  obtain ⟨g, off, h1, h2, h3⟩ := h k hk
  exact ⟨g, off, h1, Nat.lt_of_lt_of_le h2 hb.size, (hb.cell (p := ⟨g, off + k, none⟩) h2).trans h3⟩
abbrev nums (l : List Nat) : List Value := l.map (fun x : Nat => Value.int .i64 (x : Int))
theorem NumsAt.of_owns {w : World} {base n : Nat} {v : Value} {l : List Nat} (h : w.ownsRow base 3 1 v n (nums l)) (hn : n = l.length) : ∃ p c, v = .slice p n c ∧ NumsAt w p l ∧ n ≤ c ∧ c ≤ 9223372036854775807 := by
  obtain ⟨hl, (⟨rfl, rfl⟩ | ⟨g, cap, cur, rfl, hb, hg, hnc, hcap, hsz, ht⟩)⟩ := h
  · exact ⟨none, 0, rfl, fun k hk => by omega, Nat.le_refl _, by omega⟩
  · refine ⟨_, cap, rfl, fun k hk => ⟨g, 0, rfl, (Array.getElem?_eq_some_iff.1 hg).1, ?_⟩, hnc, by unfold maxLen at hcap; omega⟩
    have := World.ownsRow.cellAt (w := w) (base := base) (e := 3) (size := 1) (g := g) (n := n) (cap := cap) (xs := nums l) ⟨hl, .inr ⟨g, cap, cur, rfl, hb, hg, hnc, hcap, hsz, ht⟩⟩ k (by omega)
    rw [Nat.zero_add, this, List.getElem?_map, List.getElem?_eq_getElem hk]
    rfl

end Go.Proofs.YtgekfhghambacaaGreat

namespace Go.Proofs.YtgekfhghambacaaGreat
set_option linter.unusedVariables false
open Go.RowKit Go.Shelf Go.Proofs.YtgekfhghambacaaGreat.Nm

theorem NumsAt.drop {w : World} {g off : Nat} {l : List Nat} (h : NumsAt w (some ⟨g, off, none⟩) l) (n : Nat) : NumsAt w (some ⟨g, off + n, none⟩) (l.drop n) := fun k hk => by
  obtain ⟨g', o', h1, h2, h3⟩ := h (n + k) (by rw [List.length_drop] at hk; omega)
  simp at h1
  obtain ⟨rfl, rfl⟩ := h1
  refine ⟨g, off + n, rfl, h2, ?_⟩
  rw [show off + n + k = off + (n + k) by omega, h3]; simp

end Go.Proofs.YtgekfhghambacaaGreat

namespace Go.Proofs.YtgekfhghambacaaGreat
set_option linter.unusedVariables false
open Go.RowKit Go.Shelf Go.Proofs.YtgekfhghambacaaGreat.Nm

end Go.Proofs.YtgekfhghambacaaGreat
