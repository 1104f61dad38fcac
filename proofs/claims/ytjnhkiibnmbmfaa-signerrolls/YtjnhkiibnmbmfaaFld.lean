import Derived.Test.YtjnhkiibnmbmfaaPut
import Derived.Test.YtjnhkiibnmbmfaaSml
import Derived.Test.YtjnhkiibnmbmfaaMathG
namespace Go.Proofs.Ytjnhkiibnmbmfaa
set_option linter.unusedVariables false
open Go.RowKit Go.Shelf Nm

theorem ownsRow_below {w w' : World} {base e size : Nat} {v : Value} {n : Nat} {xs : List Value} (h : w.ownsRow base e size v n xs) (hb : Below w.heap.size w w') : w'.ownsRow base e size v n xs := by
  obtain ⟨hl, (⟨rfl, h0⟩ | ⟨g, cap, cur, rfl, hg, hh, rest⟩)⟩ := h
  · exact ⟨hl, .inl ⟨rfl, h0⟩⟩
  · exact ⟨hl, .inr ⟨g, cap, cur, rfl, hg, (hb.block g (Array.getElem?_eq_some_iff.1 hh).1).trans hh, rest⟩⟩

theorem below_app {B e size n : Nat} {w' w2 w3 : World} {o : Obj} {ov : Value} {xs : List Value} (h : Below B w' w2) (hB : B ≤ w'.heap.size) (hown : w2.ownsRow B e size ov n xs) (hg : (w2.alloc o).grownBy w3 ov.ownBlock) : Below B w' w3 :=
  (h.alloc (Nat.le_trans hB h.size) _).grown hg (by have := h.size; simp; omega) (fun _ e => ownBlock_le hown e)
theorem bstep {B : Nat} {a b c : World} (h : Below B a b) (k : Below b.heap.size b c) (hB : B ≤ b.heap.size) : Below B a c := h.trans (k.mono hB)

end Go.Proofs.Ytjnhkiibnmbmfaa
