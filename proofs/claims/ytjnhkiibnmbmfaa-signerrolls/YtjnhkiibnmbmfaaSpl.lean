import Derived.Test.YtjnhkiibnmbmfaaChk
import Derived.Maps.AppendAt
namespace Go.Proofs.Ytjnhkiibnmbmfaa
set_option linter.unusedVariables false
open Go.RowKit Go.Shelf Nm

theorem Try.infoStr : (Try.prog.info? 9).map (fun i => (i.zero, i.size, i.bytes)) = some (some (.string .empty), 1, 16) := by kernel_rfl

def strLen : Value → Nat | .string s => s.size | _ => 0

theorem ownBlock_le {w : World} {base e size : Nat} {v : Value} {n : Nat} {xs : List Value} (h : w.ownsRow base e size v n xs) {q : Nat} (hq : v.ownBlock = some q) : base ≤ q := by
  obtain ⟨_, (⟨rfl, _⟩ | ⟨g, cap, cur, rfl, hb, _⟩)⟩ := h
  · simp [Value.ownBlock] at hq
  · simp [Value.ownBlock] at hq; omega

end Go.Proofs.Ytjnhkiibnmbmfaa
