import Derived.Test.YtligjbcinahgdaaGreatCmpG
import Derived.Test.YtligjbcinahgdaaGreatMath8G
import Derived.Test.YtligjbcinahgdaaGreatMath13G
namespace Go.Proofs.YtligjbcinahgdaaGreat
set_option linter.unusedVariables false
open Go.RowKit Go.Shelf Go.Proofs.YtligjbcinahgdaaGreat.Nm

end Go.Proofs.YtligjbcinahgdaaGreat

namespace Go.Proofs.YtligjbcinahgdaaGreat
set_option linter.unusedVariables false
open Go.RowKit Go.Shelf Go.Proofs.YtligjbcinahgdaaGreat.Nm

end Go.Proofs.YtligjbcinahgdaaGreat

namespace Go.Proofs.YtligjbcinahgdaaGreat
set_option linter.unusedVariables false
open Go.RowKit Go.Shelf Go.Proofs.YtligjbcinahgdaaGreat.Nm

theorem owns_some {w : World} {base e size : Nat} {v : Value} {n : Nat} {xs : List Value} (h : w.ownsRow base e size v n xs) (hn : 0 < n) : ∃ g cap, v = .slice (some ⟨g, 0, none⟩) n cap := by
  obtain ⟨_, (⟨_, h0⟩ | ⟨g, cap, cur, rfl, _⟩)⟩ := h
  · omega
  · exact ⟨g, cap, rfl⟩

end Go.Proofs.YtligjbcinahgdaaGreat
