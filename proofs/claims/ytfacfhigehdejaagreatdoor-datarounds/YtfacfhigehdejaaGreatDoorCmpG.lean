import Derived.Test.YtfacfhigehdejaaGreatDoorCntG
import Derived.Deep.QuietTactic
import Derived.BigQuiet
import Derived.Deep.RegionWith
import Derived.Lib.Bytealg
import Derived.WalkSmall
import Derived.Test.YtfacfhigehdejaaGreatDoorMath8G
import Derived.Deep.RegionHeld3
namespace Go.Proofs.YtfacfhigehdejaaGreatDoor
set_option linter.unusedVariables false
open Go.RowKit Go.Shelf Go.Proofs.YtfacfhigehdejaaGreatDoor.Nm

theorem isNaN_any (a : Int) (w : World) : Calls Tryz.prog 202 #[.int .i64 a] w fun e w' => e = .returned (.bool false) ∧ w' = w := by
  go_enter Tryz.func202, Tryz.ntmps202
  go_wp2
  go_ret
  exact ⟨by simp, rfl⟩


end Go.Proofs.YtfacfhigehdejaaGreatDoor

namespace Go.Proofs.YtfacfhigehdejaaGreatDoor
set_option linter.unusedVariables false
open Go.RowKit Go.Shelf Go.Proofs.YtfacfhigehdejaaGreatDoor.Nm

end Go.Proofs.YtfacfhigehdejaaGreatDoor

namespace Go.Proofs.YtfacfhigehdejaaGreatDoor
set_option linter.unusedVariables false
open Go.RowKit Go.Shelf Go.Proofs.YtfacfhigehdejaaGreatDoor.Nm

end Go.Proofs.YtfacfhigehdejaaGreatDoor

namespace Go.Proofs.YtfacfhigehdejaaGreatDoor
set_option linter.unusedVariables false
open Go.RowKit Go.Shelf Go.Proofs.YtfacfhigehdejaaGreatDoor.Nm

theorem wrap_nat (d : Nat) (h : d ≤ 4294967296) : IntKind.i64.wrap (d : Int) = (d : Int) := by
  have e := Go.IntWalk.wrap64_in (d : Int) ⟨by omega, by omega⟩
  rw [Go.IntWalk.i64_left, e]
theorem below_any {B : Nat} {a b b' c : World} (h : Below B a b) (k : Below b'.heap.size b' c) (e : b' = b ∨ b' = b.drew) (hB : B ≤ b.heap.size) : Below B a c := by
  rcases e with rfl | rfl
  · exact bstep h k hB
  · exact bstep h.drew k hB
def lenOf : Value → Nat | .slice _ n _ => n | _ => 0

end Go.Proofs.YtfacfhigehdejaaGreatDoor
