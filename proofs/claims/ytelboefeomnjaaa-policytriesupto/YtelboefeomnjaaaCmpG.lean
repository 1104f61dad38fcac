import Derived.Test.YtelboefeomnjaaaCntG
import Derived.Deep.QuietTactic
import Derived.BigQuiet
import Derived.Deep.RegionWith
import Derived.Lib.Bytealg
import Derived.WalkSmall
import Derived.Test.YtelboefeomnjaaaMath8G
import Derived.Deep.RegionHeld3
namespace Go.Proofs.Ytelboefeomnjaaa
set_option linter.unusedVariables false
open Go.RowKit Go.Shelf Go.Proofs.Ytelboefeomnjaaa.Nm

theorem isNaN_any (a : Int) (w : World) : Calls Try.prog 33 #[.int .i64 a] w fun e w' => e = .returned (.bool false) ∧ w' = w := by
  go_enter Try.func33, Try.ntmps33
  go_wp2
  go_ret
  exact ⟨by simp, rfl⟩


theorem cmpCompare_any (a b : Int) (w : World) : Calls Try.prog 22 #[.int .i64 a, .int .i64 b] w fun e w' => e = .returned (.int .i64 (sgnI a b)) ∧ w' = w := by
  rcases Int.lt_trichotomy a b with h | h | h
  · have HS : Hid (sgnI a b = -1) := by unfold Hid sgnI; rw [if_pos h]
    go_enter Try.func22, Try.ntmps22
    go_wp2_with (go_at_call 33; refine (isNaN_any _ _).mono ?_; rintro e w1 ⟨rfl, rfl⟩)
    go_ret
    exact ⟨by rw [HS.out]; rfl, rfl⟩
  · subst h
    have HS : Hid (sgnI a a = 0) := by unfold Hid sgnI; simp
    go_enter Try.func22, Try.ntmps22
    go_wp2_with (go_at_call 33; refine (isNaN_any _ _).mono ?_; rintro e w1 ⟨rfl, rfl⟩)
    go_ret
    exact ⟨by rw [HS.out]; rfl, rfl⟩
  · have HS : Hid (sgnI a b = 1) := by unfold Hid sgnI; rw [if_neg (by omega), if_pos h]
    have h' : ¬ a < b := by omega
    go_enter Try.func22, Try.ntmps22
    go_wp2_with (go_at_call 33; refine (isNaN_any _ _).mono ?_; rintro e w1 ⟨rfl, rfl⟩)
    go_ret
    exact ⟨by rw [HS.out]; rfl, rfl⟩

end Go.Proofs.Ytelboefeomnjaaa

namespace Go.Proofs.Ytelboefeomnjaaa
set_option linter.unusedVariables false
open Go.RowKit Go.Shelf Go.Proofs.Ytelboefeomnjaaa.Nm

end Go.Proofs.Ytelboefeomnjaaa

namespace Go.Proofs.Ytelboefeomnjaaa
set_option linter.unusedVariables false
open Go.RowKit Go.Shelf Go.Proofs.Ytelboefeomnjaaa.Nm

end Go.Proofs.Ytelboefeomnjaaa

namespace Go.Proofs.Ytelboefeomnjaaa
set_option linter.unusedVariables false
open Go.RowKit Go.Shelf Go.Proofs.Ytelboefeomnjaaa.Nm

theorem wrap_nat (d : Nat) (h : d ≤ 4294967296) : IntKind.i64.wrap (d : Int) = (d : Int) := by
  have e := Go.IntWalk.wrap64_in (d : Int) ⟨by omega, by omega⟩
  rw [Go.IntWalk.i64_left, e]
theorem below_any {B : Nat} {a b b' c : World} (h : Below B a b) (k : Below b'.heap.size b' c) (e : b' = b ∨ b' = b.drew) (hB : B ≤ b.heap.size) : Below B a c := by
  rcases e with rfl | rfl
  · exact bstep h k hB
  · exact bstep h.drew k hB
def lenOf : Value → Nat | .slice _ n _ => n | _ => 0

end Go.Proofs.Ytelboefeomnjaaa
