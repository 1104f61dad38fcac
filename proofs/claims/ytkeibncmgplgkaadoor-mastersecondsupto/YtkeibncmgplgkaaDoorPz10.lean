import Derived.Test.YtkeibncmgplgkaaDoorPz9
namespace Go.Proofs.YtkeibncmgplgkaaDoor
set_option linter.unusedVariables false
open Go.RowKit Go.Shelf Go.Proofs.YtkeibncmgplgkaaDoor.Nm

/-- what must lie in memory -/
def GS (w : World) : Prop := Gl w ∧ GU w
/-- the law -/
theorem lawsec_any (t : ByteArray) (w : World) (ht : t.size ≤ 1048576) (hG : GS w) :
    Calls Tryd.prog 3 #[.string t] w fun e w' => e = .returned (.bool true) ∧ Below w.heap.size w w' := by
  have HA := hide3 (seconds_any t w ht hG.1 hG.2)
  have HB := hide3 (fun w => refSeconds_any t w ht)
  generalize ((secB t).getD 0 : Nat) = n at *
  generalize (secB t).isSome = b at *
  go_enter Tryd.func3, Tryd.ntmps3
  go_wp2_with (first | (go_at_call 4; refine (HA.out).mono ?_; rintro e w1 ⟨rfl, hB1⟩) | (go_at_call 5; refine (HB.out _).mono ?_; rintro e w2 ⟨rfl, hB2⟩))
  all_goals
    go_ret
    exact ⟨by first | rfl | simp, hB1.trans (hB2.mono hB1.size)⟩
end Go.Proofs.YtkeibncmgplgkaaDoor
