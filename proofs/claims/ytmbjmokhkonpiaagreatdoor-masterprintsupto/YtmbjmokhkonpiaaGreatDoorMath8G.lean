import Derived.Test.YtmbjmokhkonpiaaGreatDoorMathG
import Derived.Lib.Bytealg
namespace Go.Proofs.YtmbjmokhkonpiaaGreatDoor.Nm
set_option linter.unusedVariables false

end Go.Proofs.YtmbjmokhkonpiaaGreatDoor.Nm

namespace Go.Proofs.YtmbjmokhkonpiaaGreatDoor.Nm
set_option linter.unusedVariables false


end Go.Proofs.YtmbjmokhkonpiaaGreatDoor.Nm

namespace Go.Proofs.YtmbjmokhkonpiaaGreatDoor.Nm
set_option linter.unusedVariables false

end Go.Proofs.YtmbjmokhkonpiaaGreatDoor.Nm

namespace Go.Proofs.YtmbjmokhkonpiaaGreatDoor.Nm
set_option linter.unusedVariables false

def stN (X Y : List ByteArray) : Nat → Nat
  | 0 => 0
  | k + 1 => if X.drop (X.length - (k + 1)) = Y.drop (Y.length - (k + 1)) then k + 1 else stN X Y k
end Go.Proofs.YtmbjmokhkonpiaaGreatDoor.Nm

namespace Go.Proofs.YtmbjmokhkonpiaaGreatDoor.Nm
set_option linter.unusedVariables false

theorem toList_bt (a b : ByteArray) : (a.toList == b.toList) = decide (a = b) := by
  rw [Bool.eq_iff_iff, beq_iff_eq, toList_inj, decide_eq_true_iff]
theorem isStar_short {s : ByteArray} (h : isN s = true) (hl : (labs s).length = 0) : bt s 0 = 0 ∧ s.size = 1 := by
  have hg : ¬ GoodL s 0 := fun g => by unfold labs at hl; rw [labsFrom_good g] at hl; simp at hl
  have := (isN_iff s).1 h
  rw [fin_bad hg] at this
  exact ⟨this.2.2, this.2.1.symm⟩
theorem isStar_long {s : ByteArray} (h : isN s = true) (hl : 0 < (labs s).length) : 3 ≤ s.size := by
  have h1 := putB_labs h
  have h2 := putB_size (labs s)
  rw [h1] at h2
  cases hL : labs s with
  | nil => rw [hL] at hl; simp at hl
  | cons x l =>
    have hx := labs_mem (s := s) (x := x) (by rw [hL]; simp)
    rw [hL, chunks_cons, ByteArray.size_append, chunk_size] at h2
    omega
end Go.Proofs.YtmbjmokhkonpiaaGreatDoor.Nm
