import Derived.Test.YtmbjmokhkonpiaaGreatDoorMath15G
import Derived.Test.YtmbjmokhkonpiaaGreatDoorMath13G
import Derived.Test.YtmbjmokhkonpiaaGreatDoorMath8G
import Derived.Test.YtmbjmokhkonpiaaGreatDoorRdbG
namespace Go.Proofs.YtmbjmokhkonpiaaGreatDoor.Nm
set_option linter.unusedVariables false

end Go.Proofs.YtmbjmokhkonpiaaGreatDoor.Nm

namespace Go.Proofs.YtmbjmokhkonpiaaGreatDoor.Nm
set_option linter.unusedVariables false

theorem shTo_ge (x : ByteArray) : ∀ n, n ≤ (shTo x n).length
  | 0 => Nat.zero_le _
  | n + 1 => by
    have h1 := shTo_ge x n
    have h2 := (shL_len (bt x n)).1
    simp only [shTo, List.length_append]; omega

theorem showB_size {n : ByteArray} (hn : isN n = true) : (showB n).size ≤ 1048576 := by
  have h255 := ((isN_iff n).1 hn).1
  by_cases hl : (labs n).length = 0
  · rw [showB_root hn hl, bts_size]; simp
  · rw [showB_yes hn (by omega), bts_size]
    have h1 := shAll_len (labs n)
    have h2 := putB_size (labs n)
    rw [putB_labs hn] at h2
    omega
end Go.Proofs.YtmbjmokhkonpiaaGreatDoor.Nm
