import Derived.Test.YtkamjcpcdkejmaaDoorRd
import Derived.Test.YtkamjcpcdkejmaaDoorRdM
namespace Go.Proofs.YtkamjcpcdkejmaaDoor
set_option linter.unusedVariables false
open Go.RowKit Go.Shelf Nm

/-- gazetteerref1.ReadName -/
theorem readName_any (t o : ByteArray) (w : World) (ht : t.size ≤ 1048576) (ho : o.size ≤ 1048576) :
    Calls Tryd.prog 6 #[.string t, .string o] w fun e w' => e = .returned (.tuple #[.string (readB t o).1, .int .i64 ((readB t o).2.1 : Int), .int .i64 ((readB t o).2.2 : Int)]) ∧ Below w.heap.size w w' := by
  cases hN : isN o with
  | false => exact readName_small t o w ht ho (.inl hN)
  | true =>
    by_cases h0 : t.size = 0
    · exact readName_small t o w ht ho (.inr (.inl h0))
    · by_cases h64 : t = bts [64]
      · exact readName_small t o w ht ho (.inr (.inr (.inl h64)))
      · by_cases h46 : t = bts [46]
        · exact readName_small t o w ht ho (.inr (.inr (.inr h46)))
        · exact readName_main t o w ht ho hN h0 h64 h46

set_option maxHeartbeats 1000000 in
theorem reads_walk (t o : ByteArray) (w : World) (ht : t.size ≤ 1048576) (ho : o.size ≤ 1048576) (hG : Gl w) :
    Calls Tryd.prog 3 #[.string t, .string o] w fun e w' => e = .returned (.bool true) ∧ Below w.heap.size w w' := by
  have hm : o.size ≤ maxLen := by unfold maxLen; omega
  have HA := hide' (read_any t o w ht hm hG)
  have HB := hide' (fun w => readName_any t o w ht ho)
  generalize (readB t o).1 = a at HA HB
  generalize (readB t o).2.1 = b at HA HB
  generalize (readB t o).2.2 = c at HA HB
  go_enter Tryd.func3, Tryd.ntmps3
  go_wp2_with (first
    | (go_at_call 5; refine HA.out.mono ?_; rintro e w1 ⟨rfl, hB1⟩)
    | (go_at_call 6; refine (HB.out _).mono ?_; rintro e w2 ⟨rfl, hB2⟩))
  go_ret
  refine ⟨?_, bstep hB1 hB2 hB1.size⟩
  simp
end Go.Proofs.YtkamjcpcdkejmaaDoor
