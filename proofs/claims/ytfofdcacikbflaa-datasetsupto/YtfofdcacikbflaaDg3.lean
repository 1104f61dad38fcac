import Derived.Test.YtfofdcacikbflaaDg2
import Derived.Test.YtfofdcacikbflaaMath22
import Derived.Test.YtfofdcacikbflaaFld
import Derived.Test.YtfofdcacikbflaaSml2
namespace Go.Proofs.Ytfofdcacikbflaa
set_option linter.unusedVariables false
open Go.RowKit Go.Shelf Go.Proofs.Ytfofdcacikbflaa.Nm

/-- data.To32 -/
theorem to32_any (b : ByteArray) (w : World) (hb : b.size ≤ 1048576) :
    Calls Try.prog 16 #[.string b] w fun e w' => e = .returned (.string (to32B b)) ∧ Below w.heap.size w w' := by
  have H := hide' (fun w => toDigits5 b d32 w hb d32_size)
  go_enter Try.func16, Try.ntmps16
  go_wp2_with (go_at_call 36; refine (H.out _).mono ?_; rintro e w1 ⟨rfl, hB1⟩)
  go_ret
  exact ⟨rfl, hB1⟩

/-- data.From32 -/
theorem from32_any (s : ByteArray) (w : World) (hs : s.size ≤ 4194304) :
    Calls Try.prog 14 #[.string s] w fun e w' => e = fromEnd (fromB 5 d32 (lowB s)) ∧ Below w.heap.size w w' := by
  have H := hide' (fun w => fromDigits5 (lowB s) d32 w (by rw [lowB_size]; omega) d32_size)
  have HS := hide' (fun w => small_big s w hs)
  cases hf : fromB 5 d32 (lowB s) with
  | none =>
    rw [hf] at H
    go_enter Try.func14, Try.ntmps14
    go_wp2_with (first
      | (go_at_call 32; refine (HS.out _).mono ?_; rintro e w1 ⟨rfl, hB1⟩)
      | (go_at_call 31; refine (H.out _).mono ?_; rintro e w2 ⟨rfl, hB2⟩; simp only [fromEnd]))
    go_ret2
    exact ⟨rfl, bstep hB1 hB2 hB1.size⟩
  | some l =>
    rw [hf] at H
    go_enter Try.func14, Try.ntmps14
    go_wp2_with (first
      | (go_at_call 32; refine (HS.out _).mono ?_; rintro e w1 ⟨rfl, hB1⟩)
      | (go_at_call 31; refine (H.out _).mono ?_; rintro e w2 ⟨rfl, hB2⟩; simp only [fromEnd]))
    go_ret2
    exact ⟨rfl, bstep hB1 hB2 hB1.size⟩
end Go.Proofs.Ytfofdcacikbflaa
