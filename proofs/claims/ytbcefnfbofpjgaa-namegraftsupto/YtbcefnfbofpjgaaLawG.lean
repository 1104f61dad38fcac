import Derived.Test.YtbcefnfbofpjgaaGrf
namespace Go.Proofs.Ytbcefnfbofpjgaa
set_option linter.unusedVariables false
open Go.RowKit Go.Shelf Nm

set_option maxHeartbeats 1000000 in
theorem grafts_walk (n f t : ByteArray) (w : World) (hn : n.size ≤ 1048576) (hf : f.size ≤ 1048576) (ht : t.size ≤ 1048576) :
    Calls Try.prog 6 #[.string n, .string f, .string t] w fun e w' => e = .returned (.bool true) ∧ Below w.heap.size w w' := by
  obtain ⟨a, ha⟩ : ∃ a, (graftB n f t).1 = a := ⟨_, rfl⟩
  obtain ⟨b, hb⟩ : ∃ b, (graftB n f t).2 = b := ⟨_, rfl⟩
  have HA : Hid ((graftB n f t).1 = a) := ha
  have HB : Hid ((graftB n f t).2 = b) := hb
  clear ha hb
  go_enter Try.func6, Try.ntmps6
  go_wp2_with (first
    | (go_at_call 38; refine (graft_any _ _ _ _ (small_max hn) (small_max hf) (small_max ht)).mono ?_; rintro e w1 ⟨rfl, hB1⟩; rw [HA.out, HB.out])
    | (go_at_call 39; refine (refGraft_any _ _ _ _ hn hf ht).mono ?_; rintro e w2 ⟨rfl, hB2⟩; rw [HA.out, HB.out]))
  go_ret
  refine ⟨?_, ext_t hB1 hB2⟩
  simp
end Go.Proofs.Ytbcefnfbofpjgaa
