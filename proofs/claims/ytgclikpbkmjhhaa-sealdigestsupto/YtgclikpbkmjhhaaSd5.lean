import Derived.Test.YtgclikpbkmjhhaaSd4
namespace Go.Proofs.Ytgclikpbkmjhhaa
set_option linter.unusedVariables false
open Go.RowKit Go.Shelf Go.Proofs.Ytgclikpbkmjhhaa.Nm

theorem hashR_form (n salt : ByteArray) (r : Int) : ∃ (h : ByteArray) (e : Int), hashR n salt r = .tuple #[.string h, .int .i64 e] := by
  unfold hashR
  split
  · split
    · exact ⟨_, _, rfl⟩
    · exact ⟨_, _, rfl⟩
  · exact ⟨_, _, rfl⟩

set_option maxRecDepth 100000 in
set_option maxHeartbeats 2000000 in
/-- SealDigests -/
theorem sealDigests_any (t n salt : ByteArray) (r : Int) (w : World) (ht : t.size ≤ 1048576) (hn : n.size ≤ 1048576) (hs : salt.size ≤ 1048576) :
    Calls Try.prog 3 #[.string t, .string n, .string salt, .int .i64 r] w fun e w' => e = .returned (.bool true) ∧ Below w.heap.size w w' := by
  obtain ⟨h, e, he⟩ := hashR_form n salt r
  have HA := hide' (fun w => hash_any n salt r w hn hs)
  have HB := hide' (fun w => refHash_any n salt r w hn hs)
  rw [he] at HA HB
  clear he
  go_enter Try.func3, Try.ntmps3
  go_wp2_with (first
    | (go_at_call 4; refine (HA.out _).mono ?_; rintro e1 w1 ⟨rfl, hB1⟩)
    | (go_at_call 5; refine (HB.out _).mono ?_; rintro e1 w2 ⟨rfl, hB2⟩)
    | (go_at_call 6; refine (digest_any t _ (by omega)).mono ?_; rintro e1 w3 ⟨rfl, hB3⟩)
    | (go_at_call 7; refine (refDigest_any t _ ht).mono ?_; rintro e1 w4 ⟨rfl, hB4⟩))
  go_ret
  refine ⟨by simp, ?_⟩
  exact bstep (bstep (bstep hB1 hB2 hB1.size) hB3 (Nat.le_trans hB1.size hB2.size)) hB4 (Nat.le_trans hB1.size (Nat.le_trans hB2.size hB3.size))
end Go.Proofs.Ytgclikpbkmjhhaa
