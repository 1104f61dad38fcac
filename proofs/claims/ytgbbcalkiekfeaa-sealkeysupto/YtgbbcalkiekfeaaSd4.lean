import Derived.Test.YtgbbcalkiekfeaaSd3
namespace Go.Proofs.Ytgbbcalkiekfeaa
set_option linter.unusedVariables false
open Go.RowKit Go.Shelf Go.Proofs.Ytgbbcalkiekfeaa.Nm

set_option maxRecDepth 100000 in
set_option maxHeartbeats 2000000 in
/-- gazetteerref4.Digest -/
theorem refDigest_any (s : ByteArray) (w : World) (hs : s.size ≤ 1048576) :
    Calls Try.prog 27 #[.string s] w fun e w' => e = .returned (.string (digB s)) ∧ Below w.heap.size w w' := by
  have HH1 : Hid (∀ w : World, Calls Try.prog 41 #[.string s, .int .i64 1000003, .int .i64 1099511627689] w fun e w' => e = .returned (.int .i64 (hN 1000003 1099511627689 s s.size : Int)) ∧ w' = w) := fun w => half_any s 1000003 1099511627689 w hs (by decide) (by decide) (by decide)
  have HH2 : Hid (∀ w : World, Calls Try.prog 41 #[.string s, .int .i64 999983, .int .i64 1099511627563] w fun e w' => e = .returned (.int .i64 (hN 999983 1099511627563 s s.size : Int)) ∧ w' = w) := fun w => half_any s 999983 1099511627563 w hs (by decide) (by decide) (by decide)
  have l1 := hN_lt 1000003 1099511627689 s (by decide) s.size
  have l2 := hN_lt 999983 1099511627563 s (by decide) s.size
  have hd : digB s = nB (hN 1000003 1099511627689 s s.size) 5 ++ nB (hN 999983 1099511627563 s s.size) 5 := rfl
  rw [hd]
  clear hd
  generalize hN 1000003 1099511627689 s s.size = x1 at *
  generalize hN 999983 1099511627563 s s.size = x2 at *
  have had : ∀ W : World, (Op.stringOp .add (nB x1 5) (nB x2 5)).run Try.prog W = .ok (.string (nB x1 5 ++ nB x2 5)) W := fun W => run_string_add_sum W _ _ (by rw [nB_size, nB_size]; omega)
  have L1 := hide' l1
  have L2 := hide' l2
  clear l1 l2
  go_enter Try.func27, Try.ntmps27
  go_wp2_with (go_at_call 41; refine (HH1.out _).mono ?_; rintro e w1 ⟨rfl, rfl⟩)
  go_wp2_with (go_at_call 20; refine (refBytes_any 5 x1 _ (by omega) (by have := L1.out; omega)).mono ?_; rintro e w2 ⟨rfl, hB2⟩)
  go_wp2_with (go_at_call 41; refine (HH2.out _).mono ?_; rintro e w1 ⟨rfl, rfl⟩)
  go_wp2_with (go_at_call 20; refine (refBytes_any 5 x2 _ (by omega) (by have := L2.out; omega)).mono ?_; rintro e w3 ⟨rfl, hB3⟩)
  go_ret
  exact ⟨rfl, bstep hB2 hB3 hB2.size⟩

theorem foldB_size {n : ByteArray} (h : isN n = true) : (foldB n).size ≤ 255 := by
  rw [foldB_yes h, lowB_size]; exact ((isN_iff n).1 h).1

/-- what Hash answers -/
def hashR (n salt : ByteArray) (r : Int) : Value :=
  if isN n = true then (if salt.size ≤ 255 ∧ 0 ≤ r ∧ r ≤ 50 then .tuple #[.string (hashB n salt r.toNat), .int .i64 0] else .tuple #[.string ⟨#[]⟩, .int .i64 23]) else .tuple #[.string ⟨#[]⟩, .int .i64 1]
theorem hashR_name {n salt : ByteArray} {r : Int} (h : isN n = false) : hashR n salt r = .tuple #[.string ⟨#[]⟩, .int .i64 1] := by unfold hashR; rw [if_neg (by rw [h]; simp)]
theorem hashR_arg {n salt : ByteArray} {r : Int} (h : isN n = true) (h2 : ¬ (salt.size ≤ 255 ∧ 0 ≤ r ∧ r ≤ 50)) : hashR n salt r = .tuple #[.string ⟨#[]⟩, .int .i64 23] := by unfold hashR; rw [if_pos h, if_neg h2]
theorem hashR_ok {n salt : ByteArray} {r : Nat} (h : isN n = true) (h2 : salt.size ≤ 255) (h3 : r ≤ 50) : hashR n salt (r : Int) = .tuple #[.string (hashB n salt r), .int .i64 0] := by unfold hashR; rw [if_pos h, if_pos ⟨h2, by omega, by omega⟩]; simp
theorem chk_no {n : ByteArray} (h : isN n = false) : chk n = 1 := by unfold chk; rw [h]; rfl
theorem chk_yes {n : ByteArray} (h : isN n = true) : chk n = 0 := by unfold chk; rw [h]; rfl

end Go.Proofs.Ytgbbcalkiekfeaa
