import Derived.Test.YtgclikpbkmjhhaaSd3
namespace Go.Proofs.Ytgclikpbkmjhhaa
set_option linter.unusedVariables false
open Go.RowKit Go.Shelf Go.Proofs.Ytgclikpbkmjhhaa.Nm

set_option maxRecDepth 100000 in
set_option maxHeartbeats 2000000 in
/-- gazetteerref4.Digest -/
theorem refDigest_any (s : ByteArray) (w : World) (hs : s.size ≤ 1048576) :
    Calls Try.prog 7 #[.string s] w fun e w' => e = .returned (.string (digB s)) ∧ Below w.heap.size w w' := by
  have HH1 : Hid (∀ w : World, Calls Try.prog 16 #[.string s, .int .i64 1000003, .int .i64 1099511627689] w fun e w' => e = .returned (.int .i64 (hN 1000003 1099511627689 s s.size : Int)) ∧ w' = w) := fun w => half_any s 1000003 1099511627689 w hs (by decide) (by decide) (by decide)
  have HH2 : Hid (∀ w : World, Calls Try.prog 16 #[.string s, .int .i64 999983, .int .i64 1099511627563] w fun e w' => e = .returned (.int .i64 (hN 999983 1099511627563 s s.size : Int)) ∧ w' = w) := fun w => half_any s 999983 1099511627563 w hs (by decide) (by decide) (by decide)
  have l1 := hN_lt 1000003 1099511627689 s (by decide) s.size
  have l2 := hN_lt 999983 1099511627563 s (by decide) s.size
  have hd : digB s = nB (hN 1000003 1099511627689 s s.size) 5 ++ nB (hN 999983 1099511627563 s s.size) 5 := rfl
  rw [hd]
  clear hd
  generalize hN 1000003 1099511627689 s s.size = x1 at *
  generalize hN 999983 1099511627563 s s.size = x2 at *
  have had : ∀ W : World, (Op.stringOp .add (nB x1 5) (nB x2 5)).run Try.prog W = .ok (.string (nB x1 5 ++ nB x2 5)) W := fun W => run_string_add_sum W _ _ (by rw [nB_size, nB_size]; omega)
  have L1 := hide' l1
  have L2 := hide' l2
  clear l1 l2
  go_enter Try.func7, Try.ntmps7
  go_wp2_with (go_at_call 16; refine (HH1.out _).mono ?_; rintro e w1 ⟨rfl, rfl⟩)
  go_wp2_with (go_at_call 15; refine (refBytes_any 5 x1 _ (by omega) (by have := L1.out; omega)).mono ?_; rintro e w2 ⟨rfl, hB2⟩)
  go_wp2_with (go_at_call 16; refine (HH2.out _).mono ?_; rintro e w1 ⟨rfl, rfl⟩)
  go_wp2_with (go_at_call 15; refine (refBytes_any 5 x2 _ (by omega) (by have := L2.out; omega)).mono ?_; rintro e w3 ⟨rfl, hB3⟩)
  go_ret
  exact ⟨rfl, bstep hB2 hB3 hB2.size⟩

theorem foldB_size {n : ByteArray} (h : isN n = true) : (foldB n).size ≤ 255 := by
  rw [foldB_yes h, lowB_size]; exact ((isN_iff n).1 h).1

/-- what Hash answers -/
def hashR (n salt : ByteArray) (r : Int) : Value :=
  if isN n = true then (if salt.size ≤ 255 ∧ 0 ≤ r ∧ r ≤ 50 then .tuple #[.string (hashB n salt r.toNat), .int .i64 0] else .tuple #[.string ⟨#[]⟩, .int .i64 23]) else .tuple #[.string ⟨#[]⟩, .int .i64 1]
theorem hashR_name {n salt : ByteArray} {r : Int} (h : isN n = false) : hashR n salt r = .tuple #[.string ⟨#[]⟩, .int .i64 1] := by unfold hashR; rw [if_neg (by rw [h]; simp)]
theorem hashR_arg {n salt : ByteArray} {r : Int} (h : isN n = true) (h2 : ¬ (salt.size ≤ 255 ∧ 0 ≤ r ∧ r ≤ 50)) : hashR n salt r = .tuple #[.string ⟨#[]⟩, .int .i64 23] := by unfold hashR; rw [if_pos h, if_neg h2]
theorem hashR_ok {n salt : ByteArray} {r : Nat} (h : isN n = true) (h2 : salt.size ≤ 255) (h3 : r ≤ 50) : hashR n salt (r : Int) = .tuple #[.string (hashB n salt r), .int .i64 0] := by unfold hashR; rw [if_pos h, if_pos ⟨h2, by omega, by omega⟩]; simp
theorem chk_no {n : ByteArray} (h : isN n = false) : chk n = 1 := by unfold chk; rw [h]; rfl
theorem chk_yes {n : ByteArray} (h : isN n = true) : chk n = 0 := by unfold chk; rw [h]; rfl

set_option maxRecDepth 100000 in
set_option maxHeartbeats 2000000 in
/-- seal.Hash -/
theorem hash_any (n salt : ByteArray) (r : Int) (w : World) (hn : n.size ≤ 1048576) (hs : salt.size ≤ 1048576) :
    Calls Try.prog 4 #[.string n, .string salt, .int .i64 r] w fun e w' => e = .returned (hashR n salt r) ∧ Below w.heap.size w w' := by
  have hnm : n.size ≤ maxLen := by unfold maxLen; omega
  cases hN : isN n with
  | false =>
    have HC := hide' (chk_no hN)
    rw [hashR_name hN]
    clear hN
    go_enter Try.func4, Try.ntmps4
    go_wp2_with (go_at_call 8; refine (check_any n _ hnm).mono ?_; rw [HC.out]; rintro e w1 ⟨rfl, hB1⟩)
    go_ret2
    exact ⟨rfl, hB1⟩
  | true =>
    have HC := hide' (chk_yes hN)
    by_cases hok : salt.size ≤ 255 ∧ 0 ≤ r ∧ r ≤ 50
    · obtain ⟨h255, hr0, hr50⟩ := hok
      obtain ⟨k, rfl⟩ : ∃ k : Nat, r = (k : Int) := ⟨r.toNat, by omega⟩
      have hk : k ≤ 50 := by omega
      rw [hashR_ok hN h255 hk]
      have hf := foldB_size hN
      have had0 : ∀ W : World, (Op.stringOp .add (foldB n) salt).run Try.prog W = .ok (.string (foldB n ++ salt)) W := fun W => run_string_add_sum W _ _ (by omega)
      have hz0 : (foldB n ++ salt).size ≤ 2097152 := by rw [ByteArray.size_append]; omega
      have hadk : ∀ (j : Nat) (W : World), (Op.stringOp .add (hashB n salt j) salt).run Try.prog W = .ok (.string (hashB n salt j ++ salt)) W := fun j W => run_string_add_sum W _ _ (by rw [hashB_size]; omega)
      have hzk : ∀ j, (hashB n salt j ++ salt).size ≤ 2097152 := fun j => by rw [ByteArray.size_append, hashB_size]; omega
      have HZ0 := hide' hz0
      have HZK := hide' hzk
      have HE0 : Hid (hashB n salt 0 = digB (foldB n ++ salt)) := rfl
      clear hN hf hz0 hzk hr0 hr50
      go_enter Try.func4, Try.ntmps4
      go_wp2_with (first
        | (go_at_call 8; refine (check_any n _ hnm).mono ?_; rw [HC.out]; rintro e w1 ⟨rfl, hB1⟩)
        | (go_at_call 9; refine (fold_any n _ hnm).mono ?_; rintro e w2 ⟨rfl, hB2⟩)
        | (go_at_call 6; refine (digest_any _ _ HZ0.out).mono ?_; rintro e w3 ⟨rfl, hB3⟩))
      have hBw := bstep (bstep hB1 hB2 hB1.size) hB3 (Nat.le_trans hB1.size hB2.size)
      rw [← HE0.out]
      go_loopw [8, 29] (fun h i wr => ∃ j : Nat, i = .int .i64 (j : Int) ∧ j ≤ k ∧ h = .string (hashB n salt j) ∧ Below w.heap.size w wr)
        (fun _ i _ => k - (intOf i).toNat)
      case atStart => exact ⟨0, rfl, Nat.zero_le _, rfl, hBw⟩
      case round =>
        obtain ⟨j, rfl, hj, rfl, hBr⟩ := hrel
        by_cases hlt : j < k
        · have hadj := hadk j
          have HEJ : Hid (hashB n salt (j + 1) = digB (hashB n salt j ++ salt)) := rfl
          go_wp2_with (go_at_call 6; refine (digest_any _ _ (HZK.out j)).mono ?_; rintro e w5 ⟨rfl, hB5⟩)
          exact ⟨⟨j + 1, by go_num, by omega, by rw [HEJ.out], bstep hBr hB5 hBr.size⟩, by simp [intOf]; omega⟩
        · obtain rfl : j = k := by omega
          go_wp2
          go_ret2
          exact ⟨rfl, hBr⟩
    · rw [hashR_arg hN hok]
      clear hN
      have hok' : 255 < salt.size ∨ (salt.size ≤ 255 ∧ r < 0) ∨ (salt.size ≤ 255 ∧ 0 ≤ r ∧ 50 < r) := by omega
      clear hok
      rcases hok' with h1 | ⟨h1, h2⟩ | ⟨h1, h2, h3⟩
      all_goals
        go_enter Try.func4, Try.ntmps4
        go_wp2_with (go_at_call 8; refine (check_any n _ hnm).mono ?_; rw [HC.out]; rintro e w1 ⟨rfl, hB1⟩)
        go_ret2
        exact ⟨rfl, hB1⟩

set_option maxRecDepth 100000 in
set_option maxHeartbeats 2000000 in
/-- gazetteerref4.Hash, where nothing is wrong -/
theorem refHash_yes (n salt : ByteArray) (hn : n.size ≤ 1048576) (hN : isN n = true) (h255 : salt.size ≤ 255) : ∀ (r : Nat) (w : World), r ≤ 50 →
    Calls Try.prog 5 #[.string n, .string salt, .int .i64 (r : Int)] w fun e w' => e = .returned (.tuple #[.string (hashB n salt r), .int .i64 0]) ∧ Below w.heap.size w w'
  | 0, w, hr => by
    have hf := foldB_size hN
    have had0 : ∀ W : World, (Op.stringOp .add (foldB n) salt).run Try.prog W = .ok (.string (foldB n ++ salt)) W := fun W => run_string_add_sum W _ _ (by omega)
    have HZ0 : Hid ((foldB n ++ salt).size ≤ 1048576) := by unfold Hid; rw [ByteArray.size_append]; omega
    clear hf
    go_enter Try.func5, Try.ntmps5
    go_wp2_with (first
      | (go_at_call 10; refine (refIsName_any n _ hn).mono ?_; rw [hN]; rintro e w1 ⟨rfl, hB1⟩)
      | (go_at_call 11; refine (foldName_any n _ hn).mono ?_; rintro e w2 ⟨rfl, hB2⟩)
      | (go_at_call 7; refine (refDigest_any _ _ HZ0.out).mono ?_; rintro e w3 ⟨rfl, hB3⟩))
    go_ret2
    exact ⟨rfl, bstep (bstep hB1 hB2 hB1.size) hB3 (Nat.le_trans hB1.size hB2.size)⟩
  | r + 1, w, hr => by
    have HIH := hide' (fun w => refHash_yes n salt hn hN h255 r w (by omega))
    have hadk : ∀ W : World, (Op.stringOp .add (hashB n salt r) salt).run Try.prog W = .ok (.string (hashB n salt r ++ salt)) W := fun W => run_string_add_sum W _ _ (by rw [hashB_size]; omega)
    have HZK : Hid ((hashB n salt r ++ salt).size ≤ 1048576) := by unfold Hid; rw [ByteArray.size_append, hashB_size]; omega
    have HEK : Hid (hashB n salt (r + 1) = digB (hashB n salt r ++ salt)) := rfl
    obtain ⟨k, hk⟩ : ∃ k : Nat, r + 1 = k := ⟨_, rfl⟩
    rw [show (r : Int) = (k : Int) - 1 by omega] at HIH
    have hsb : IntKind.i64.wrap ((k : Int) - 1) = (k : Int) - 1 := by rw [IntWalk.i64_in] <;> omega
    have hne : ((k : Int) == 0) = false := by rw [beq_eq_false_iff_ne]; omega
    rw [hk] at hr HEK ⊢
    have hk1 : 1 ≤ k := by omega
    generalize hashB n salt r = hh at *
    clear hk
    go_enter Try.func5, Try.ntmps5
    go_wp2_with (first
      | (go_at_call 10; refine (refIsName_any n _ hn).mono ?_; rw [hN]; rintro e w1 ⟨rfl, hB1⟩)
      | (go_at_call 5; refine (HIH.out _).mono ?_; rintro e w2 ⟨rfl, hB2⟩)
      | (go_at_call 7; refine (refDigest_any _ _ HZK.out).mono ?_; rintro e w3 ⟨rfl, hB3⟩))
    go_ret2
    exact ⟨by rw [HEK.out]; rfl, bstep (bstep hB1 hB2 hB1.size) hB3 (Nat.le_trans hB1.size hB2.size)⟩

set_option maxRecDepth 100000 in
set_option maxHeartbeats 2000000 in
/-- gazetteerref4.Hash -/
theorem refHash_any (n salt : ByteArray) (r : Int) (w : World) (hn : n.size ≤ 1048576) (hs : salt.size ≤ 1048576) :
    Calls Try.prog 5 #[.string n, .string salt, .int .i64 r] w fun e w' => e = .returned (hashR n salt r) ∧ Below w.heap.size w w' := by
  cases hN : isN n with
  | false =>
    rw [hashR_name hN]
    go_enter Try.func5, Try.ntmps5
    go_wp2_with (go_at_call 10; refine (refIsName_any n _ hn).mono ?_; rw [hN]; rintro e w1 ⟨rfl, hB1⟩)
    go_ret2
    exact ⟨rfl, hB1⟩
  | true =>
    by_cases hok : salt.size ≤ 255 ∧ 0 ≤ r ∧ r ≤ 50
    · obtain ⟨h255, hr0, hr50⟩ := hok
      obtain ⟨k, rfl⟩ : ∃ k : Nat, r = (k : Int) := ⟨r.toNat, by omega⟩
      rw [hashR_ok hN h255 (by omega)]
      exact refHash_yes n salt hn hN h255 k w (by omega)
    · rw [hashR_arg hN hok]
      have hok' : 255 < salt.size ∨ (salt.size ≤ 255 ∧ r < 0) ∨ (salt.size ≤ 255 ∧ 0 ≤ r ∧ 50 < r) := by omega
      clear hok
      rcases hok' with h1 | ⟨h1, h2⟩ | ⟨h1, h2, h3⟩
      all_goals
        go_enter Try.func5, Try.ntmps5
        go_wp2_with (go_at_call 10; refine (refIsName_any n _ hn).mono ?_; rw [hN]; rintro e w1 ⟨rfl, hB1⟩)
        go_ret2
        exact ⟨rfl, hB1⟩
end Go.Proofs.Ytgclikpbkmjhhaa
