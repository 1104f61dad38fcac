import Derived.Test.YtndkjnehkfleaaaTh
namespace Go.Proofs.Ytndkjnehkfleaaa
set_option linter.unusedVariables false
open Go.RowKit Go.Shelf Go.Proofs.Ytndkjnehkfleaaa.Nm

def isTy (t : Int) : Bool := decide (1 ≤ t ∧ t ≤ 65535)
/-- data.isType -/
theorem isType_any (t : Int) (w : World) :
    Calls Try.prog 35 #[.int .i64 t] w fun e w' => e = .returned (.bool (isTy t)) ∧ w' = w := by
  by_cases h1 : 1 ≤ t
  · by_cases h2 : t ≤ 65535
    · have HD : Hid (isTy t = true) := by unfold Hid isTy; exact decide_eq_true ⟨h1, h2⟩
      go_enter Try.func35, Try.ntmps35
      go_wp2
      go_ret
      exact ⟨by rw [HD.out]; first | rfl | simp [h2], rfl⟩
    · have HD : Hid (isTy t = false) := by unfold Hid isTy; exact decide_eq_false (by omega)
      go_enter Try.func35, Try.ntmps35
      go_wp2
      go_ret
      exact ⟨by rw [HD.out]; first | rfl | simp [h2], rfl⟩
  · have HD : Hid (isTy t = false) := by unfold Hid isTy; exact decide_eq_false (by omega)
    go_enter Try.func35, Try.ntmps35
    go_wp2
    go_ret
    exact ⟨by rw [HD.out]; first | rfl | simp [h1], rfl⟩

set_option maxRecDepth 100000 in
/-- data.markOf -/
theorem markOf_any (t : Nat) (w : World) (ht : t ≤ 65535) :
    Calls Try.prog 87 #[.int .i64 (t : Int)] w fun e w' => e = .returned (.int .u8 ((2 ^ (7 - t % 8) : Nat) : Int)) ∧ w' = w := by
  have hc : t % 8 = 0 ∨ t % 8 = 1 ∨ t % 8 = 2 ∨ t % 8 = 3 ∨ t % 8 = 4 ∨ t % 8 = 5 ∨ t % 8 = 6 ∨ t % 8 = 7 := by omega
  rcases hc with h | h | h | h | h | h | h | h
  all_goals
    have hI : (t : Int) % 8 = ((t % 8 : Nat) : Int) := by omega
    rw [h] at hI ⊢
    go_enter Try.func87, Try.ntmps87
    go_wp2
    go_ret
    exact ⟨by first | rfl | simp [hI], rfl⟩

/-- bit i of a set's bytes -/
def bitAt (s : ByteArray) (i : Nat) : Nat := bt s (i / 8) / 2 ^ (7 - i % 8) % 2
/-- the types of a block, as far as they stand in the first k bits -/
def blkT (block : Nat) (s : ByteArray) : Nat → List Nat
  | 0 => []
  | k + 1 => if bitAt s k = 1 then blkT block s k ++ [block * 256 + k] else blkT block s k
theorem blkT_len (block : Nat) (s : ByteArray) : ∀ k, (blkT block s k).length ≤ k
  | 0 => Nat.le_refl _
  | k + 1 => by
    have := blkT_len block s k
    simp only [blkT]; split
    · simp; omega
    · omega
theorem and_bit (x i : Nat) (hx : x < 256) (hi : i ≤ 7) : bits .and .u8 (x : Int) ((2 ^ i : Nat) : Int) = ((x / 2 ^ i % 2 * 2 ^ i : Nat) : Int) := by
  have h2 : 2 ^ i ≤ 2 ^ 7 := Nat.pow_le_pow_right (by omega) hi
  rw [u8_and_nat x (2 ^ i) hx (by omega), nat_bit]

set_option maxRecDepth 100000 in
set_option maxHeartbeats 1000000 in
/-- data.appendBlock -/
theorem appendBlock_any (v : Value) (n base block : Nat) (xs : List Value) (s : ByteArray) (w : World) (hown : w.ownsRow base 3 1 v n xs) (hb : block < 256) (hs : s.size ≤ 32) (hn : n ≤ 67108864) (hbase : base ≤ w.heap.size) :
    Calls Try.prog 86 #[v, .int .i64 (block : Int), .string s] w fun e w' => ∃ v', e = .returned v' ∧ w'.ownsRow base 3 1 v' (n + (blkT block s (8 * s.size)).length) (xs ++ nums (blkT block s (8 * s.size))) ∧ Below base w w' := by
  obtain ⟨i0, hi, hz0, hz1, hz2⟩ := info_parts Try.infoInt
  go_enter Try.func86, Try.ntmps86
  go_wp2_with fail
  go_loopw [0, 11] (fun lv iv wr => ∃ i : Nat, iv = .int .i64 i ∧ i ≤ 8 * s.size ∧ wr.ownsRow base 3 1 lv (n + (blkT block s i).length) (xs ++ nums (blkT block s i)) ∧ Below base w wr) (fun _ iv _ => 8 * s.size - (intOf iv).toNat)
  case atStart => exact ⟨0, rfl, Nat.zero_le _, by simpa [blkT] using hown, Below.refl _ _⟩
  case round =>
    obtain ⟨i, rfl, hi8, hownr, hBr⟩ := hrel
    have hbl := blkT_len block s i
    by_cases hlt : i < 8 * s.size
    · obtain ⟨q, hq0⟩ : ∃ q, i / 8 = q := ⟨_, rfl⟩
      have hq : q < s.size := by omega
      obtain ⟨y, hy, HY, hyl⟩ := bt_wrap hq
      have hqI : (i : Int) / 8 = (q : Int) := by omega
      obtain ⟨M, hM⟩ : ∃ M, 2 ^ (7 - i % 8) = M := ⟨_, rfl⟩
      have hand := and_bit y (7 - i % 8) hyl (by omega)
      rw [hM] at hand
      have hM1 : 0 < M := by rw [← hM]; exact Nat.two_pow_pos _
      have HMK := hide' (fun w => markOf_any i w (by omega))
      rw [hM] at HMK
      have hbit : bitAt s i = y / M % 2 := by unfold bitAt; rw [hq0, HY, hM]
      by_cases h1 : y / M % 2 = 1
      · have HT : Hid (blkT block s (i + 1) = blkT block s i ++ [block * 256 + i]) := by unfold Hid; simp only [blkT]; rw [if_pos (by rw [hbit]; exact h1)]
        rw [h1, Nat.one_mul] at hand
        have hne : ((M : Int) != 0) = true := by rw [bne_iff_ne]; omega
        have hne' : ((M : Int) == 0) = false := by rw [beq_eq_false_iff_ne]; omega
        clear hM hbit h1 HY hq0
        go_wp2_with fail
        go_quiet ((go_at_call 87; exact Calls.quiet_of_same (HMK.out _)))
        obtain ⟨wq, hwq⟩ : ∃ wq, wr.drewN nq = wq := ⟨_, rfl⟩
        have hownq : wq.ownsRow base 3 1 u0 (n + (blkT block s i).length) (xs ++ nums (blkT block s i)) := hwq ▸ hownr
        have hBq : Below base w wq := hwq ▸ below_drewN hBr nq
        rw [hwq]
        clear hwq hownr
        go_wp2_with (at_builtin; refine wpList_append_own _ rfl _ _ 83 rfl base 3 i0 (.int .i64 0) 1 8 Try.underlying83 hi hz0 hz1 hz2 rfl (by decide) _ _ _ rfl (hownq.alloc _) ⟨wq.heap.size, 0, none⟩ 1 1 [.int .i64 _] rfl rfl (cell_one_new _ _ _) (by simp [Value.oneCell']) (by unfold maxLen; omega) (by omega) (by have := hBq.size; simp; omega) ?_; intro v4 w4 hown4 hgrow4 _)
        refine ⟨⟨i + 1, by go_num, hlt, ?_, below_app hBq hbase hownq hgrow4⟩, ?_⟩
        · rw [HT.out, List.length_append, List.length_singleton, ← Nat.add_assoc]
          have e : nums (blkT block s i ++ [block * 256 + i]) = nums (blkT block s i) ++ [.int .i64 ((block * 256 + i : Nat) : Int)] := by simp [nums]
          rw [e, ← List.append_assoc]
          simpa using hown4
        · simp [intOf]; omega
      · have h0 : y / M % 2 = 0 := by omega
        have HT : Hid (blkT block s (i + 1) = blkT block s i) := by unfold Hid; simp only [blkT]; rw [if_neg (by rw [hbit]; exact h1)]
        rw [h0, Nat.zero_mul] at hand
        clear hM hbit h1 HY h0 hq0
        go_wp2_with fail
        go_quiet ((go_at_call 87; exact Calls.quiet_of_same (HMK.out _)))
        go_wp2
        refine ⟨⟨i + 1, by go_num, hlt, by rw [HT.out]; exact hownr, below_drewN hBr _⟩, ?_⟩
        simp [intOf]; omega
    · have : i = 8 * s.size := by omega
      subst this
      go_wp2
      go_ret
      exact ⟨_, rfl, hownr, hBr⟩
end Go.Proofs.Ytndkjnehkfleaaa
