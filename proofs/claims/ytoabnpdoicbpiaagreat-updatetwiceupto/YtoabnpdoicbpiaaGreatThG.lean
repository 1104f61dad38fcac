import Derived.Test.YtoabnpdoicbpiaaGreatRf1G
import Derived.WalkSmall
import Derived.Test.YtoabnpdoicbpiaaGreatPrWG
namespace Go.Proofs.YtoabnpdoicbpiaaGreat
set_option linter.unusedVariables false
open Go.RowKit Go.Shelf Go.Proofs.YtoabnpdoicbpiaaGreat.Nm
def flt (code at_ : Nat) : List PanicEntry := [{ v := .iface 148 (.agg #[.int .i64 (code : Int), .int .i64 (at_ : Int)]), recovered := false }]
set_option maxRecDepth 100000 in
theorem throw_any (code at_ : Nat) (w : World) :
  Calls Tryz.prog 120 #[.int .i64 (code : Int), .int .i64 (at_ : Int)] w fun e w' => e = .panicked (flt code at_) ∧ w' = w := by
 go_enter Tryz.func120, Tryz.ntmps120
 go_wp2
 exact ⟨rfl, rfl, rfl⟩
theorem need_yes (d : ByteArray) (n : Nat) (w : World) (hd : d.size ≤ 1048576) (h : n ≤ d.size) :
  Calls Tryz.prog 168 #[.string d, .int .i64 (n : Int)] w fun e w' => e = .returned (.int .i64 (n : Int)) ∧ w' = w := by
 go_enter Tryz.func168, Tryz.ntmps168
 go_wp2
 go_ret
 exact ⟨rfl, rfl⟩
theorem need_no (d : ByteArray) (n : Nat) (w : World) (hd : d.size ≤ 1048576) (h : d.size < n) :
  Calls Tryz.prog 168 #[.string d, .int .i64 (n : Int)] w fun e w' => e = .panicked (flt 7 0) ∧ w' = w := by
 go_enter Tryz.func168, Tryz.ntmps168
 go_wp2_with (go_at_call 120; refine (throw_any 7 0 _).mono ?_; rintro e w' ⟨rfl, rfl⟩)
 exact ⟨rfl, rfl, rfl⟩
theorem need_in (d : ByteArray) (z : Int) (w : World) (hd : d.size ≤ 1048576) (h : z ≤ d.size) (h0 : -9223372036854775808 ≤ z) :
  Calls Tryz.prog 168 #[.string d, .int .i64 z] w fun e w' => e = .returned (.int .i64 z) ∧ w' = w := by
 go_enter Tryz.func168, Tryz.ntmps168
 go_wp2
 go_ret
 exact ⟨rfl, rfl⟩
theorem need_out (d : ByteArray) (z : Int) (w : World) (hd : d.size ≤ 1048576) (h : (d.size : Int) < z) (h0 : z ≤ 9223372036854775807) :
  Calls Tryz.prog 168 #[.string d, .int .i64 z] w fun e w' => e = .panicked (flt 7 0) ∧ w' = w := by
 go_enter Tryz.func168, Tryz.ntmps168
 go_wp2_with (go_at_call 120; refine (throw_any 7 0 _).mono ?_; rintro e w' ⟨rfl, rfl⟩)
 exact ⟨rfl, rfl, rfl⟩
def szEnd (r : Option Nat) : Ending := match r with | some n => .returned (.int .i64 (n : Int)) | none => .panicked (flt 7 0)
def fixS (n : Nat) (d : ByteArray) : Option Nat := if d.size < n then none else some n
theorem fixS_yes {n : Nat} {d : ByteArray} (h : n ≤ d.size) : fixS n d = some n := by unfold fixS; rw [if_neg (by omega)]
theorem fixS_no {n : Nat} {d : ByteArray} (h : d.size < n) : fixS n d = none := by unfold fixS; rw [if_pos h]
theorem ip4Size_any (d : ByteArray) (w : World) (hd : d.size ≤ 1048576) :
  Calls Tryz.prog 174 #[.agg #[], .string d] w fun e w' => e = szEnd (fixS 4 d) ∧ Below w.heap.size w w' := by
 by_cases h : 4 ≤ d.size
 ·rw [fixS_yes h]
  go_enter Tryz.func174, Tryz.ntmps174
  go_wp2_with (go_at_call 168; refine (need_yes d 4 _ hd h).mono ?_; rintro e w' ⟨rfl, rfl⟩)
  go_ret
  exact ⟨rfl, (Below.refl _ _).alloc (Nat.le_refl _) _⟩
 ·rw [fixS_no (by omega)]
  go_enter Tryz.func174, Tryz.ntmps174
  go_wp2_with (go_at_call 168; refine (need_no d 4 _ hd (by omega)).mono ?_; rintro e w' ⟨rfl, rfl⟩)
  exact ⟨rfl, rfl, (Below.refl _ _).alloc (Nat.le_refl _) _⟩
theorem ip6Size_any (d : ByteArray) (w : World) (hd : d.size ≤ 1048576) :
  Calls Tryz.prog 183 #[.agg #[], .string d] w fun e w' => e = szEnd (fixS 16 d) ∧ Below w.heap.size w w' := by
 by_cases h : 16 ≤ d.size
 ·rw [fixS_yes h]
  go_enter Tryz.func183, Tryz.ntmps183
  go_wp2_with (go_at_call 168; refine (need_yes d 16 _ hd h).mono ?_; rintro e w' ⟨rfl, rfl⟩)
  go_ret
  exact ⟨rfl, (Below.refl _ _).alloc (Nat.le_refl _) _⟩
 ·rw [fixS_no (by omega)]
  go_enter Tryz.func183, Tryz.ntmps183
  go_wp2_with (go_at_call 168; refine (need_no d 16 _ hd (by omega)).mono ?_; rintro e w' ⟨rfl, rfl⟩)
  exact ⟨rfl, rfl, (Below.refl _ _).alloc (Nat.le_refl _) _⟩
theorem numberSize_any (n : Nat) (d : ByteArray) (w : World) (hd : d.size ≤ 1048576) :
  Calls Tryz.prog 171 #[.agg #[.int .i64 (n : Int)], .string d] w fun e w' => e = szEnd (fixS n d) ∧ Below w.heap.size w w' := by
 by_cases h : n ≤ d.size
 ·rw [fixS_yes h]
  go_enter Tryz.func171, Tryz.ntmps171
  go_wp2_with (go_at_call 168; refine (need_yes d n _ hd h).mono ?_; rintro e w' ⟨rfl, rfl⟩)
  go_ret
  exact ⟨rfl, (Below.refl _ _).alloc (Nat.le_refl _) _⟩
 ·rw [fixS_no (by omega)]
  go_enter Tryz.func171, Tryz.ntmps171
  go_wp2_with (go_at_call 168; refine (need_no d n _ hd (by omega)).mono ?_; rintro e w' ⟨rfl, rfl⟩)
  exact ⟨rfl, rfl, (Below.refl _ _).alloc (Nat.le_refl _) _⟩
theorem tailSize_any (d : ByteArray) (w : World) (hd : d.size ≤ 1048576) :
  Calls Tryz.prog 205 #[.agg #[], .string d] w fun e w' => e = szEnd (some d.size) ∧ Below w.heap.size w w' := by
 go_enter Tryz.func205, Tryz.ntmps205
 go_wp2
 go_ret
 exact ⟨rfl, (Below.refl _ _).alloc (Nat.le_refl _) _⟩
theorem unknownSize_any (d : ByteArray) (w : World) (hd : d.size ≤ 1048576) :
  Calls Tryz.prog 208 #[.agg #[], .string d] w fun e w' => e = szEnd (some d.size) ∧ Below w.heap.size w w' := by
 go_enter Tryz.func208, Tryz.ntmps208
 go_wp2
 go_ret
 exact ⟨rfl, (Below.refl _ _).alloc (Nat.le_refl _) _⟩
def endS (d : ByteArray) : Option Nat := if d.size = 0 then none else some d.size
theorem toEndSize_any (d : ByteArray) (w : World) (hd : d.size ≤ 1048576) :
  Calls Tryz.prog 184 #[.agg #[], .string d] w fun e w' => e = szEnd (endS d) ∧ Below w.heap.size w w' := by
 by_cases h : 1 ≤ d.size
 ·have e : endS d = some d.size := by unfold endS; rw [if_neg (by omega)]
  rw [e]
  go_enter Tryz.func184, Tryz.ntmps184
  go_wp2_with (go_at_call 168; refine (need_yes d 1 _ hd h).mono ?_; rintro e w' ⟨rfl, rfl⟩)
  go_ret
  exact ⟨rfl, (Below.refl _ _).alloc (Nat.le_refl _) _⟩
 ·have e : endS d = none := by unfold endS; rw [if_pos (by omega)]
  rw [e]
  go_enter Tryz.func184, Tryz.ntmps184
  go_wp2_with (go_at_call 168; refine (need_no d 1 _ hd (by omega)).mono ?_; rintro e w' ⟨rfl, rfl⟩)
  exact ⟨rfl, rfl, (Below.refl _ _).alloc (Nat.le_refl _) _⟩
def cntS (d : ByteArray) : Option Nat := if d.size = 0 ∨ d.size < 1 + bt d 0 then none else some (1 + bt d 0)
set_option maxRecDepth 100000 in
theorem countedSize_any (d : ByteArray) (w : World) (hd : d.size ≤ 1048576) :
  Calls Tryz.prog 175 #[.agg #[], .string d] w fun e w' => e = szEnd (cntS d) ∧ Below w.heap.size w w' := by
 by_cases h : 1 ≤ d.size
 ·obtain ⟨y, hy, HY, hyl⟩ := bt_wrap (s := d) (i := 0) (by omega)
  by_cases h2 : 1 + y ≤ d.size
  ·have e : cntS d = some (1 + y) := by unfold cntS; rw [HY, if_neg (by omega)]
   rw [e]
   clear HY e
   go_enter Tryz.func175, Tryz.ntmps175
   go_wp2_with (go_at_call 168; refine (need_in d _ _ hd (by omega) (by omega)).mono ?_; rintro e w' ⟨rfl, rfl⟩)
   go_ret
   exact ⟨by simp [szEnd], (Below.refl _ _).alloc (Nat.le_refl _) _⟩
  ·have e : cntS d = none := by unfold cntS; rw [HY, if_pos (by omega)]
   rw [e]
   clear HY e
   go_enter Tryz.func175, Tryz.ntmps175
   go_wp2_with (first
    | (go_at_call 168; refine (need_in d _ _ hd (by omega) (by omega)).mono ?_; rintro e w' ⟨rfl, rfl⟩)
    | (go_at_call 168; refine (need_out d _ _ hd (by omega) (by omega)).mono ?_; rintro e w' ⟨rfl, rfl⟩))
   exact ⟨rfl, rfl, (Below.refl _ _).alloc (Nat.le_refl _) _⟩
 ·have e : cntS d = none := by unfold cntS; rw [if_pos (by omega)]
  rw [e]
  go_enter Tryz.func175, Tryz.ntmps175
  go_wp2_with (go_at_call 168; refine (need_out d _ _ hd (by omega) (by omega)).mono ?_; rintro e w' ⟨rfl, rfl⟩)
  exact ⟨rfl, rfl, (Below.refl _ _).alloc (Nat.le_refl _) _⟩
theorem prefix_zero {s : ByteArray} (hz : 2 ≤ s.size) : ((s.extract 0 2).toList == [0, 0]) = decide (bt s 0 = 0 ∧ bt s 1 = 0) := by
 have e : ([0, 0] : List UInt8) = (⟨#[0, 0]⟩ : ByteArray).toList := by rw [toList_eq]
 rw [e, toList_bt]
 rw [Bool.eq_iff_iff, decide_eq_true_iff, decide_eq_true_iff]
 constructor
 ·intro h
  have h0 := congrArg (fun t => bt t 0) h
  have h1 := congrArg (fun t => bt t 1) h
  rw [bt_extract _ _ _ _ (by omega) hz] at h0 h1
  exact ⟨h0, h1⟩
 ·rintro ⟨h0, h1⟩
  apply ba_ext
  ·rw [size_extract' _ _ _ hz]; rfl
  ·intro j hj
   rw [size_extract' _ _ _ hz] at hj
   rw [bt_extract _ _ _ _ (by omega) hz]
   have : j = 0 ∨ j = 1 := by omega
   rcases this with rfl | rfl
   ·exact h0
   ·exact h1
def oneS (d : ByteArray) : Option Nat := if d.size < 2 ∨ (bt d 0 = 0 ∧ bt d 1 = 0) then none else some 2
set_option maxRecDepth 100000 in
theorem oneTypeSize_any (d : ByteArray) (w : World) (hd : d.size ≤ 1048576) :
  Calls Tryz.prog 189 #[.agg #[], .string d] w fun e w' => e = szEnd (oneS d) ∧ Below w.heap.size w w' := by
 by_cases h : 2 ≤ d.size
 ·have hz := prefix_zero h
  by_cases h0 : bt d 0 = 0 ∧ bt d 1 = 0
  ·have e : oneS d = none := by unfold oneS; rw [if_pos (.inr h0)]
   rw [decide_eq_true h0] at hz
   rw [e]
   clear h0 e
   go_enter Tryz.func189, Tryz.ntmps189
   go_wp2_with (first
    | (go_at_call 168; refine (need_in d _ _ hd (by omega) (by omega)).mono ?_; rintro e w' ⟨rfl, rfl⟩)
    | (go_at_call 120; refine (throw_any 7 0 _).mono ?_; rintro e w' ⟨rfl, rfl⟩))
   exact ⟨rfl, rfl, (Below.refl _ _).alloc (Nat.le_refl _) _⟩
  ·have e : oneS d = some 2 := by unfold oneS; rw [if_neg (by omega)]
   rw [decide_eq_false h0] at hz
   rw [e]
   clear h0 e
   go_enter Tryz.func189, Tryz.ntmps189
   go_wp2_with (go_at_call 168; refine (need_in d _ _ hd (by omega) (by omega)).mono ?_; rintro e w' ⟨rfl, rfl⟩)
   go_ret
   exact ⟨rfl, (Below.refl _ _).alloc (Nat.le_refl _) _⟩
 ·have e : oneS d = none := by unfold oneS; rw [if_pos (by omega)]
  rw [e]
  go_enter Tryz.func189, Tryz.ntmps189
  go_wp2_with (go_at_call 168; refine (need_out d _ _ hd (by omega) (by omega)).mono ?_; rintro e w' ⟨rfl, rfl⟩)
  exact ⟨rfl, rfl, (Below.refl _ _).alloc (Nat.le_refl _) _⟩
theorem cellsHash : Tryz.prog.cellsOf 202 = 0 := by kernel_rfl
theorem part_none (w : World) (T : TypeId) (hT : Tryz.prog.cellsOf T = 0) : (partAt ⟨w.heap.size, 0, none⟩ 0 0).run Tryz.prog (w.alloc (.cells #[] T)) = .ok ⟨w.heap.size, 0, none⟩ (w.alloc (.cells #[] T)) := by
 have hg : (w.alloc (.cells #[] T)).heap[w.heap.size]? = some (.cells #[] T (0, 0)) := World.alloc_heap_new w _
 have hs : (w.alloc (.cells #[] T)).shape? w.heap.size = some (T, 0) := by unfold World.shape?; rw [hg]; rfl
 simp [partAt, byteOf, noView, viewAt, run_shape, hs, hT]
def hashS (d : ByteArray) : Option Nat := if cntS d = none ∨ bt d 0 = 0 then none else cntS d
set_option maxRecDepth 100000 in
theorem hashSize_any (d : ByteArray) (w : World) (hd : d.size ≤ 1048576) :
  Calls Tryz.prog 202 #[.agg #[], .string d] w fun e w' => e = szEnd (hashS d) ∧ Below w.heap.size w w' := by
 have HC := hide' (fun w => countedSize_any d w hd)
 have hpart := part_none w 202 cellsHash
 have hB0 : Below w.heap.size w (w.alloc (.cells #[] 202)) := (Below.refl _ _).alloc (Nat.le_refl _) _
 cases hc : cntS d with
 | none =>
  have e : hashS d = none := by unfold hashS; rw [if_pos (.inl hc)]
  rw [hc] at HC
  rw [e]
  go_enter Tryz.func202, Tryz.ntmps202
  go_wp2_with (go_at_call 175; refine (HC.out _).mono ?_; rintro e w1 ⟨rfl, hB1⟩; simp only [szEnd])
  exact ⟨rfl, rfl, bstep hB0 hB1 hB0.size⟩
 | some n =>
  have hn : 1 ≤ d.size ∧ n = 1 + bt d 0 ∧ n ≤ d.size := by
   unfold cntS at hc; split at hc
   ·cases hc
   ·simp at hc; omega
  obtain ⟨hn1, hn2, hn3⟩ := hn
  have hb := bt_lt d 0
  rw [hc] at HC
  have hz : (d.extract 1 n).size = n - 1 := by rw [size_extract' _ _ _ hn3]
  have hz2 : (d.extract 1 n).size ≤ 1048576 := by omega
  by_cases h0 : bt d 0 = 0
  ·have e : hashS d = none := by unfold hashS; rw [if_pos (.inr h0)]
   rw [e]
   have hn0 : 1 ≤ n := by omega
   have hz3 : ((d.extract 1 n).size : Int) < 1 := by omega
   clear e hc hn2 h0 hb hz
   go_enter Tryz.func202, Tryz.ntmps202
   go_wp2_with (first
    | (go_at_call 175; refine (HC.out _).mono ?_; rintro e w1 ⟨rfl, hB1⟩; simp only [szEnd])
    | (go_at_call 168; refine (need_out (d.extract 1 n) 1 _ hz2 hz3 (by omega)).mono ?_; rintro e w' ⟨rfl, rfl⟩))
   exact ⟨rfl, rfl, bstep hB0 hB1 hB0.size⟩
  ·have e : hashS d = some n := by unfold hashS; rw [if_neg (by rw [hc]; simp; exact h0), hc]
   rw [e]
   have hn0 : 1 ≤ n := by omega
   have hz3 : 1 ≤ ((d.extract 1 n).size : Int) := by omega
   clear e hc hn2 h0 hb hz
   go_enter Tryz.func202, Tryz.ntmps202
   go_wp2_with (first
    | (go_at_call 175; refine (HC.out _).mono ?_; rintro e w1 ⟨rfl, hB1⟩; simp only [szEnd])
    | (go_at_call 168; refine (need_in (d.extract 1 n) 1 _ hz2 hz3 (by omega)).mono ?_; rintro e w' ⟨rfl, rfl⟩))
   go_ret
   exact ⟨rfl, bstep hB0 hB1 hB0.size⟩
end Go.Proofs.YtoabnpdoicbpiaaGreat
namespace Go.Proofs.YtoabnpdoicbpiaaGreat
set_option linter.unusedVariables false
open Go.RowKit Go.Shelf Go.Proofs.YtoabnpdoicbpiaaGreat.Nm
def isTy (t : Int) : Bool := decide (1 ≤ t ∧ t ≤ 65535)
theorem isType_any (t : Int) (w : World) :
  Calls Tryz.prog 144 #[.int .i64 t] w fun e w' => e = .returned (.bool (isTy t)) ∧ w' = w := by
 by_cases h1 : 1 ≤ t
 ·by_cases h2 : t ≤ 65535
  ·have HD : Hid (isTy t = true) := by unfold Hid isTy; exact decide_eq_true ⟨h1, h2⟩
   go_enter Tryz.func144, Tryz.ntmps144
   go_wp2
   go_ret
   exact ⟨by rw [HD.out]; first | rfl | simp [h2], rfl⟩
  ·have HD : Hid (isTy t = false) := by unfold Hid isTy; exact decide_eq_false (by omega)
   go_enter Tryz.func144, Tryz.ntmps144
   go_wp2
   go_ret
   exact ⟨by rw [HD.out]; first | rfl | simp [h2], rfl⟩
 ·have HD : Hid (isTy t = false) := by unfold Hid isTy; exact decide_eq_false (by omega)
  go_enter Tryz.func144, Tryz.ntmps144
  go_wp2
  go_ret
  exact ⟨by rw [HD.out]; first | rfl | simp [h1], rfl⟩
set_option maxRecDepth 100000 in
theorem markOf_any (t : Nat) (w : World) (ht : t ≤ 65535) :
  Calls Tryz.prog 197 #[.int .i64 (t : Int)] w fun e w' => e = .returned (.int .u8 ((2 ^ (7 - t % 8) : Nat) : Int)) ∧ w' = w := by
 have hc : t % 8 = 0 ∨ t % 8 = 1 ∨ t % 8 = 2 ∨ t % 8 = 3 ∨ t % 8 = 4 ∨ t % 8 = 5 ∨ t % 8 = 6 ∨ t % 8 = 7 := by omega
 rcases hc with h | h | h | h | h | h | h | h
 all_goals
  have hI : (t : Int) % 8 = ((t % 8 : Nat) : Int) := by omega
  rw [h] at hI ⊢
  go_enter Tryz.func197, Tryz.ntmps197
  go_wp2
  go_ret
  exact ⟨by first | rfl | simp [hI], rfl⟩
def bitAt (s : ByteArray) (i : Nat) : Nat := bt s (i / 8) / 2 ^ (7 - i % 8) % 2
def blkT (block : Nat) (s : ByteArray) : Nat → List Nat
 | 0 => []
 | k + 1 => if bitAt s k = 1 then blkT block s k ++ [block * 256 + k] else blkT block s k
theorem blkT_len (block : Nat) (s : ByteArray) : ∀ k, (blkT block s k).length ≤ k
 | 0 => Nat.le_refl _
 | k + 1 => by
  have := blkT_len block s k
  simp only [blkT]; split
  ·simp; omega
  ·omega
theorem and_bit (x i : Nat) (hx : x < 256) (hi : i ≤ 7) : bits .and .u8 (x : Int) ((2 ^ i : Nat) : Int) = ((x / 2 ^ i % 2 * 2 ^ i : Nat) : Int) := by
 have h2 : 2 ^ i ≤ 2 ^ 7 := Nat.pow_le_pow_right (by omega) hi
 rw [u8_and_nat x (2 ^ i) hx (by omega), nat_bit]
set_option maxRecDepth 100000 in
set_option maxHeartbeats 1000000 in
theorem appendBlock_any (v : Value) (n base block : Nat) (xs : List Value) (s : ByteArray) (w : World) (hown : w.ownsRow base 3 1 v n xs) (hb : block < 256) (hs : s.size ≤ 32) (hn : n ≤ 67108864) (hbase : base ≤ w.heap.size) :
  Calls Tryz.prog 196 #[v, .int .i64 (block : Int), .string s] w fun e w' => ∃ v', e = .returned v' ∧ w'.ownsRow base 3 1 v' (n + (blkT block s (8 * s.size)).length) (xs ++ nums (blkT block s (8 * s.size))) ∧ Below base w w' := by
 obtain ⟨i0, hi, hz0, hz1, hz2⟩ := info_parts Tryz.infoInt
 go_enter Tryz.func196, Tryz.ntmps196
 go_wp2_with fail
 go_loopw [0, 11] (fun lv iv wr => ∃ i : Nat, iv = .int .i64 i ∧ i ≤ 8 * s.size ∧ wr.ownsRow base 3 1 lv (n + (blkT block s i).length) (xs ++ nums (blkT block s i)) ∧ Below base w wr) (fun _ iv _ => 8 * s.size - (intOf iv).toNat)
 case atStart => exact ⟨0, rfl, Nat.zero_le _, by simpa [blkT] using hown, Below.refl _ _⟩
 case round =>
  obtain ⟨i, rfl, hi8, hownr, hBr⟩ := hrel
  have hbl := blkT_len block s i
  by_cases hlt : i < 8 * s.size
  ·obtain ⟨q, hq0⟩ : ∃ q, i / 8 = q := ⟨_, rfl⟩
   have hq : q < s.size := by omega
   obtain ⟨y, hy, HY, hyl⟩ := bt_wrap hq
   have hqI : (i : Int) / 8 = (q : Int) := by omega
   obtain ⟨M, hM⟩ : ∃ M, 2 ^ (7 - i % 8) = M := ⟨_, rfl⟩
   have hand := and_bit y (7 - i % 8) hyl (by omega)
   rw [hM] at hand
   have hM1 : 0 < M := by rw [← hM]; exact Nat.two_pow_pos _
   have HMK := hide' (fun w => markOf_any i w (by omega))
   rw [hM] at HMK
   have hbit : bitAt s i = y / M % 2 := by unfold bitAt; rw [hq0, HY, hM]
   by_cases h1 : y / M % 2 = 1
   ·have HT : Hid (blkT block s (i + 1) = blkT block s i ++ [block * 256 + i]) := by unfold Hid; simp only [blkT]; rw [if_pos (by rw [hbit]; exact h1)]
    rw [h1, Nat.one_mul] at hand
    have hne : ((M : Int) != 0) = true := by rw [bne_iff_ne]; omega
    have hne' : ((M : Int) == 0) = false := by rw [beq_eq_false_iff_ne]; omega
    clear hM hbit h1 HY hq0
    go_wp2_with fail
    go_quiet ((go_at_call 197; exact Calls.quiet_of_same (HMK.out _)))
    obtain ⟨wq, hwq⟩ : ∃ wq, wr.drewN nq = wq := ⟨_, rfl⟩
    have hownq : wq.ownsRow base 3 1 u0 (n + (blkT block s i).length) (xs ++ nums (blkT block s i)) := hwq ▸ hownr
    have hBq : Below base w wq := hwq ▸ below_drewN hBr nq
    rw [hwq]
    clear hwq hownr
    go_wp2_with (at_builtin; refine wpList_append_own _ rfl _ _ 115 rfl base 3 i0 (.int .i64 0) 1 8 Tryz.underlying115 hi hz0 hz1 hz2 rfl (by decide) _ _ _ rfl (hownq.alloc _) ⟨wq.heap.size, 0, none⟩ 1 1 [.int .i64 _] rfl rfl (cell_one_new _ _ _) (by simp [Value.oneCell']) (by unfold maxLen; omega) (by omega) (by have := hBq.size; simp; omega) ?_; intro v4 w4 hown4 hgrow4 _)
    refine ⟨⟨i + 1, by go_num, hlt, ?_, below_app hBq hbase hownq hgrow4⟩, ?_⟩
    ·rw [HT.out, List.length_append, List.length_singleton, ← Nat.add_assoc]
     have e : nums (blkT block s i ++ [block * 256 + i]) = nums (blkT block s i) ++ [.int .i64 ((block * 256 + i : Nat) : Int)] := by simp [nums]
     rw [e, ← List.append_assoc]
     simpa using hown4
    ·simp [intOf]; omega
   ·have h0 : y / M % 2 = 0 := by omega
    have HT : Hid (blkT block s (i + 1) = blkT block s i) := by unfold Hid; simp only [blkT]; rw [if_neg (by rw [hbit]; exact h1)]
    rw [h0, Nat.zero_mul] at hand
    clear hM hbit h1 HY h0 hq0
    go_wp2_with fail
    go_quiet ((go_at_call 197; exact Calls.quiet_of_same (HMK.out _)))
    go_wp2
    refine ⟨⟨i + 1, by go_num, hlt, by rw [HT.out]; exact hownr, below_drewN hBr _⟩, ?_⟩
    simp [intOf]; omega
  ·have : i = 8 * s.size := by omega
   subst this
   go_wp2
   go_ret
   exact ⟨_, rfl, hownr, hBr⟩
end Go.Proofs.YtoabnpdoicbpiaaGreat
namespace Go.Proofs.YtoabnpdoicbpiaaGreat
set_option linter.unusedVariables false
open Go.RowKit Go.Shelf Go.Proofs.YtoabnpdoicbpiaaGreat.Nm
def typF : Nat → Int → ByteArray → Option (List Nat)
 | 0, _, s => if s.size = 0 then some [] else none
 | f + 1, last, s =>
  if s.size = 0 then some []
  else if s.size < 2 then none
  else if (bt s 0 : Int) ≤ last ∨ bt s 1 < 1 ∨ 32 < bt s 1 then none
  else if s.size < 2 + bt s 1 then none
  else if bt s (1 + bt s 1) = 0 then none
  else (typF f (bt s 0) (s.extract (2 + bt s 1) s.size)).map (blkT (bt s 0) (s.extract 2 (2 + bt s 1)) (8 * bt s 1) ++ ·)
theorem typF_fuel : ∀ (f g : Nat) (last : Int) (s : ByteArray), s.size ≤ f → s.size ≤ g → typF f last s = typF g last s
 | 0, 0, _, _, _, _ => rfl
 | 0, g + 1, last, s, hf, hg => by
  have : s.size = 0 := by omega
  unfold typF; rw [if_pos this, if_pos this]
 | f + 1, 0, last, s, hf, hg => by
  have : s.size = 0 := by omega
  unfold typF; rw [if_pos this, if_pos this]
 | f + 1, g + 1, last, s, hf, hg => by
  unfold typF
  by_cases h0 : s.size = 0
  ·rw [if_pos h0, if_pos h0]
  ·rw [if_neg h0, if_neg h0, typF_fuel f g _ _ (by rw [size_extract' _ _ _ (Nat.le_refl _)]; omega) (by rw [size_extract' _ _ _ (Nat.le_refl _)]; omega)]
def typS (last : Int) (s : ByteArray) : Option (List Nat) := typF s.size last s
theorem typS_nil {last : Int} {s : ByteArray} (h : s.size = 0) : typS last s = some [] := by unfold typS; rw [h]; unfold typF; rw [if_pos h]
theorem typS_step {last : Int} {s : ByteArray} (h : s.size ≠ 0) : typS last s =
  if s.size < 2 then none
  else if (bt s 0 : Int) ≤ last ∨ bt s 1 < 1 ∨ 32 < bt s 1 then none
  else if s.size < 2 + bt s 1 then none
  else if bt s (1 + bt s 1) = 0 then none
  else (typS (bt s 0) (s.extract (2 + bt s 1) s.size)).map (blkT (bt s 0) (s.extract 2 (2 + bt s 1)) (8 * bt s 1) ++ ·) := by
 unfold typS
 obtain ⟨n, hn⟩ : ∃ n, s.size = n + 1 := ⟨s.size - 1, by omega⟩
 conv => lhs; rw [hn]; unfold typF
 rw [if_neg h, typF_fuel n (s.extract (2 + bt s 1) s.size).size _ _ (by rw [size_extract' _ _ _ (Nat.le_refl _)]; omega) (Nat.le_refl _)]
def typB (s : ByteArray) : Option (List Nat) := match typS (-1) s with
 | some l => if l.head? = some 0 then none else some l
 | none => none
theorem typB_none {s : ByteArray} (h : typS (-1) s = none) : typB s = none := by unfold typB; rw [h]
theorem typB_zero {s : ByteArray} {l : List Nat} (h : typS (-1) s = some l) (h0 : l.head? = some 0) : typB s = none := by unfold typB; rw [h]; simp [h0]
theorem typB_some {s : ByteArray} {l : List Nat} (h : typS (-1) s = some l) (h0 : l.head? ≠ some 0) : typB s = some l := by unfold typB; rw [h]; simp [h0]
def ssz : Value → Nat
 | .string r => r.size
 | _ => 0
theorem blkT_le {block : Nat} {s : ByteArray} (hb : block ≤ 255) : ∀ {k : Nat}, k ≤ 256 → ∀ x ∈ blkT block s k, x ≤ 65535
 | 0, _, x, hx => by cases hx
 | k + 1, hk, x, hx => by
  simp only [blkT] at hx
  split at hx
  ·rcases List.mem_append.1 hx with h | h
   ·exact blkT_le hb (by omega) x h
   ·simp at h; omega
  ·exact blkT_le hb (by omega) x hx
def typEnd (w : World) (r : Option (List Nat)) (e : Ending) (w' : World) : Prop := match r with
 | some l => ∃ v, e = .returned v ∧ w'.ownsRow w.heap.size 3 1 v l.length (nums l)
 | none => e = .panicked (flt 7 0)
set_option maxRecDepth 100000 in
set_option maxHeartbeats 1000000 in
theorem typesOf_any (s : ByteArray) (w : World) (hs : s.size ≤ 1048576) :
  Calls Tryz.prog 195 #[.string s] w fun e w' => typEnd w (typB s) e w' ∧ Below w.heap.size w w' := by
 go_enter Tryz.func195, Tryz.ntmps195
 go_wp2_with fail
 go_loopw [0, 3, 4] (fun sv lv av wr => ∃ (r : ByteArray) (L : List Nat) (last : Int), sv = .string r ∧ av = .int .i64 last ∧ -1 ≤ last ∧ last ≤ 255 ∧ r.size ≤ s.size ∧ L.length + 8 * r.size ≤ 8 * s.size ∧ Hid (∀ x ∈ L, x ≤ 65535) ∧ Hid (typS (-1) s = (typS last r).map (L ++ ·)) ∧ wr.ownsRow w.heap.size 3 1 lv L.length (nums L) ∧ Below w.heap.size w wr) (fun sv _ _ _ => ssz sv)
 case atStart => exact ⟨s, [], -1, rfl, rfl, by omega, by omega, Nat.le_refl _, by simp, (fun x hx => by cases hx), by simp [Hid], World.ownsRow_nil _ _ _ _, Below.refl _ _⟩
 case round =>
  obtain ⟨r, L, last, rfl, rfl, hl1, hl2, hrs, hLn, HX, HT, hown, hBr⟩ := hrel
  by_cases h0 : r.size = 0
  ·have he := isEmpty_true h0
   have HT2 : Hid (typS (-1) s = some L) := by unfold Hid; rw [HT.out, typS_nil h0]; simp
   obtain ⟨p, c, rfl, hpc, hc9, hsh⟩ := owns_shape hown
   clear HT h0
   cases L with
   | nil =>
    have HB : Hid (typB s = some []) := typB_some HT2.out (by simp)
    go_wp2
    go_ret
    exact ⟨by rw [HB.out]; exact ⟨_, rfl, hown⟩, hBr⟩
   | cons x l =>
    have hx := HX.out x (List.mem_cons_self ..)
    obtain ⟨g, rfl, hg1, hg2⟩ : ∃ g, p = some ⟨g, 0, none⟩ ∧ w.heap.size ≤ g ∧ g < wr.heap.size := by
     rcases hsh with ⟨_, h⟩ | h
     ·simp at h
     ·exact h
    have hcell : wr.cell? ⟨g, 0, none⟩ = some (.int .i64 (x : Int)) := by
     rw [hown.cellAt 0 (by simp)]; simp [nums]
    have hll : ((x :: l).length : Int) = (l.length : Int) + 1 := by simp
    by_cases hx0 : x = 0
    ·subst hx0
     have HB : Hid (typB s = none) := typB_zero HT2.out (by simp)
     have HI : Hid (isTy (0 : Int) = false) := by unfold Hid isTy; decide
     clear hsh
     go_wp2_with (first
      | (go_at_call 144; refine (isType_any _ _).mono ?_; rintro e w2 ⟨rfl, rfl⟩; first | rw [HI.out] | rw [show isTy ((0 : Nat) : Int) = false from HI.out])
      | (go_at_call 120; refine (throw_any 7 0 _).mono ?_; rintro e w' ⟨rfl, rfl⟩))
     exact ⟨rfl, by rw [HB.out]; rfl, hBr⟩
    ·have HB : Hid (typB s = some (x :: l)) := typB_some HT2.out (by simp; exact hx0)
     have HI : Hid (isTy (x : Int) = true) := by unfold Hid isTy; exact decide_eq_true (by omega)
     clear hsh hx0
     go_wp2_with (go_at_call 144; refine (isType_any _ _).mono ?_; rintro e w2 ⟨rfl, rfl⟩; rw [HI.out])
     go_ret
     exact ⟨by rw [HB.out]; exact ⟨_, rfl, hown⟩, hBr⟩
  ·have he := isEmpty_false (r := r) (by omega)
   have HS := typS_step (last := last) h0
   have HNO : Hid (typS last r = none → typB s = none) := fun h => typB_none (by rw [HT.out, h]; rfl)
   have hr1 : r.size ≤ 1048576 := by omega
   clear h0
   by_cases h2 : r.size < 2
   ·have HB : Hid (typB s = none) := HNO.out (by rw [HS, if_pos h2])
    clear HS HT
    go_wp2_with (go_at_call 168; refine (need_out r _ _ hr1 (by omega) (by omega)).mono ?_; rintro e w' ⟨rfl, rfl⟩)
    exact ⟨rfl, by rw [HB.out]; rfl, hBr⟩
   ·rw [if_neg h2] at HS
    have hr2 : 2 ≤ r.size := by omega
    obtain ⟨b, hyb, HYb, hbl⟩ := bt_wrap (s := r) (i := 0) (by omega)
    obtain ⟨n, hyn, HYn, hnl⟩ := bt_wrap (s := r) (i := 1) (by omega)
    rw [HYb, HYn] at HS
    go_wp2_with (go_at_call 168; refine (need_in r _ _ hr1 (by omega) (by omega)).mono ?_; rintro e w' ⟨rfl, rfl⟩)
    go_quiet (fail)
    obtain ⟨wq, hwq⟩ : ∃ wq, w'.drewN nq = wq := ⟨_, rfl⟩
    have hownq : wq.ownsRow w.heap.size 3 1 u3 L.length (nums L) := hwq ▸ hown
    have hBq : Below w.heap.size w wq := hwq ▸ below_drewN hBr nq
    rw [hwq]
    clear hwq hown hBr hyb hyn
    by_cases hc1 : (b : Int) ≤ last ∨ n < 1 ∨ 32 < n
    ·have HB : Hid (typB s = none) := HNO.out (by rw [HS, if_pos hc1])
     clear HS HT
     rcases (show (b : Int) ≤ last ∨ (last < (b : Int) ∧ n < 1) ∨ (last < (b : Int) ∧ 1 ≤ n ∧ 32 < n) by omega) with h | ⟨h, h'⟩ | ⟨h, h', h''⟩
     all_goals
      go_wp2_with (go_at_call 120; refine (throw_any 7 0 _).mono ?_; rintro e w' ⟨rfl, rfl⟩)
      exact ⟨rfl, by rw [HB.out]; rfl, hBq⟩
    ·rw [if_neg hc1] at HS
     have hc1a : last < (b : Int) := by omega
     have hc1b : 1 ≤ n := by omega
     have hc1c : n ≤ 32 := by omega
     clear hc1
     by_cases hc2 : r.size < 2 + n
     ·have HB : Hid (typB s = none) := HNO.out (by rw [HS, if_pos hc2])
      clear HS HT
      go_wp2_with (go_at_call 168; refine (need_out r _ _ hr1 (by omega) (by omega)).mono ?_; rintro e w' ⟨rfl, rfl⟩)
      exact ⟨rfl, by rw [HB.out]; rfl, hBq⟩
     ·rw [if_neg hc2] at HS
      have hc2' : 2 + n ≤ r.size := by omega
      have hq : 1 + n < r.size := by omega
      obtain ⟨y, hy, HY, hyl⟩ := bt_wrap hq
      rw [HY] at HS
      have hidx : (2 : Int) + (n : Int) - 1 = ((1 + n : Nat) : Int) := by omega
      by_cases hc3 : y = 0
      ·subst hc3
       have HB : Hid (typB s = none) := HNO.out (by rw [HS, if_pos rfl])
       clear HS HT HY
       go_wp2_with (first
        | (go_at_call 168; refine (need_in r _ _ hr1 (by omega) (by omega)).mono ?_; rintro e w' ⟨rfl, rfl⟩)
        | (go_at_call 120; refine (throw_any 7 0 _).mono ?_; rintro e w' ⟨rfl, rfl⟩))
       exact ⟨rfl, by rw [HB.out]; rfl, hBq⟩
      ·rw [if_neg hc3] at HS
       have hy0 : ((y : Int) == 0) = false := by rw [beq_eq_false_iff_ne]; omega
       have hxz : (r.extract 2 (2 + n)).size = n := by rw [size_extract' _ _ _ hc2']; omega
       have hrz : (r.extract (2 + n) r.size).size = r.size - (2 + n) := size_extract' _ _ _ (Nat.le_refl _)
       obtain ⟨B1, hB1⟩ : ∃ B1, blkT b (r.extract 2 (2 + n)) (8 * n) = B1 := ⟨_, rfl⟩
       have HAB := appendBlock_any u3 L.length w.heap.size b (nums L) (r.extract 2 (2 + n)) wq hownq hbl (by omega) (by omega) hBq.size
       rw [hxz, hB1] at HAB
       rw [hB1] at HS
       have hB1n : B1.length ≤ 8 * n := by rw [← hB1]; exact blkT_len _ _ _
       have HXB : Hid (∀ x ∈ L ++ B1, x ≤ 65535) := fun x hx => by
        rcases List.mem_append.1 hx with h | h
        ·exact HX.out x h
        ·rw [← hB1] at h; exact blkT_le (by omega) (by omega) x h
       have HT2 : Hid (typS (-1) s = (typS (b : Int) (r.extract (2 + n) r.size)).map ((L ++ B1) ++ ·)) := by
        unfold Hid; rw [HT.out, HS, Option.map_map]; congr 1; funext q; simp
       have HABH := hide' HAB
       clear HS HT HY HAB hB1 hc3 HX HNO
       go_wp2_with (first
        | (go_at_call 168; refine (need_in r _ _ hr1 (by omega) (by omega)).mono ?_; rintro e w' ⟨rfl, rfl⟩)
        | (go_at_call 196; refine (HABH.out).mono ?_; rintro e w2 ⟨v2, rfl, hown2, hB2⟩))
       go_quiet (fail)
       go_wp2
       refine ⟨⟨r.extract (2 + n) r.size, L ++ B1, b, rfl, rfl, by omega, by omega, by omega, ?_, HXB, HT2, ?_, below_drewN (hBq.trans hB2) _⟩, ?_⟩
       ·rw [List.length_append]; omega
       ·rw [List.length_append]
        have e : nums (L ++ B1) = nums L ++ nums B1 := by simp [nums]
        rw [e]; exact hown2
       ·show (r.extract (2 + n) r.size).size < r.size
        omega
end Go.Proofs.YtoabnpdoicbpiaaGreat
