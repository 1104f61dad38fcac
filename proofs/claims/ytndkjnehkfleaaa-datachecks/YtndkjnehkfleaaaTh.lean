import Derived.Test.YtndkjnehkfleaaaRf2G
import Derived.WalkSmall
namespace Go.Proofs.Ytndkjnehkfleaaa
set_option linter.unusedVariables false
open Go.RowKit Go.Shelf Go.Proofs.Ytndkjnehkfleaaa.Nm

/-- a fault that was thrown -/
def flt (code at_ : Nat) : List PanicEntry := [{ v := .iface 40 (.agg #[.int .i64 (code : Int), .int .i64 (at_ : Int)]), recovered := false }]

set_option maxRecDepth 100000 in
/-- data.throw -/
theorem throw_any (code at_ : Nat) (w : World) :
    Calls Try.prog 22 #[.int .i64 (code : Int), .int .i64 (at_ : Int)] w fun e w' => e = .panicked (flt code at_) ∧ w' = w := by
  go_enter Try.func22, Try.ntmps22
  go_wp2
  exact ⟨rfl, rfl, rfl⟩

/-- data.need -/
theorem need_yes (d : ByteArray) (n : Nat) (w : World) (hd : d.size ≤ 1048576) (h : n ≤ d.size) :
    Calls Try.prog 58 #[.string d, .int .i64 (n : Int)] w fun e w' => e = .returned (.int .i64 (n : Int)) ∧ w' = w := by
  go_enter Try.func58, Try.ntmps58
  go_wp2
  go_ret
  exact ⟨rfl, rfl⟩
theorem need_no (d : ByteArray) (n : Nat) (w : World) (hd : d.size ≤ 1048576) (h : d.size < n) :
    Calls Try.prog 58 #[.string d, .int .i64 (n : Int)] w fun e w' => e = .panicked (flt 7 0) ∧ w' = w := by
  go_enter Try.func58, Try.ntmps58
  go_wp2_with (go_at_call 22; refine (throw_any 7 0 _).mono ?_; rintro e w' ⟨rfl, rfl⟩)
  exact ⟨rfl, rfl, rfl⟩

theorem need_in (d : ByteArray) (z : Int) (w : World) (hd : d.size ≤ 1048576) (h : z ≤ d.size) (h0 : -9223372036854775808 ≤ z) :
    Calls Try.prog 58 #[.string d, .int .i64 z] w fun e w' => e = .returned (.int .i64 z) ∧ w' = w := by
  go_enter Try.func58, Try.ntmps58
  go_wp2
  go_ret
  exact ⟨rfl, rfl⟩
theorem need_out (d : ByteArray) (z : Int) (w : World) (hd : d.size ≤ 1048576) (h : (d.size : Int) < z) (h0 : z ≤ 9223372036854775807) :
    Calls Try.prog 58 #[.string d, .int .i64 z] w fun e w' => e = .panicked (flt 7 0) ∧ w' = w := by
  go_enter Try.func58, Try.ntmps58
  go_wp2_with (go_at_call 22; refine (throw_any 7 0 _).mono ?_; rintro e w' ⟨rfl, rfl⟩)
  exact ⟨rfl, rfl, rfl⟩

/-- how a field's size ends: so many bytes, or a fault in the data -/
def szEnd (r : Option Nat) : Ending := match r with | some n => .returned (.int .i64 (n : Int)) | none => .panicked (flt 7 0)

/-- so many bytes at the least -/
def fixS (n : Nat) (d : ByteArray) : Option Nat := if d.size < n then none else some n
theorem fixS_yes {n : Nat} {d : ByteArray} (h : n ≤ d.size) : fixS n d = some n := by unfold fixS; rw [if_neg (by omega)]
theorem fixS_no {n : Nat} {d : ByteArray} (h : d.size < n) : fixS n d = none := by unfold fixS; rw [if_pos h]
theorem need_any (d : ByteArray) (n : Nat) (w : World) (hd : d.size ≤ 1048576) :
    Calls Try.prog 58 #[.string d, .int .i64 (n : Int)] w fun e w' => e = szEnd (fixS n d) ∧ w' = w := by
  by_cases h : n ≤ d.size
  · rw [fixS_yes h]; exact need_yes d n w hd h
  · rw [fixS_no (by omega)]; exact need_no d n w hd (by omega)

/-- (ip4).size, (ip6).size, (number).size -/
theorem ip4Size_any (d : ByteArray) (w : World) (hd : d.size ≤ 1048576) :
    Calls Try.prog 64 #[.agg #[], .string d] w fun e w' => e = szEnd (fixS 4 d) ∧ Below w.heap.size w w' := by
  by_cases h : 4 ≤ d.size
  · rw [fixS_yes h]
    go_enter Try.func64, Try.ntmps64
    go_wp2_with (go_at_call 58; refine (need_yes d 4 _ hd h).mono ?_; rintro e w' ⟨rfl, rfl⟩)
    go_ret
    exact ⟨rfl, (Below.refl _ _).alloc (Nat.le_refl _) _⟩
  · rw [fixS_no (by omega)]
    go_enter Try.func64, Try.ntmps64
    go_wp2_with (go_at_call 58; refine (need_no d 4 _ hd (by omega)).mono ?_; rintro e w' ⟨rfl, rfl⟩)
    exact ⟨rfl, rfl, (Below.refl _ _).alloc (Nat.le_refl _) _⟩
theorem ip6Size_any (d : ByteArray) (w : World) (hd : d.size ≤ 1048576) :
    Calls Try.prog 73 #[.agg #[], .string d] w fun e w' => e = szEnd (fixS 16 d) ∧ Below w.heap.size w w' := by
  by_cases h : 16 ≤ d.size
  · rw [fixS_yes h]
    go_enter Try.func73, Try.ntmps73
    go_wp2_with (go_at_call 58; refine (need_yes d 16 _ hd h).mono ?_; rintro e w' ⟨rfl, rfl⟩)
    go_ret
    exact ⟨rfl, (Below.refl _ _).alloc (Nat.le_refl _) _⟩
  · rw [fixS_no (by omega)]
    go_enter Try.func73, Try.ntmps73
    go_wp2_with (go_at_call 58; refine (need_no d 16 _ hd (by omega)).mono ?_; rintro e w' ⟨rfl, rfl⟩)
    exact ⟨rfl, rfl, (Below.refl _ _).alloc (Nat.le_refl _) _⟩
theorem numberSize_any (n : Nat) (d : ByteArray) (w : World) (hd : d.size ≤ 1048576) :
    Calls Try.prog 61 #[.agg #[.int .i64 (n : Int)], .string d] w fun e w' => e = szEnd (fixS n d) ∧ Below w.heap.size w w' := by
  by_cases h : n ≤ d.size
  · rw [fixS_yes h]
    go_enter Try.func61, Try.ntmps61
    go_wp2_with (go_at_call 58; refine (need_yes d n _ hd h).mono ?_; rintro e w' ⟨rfl, rfl⟩)
    go_ret
    exact ⟨rfl, (Below.refl _ _).alloc (Nat.le_refl _) _⟩
  · rw [fixS_no (by omega)]
    go_enter Try.func61, Try.ntmps61
    go_wp2_with (go_at_call 58; refine (need_no d n _ hd (by omega)).mono ?_; rintro e w' ⟨rfl, rfl⟩)
    exact ⟨rfl, rfl, (Below.refl _ _).alloc (Nat.le_refl _) _⟩
theorem tailSize_any (d : ByteArray) (w : World) (hd : d.size ≤ 1048576) :
    Calls Try.prog 95 #[.agg #[], .string d] w fun e w' => e = szEnd (some d.size) ∧ Below w.heap.size w w' := by
  go_enter Try.func95, Try.ntmps95
  go_wp2
  go_ret
  exact ⟨rfl, (Below.refl _ _).alloc (Nat.le_refl _) _⟩
theorem unknownSize_any (d : ByteArray) (w : World) (hd : d.size ≤ 1048576) :
    Calls Try.prog 98 #[.agg #[], .string d] w fun e w' => e = szEnd (some d.size) ∧ Below w.heap.size w w' := by
  go_enter Try.func98, Try.ntmps98
  go_wp2
  go_ret
  exact ⟨rfl, (Below.refl _ _).alloc (Nat.le_refl _) _⟩
/-- one byte or more, to the end -/
def endS (d : ByteArray) : Option Nat := if d.size = 0 then none else some d.size
theorem toEndSize_any (d : ByteArray) (w : World) (hd : d.size ≤ 1048576) :
    Calls Try.prog 74 #[.agg #[], .string d] w fun e w' => e = szEnd (endS d) ∧ Below w.heap.size w w' := by
  by_cases h : 1 ≤ d.size
  · have e : endS d = some d.size := by unfold endS; rw [if_neg (by omega)]
    rw [e]
    go_enter Try.func74, Try.ntmps74
    go_wp2_with (go_at_call 58; refine (need_yes d 1 _ hd h).mono ?_; rintro e w' ⟨rfl, rfl⟩)
    go_ret
    exact ⟨rfl, (Below.refl _ _).alloc (Nat.le_refl _) _⟩
  · have e : endS d = none := by unfold endS; rw [if_pos (by omega)]
    rw [e]
    go_enter Try.func74, Try.ntmps74
    go_wp2_with (go_at_call 58; refine (need_no d 1 _ hd (by omega)).mono ?_; rintro e w' ⟨rfl, rfl⟩)
    exact ⟨rfl, rfl, (Below.refl _ _).alloc (Nat.le_refl _) _⟩
/-- a length, and so many bytes -/
def cntS (d : ByteArray) : Option Nat := if d.size = 0 ∨ d.size < 1 + bt d 0 then none else some (1 + bt d 0)
set_option maxRecDepth 100000 in
theorem countedSize_any (d : ByteArray) (w : World) (hd : d.size ≤ 1048576) :
    Calls Try.prog 65 #[.agg #[], .string d] w fun e w' => e = szEnd (cntS d) ∧ Below w.heap.size w w' := by
  by_cases h : 1 ≤ d.size
  · obtain ⟨y, hy, HY, hyl⟩ := bt_wrap (s := d) (i := 0) (by omega)
    by_cases h2 : 1 + y ≤ d.size
    · have e : cntS d = some (1 + y) := by unfold cntS; rw [HY, if_neg (by omega)]
      rw [e]
      clear HY e
      go_enter Try.func65, Try.ntmps65
      go_wp2_with (go_at_call 58; refine (need_in d _ _ hd (by omega) (by omega)).mono ?_; rintro e w' ⟨rfl, rfl⟩)
      go_ret
      exact ⟨by simp [szEnd], (Below.refl _ _).alloc (Nat.le_refl _) _⟩
    · have e : cntS d = none := by unfold cntS; rw [HY, if_pos (by omega)]
      rw [e]
      clear HY e
      go_enter Try.func65, Try.ntmps65
      go_wp2_with (first
        | (go_at_call 58; refine (need_in d _ _ hd (by omega) (by omega)).mono ?_; rintro e w' ⟨rfl, rfl⟩)
        | (go_at_call 58; refine (need_out d _ _ hd (by omega) (by omega)).mono ?_; rintro e w' ⟨rfl, rfl⟩))
      exact ⟨rfl, rfl, (Below.refl _ _).alloc (Nat.le_refl _) _⟩
  · have e : cntS d = none := by unfold cntS; rw [if_pos (by omega)]
    rw [e]
    go_enter Try.func65, Try.ntmps65
    go_wp2_with (go_at_call 58; refine (need_out d _ _ hd (by omega) (by omega)).mono ?_; rintro e w' ⟨rfl, rfl⟩)
    exact ⟨rfl, rfl, (Below.refl _ _).alloc (Nat.le_refl _) _⟩

theorem prefix_zero {s : ByteArray} (hz : 2 ≤ s.size) : ((s.extract 0 2).toList == [0, 0]) = decide (bt s 0 = 0 ∧ bt s 1 = 0) := by
  have e : ([0, 0] : List UInt8) = (⟨#[0, 0]⟩ : ByteArray).toList := by rw [toList_eq]
  rw [e, toList_bt]
  rw [Bool.eq_iff_iff, decide_eq_true_iff, decide_eq_true_iff]
  constructor
  · intro h
    have h0 := congrArg (fun t => bt t 0) h
    have h1 := congrArg (fun t => bt t 1) h
    rw [bt_extract _ _ _ _ (by omega) hz] at h0 h1
    exact ⟨h0, h1⟩
  · rintro ⟨h0, h1⟩
    apply ba_ext
    · rw [size_extract' _ _ _ hz]; rfl
    · intro j hj
      rw [size_extract' _ _ _ hz] at hj
      rw [bt_extract _ _ _ _ (by omega) hz]
      have : j = 0 ∨ j = 1 := by omega
      rcases this with rfl | rfl
      · exact h0
      · exact h1
/-- (oneType).size -/
def oneS (d : ByteArray) : Option Nat := if d.size < 2 ∨ (bt d 0 = 0 ∧ bt d 1 = 0) then none else some 2
set_option maxRecDepth 100000 in
theorem oneTypeSize_any (d : ByteArray) (w : World) (hd : d.size ≤ 1048576) :
    Calls Try.prog 79 #[.agg #[], .string d] w fun e w' => e = szEnd (oneS d) ∧ Below w.heap.size w w' := by
  by_cases h : 2 ≤ d.size
  · have hz := prefix_zero h
    by_cases h0 : bt d 0 = 0 ∧ bt d 1 = 0
    · have e : oneS d = none := by unfold oneS; rw [if_pos (.inr h0)]
      rw [decide_eq_true h0] at hz
      rw [e]
      clear h0 e
      go_enter Try.func79, Try.ntmps79
      go_wp2_with (first
        | (go_at_call 58; refine (need_in d _ _ hd (by omega) (by omega)).mono ?_; rintro e w' ⟨rfl, rfl⟩)
        | (go_at_call 22; refine (throw_any 7 0 _).mono ?_; rintro e w' ⟨rfl, rfl⟩))
      exact ⟨rfl, rfl, (Below.refl _ _).alloc (Nat.le_refl _) _⟩
    · have e : oneS d = some 2 := by unfold oneS; rw [if_neg (by omega)]
      rw [decide_eq_false h0] at hz
      rw [e]
      clear h0 e
      go_enter Try.func79, Try.ntmps79
      go_wp2_with (go_at_call 58; refine (need_in d _ _ hd (by omega) (by omega)).mono ?_; rintro e w' ⟨rfl, rfl⟩)
      go_ret
      exact ⟨rfl, (Below.refl _ _).alloc (Nat.le_refl _) _⟩
  · have e : oneS d = none := by unfold oneS; rw [if_pos (by omega)]
    rw [e]
    go_enter Try.func79, Try.ntmps79
    go_wp2_with (go_at_call 58; refine (need_out d _ _ hd (by omega) (by omega)).mono ?_; rintro e w' ⟨rfl, rfl⟩)
    exact ⟨rfl, rfl, (Below.refl _ _).alloc (Nat.le_refl _) _⟩
theorem cellsHash : Try.prog.cellsOf 79 = 0 := by kernel_rfl
/-- the place of what has no size -/
theorem part_none (w : World) (T : TypeId) (hT : Try.prog.cellsOf T = 0) : (partAt ⟨w.heap.size, 0, none⟩ 0 0).run Try.prog (w.alloc (.cells #[] T)) = .ok ⟨w.heap.size, 0, none⟩ (w.alloc (.cells #[] T)) := by
  have hg : (w.alloc (.cells #[] T)).heap[w.heap.size]? = some (.cells #[] T (0, 0)) := World.alloc_heap_new w _
  have hs : (w.alloc (.cells #[] T)).shape? w.heap.size = some (T, 0) := by unfold World.shape?; rw [hg]; rfl
  simp [partAt, byteOf, noView, viewAt, run_shape, hs, hT]
/-- (hash).size -/
def hashS (d : ByteArray) : Option Nat := if cntS d = none ∨ bt d 0 = 0 then none else cntS d
set_option maxRecDepth 100000 in
theorem hashSize_any (d : ByteArray) (w : World) (hd : d.size ≤ 1048576) :
    Calls Try.prog 92 #[.agg #[], .string d] w fun e w' => e = szEnd (hashS d) ∧ Below w.heap.size w w' := by
  have HC := hide' (fun w => countedSize_any d w hd)
  have hpart := part_none w 79 cellsHash
  have hB0 : Below w.heap.size w (w.alloc (.cells #[] 79)) := (Below.refl _ _).alloc (Nat.le_refl _) _
  cases hc : cntS d with
  | none =>
    have e : hashS d = none := by unfold hashS; rw [if_pos (.inl hc)]
    rw [hc] at HC
    rw [e]
    go_enter Try.func92, Try.ntmps92
    go_wp2_with (go_at_call 65; refine (HC.out _).mono ?_; rintro e w1 ⟨rfl, hB1⟩; simp only [szEnd])
    exact ⟨rfl, rfl, bstep hB0 hB1 hB0.size⟩
  | some n =>
    have hn : 1 ≤ d.size ∧ n = 1 + bt d 0 ∧ n ≤ d.size := by
      unfold cntS at hc; split at hc
      · cases hc
      · simp at hc; omega
    obtain ⟨hn1, hn2, hn3⟩ := hn
    have hb := bt_lt d 0
    rw [hc] at HC
    have hz : (d.extract 1 n).size = n - 1 := by rw [size_extract' _ _ _ hn3]
    have hz2 : (d.extract 1 n).size ≤ 1048576 := by omega
    by_cases h0 : bt d 0 = 0
    · have e : hashS d = none := by unfold hashS; rw [if_pos (.inr h0)]
      rw [e]
      have hn0 : 1 ≤ n := by omega
      have hz3 : ((d.extract 1 n).size : Int) < 1 := by omega
      clear e hc hn2 h0 hb hz
      go_enter Try.func92, Try.ntmps92
      go_wp2_with (first
        | (go_at_call 65; refine (HC.out _).mono ?_; rintro e w1 ⟨rfl, hB1⟩; simp only [szEnd])
        | (go_at_call 58; refine (need_out (d.extract 1 n) 1 _ hz2 hz3 (by omega)).mono ?_; rintro e w' ⟨rfl, rfl⟩))
      exact ⟨rfl, rfl, bstep hB0 hB1 hB0.size⟩
    · have e : hashS d = some n := by unfold hashS; rw [if_neg (by rw [hc]; simp; exact h0), hc]
      rw [e]
      have hn0 : 1 ≤ n := by omega
      have hz3 : 1 ≤ ((d.extract 1 n).size : Int) := by omega
      clear e hc hn2 h0 hb hz
      go_enter Try.func92, Try.ntmps92
      go_wp2_with (first
        | (go_at_call 65; refine (HC.out _).mono ?_; rintro e w1 ⟨rfl, hB1⟩; simp only [szEnd])
        | (go_at_call 58; refine (need_in (d.extract 1 n) 1 _ hz2 hz3 (by omega)).mono ?_; rintro e w' ⟨rfl, rfl⟩))
      go_ret
      exact ⟨rfl, bstep hB0 hB1 hB0.size⟩
end Go.Proofs.Ytndkjnehkfleaaa
