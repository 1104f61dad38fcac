import Derived.Test.YtfofdcacikbflaaDoorRf2G
import Derived.WalkSmall
namespace Go.Proofs.YtfofdcacikbflaaDoor
set_option linter.unusedVariables false
open Go.RowKit Go.Shelf Go.Proofs.YtfofdcacikbflaaDoor.Nm

/-- a fault that was thrown -/
def flt (code at_ : Nat) : List PanicEntry := [{ v := .iface 41 (.agg #[.int .i64 (code : Int), .int .i64 (at_ : Int)]), recovered := false }]

set_option maxRecDepth 100000 in
/-- data.throw -/
theorem throw_any (code at_ : Nat) (w : World) :
    Calls Tryd.prog 33 #[.int .i64 (code : Int), .int .i64 (at_ : Int)] w fun e w' => e = .panicked (flt code at_) ∧ w' = w := by
  go_enter Tryd.func33, Tryd.ntmps33
  go_wp2
  exact ⟨rfl, rfl, rfl⟩

/-- data.need -/
theorem need_yes (d : ByteArray) (n : Nat) (w : World) (hd : d.size ≤ 1048576) (h : n ≤ d.size) :
    Calls Tryd.prog 32 #[.string d, .int .i64 (n : Int)] w fun e w' => e = .returned (.int .i64 (n : Int)) ∧ w' = w := by
  go_enter Tryd.func32, Tryd.ntmps32
  go_wp2
  go_ret
  exact ⟨rfl, rfl⟩
theorem need_no (d : ByteArray) (n : Nat) (w : World) (hd : d.size ≤ 1048576) (h : d.size < n) :
    Calls Tryd.prog 32 #[.string d, .int .i64 (n : Int)] w fun e w' => e = .panicked (flt 7 0) ∧ w' = w := by
  go_enter Tryd.func32, Tryd.ntmps32
  go_wp2_with (go_at_call 33; refine (throw_any 7 0 _).mono ?_; rintro e w' ⟨rfl, rfl⟩)
  exact ⟨rfl, rfl, rfl⟩

theorem need_in (d : ByteArray) (z : Int) (w : World) (hd : d.size ≤ 1048576) (h : z ≤ d.size) (h0 : -9223372036854775808 ≤ z) :
    Calls Tryd.prog 32 #[.string d, .int .i64 z] w fun e w' => e = .returned (.int .i64 z) ∧ w' = w := by
  go_enter Tryd.func32, Tryd.ntmps32
  go_wp2
  go_ret
  exact ⟨rfl, rfl⟩
theorem need_out (d : ByteArray) (z : Int) (w : World) (hd : d.size ≤ 1048576) (h : (d.size : Int) < z) (h0 : z ≤ 9223372036854775807) :
    Calls Tryd.prog 32 #[.string d, .int .i64 z] w fun e w' => e = .panicked (flt 7 0) ∧ w' = w := by
  go_enter Tryd.func32, Tryd.ntmps32
  go_wp2_with (go_at_call 33; refine (throw_any 7 0 _).mono ?_; rintro e w' ⟨rfl, rfl⟩)
  exact ⟨rfl, rfl, rfl⟩

/-- how a field's size ends: so many bytes, or a fault in the data -/
def szEnd (r : Option Nat) : Ending := match r with | some n => .returned (.int .i64 (n : Int)) | none => .panicked (flt 7 0)

/-- so many bytes at the least -/
def fixS (n : Nat) (d : ByteArray) : Option Nat := if d.size < n then none else some n
theorem fixS_yes {n : Nat} {d : ByteArray} (h : n ≤ d.size) : fixS n d = some n := by unfold fixS; rw [if_neg (by omega)]
theorem fixS_no {n : Nat} {d : ByteArray} (h : d.size < n) : fixS n d = none := by unfold fixS; rw [if_pos h]
theorem need_any (d : ByteArray) (n : Nat) (w : World) (hd : d.size ≤ 1048576) :
    Calls Tryd.prog 32 #[.string d, .int .i64 (n : Int)] w fun e w' => e = szEnd (fixS n d) ∧ w' = w := by
  by_cases h : n ≤ d.size
  · rw [fixS_yes h]; exact need_yes d n w hd h
  · rw [fixS_no (by omega)]; exact need_no d n w hd (by omega)

/-- one byte or more, to the end -/
def endS (d : ByteArray) : Option Nat := if d.size = 0 then none else some d.size
/-- a length, and so many bytes -/
def cntS (d : ByteArray) : Option Nat := if d.size = 0 ∨ d.size < 1 + bt d 0 then none else some (1 + bt d 0)
theorem prefix_zero {s : ByteArray} (hz : 2 ≤ s.size) : ((s.extract 0 2).toList == [0, 0]) = decide (bt s 0 = 0 ∧ bt s 1 = 0) := by
  have e : ([0, 0] : List UInt8) = (⟨#[0, 0]⟩ : ByteArray).toList := by rw [toList_eq]
  rw [e, toList_bt]
  rw [Bool.eq_iff_iff, decide_eq_true_iff, decide_eq_true_iff]
  constructor
  · intro h
    have h0 := congrArg (fun t => bt t 0) h
    have h1 := congrArg (fun t => bt t 1) h
    rw [bt_extract _ _ _ _ (by omega) hz] at h0 h1
    exact ⟨h0, h1⟩
  · rintro ⟨h0, h1⟩
    apply ba_ext
    · rw [size_extract' _ _ _ hz]; rfl
    · intro j hj
      rw [size_extract' _ _ _ hz] at hj
      rw [bt_extract _ _ _ _ (by omega) hz]
      have : j = 0 ∨ j = 1 := by omega
      rcases this with rfl | rfl
      · exact h0
      · exact h1
/-- (oneType).size -/
def oneS (d : ByteArray) : Option Nat := if d.size < 2 ∨ (bt d 0 = 0 ∧ bt d 1 = 0) then none else some 2
/-- the place of what has no size -/
theorem part_none (w : World) (T : TypeId) (hT : Tryd.prog.cellsOf T = 0) : (partAt ⟨w.heap.size, 0, none⟩ 0 0).run Tryd.prog (w.alloc (.cells #[] T)) = .ok ⟨w.heap.size, 0, none⟩ (w.alloc (.cells #[] T)) := by
  have hg : (w.alloc (.cells #[] T)).heap[w.heap.size]? = some (.cells #[] T (0, 0)) := World.alloc_heap_new w _
  have hs : (w.alloc (.cells #[] T)).shape? w.heap.size = some (T, 0) := by unfold World.shape?; rw [hg]; rfl
  simp [partAt, byteOf, noView, viewAt, run_shape, hs, hT]
/-- (hash).size -/
def hashS (d : ByteArray) : Option Nat := if cntS d = none ∨ bt d 0 = 0 then none else cntS d
end Go.Proofs.YtfofdcacikbflaaDoor
