import Derived.Test.YtinnmfidnecncaaPk11G
namespace Go.Proofs.Ytinnmfidnecncaa
set_option linter.unusedVariables false
open Go.RowKit Go.Shelf Go.Maps Go.Proofs.Ytinnmfidnecncaa.Nm

set_option maxRecDepth 100000 in
set_option maxHeartbeats 1000000 in
theorem wcheck_no0 (i0 i2 i9 : Int) (b1 b3 b4 b5 b6 b7 b8 : Bool) (q0 a0 u0 d0 : Option Addr) (qc ac uc dc : Nat) (Q : List Qn) (A U D : List Rn) (w : World) (hl : LsAt w q0 a0 u0 d0 Q A U D) (g0 : fitsN i0 16 = false) :
    Calls Try.prog 8 #[.agg #[.int .i64 i0, .bool b1, .int .i64 i2, .bool b3, .bool b4, .bool b5, .bool b6, .bool b7, .bool b8, .int .i64 i9, .slice q0 Q.length qc, .slice a0 A.length ac, .slice u0 U.length uc, .slice d0 D.length dc]] w fun e w' => e = .returned (.int .i64 8) ∧ Below w.heap.size w w' := by
  have HX : Hid (Bx (w.alloc (.cells #[.int .i64 i0, .bool b1, .int .i64 i2, .bool b3, .bool b4, .bool b5, .bool b6, .bool b7, .bool b8, .int .i64 i9, .slice q0 Q.length qc, .slice a0 A.length ac, .slice u0 U.length uc, .slice d0 D.length dc] 25)) w.heap.size #[.int .i64 i0, .bool b1, .int .i64 i2, .bool b3, .bool b4, .bool b5, .bool b6, .bool b7, .bool b8, .int .i64 i9, .slice q0 Q.length qc, .slice a0 A.length ac, .slice u0 U.length uc, .slice d0 D.length dc] 25) := World.alloc_heap_new w _
  have HB := hide' ((Below.refl w.heap.size w).alloc (Nat.le_refl _) (.cells #[.int .i64 i0, .bool b1, .int .i64 i2, .bool b3, .bool b4, .bool b5, .bool b6, .bool b7, .bool b8, .int .i64 i9, .slice q0 Q.length qc, .slice a0 A.length ac, .slice u0 U.length uc, .slice d0 D.length dc] 25))
  have HW := hide' (hl.below ((Below.refl w.heap.size w).alloc (Nat.le_refl _) (.cells #[.int .i64 i0, .bool b1, .int .i64 i2, .bool b3, .bool b4, .bool b5, .bool b6, .bool b7, .bool b8, .int .i64 i9, .slice q0 Q.length qc, .slice a0 A.length ac, .slice u0 U.length uc, .slice d0 D.length dc] 25)))
  have hx0 : ∀ W : World, Sem.run Try.prog (Instr.index 61 (.agg #[.pointer (some ⟨w.heap.size, 11, none⟩), .pointer (some ⟨w.heap.size, 12, none⟩), .pointer (some ⟨w.heap.size, 13, none⟩)]) (.int .i64 0)) W = .ok (.pointer (some ⟨w.heap.size, 11, none⟩)) W := fun W => by first | rfl | simp [go_sem, Instr.index]
  have hx1 : ∀ W : World, Sem.run Try.prog (Instr.index 61 (.agg #[.pointer (some ⟨w.heap.size, 11, none⟩), .pointer (some ⟨w.heap.size, 12, none⟩), .pointer (some ⟨w.heap.size, 13, none⟩)]) (.int .i64 1)) W = .ok (.pointer (some ⟨w.heap.size, 12, none⟩)) W := fun W => by first | rfl | simp [go_sem, Instr.index]
  have hx2 : ∀ W : World, Sem.run Try.prog (Instr.index 61 (.agg #[.pointer (some ⟨w.heap.size, 11, none⟩), .pointer (some ⟨w.heap.size, 12, none⟩), .pointer (some ⟨w.heap.size, 13, none⟩)]) (.int .i64 2)) W = .ok (.pointer (some ⟨w.heap.size, 13, none⟩)) W := fun W => by first | rfl | simp [go_sem, Instr.index]
  clear hl
  go_enter Try.func8, Try.ntmps8
  go_wp2_with (first
    | (go_at_call 18; refine (hasRoom_any _ _ _ (by decide)).mono ?_; rintro e wh ⟨rfl, hwh⟩; have hwh' := hwh.symm; subst hwh')
    | (go_at_call 19; refine (sectionsOf_any w.heap.size 0 _).mono ?_; rintro e w5 ⟨rfl, hB⟩; have HX5 : Hid (Bx w5 w.heap.size #[.int .i64 i0, .bool b1, .int .i64 i2, .bool b3, .bool b4, .bool b5, .bool b6, .bool b7, .bool b8, .int .i64 i9, .slice q0 Q.length qc, .slice a0 A.length ac, .slice u0 U.length uc, .slice d0 D.length dc] 25) := HX.out.below hB HX.out.lt; have x11 : w5.cell? ⟨w.heap.size, 11, none⟩ = some (.slice a0 A.length ac) := HX5.out.cell rfl; have x12 : w5.cell? ⟨w.heap.size, 12, none⟩ = some (.slice u0 U.length uc) := HX5.out.cell rfl; have x13 : w5.cell? ⟨w.heap.size, 13, none⟩ = some (.slice d0 D.length dc) := HX5.out.cell rfl; have HB5 := hide' (bstep HB.out hB HB.out.size); have HW5 := hide' (HW.out.below hB); clear hB))
  refine wp_loop_rounds 4 ?_
  rw [rounds_succ]
  go_wp2_with (go_at_call 18; refine (hasRoom_any _ _ _ (by decide)).mono ?_; rintro e wh ⟨rfl, hwh⟩; have hwh' := hwh.symm; subst hwh')
  rw [rounds_succ]
  go_wp2_with (go_at_call 18; refine (hasRoom_any _ _ _ (by decide)).mono ?_; rintro e wh ⟨rfl, hwh⟩; have hwh' := hwh.symm; subst hwh')
  rw [rounds_succ]
  go_wp2_with (go_at_call 18; refine (hasRoom_any _ _ _ (by decide)).mono ?_; rintro e wh ⟨rfl, hwh⟩; have hwh' := hwh.symm; subst hwh')
  rw [rounds_succ]
  go_wp2_with fail
  go_ret
  exact ⟨rfl, HB5.out⟩

set_option maxRecDepth 100000 in
set_option maxHeartbeats 1000000 in
theorem wcheck_no1 (i0 i2 i9 : Int) (b1 b3 b4 b5 b6 b7 b8 : Bool) (q0 a0 u0 d0 : Option Addr) (qc ac uc dc : Nat) (Q : List Qn) (A U D : List Rn) (w : World) (hl : LsAt w q0 a0 u0 d0 Q A U D) (g0 : fitsN i0 16 = true) (g2 : fitsN i2 4 = false) :
    Calls Try.prog 8 #[.agg #[.int .i64 i0, .bool b1, .int .i64 i2, .bool b3, .bool b4, .bool b5, .bool b6, .bool b7, .bool b8, .int .i64 i9, .slice q0 Q.length qc, .slice a0 A.length ac, .slice u0 U.length uc, .slice d0 D.length dc]] w fun e w' => e = .returned (.int .i64 8) ∧ Below w.heap.size w w' := by
  have HX : Hid (Bx (w.alloc (.cells #[.int .i64 i0, .bool b1, .int .i64 i2, .bool b3, .bool b4, .bool b5, .bool b6, .bool b7, .bool b8, .int .i64 i9, .slice q0 Q.length qc, .slice a0 A.length ac, .slice u0 U.length uc, .slice d0 D.length dc] 25)) w.heap.size #[.int .i64 i0, .bool b1, .int .i64 i2, .bool b3, .bool b4, .bool b5, .bool b6, .bool b7, .bool b8, .int .i64 i9, .slice q0 Q.length qc, .slice a0 A.length ac, .slice u0 U.length uc, .slice d0 D.length dc] 25) := World.alloc_heap_new w _
  have HB := hide' ((Below.refl w.heap.size w).alloc (Nat.le_refl _) (.cells #[.int .i64 i0, .bool b1, .int .i64 i2, .bool b3, .bool b4, .bool b5, .bool b6, .bool b7, .bool b8, .int .i64 i9, .slice q0 Q.length qc, .slice a0 A.length ac, .slice u0 U.length uc, .slice d0 D.length dc] 25))
  have HW := hide' (hl.below ((Below.refl w.heap.size w).alloc (Nat.le_refl _) (.cells #[.int .i64 i0, .bool b1, .int .i64 i2, .bool b3, .bool b4, .bool b5, .bool b6, .bool b7, .bool b8, .int .i64 i9, .slice q0 Q.length qc, .slice a0 A.length ac, .slice u0 U.length uc, .slice d0 D.length dc] 25)))
  have hx0 : ∀ W : World, Sem.run Try.prog (Instr.index 61 (.agg #[.pointer (some ⟨w.heap.size, 11, none⟩), .pointer (some ⟨w.heap.size, 12, none⟩), .pointer (some ⟨w.heap.size, 13, none⟩)]) (.int .i64 0)) W = .ok (.pointer (some ⟨w.heap.size, 11, none⟩)) W := fun W => by first | rfl | simp [go_sem, Instr.index]
  have hx1 : ∀ W : World, Sem.run Try.prog (Instr.index 61 (.agg #[.pointer (some ⟨w.heap.size, 11, none⟩), .pointer (some ⟨w.heap.size, 12, none⟩), .pointer (some ⟨w.heap.size, 13, none⟩)]) (.int .i64 1)) W = .ok (.pointer (some ⟨w.heap.size, 12, none⟩)) W := fun W => by first | rfl | simp [go_sem, Instr.index]
  have hx2 : ∀ W : World, Sem.run Try.prog (Instr.index 61 (.agg #[.pointer (some ⟨w.heap.size, 11, none⟩), .pointer (some ⟨w.heap.size, 12, none⟩), .pointer (some ⟨w.heap.size, 13, none⟩)]) (.int .i64 2)) W = .ok (.pointer (some ⟨w.heap.size, 13, none⟩)) W := fun W => by first | rfl | simp [go_sem, Instr.index]
  clear hl
  go_enter Try.func8, Try.ntmps8
  go_wp2_with (first
    | (go_at_call 18; refine (hasRoom_any _ _ _ (by decide)).mono ?_; rintro e wh ⟨rfl, hwh⟩; have hwh' := hwh.symm; subst hwh')
    | (go_at_call 19; refine (sectionsOf_any w.heap.size 0 _).mono ?_; rintro e w5 ⟨rfl, hB⟩; have HX5 : Hid (Bx w5 w.heap.size #[.int .i64 i0, .bool b1, .int .i64 i2, .bool b3, .bool b4, .bool b5, .bool b6, .bool b7, .bool b8, .int .i64 i9, .slice q0 Q.length qc, .slice a0 A.length ac, .slice u0 U.length uc, .slice d0 D.length dc] 25) := HX.out.below hB HX.out.lt; have x11 : w5.cell? ⟨w.heap.size, 11, none⟩ = some (.slice a0 A.length ac) := HX5.out.cell rfl; have x12 : w5.cell? ⟨w.heap.size, 12, none⟩ = some (.slice u0 U.length uc) := HX5.out.cell rfl; have x13 : w5.cell? ⟨w.heap.size, 13, none⟩ = some (.slice d0 D.length dc) := HX5.out.cell rfl; have HB5 := hide' (bstep HB.out hB HB.out.size); have HW5 := hide' (HW.out.below hB); clear hB))
  refine wp_loop_rounds 4 ?_
  rw [rounds_succ]
  go_wp2_with (go_at_call 18; refine (hasRoom_any _ _ _ (by decide)).mono ?_; rintro e wh ⟨rfl, hwh⟩; have hwh' := hwh.symm; subst hwh')
  rw [rounds_succ]
  go_wp2_with (go_at_call 18; refine (hasRoom_any _ _ _ (by decide)).mono ?_; rintro e wh ⟨rfl, hwh⟩; have hwh' := hwh.symm; subst hwh')
  rw [rounds_succ]
  go_wp2_with (go_at_call 18; refine (hasRoom_any _ _ _ (by decide)).mono ?_; rintro e wh ⟨rfl, hwh⟩; have hwh' := hwh.symm; subst hwh')
  rw [rounds_succ]
  go_wp2_with fail
  go_ret
  exact ⟨rfl, HB5.out⟩

set_option maxRecDepth 100000 in
set_option maxHeartbeats 1000000 in
theorem wcheck_no2 (i0 i2 i9 : Int) (b1 b3 b4 b5 b6 b7 b8 : Bool) (q0 a0 u0 d0 : Option Addr) (qc ac uc dc : Nat) (Q : List Qn) (A U D : List Rn) (w : World) (hl : LsAt w q0 a0 u0 d0 Q A U D) (g0 : fitsN i0 16 = true) (g2 : fitsN i2 4 = true) (g9 : fitsN i9 4 = false) :
    Calls Try.prog 8 #[.agg #[.int .i64 i0, .bool b1, .int .i64 i2, .bool b3, .bool b4, .bool b5, .bool b6, .bool b7, .bool b8, .int .i64 i9, .slice q0 Q.length qc, .slice a0 A.length ac, .slice u0 U.length uc, .slice d0 D.length dc]] w fun e w' => e = .returned (.int .i64 8) ∧ Below w.heap.size w w' := by
  have HX : Hid (Bx (w.alloc (.cells #[.int .i64 i0, .bool b1, .int .i64 i2, .bool b3, .bool b4, .bool b5, .bool b6, .bool b7, .bool b8, .int .i64 i9, .slice q0 Q.length qc, .slice a0 A.length ac, .slice u0 U.length uc, .slice d0 D.length dc] 25)) w.heap.size #[.int .i64 i0, .bool b1, .int .i64 i2, .bool b3, .bool b4, .bool b5, .bool b6, .bool b7, .bool b8, .int .i64 i9, .slice q0 Q.length qc, .slice a0 A.length ac, .slice u0 U.length uc, .slice d0 D.length dc] 25) := World.alloc_heap_new w _
  have HB := hide' ((Below.refl w.heap.size w).alloc (Nat.le_refl _) (.cells #[.int .i64 i0, .bool b1, .int .i64 i2, .bool b3, .bool b4, .bool b5, .bool b6, .bool b7, .bool b8, .int .i64 i9, .slice q0 Q.length qc, .slice a0 A.length ac, .slice u0 U.length uc, .slice d0 D.length dc] 25))
  have HW := hide' (hl.below ((Below.refl w.heap.size w).alloc (Nat.le_refl _) (.cells #[.int .i64 i0, .bool b1, .int .i64 i2, .bool b3, .bool b4, .bool b5, .bool b6, .bool b7, .bool b8, .int .i64 i9, .slice q0 Q.length qc, .slice a0 A.length ac, .slice u0 U.length uc, .slice d0 D.length dc] 25)))
  have hx0 : ∀ W : World, Sem.run Try.prog (Instr.index 61 (.agg #[.pointer (some ⟨w.heap.size, 11, none⟩), .pointer (some ⟨w.heap.size, 12, none⟩), .pointer (some ⟨w.heap.size, 13, none⟩)]) (.int .i64 0)) W = .ok (.pointer (some ⟨w.heap.size, 11, none⟩)) W := fun W => by first | rfl | simp [go_sem, Instr.index]
  have hx1 : ∀ W : World, Sem.run Try.prog (Instr.index 61 (.agg #[.pointer (some ⟨w.heap.size, 11, none⟩), .pointer (some ⟨w.heap.size, 12, none⟩), .pointer (some ⟨w.heap.size, 13, none⟩)]) (.int .i64 1)) W = .ok (.pointer (some ⟨w.heap.size, 12, none⟩)) W := fun W => by first | rfl | simp [go_sem, Instr.index]
  have hx2 : ∀ W : World, Sem.run Try.prog (Instr.index 61 (.agg #[.pointer (some ⟨w.heap.size, 11, none⟩), .pointer (some ⟨w.heap.size, 12, none⟩), .pointer (some ⟨w.heap.size, 13, none⟩)]) (.int .i64 2)) W = .ok (.pointer (some ⟨w.heap.size, 13, none⟩)) W := fun W => by first | rfl | simp [go_sem, Instr.index]
  clear hl
  go_enter Try.func8, Try.ntmps8
  go_wp2_with (first
    | (go_at_call 18; refine (hasRoom_any _ _ _ (by decide)).mono ?_; rintro e wh ⟨rfl, hwh⟩; have hwh' := hwh.symm; subst hwh')
    | (go_at_call 19; refine (sectionsOf_any w.heap.size 0 _).mono ?_; rintro e w5 ⟨rfl, hB⟩; have HX5 : Hid (Bx w5 w.heap.size #[.int .i64 i0, .bool b1, .int .i64 i2, .bool b3, .bool b4, .bool b5, .bool b6, .bool b7, .bool b8, .int .i64 i9, .slice q0 Q.length qc, .slice a0 A.length ac, .slice u0 U.length uc, .slice d0 D.length dc] 25) := HX.out.below hB HX.out.lt; have x11 : w5.cell? ⟨w.heap.size, 11, none⟩ = some (.slice a0 A.length ac) := HX5.out.cell rfl; have x12 : w5.cell? ⟨w.heap.size, 12, none⟩ = some (.slice u0 U.length uc) := HX5.out.cell rfl; have x13 : w5.cell? ⟨w.heap.size, 13, none⟩ = some (.slice d0 D.length dc) := HX5.out.cell rfl; have HB5 := hide' (bstep HB.out hB HB.out.size); have HW5 := hide' (HW.out.below hB); clear hB))
  refine wp_loop_rounds 4 ?_
  rw [rounds_succ]
  go_wp2_with (go_at_call 18; refine (hasRoom_any _ _ _ (by decide)).mono ?_; rintro e wh ⟨rfl, hwh⟩; have hwh' := hwh.symm; subst hwh')
  rw [rounds_succ]
  go_wp2_with (go_at_call 18; refine (hasRoom_any _ _ _ (by decide)).mono ?_; rintro e wh ⟨rfl, hwh⟩; have hwh' := hwh.symm; subst hwh')
  rw [rounds_succ]
  go_wp2_with (go_at_call 18; refine (hasRoom_any _ _ _ (by decide)).mono ?_; rintro e wh ⟨rfl, hwh⟩; have hwh' := hwh.symm; subst hwh')
  rw [rounds_succ]
  go_wp2_with fail
  go_ret
  exact ⟨rfl, HB5.out⟩

set_option maxRecDepth 100000 in
set_option maxHeartbeats 1000000 in
theorem wcheck_no3 (i0 i2 i9 : Int) (b1 b3 b4 b5 b6 b7 b8 : Bool) (q0 a0 u0 d0 : Option Addr) (qc ac uc dc : Nat) (Q : List Qn) (A U D : List Rn) (w : World) (hl : LsAt w q0 a0 u0 d0 Q A U D) (g0 : fitsN i0 16 = true) (g2 : fitsN i2 4 = true) (g9 : fitsN i9 4 = true) (gq : fitsN (Q.length : Int) 16 = false) :
    Calls Try.prog 8 #[.agg #[.int .i64 i0, .bool b1, .int .i64 i2, .bool b3, .bool b4, .bool b5, .bool b6, .bool b7, .bool b8, .int .i64 i9, .slice q0 Q.length qc, .slice a0 A.length ac, .slice u0 U.length uc, .slice d0 D.length dc]] w fun e w' => e = .returned (.int .i64 8) ∧ Below w.heap.size w w' := by
  have HX : Hid (Bx (w.alloc (.cells #[.int .i64 i0, .bool b1, .int .i64 i2, .bool b3, .bool b4, .bool b5, .bool b6, .bool b7, .bool b8, .int .i64 i9, .slice q0 Q.length qc, .slice a0 A.length ac, .slice u0 U.length uc, .slice d0 D.length dc] 25)) w.heap.size #[.int .i64 i0, .bool b1, .int .i64 i2, .bool b3, .bool b4, .bool b5, .bool b6, .bool b7, .bool b8, .int .i64 i9, .slice q0 Q.length qc, .slice a0 A.length ac, .slice u0 U.length uc, .slice d0 D.length dc] 25) := World.alloc_heap_new w _
  have HB := hide' ((Below.refl w.heap.size w).alloc (Nat.le_refl _) (.cells #[.int .i64 i0, .bool b1, .int .i64 i2, .bool b3, .bool b4, .bool b5, .bool b6, .bool b7, .bool b8, .int .i64 i9, .slice q0 Q.length qc, .slice a0 A.length ac, .slice u0 U.length uc, .slice d0 D.length dc] 25))
  have HW := hide' (hl.below ((Below.refl w.heap.size w).alloc (Nat.le_refl _) (.cells #[.int .i64 i0, .bool b1, .int .i64 i2, .bool b3, .bool b4, .bool b5, .bool b6, .bool b7, .bool b8, .int .i64 i9, .slice q0 Q.length qc, .slice a0 A.length ac, .slice u0 U.length uc, .slice d0 D.length dc] 25)))
  have hx0 : ∀ W : World, Sem.run Try.prog (Instr.index 61 (.agg #[.pointer (some ⟨w.heap.size, 11, none⟩), .pointer (some ⟨w.heap.size, 12, none⟩), .pointer (some ⟨w.heap.size, 13, none⟩)]) (.int .i64 0)) W = .ok (.pointer (some ⟨w.heap.size, 11, none⟩)) W := fun W => by first | rfl | simp [go_sem, Instr.index]
  have hx1 : ∀ W : World, Sem.run Try.prog (Instr.index 61 (.agg #[.pointer (some ⟨w.heap.size, 11, none⟩), .pointer (some ⟨w.heap.size, 12, none⟩), .pointer (some ⟨w.heap.size, 13, none⟩)]) (.int .i64 1)) W = .ok (.pointer (some ⟨w.heap.size, 12, none⟩)) W := fun W => by first | rfl | simp [go_sem, Instr.index]
  have hx2 : ∀ W : World, Sem.run Try.prog (Instr.index 61 (.agg #[.pointer (some ⟨w.heap.size, 11, none⟩), .pointer (some ⟨w.heap.size, 12, none⟩), .pointer (some ⟨w.heap.size, 13, none⟩)]) (.int .i64 2)) W = .ok (.pointer (some ⟨w.heap.size, 13, none⟩)) W := fun W => by first | rfl | simp [go_sem, Instr.index]
  clear hl
  go_enter Try.func8, Try.ntmps8
  go_wp2_with (first
    | (go_at_call 18; refine (hasRoom_any _ _ _ (by decide)).mono ?_; rintro e wh ⟨rfl, hwh⟩; have hwh' := hwh.symm; subst hwh')
    | (go_at_call 19; refine (sectionsOf_any w.heap.size 0 _).mono ?_; rintro e w5 ⟨rfl, hB⟩; have HX5 : Hid (Bx w5 w.heap.size #[.int .i64 i0, .bool b1, .int .i64 i2, .bool b3, .bool b4, .bool b5, .bool b6, .bool b7, .bool b8, .int .i64 i9, .slice q0 Q.length qc, .slice a0 A.length ac, .slice u0 U.length uc, .slice d0 D.length dc] 25) := HX.out.below hB HX.out.lt; have x11 : w5.cell? ⟨w.heap.size, 11, none⟩ = some (.slice a0 A.length ac) := HX5.out.cell rfl; have x12 : w5.cell? ⟨w.heap.size, 12, none⟩ = some (.slice u0 U.length uc) := HX5.out.cell rfl; have x13 : w5.cell? ⟨w.heap.size, 13, none⟩ = some (.slice d0 D.length dc) := HX5.out.cell rfl; have HB5 := hide' (bstep HB.out hB HB.out.size); have HW5 := hide' (HW.out.below hB); clear hB))
  refine wp_loop_rounds 4 ?_
  rw [rounds_succ]
  go_wp2_with (go_at_call 18; refine (hasRoom_any _ _ _ (by decide)).mono ?_; rintro e wh ⟨rfl, hwh⟩; have hwh' := hwh.symm; subst hwh')
  rw [rounds_succ]
  go_wp2_with (go_at_call 18; refine (hasRoom_any _ _ _ (by decide)).mono ?_; rintro e wh ⟨rfl, hwh⟩; have hwh' := hwh.symm; subst hwh')
  rw [rounds_succ]
  go_wp2_with (go_at_call 18; refine (hasRoom_any _ _ _ (by decide)).mono ?_; rintro e wh ⟨rfl, hwh⟩; have hwh' := hwh.symm; subst hwh')
  rw [rounds_succ]
  go_wp2_with fail
  go_ret
  exact ⟨rfl, HB5.out⟩

set_option maxRecDepth 100000 in
set_option maxHeartbeats 1000000 in
theorem wcheck_no4 (i0 i2 i9 : Int) (b1 b3 b4 b5 b6 b7 b8 : Bool) (q0 a0 u0 d0 : Option Addr) (qc ac uc dc : Nat) (Q : List Qn) (A U D : List Rn) (w : World) (hl : LsAt w q0 a0 u0 d0 Q A U D) (g0 : fitsN i0 16 = true) (g2 : fitsN i2 4 = true) (g9 : fitsN i9 4 = true) (gq : fitsN (Q.length : Int) 16 = true) (ga : fitsN (A.length : Int) 16 = false) :
    Calls Try.prog 8 #[.agg #[.int .i64 i0, .bool b1, .int .i64 i2, .bool b3, .bool b4, .bool b5, .bool b6, .bool b7, .bool b8, .int .i64 i9, .slice q0 Q.length qc, .slice a0 A.length ac, .slice u0 U.length uc, .slice d0 D.length dc]] w fun e w' => e = .returned (.int .i64 8) ∧ Below w.heap.size w w' := by
  have HX : Hid (Bx (w.alloc (.cells #[.int .i64 i0, .bool b1, .int .i64 i2, .bool b3, .bool b4, .bool b5, .bool b6, .bool b7, .bool b8, .int .i64 i9, .slice q0 Q.length qc, .slice a0 A.length ac, .slice u0 U.length uc, .slice d0 D.length dc] 25)) w.heap.size #[.int .i64 i0, .bool b1, .int .i64 i2, .bool b3, .bool b4, .bool b5, .bool b6, .bool b7, .bool b8, .int .i64 i9, .slice q0 Q.length qc, .slice a0 A.length ac, .slice u0 U.length uc, .slice d0 D.length dc] 25) := World.alloc_heap_new w _
  have HB := hide' ((Below.refl w.heap.size w).alloc (Nat.le_refl _) (.cells #[.int .i64 i0, .bool b1, .int .i64 i2, .bool b3, .bool b4, .bool b5, .bool b6, .bool b7, .bool b8, .int .i64 i9, .slice q0 Q.length qc, .slice a0 A.length ac, .slice u0 U.length uc, .slice d0 D.length dc] 25))
  have HW := hide' (hl.below ((Below.refl w.heap.size w).alloc (Nat.le_refl _) (.cells #[.int .i64 i0, .bool b1, .int .i64 i2, .bool b3, .bool b4, .bool b5, .bool b6, .bool b7, .bool b8, .int .i64 i9, .slice q0 Q.length qc, .slice a0 A.length ac, .slice u0 U.length uc, .slice d0 D.length dc] 25)))
  have hx0 : ∀ W : World, Sem.run Try.prog (Instr.index 61 (.agg #[.pointer (some ⟨w.heap.size, 11, none⟩), .pointer (some ⟨w.heap.size, 12, none⟩), .pointer (some ⟨w.heap.size, 13, none⟩)]) (.int .i64 0)) W = .ok (.pointer (some ⟨w.heap.size, 11, none⟩)) W := fun W => by first | rfl | simp [go_sem, Instr.index]
  have hx1 : ∀ W : World, Sem.run Try.prog (Instr.index 61 (.agg #[.pointer (some ⟨w.heap.size, 11, none⟩), .pointer (some ⟨w.heap.size, 12, none⟩), .pointer (some ⟨w.heap.size, 13, none⟩)]) (.int .i64 1)) W = .ok (.pointer (some ⟨w.heap.size, 12, none⟩)) W := fun W => by first | rfl | simp [go_sem, Instr.index]
  have hx2 : ∀ W : World, Sem.run Try.prog (Instr.index 61 (.agg #[.pointer (some ⟨w.heap.size, 11, none⟩), .pointer (some ⟨w.heap.size, 12, none⟩), .pointer (some ⟨w.heap.size, 13, none⟩)]) (.int .i64 2)) W = .ok (.pointer (some ⟨w.heap.size, 13, none⟩)) W := fun W => by first | rfl | simp [go_sem, Instr.index]
  clear hl
  go_enter Try.func8, Try.ntmps8
  go_wp2_with (first
    | (go_at_call 18; refine (hasRoom_any _ _ _ (by decide)).mono ?_; rintro e wh ⟨rfl, hwh⟩; have hwh' := hwh.symm; subst hwh')
    | (go_at_call 19; refine (sectionsOf_any w.heap.size 0 _).mono ?_; rintro e w5 ⟨rfl, hB⟩; have HX5 : Hid (Bx w5 w.heap.size #[.int .i64 i0, .bool b1, .int .i64 i2, .bool b3, .bool b4, .bool b5, .bool b6, .bool b7, .bool b8, .int .i64 i9, .slice q0 Q.length qc, .slice a0 A.length ac, .slice u0 U.length uc, .slice d0 D.length dc] 25) := HX.out.below hB HX.out.lt; have x11 : w5.cell? ⟨w.heap.size, 11, none⟩ = some (.slice a0 A.length ac) := HX5.out.cell rfl; have x12 : w5.cell? ⟨w.heap.size, 12, none⟩ = some (.slice u0 U.length uc) := HX5.out.cell rfl; have x13 : w5.cell? ⟨w.heap.size, 13, none⟩ = some (.slice d0 D.length dc) := HX5.out.cell rfl; have HB5 := hide' (bstep HB.out hB HB.out.size); have HW5 := hide' (HW.out.below hB); clear hB))
  refine wp_loop_rounds 4 ?_
  rw [rounds_succ]
  go_wp2_with (go_at_call 18; refine (hasRoom_any _ _ _ (by decide)).mono ?_; rintro e wh ⟨rfl, hwh⟩; have hwh' := hwh.symm; subst hwh')
  rw [rounds_succ]
  go_wp2_with (go_at_call 18; refine (hasRoom_any _ _ _ (by decide)).mono ?_; rintro e wh ⟨rfl, hwh⟩; have hwh' := hwh.symm; subst hwh')
  rw [rounds_succ]
  go_wp2_with (go_at_call 18; refine (hasRoom_any _ _ _ (by decide)).mono ?_; rintro e wh ⟨rfl, hwh⟩; have hwh' := hwh.symm; subst hwh')
  rw [rounds_succ]
  go_wp2_with fail
  go_ret
  exact ⟨rfl, HB5.out⟩

set_option maxRecDepth 100000 in
set_option maxHeartbeats 1000000 in
theorem wcheck_no5 (i0 i2 i9 : Int) (b1 b3 b4 b5 b6 b7 b8 : Bool) (q0 a0 u0 d0 : Option Addr) (qc ac uc dc : Nat) (Q : List Qn) (A U D : List Rn) (w : World) (hl : LsAt w q0 a0 u0 d0 Q A U D) (g0 : fitsN i0 16 = true) (g2 : fitsN i2 4 = true) (g9 : fitsN i9 4 = true) (gq : fitsN (Q.length : Int) 16 = true) (ga : fitsN (A.length : Int) 16 = true) (gu : fitsN (U.length : Int) 16 = false) :
    Calls Try.prog 8 #[.agg #[.int .i64 i0, .bool b1, .int .i64 i2, .bool b3, .bool b4, .bool b5, .bool b6, .bool b7, .bool b8, .int .i64 i9, .slice q0 Q.length qc, .slice a0 A.length ac, .slice u0 U.length uc, .slice d0 D.length dc]] w fun e w' => e = .returned (.int .i64 8) ∧ Below w.heap.size w w' := by
  have HX : Hid (Bx (w.alloc (.cells #[.int .i64 i0, .bool b1, .int .i64 i2, .bool b3, .bool b4, .bool b5, .bool b6, .bool b7, .bool b8, .int .i64 i9, .slice q0 Q.length qc, .slice a0 A.length ac, .slice u0 U.length uc, .slice d0 D.length dc] 25)) w.heap.size #[.int .i64 i0, .bool b1, .int .i64 i2, .bool b3, .bool b4, .bool b5, .bool b6, .bool b7, .bool b8, .int .i64 i9, .slice q0 Q.length qc, .slice a0 A.length ac, .slice u0 U.length uc, .slice d0 D.length dc] 25) := World.alloc_heap_new w _
  have HB := hide' ((Below.refl w.heap.size w).alloc (Nat.le_refl _) (.cells #[.int .i64 i0, .bool b1, .int .i64 i2, .bool b3, .bool b4, .bool b5, .bool b6, .bool b7, .bool b8, .int .i64 i9, .slice q0 Q.length qc, .slice a0 A.length ac, .slice u0 U.length uc, .slice d0 D.length dc] 25))
  have HW := hide' (hl.below ((Below.refl w.heap.size w).alloc (Nat.le_refl _) (.cells #[.int .i64 i0, .bool b1, .int .i64 i2, .bool b3, .bool b4, .bool b5, .bool b6, .bool b7, .bool b8, .int .i64 i9, .slice q0 Q.length qc, .slice a0 A.length ac, .slice u0 U.length uc, .slice d0 D.length dc] 25)))
  have hx0 : ∀ W : World, Sem.run Try.prog (Instr.index 61 (.agg #[.pointer (some ⟨w.heap.size, 11, none⟩), .pointer (some ⟨w.heap.size, 12, none⟩), .pointer (some ⟨w.heap.size, 13, none⟩)]) (.int .i64 0)) W = .ok (.pointer (some ⟨w.heap.size, 11, none⟩)) W := fun W => by first | rfl | simp [go_sem, Instr.index]
  have hx1 : ∀ W : World, Sem.run Try.prog (Instr.index 61 (.agg #[.pointer (some ⟨w.heap.size, 11, none⟩), .pointer (some ⟨w.heap.size, 12, none⟩), .pointer (some ⟨w.heap.size, 13, none⟩)]) (.int .i64 1)) W = .ok (.pointer (some ⟨w.heap.size, 12, none⟩)) W := fun W => by first | rfl | simp [go_sem, Instr.index]
  have hx2 : ∀ W : World, Sem.run Try.prog (Instr.index 61 (.agg #[.pointer (some ⟨w.heap.size, 11, none⟩), .pointer (some ⟨w.heap.size, 12, none⟩), .pointer (some ⟨w.heap.size, 13, none⟩)]) (.int .i64 2)) W = .ok (.pointer (some ⟨w.heap.size, 13, none⟩)) W := fun W => by first | rfl | simp [go_sem, Instr.index]
  clear hl
  go_enter Try.func8, Try.ntmps8
  go_wp2_with (first
    | (go_at_call 18; refine (hasRoom_any _ _ _ (by decide)).mono ?_; rintro e wh ⟨rfl, hwh⟩; have hwh' := hwh.symm; subst hwh')
    | (go_at_call 19; refine (sectionsOf_any w.heap.size 0 _).mono ?_; rintro e w5 ⟨rfl, hB⟩; have HX5 : Hid (Bx w5 w.heap.size #[.int .i64 i0, .bool b1, .int .i64 i2, .bool b3, .bool b4, .bool b5, .bool b6, .bool b7, .bool b8, .int .i64 i9, .slice q0 Q.length qc, .slice a0 A.length ac, .slice u0 U.length uc, .slice d0 D.length dc] 25) := HX.out.below hB HX.out.lt; have x11 : w5.cell? ⟨w.heap.size, 11, none⟩ = some (.slice a0 A.length ac) := HX5.out.cell rfl; have x12 : w5.cell? ⟨w.heap.size, 12, none⟩ = some (.slice u0 U.length uc) := HX5.out.cell rfl; have x13 : w5.cell? ⟨w.heap.size, 13, none⟩ = some (.slice d0 D.length dc) := HX5.out.cell rfl; have HB5 := hide' (bstep HB.out hB HB.out.size); have HW5 := hide' (HW.out.below hB); clear hB))
  refine wp_loop_rounds 4 ?_
  rw [rounds_succ]
  go_wp2_with (go_at_call 18; refine (hasRoom_any _ _ _ (by decide)).mono ?_; rintro e wh ⟨rfl, hwh⟩; have hwh' := hwh.symm; subst hwh')
  rw [rounds_succ]
  go_wp2_with (go_at_call 18; refine (hasRoom_any _ _ _ (by decide)).mono ?_; rintro e wh ⟨rfl, hwh⟩; have hwh' := hwh.symm; subst hwh')
  rw [rounds_succ]
  go_wp2_with (go_at_call 18; refine (hasRoom_any _ _ _ (by decide)).mono ?_; rintro e wh ⟨rfl, hwh⟩; have hwh' := hwh.symm; subst hwh')
  rw [rounds_succ]
  go_wp2_with fail
  go_ret
  exact ⟨rfl, HB5.out⟩

set_option maxRecDepth 100000 in
set_option maxHeartbeats 1000000 in
theorem wcheck_no6 (i0 i2 i9 : Int) (b1 b3 b4 b5 b6 b7 b8 : Bool) (q0 a0 u0 d0 : Option Addr) (qc ac uc dc : Nat) (Q : List Qn) (A U D : List Rn) (w : World) (hl : LsAt w q0 a0 u0 d0 Q A U D) (g0 : fitsN i0 16 = true) (g2 : fitsN i2 4 = true) (g9 : fitsN i9 4 = true) (gq : fitsN (Q.length : Int) 16 = true) (ga : fitsN (A.length : Int) 16 = true) (gu : fitsN (U.length : Int) 16 = true) (gd : fitsN (D.length : Int) 16 = false) :
    Calls Try.prog 8 #[.agg #[.int .i64 i0, .bool b1, .int .i64 i2, .bool b3, .bool b4, .bool b5, .bool b6, .bool b7, .bool b8, .int .i64 i9, .slice q0 Q.length qc, .slice a0 A.length ac, .slice u0 U.length uc, .slice d0 D.length dc]] w fun e w' => e = .returned (.int .i64 8) ∧ Below w.heap.size w w' := by
  have HX : Hid (Bx (w.alloc (.cells #[.int .i64 i0, .bool b1, .int .i64 i2, .bool b3, .bool b4, .bool b5, .bool b6, .bool b7, .bool b8, .int .i64 i9, .slice q0 Q.length qc, .slice a0 A.length ac, .slice u0 U.length uc, .slice d0 D.length dc] 25)) w.heap.size #[.int .i64 i0, .bool b1, .int .i64 i2, .bool b3, .bool b4, .bool b5, .bool b6, .bool b7, .bool b8, .int .i64 i9, .slice q0 Q.length qc, .slice a0 A.length ac, .slice u0 U.length uc, .slice d0 D.length dc] 25) := World.alloc_heap_new w _
  have HB := hide' ((Below.refl w.heap.size w).alloc (Nat.le_refl _) (.cells #[.int .i64 i0, .bool b1, .int .i64 i2, .bool b3, .bool b4, .bool b5, .bool b6, .bool b7, .bool b8, .int .i64 i9, .slice q0 Q.length qc, .slice a0 A.length ac, .slice u0 U.length uc, .slice d0 D.length dc] 25))
  have HW := hide' (hl.below ((Below.refl w.heap.size w).alloc (Nat.le_refl _) (.cells #[.int .i64 i0, .bool b1, .int .i64 i2, .bool b3, .bool b4, .bool b5, .bool b6, .bool b7, .bool b8, .int .i64 i9, .slice q0 Q.length qc, .slice a0 A.length ac, .slice u0 U.length uc, .slice d0 D.length dc] 25)))
  have hx0 : ∀ W : World, Sem.run Try.prog (Instr.index 61 (.agg #[.pointer (some ⟨w.heap.size, 11, none⟩), .pointer (some ⟨w.heap.size, 12, none⟩), .pointer (some ⟨w.heap.size, 13, none⟩)]) (.int .i64 0)) W = .ok (.pointer (some ⟨w.heap.size, 11, none⟩)) W := fun W => by first | rfl | simp [go_sem, Instr.index]
  have hx1 : ∀ W : World, Sem.run Try.prog (Instr.index 61 (.agg #[.pointer (some ⟨w.heap.size, 11, none⟩), .pointer (some ⟨w.heap.size, 12, none⟩), .pointer (some ⟨w.heap.size, 13, none⟩)]) (.int .i64 1)) W = .ok (.pointer (some ⟨w.heap.size, 12, none⟩)) W := fun W => by first | rfl | simp [go_sem, Instr.index]
  have hx2 : ∀ W : World, Sem.run Try.prog (Instr.index 61 (.agg #[.pointer (some ⟨w.heap.size, 11, none⟩), .pointer (some ⟨w.heap.size, 12, none⟩), .pointer (some ⟨w.heap.size, 13, none⟩)]) (.int .i64 2)) W = .ok (.pointer (some ⟨w.heap.size, 13, none⟩)) W := fun W => by first | rfl | simp [go_sem, Instr.index]
  clear hl
  go_enter Try.func8, Try.ntmps8
  go_wp2_with (first
    | (go_at_call 18; refine (hasRoom_any _ _ _ (by decide)).mono ?_; rintro e wh ⟨rfl, hwh⟩; have hwh' := hwh.symm; subst hwh')
    | (go_at_call 19; refine (sectionsOf_any w.heap.size 0 _).mono ?_; rintro e w5 ⟨rfl, hB⟩; have HX5 : Hid (Bx w5 w.heap.size #[.int .i64 i0, .bool b1, .int .i64 i2, .bool b3, .bool b4, .bool b5, .bool b6, .bool b7, .bool b8, .int .i64 i9, .slice q0 Q.length qc, .slice a0 A.length ac, .slice u0 U.length uc, .slice d0 D.length dc] 25) := HX.out.below hB HX.out.lt; have x11 : w5.cell? ⟨w.heap.size, 11, none⟩ = some (.slice a0 A.length ac) := HX5.out.cell rfl; have x12 : w5.cell? ⟨w.heap.size, 12, none⟩ = some (.slice u0 U.length uc) := HX5.out.cell rfl; have x13 : w5.cell? ⟨w.heap.size, 13, none⟩ = some (.slice d0 D.length dc) := HX5.out.cell rfl; have HB5 := hide' (bstep HB.out hB HB.out.size); have HW5 := hide' (HW.out.below hB); clear hB))
  refine wp_loop_rounds 4 ?_
  rw [rounds_succ]
  go_wp2_with (go_at_call 18; refine (hasRoom_any _ _ _ (by decide)).mono ?_; rintro e wh ⟨rfl, hwh⟩; have hwh' := hwh.symm; subst hwh')
  rw [rounds_succ]
  go_wp2_with (go_at_call 18; refine (hasRoom_any _ _ _ (by decide)).mono ?_; rintro e wh ⟨rfl, hwh⟩; have hwh' := hwh.symm; subst hwh')
  rw [rounds_succ]
  go_wp2_with (go_at_call 18; refine (hasRoom_any _ _ _ (by decide)).mono ?_; rintro e wh ⟨rfl, hwh⟩; have hwh' := hwh.symm; subst hwh')
  rw [rounds_succ]
  go_wp2_with fail
  go_ret
  exact ⟨rfl, HB5.out⟩

set_option maxRecDepth 100000 in
set_option maxHeartbeats 1000000 in
theorem wcheck_parts_false (i0 i2 i9 : Int) (b1 b3 b4 b5 b6 b7 b8 : Bool) (q0 a0 u0 d0 : Option Addr) (qc ac uc dc : Nat) (Q : List Qn) (A U D : List Rn) (w : World) (hl : LsAt w q0 a0 u0 d0 Q A U D) (g0 : fitsN i0 16 = true) (g2 : fitsN i2 4 = true) (g9 : fitsN i9 4 = true) (gq : fitsN (Q.length : Int) 16 = true) (ga : fitsN (A.length : Int) 16 = true) (gu : fitsN (U.length : Int) 16 = true) (gd : fitsN (D.length : Int) 16 = true) (gl : lstOK Q A U D = false) :
    Calls Try.prog 8 #[.agg #[.int .i64 i0, .bool b1, .int .i64 i2, .bool b3, .bool b4, .bool b5, .bool b6, .bool b7, .bool b8, .int .i64 i9, .slice q0 Q.length qc, .slice a0 A.length ac, .slice u0 U.length uc, .slice d0 D.length dc]] w fun e w' => e = .returned (.int .i64 8) ∧ Below w.heap.size w w' := by
  have hlq : Q.length ≤ 65535 := of_decide_eq_true ((fitsN_len _).symm.trans gq)
  have hla : A.length ≤ 65535 := of_decide_eq_true ((fitsN_len _).symm.trans ga)
  have hlu : U.length ≤ 65535 := of_decide_eq_true ((fitsN_len _).symm.trans gu)
  have hld : D.length ≤ 65535 := of_decide_eq_true ((fitsN_len _).symm.trans gd)
  have HX : Hid (Bx (w.alloc (.cells #[.int .i64 i0, .bool b1, .int .i64 i2, .bool b3, .bool b4, .bool b5, .bool b6, .bool b7, .bool b8, .int .i64 i9, .slice q0 Q.length qc, .slice a0 A.length ac, .slice u0 U.length uc, .slice d0 D.length dc] 25)) w.heap.size #[.int .i64 i0, .bool b1, .int .i64 i2, .bool b3, .bool b4, .bool b5, .bool b6, .bool b7, .bool b8, .int .i64 i9, .slice q0 Q.length qc, .slice a0 A.length ac, .slice u0 U.length uc, .slice d0 D.length dc] 25) := World.alloc_heap_new w _
  have HB := hide' ((Below.refl w.heap.size w).alloc (Nat.le_refl _) (.cells #[.int .i64 i0, .bool b1, .int .i64 i2, .bool b3, .bool b4, .bool b5, .bool b6, .bool b7, .bool b8, .int .i64 i9, .slice q0 Q.length qc, .slice a0 A.length ac, .slice u0 U.length uc, .slice d0 D.length dc] 25))
  have HW := hide' (hl.below ((Below.refl w.heap.size w).alloc (Nat.le_refl _) (.cells #[.int .i64 i0, .bool b1, .int .i64 i2, .bool b3, .bool b4, .bool b5, .bool b6, .bool b7, .bool b8, .int .i64 i9, .slice q0 Q.length qc, .slice a0 A.length ac, .slice u0 U.length uc, .slice d0 D.length dc] 25)))
  have hx0 : ∀ W : World, Sem.run Try.prog (Instr.index 61 (.agg #[.pointer (some ⟨w.heap.size, 11, none⟩), .pointer (some ⟨w.heap.size, 12, none⟩), .pointer (some ⟨w.heap.size, 13, none⟩)]) (.int .i64 0)) W = .ok (.pointer (some ⟨w.heap.size, 11, none⟩)) W := fun W => by first | rfl | simp [go_sem, Instr.index]
  have hx1 : ∀ W : World, Sem.run Try.prog (Instr.index 61 (.agg #[.pointer (some ⟨w.heap.size, 11, none⟩), .pointer (some ⟨w.heap.size, 12, none⟩), .pointer (some ⟨w.heap.size, 13, none⟩)]) (.int .i64 1)) W = .ok (.pointer (some ⟨w.heap.size, 12, none⟩)) W := fun W => by first | rfl | simp [go_sem, Instr.index]
  have hx2 : ∀ W : World, Sem.run Try.prog (Instr.index 61 (.agg #[.pointer (some ⟨w.heap.size, 11, none⟩), .pointer (some ⟨w.heap.size, 12, none⟩), .pointer (some ⟨w.heap.size, 13, none⟩)]) (.int .i64 2)) W = .ok (.pointer (some ⟨w.heap.size, 13, none⟩)) W := fun W => by first | rfl | simp [go_sem, Instr.index]
  clear hl
  go_enter Try.func8, Try.ntmps8
  go_wp2_with (first
    | (go_at_call 18; refine (hasRoom_any _ _ _ (by decide)).mono ?_; rintro e wh ⟨rfl, hwh⟩; have hwh' := hwh.symm; subst hwh')
    | (go_at_call 19; refine (sectionsOf_any w.heap.size 0 _).mono ?_; rintro e w5 ⟨rfl, hB⟩; have HX5 : Hid (Bx w5 w.heap.size #[.int .i64 i0, .bool b1, .int .i64 i2, .bool b3, .bool b4, .bool b5, .bool b6, .bool b7, .bool b8, .int .i64 i9, .slice q0 Q.length qc, .slice a0 A.length ac, .slice u0 U.length uc, .slice d0 D.length dc] 25) := HX.out.below hB HX.out.lt; have x11 : w5.cell? ⟨w.heap.size, 11, none⟩ = some (.slice a0 A.length ac) := HX5.out.cell rfl; have x12 : w5.cell? ⟨w.heap.size, 12, none⟩ = some (.slice u0 U.length uc) := HX5.out.cell rfl; have x13 : w5.cell? ⟨w.heap.size, 13, none⟩ = some (.slice d0 D.length dc) := HX5.out.cell rfl; have HB5 := hide' (bstep HB.out hB HB.out.size); have HW5 := hide' (HW.out.below hB); clear hB))
  refine wp_loop_rounds 4 ?_
  rw [rounds_succ]
  go_wp2_with (go_at_call 18; refine (hasRoom_any _ _ _ (by decide)).mono ?_; rintro e wh ⟨rfl, hwh⟩; have hwh' := hwh.symm; subst hwh')
  rw [rounds_succ]
  go_wp2_with (go_at_call 18; refine (hasRoom_any _ _ _ (by decide)).mono ?_; rintro e wh ⟨rfl, hwh⟩; have hwh' := hwh.symm; subst hwh')
  rw [rounds_succ]
  go_wp2_with (go_at_call 18; refine (hasRoom_any _ _ _ (by decide)).mono ?_; rintro e wh ⟨rfl, hwh⟩; have hwh' := hwh.symm; subst hwh')
  rw [rounds_succ]
  go_wp2_with (go_at_call 20; refine (rightParts_any w.heap.size q0 a0 u0 d0 qc ac uc dc Q A U D _ HX5.out.lt (HX5.out.cell rfl) (HX5.out.cell rfl) (HX5.out.cell rfl) (HX5.out.cell rfl) HW5.out hlq hla hlu hld).mono ?_; rintro e w7 ⟨rfl, hB⟩; have HB7 := hide' (bstep HB5.out hB HB5.out.size); clear hB)
  go_ret
  exact ⟨rfl, HB7.out⟩

set_option maxRecDepth 100000 in
set_option maxHeartbeats 1000000 in
theorem wcheck_parts_true (i0 i2 i9 : Int) (b1 b3 b4 b5 b6 b7 b8 : Bool) (q0 a0 u0 d0 : Option Addr) (qc ac uc dc : Nat) (Q : List Qn) (A U D : List Rn) (w : World) (hl : LsAt w q0 a0 u0 d0 Q A U D) (g0 : fitsN i0 16 = true) (g2 : fitsN i2 4 = true) (g9 : fitsN i9 4 = true) (gq : fitsN (Q.length : Int) 16 = true) (ga : fitsN (A.length : Int) 16 = true) (gu : fitsN (U.length : Int) 16 = true) (gd : fitsN (D.length : Int) 16 = true) (gl : lstOK Q A U D = true) :
    Calls Try.prog 8 #[.agg #[.int .i64 i0, .bool b1, .int .i64 i2, .bool b3, .bool b4, .bool b5, .bool b6, .bool b7, .bool b8, .int .i64 i9, .slice q0 Q.length qc, .slice a0 A.length ac, .slice u0 U.length uc, .slice d0 D.length dc]] w fun e w' => e = .returned (.int .i64 0) ∧ Below w.heap.size w w' := by
  have hlq : Q.length ≤ 65535 := of_decide_eq_true ((fitsN_len _).symm.trans gq)
  have hla : A.length ≤ 65535 := of_decide_eq_true ((fitsN_len _).symm.trans ga)
  have hlu : U.length ≤ 65535 := of_decide_eq_true ((fitsN_len _).symm.trans gu)
  have hld : D.length ≤ 65535 := of_decide_eq_true ((fitsN_len _).symm.trans gd)
  have HX : Hid (Bx (w.alloc (.cells #[.int .i64 i0, .bool b1, .int .i64 i2, .bool b3, .bool b4, .bool b5, .bool b6, .bool b7, .bool b8, .int .i64 i9, .slice q0 Q.length qc, .slice a0 A.length ac, .slice u0 U.length uc, .slice d0 D.length dc] 25)) w.heap.size #[.int .i64 i0, .bool b1, .int .i64 i2, .bool b3, .bool b4, .bool b5, .bool b6, .bool b7, .bool b8, .int .i64 i9, .slice q0 Q.length qc, .slice a0 A.length ac, .slice u0 U.length uc, .slice d0 D.length dc] 25) := World.alloc_heap_new w _
  have HB := hide' ((Below.refl w.heap.size w).alloc (Nat.le_refl _) (.cells #[.int .i64 i0, .bool b1, .int .i64 i2, .bool b3, .bool b4, .bool b5, .bool b6, .bool b7, .bool b8, .int .i64 i9, .slice q0 Q.length qc, .slice a0 A.length ac, .slice u0 U.length uc, .slice d0 D.length dc] 25))
  have HW := hide' (hl.below ((Below.refl w.heap.size w).alloc (Nat.le_refl _) (.cells #[.int .i64 i0, .bool b1, .int .i64 i2, .bool b3, .bool b4, .bool b5, .bool b6, .bool b7, .bool b8, .int .i64 i9, .slice q0 Q.length qc, .slice a0 A.length ac, .slice u0 U.length uc, .slice d0 D.length dc] 25)))
  have hx0 : ∀ W : World, Sem.run Try.prog (Instr.index 61 (.agg #[.pointer (some ⟨w.heap.size, 11, none⟩), .pointer (some ⟨w.heap.size, 12, none⟩), .pointer (some ⟨w.heap.size, 13, none⟩)]) (.int .i64 0)) W = .ok (.pointer (some ⟨w.heap.size, 11, none⟩)) W := fun W => by first | rfl | simp [go_sem, Instr.index]
  have hx1 : ∀ W : World, Sem.run Try.prog (Instr.index 61 (.agg #[.pointer (some ⟨w.heap.size, 11, none⟩), .pointer (some ⟨w.heap.size, 12, none⟩), .pointer (some ⟨w.heap.size, 13, none⟩)]) (.int .i64 1)) W = .ok (.pointer (some ⟨w.heap.size, 12, none⟩)) W := fun W => by first | rfl | simp [go_sem, Instr.index]
  have hx2 : ∀ W : World, Sem.run Try.prog (Instr.index 61 (.agg #[.pointer (some ⟨w.heap.size, 11, none⟩), .pointer (some ⟨w.heap.size, 12, none⟩), .pointer (some ⟨w.heap.size, 13, none⟩)]) (.int .i64 2)) W = .ok (.pointer (some ⟨w.heap.size, 13, none⟩)) W := fun W => by first | rfl | simp [go_sem, Instr.index]
  clear hl
  go_enter Try.func8, Try.ntmps8
  go_wp2_with (first
    | (go_at_call 18; refine (hasRoom_any _ _ _ (by decide)).mono ?_; rintro e wh ⟨rfl, hwh⟩; have hwh' := hwh.symm; subst hwh')
    | (go_at_call 19; refine (sectionsOf_any w.heap.size 0 _).mono ?_; rintro e w5 ⟨rfl, hB⟩; have HX5 : Hid (Bx w5 w.heap.size #[.int .i64 i0, .bool b1, .int .i64 i2, .bool b3, .bool b4, .bool b5, .bool b6, .bool b7, .bool b8, .int .i64 i9, .slice q0 Q.length qc, .slice a0 A.length ac, .slice u0 U.length uc, .slice d0 D.length dc] 25) := HX.out.below hB HX.out.lt; have x11 : w5.cell? ⟨w.heap.size, 11, none⟩ = some (.slice a0 A.length ac) := HX5.out.cell rfl; have x12 : w5.cell? ⟨w.heap.size, 12, none⟩ = some (.slice u0 U.length uc) := HX5.out.cell rfl; have x13 : w5.cell? ⟨w.heap.size, 13, none⟩ = some (.slice d0 D.length dc) := HX5.out.cell rfl; have HB5 := hide' (bstep HB.out hB HB.out.size); have HW5 := hide' (HW.out.below hB); clear hB))
  refine wp_loop_rounds 4 ?_
  rw [rounds_succ]
  go_wp2_with (go_at_call 18; refine (hasRoom_any _ _ _ (by decide)).mono ?_; rintro e wh ⟨rfl, hwh⟩; have hwh' := hwh.symm; subst hwh')
  rw [rounds_succ]
  go_wp2_with (go_at_call 18; refine (hasRoom_any _ _ _ (by decide)).mono ?_; rintro e wh ⟨rfl, hwh⟩; have hwh' := hwh.symm; subst hwh')
  rw [rounds_succ]
  go_wp2_with (go_at_call 18; refine (hasRoom_any _ _ _ (by decide)).mono ?_; rintro e wh ⟨rfl, hwh⟩; have hwh' := hwh.symm; subst hwh')
  rw [rounds_succ]
  go_wp2_with (go_at_call 20; refine (rightParts_any w.heap.size q0 a0 u0 d0 qc ac uc dc Q A U D _ HX5.out.lt (HX5.out.cell rfl) (HX5.out.cell rfl) (HX5.out.cell rfl) (HX5.out.cell rfl) HW5.out hlq hla hlu hld).mono ?_; rintro e w7 ⟨rfl, hB⟩; have HB7 := hide' (bstep HB5.out hB HB5.out.size); clear hB)
  go_ret
  exact ⟨rfl, HB7.out⟩

/-- wire.Check -/
theorem wcheck_any (i0 i2 i9 : Int) (b1 b3 b4 b5 b6 b7 b8 : Bool) (q0 a0 u0 d0 : Option Addr) (qc ac uc dc : Nat) (Q : List Qn) (A U D : List Rn) (w : World) (hl : LsAt w q0 a0 u0 d0 Q A U D) :
    Calls Try.prog 8 #[.agg #[.int .i64 i0, .bool b1, .int .i64 i2, .bool b3, .bool b4, .bool b5, .bool b6, .bool b7, .bool b8, .int .i64 i9, .slice q0 Q.length qc, .slice a0 A.length ac, .slice u0 U.length uc, .slice d0 D.length dc]] w fun e w' => e = .returned (.int .i64 (if msgOK i0 i2 i9 Q A U D = true then 0 else 8)) ∧ Below w.heap.size w w' := by
  have hno : msgOK i0 i2 i9 Q A U D = false → (Calls Try.prog 8 #[.agg #[.int .i64 i0, .bool b1, .int .i64 i2, .bool b3, .bool b4, .bool b5, .bool b6, .bool b7, .bool b8, .int .i64 i9, .slice q0 Q.length qc, .slice a0 A.length ac, .slice u0 U.length uc, .slice d0 D.length dc]] w fun e w' => e = .returned (.int .i64 8) ∧ Below w.heap.size w w') → Calls Try.prog 8 #[.agg #[.int .i64 i0, .bool b1, .int .i64 i2, .bool b3, .bool b4, .bool b5, .bool b6, .bool b7, .bool b8, .int .i64 i9, .slice q0 Q.length qc, .slice a0 A.length ac, .slice u0 U.length uc, .slice d0 D.length dc]] w fun e w' => e = .returned (.int .i64 (if msgOK i0 i2 i9 Q A U D = true then 0 else 8)) ∧ Below w.heap.size w w' := fun h1 h2 => by
    rw [if_neg (by rw [h1]; decide)]; exact h2
  have hm : msgOK i0 i2 i9 Q A U D = (fitsN i0 16 && fitsN i2 4 && fitsN i9 4 && fitsN (Q.length : Int) 16 && fitsN (A.length : Int) 16 && fitsN (U.length : Int) 16 && fitsN (D.length : Int) 16 && lstOK Q A U D) := by
    unfold msgOK; rw [fitsN_len, fitsN_len, fitsN_len, fitsN_len]
  cases g0 : fitsN i0 16 with
  | false => exact hno (by rw [hm, g0]; simp) (wcheck_no0 i0 i2 i9 b1 b3 b4 b5 b6 b7 b8 q0 a0 u0 d0 qc ac uc dc Q A U D w hl g0)
  | true =>
    cases g2 : fitsN i2 4 with
    | false => exact hno (by rw [hm, g0, g2]; simp) (wcheck_no1 i0 i2 i9 b1 b3 b4 b5 b6 b7 b8 q0 a0 u0 d0 qc ac uc dc Q A U D w hl g0 g2)
    | true =>
      cases g9 : fitsN i9 4 with
      | false => exact hno (by rw [hm, g0, g2, g9]; simp) (wcheck_no2 i0 i2 i9 b1 b3 b4 b5 b6 b7 b8 q0 a0 u0 d0 qc ac uc dc Q A U D w hl g0 g2 g9)
      | true =>
        cases gq : fitsN (Q.length : Int) 16 with
        | false => exact hno (by rw [hm, g0, g2, g9, gq]; simp) (wcheck_no3 i0 i2 i9 b1 b3 b4 b5 b6 b7 b8 q0 a0 u0 d0 qc ac uc dc Q A U D w hl g0 g2 g9 gq)
        | true =>
          cases ga : fitsN (A.length : Int) 16 with
          | false => exact hno (by rw [hm, g0, g2, g9, gq, ga]; simp) (wcheck_no4 i0 i2 i9 b1 b3 b4 b5 b6 b7 b8 q0 a0 u0 d0 qc ac uc dc Q A U D w hl g0 g2 g9 gq ga)
          | true =>
            cases gu : fitsN (U.length : Int) 16 with
            | false => exact hno (by rw [hm, g0, g2, g9, gq, ga, gu]; simp) (wcheck_no5 i0 i2 i9 b1 b3 b4 b5 b6 b7 b8 q0 a0 u0 d0 qc ac uc dc Q A U D w hl g0 g2 g9 gq ga gu)
            | true =>
              cases gd : fitsN (D.length : Int) 16 with
              | false => exact hno (by rw [hm, g0, g2, g9, gq, ga, gu, gd]; simp) (wcheck_no6 i0 i2 i9 b1 b3 b4 b5 b6 b7 b8 q0 a0 u0 d0 qc ac uc dc Q A U D w hl g0 g2 g9 gq ga gu gd)
              | true =>
                cases gl : lstOK Q A U D with
                | false => exact hno (by rw [hm, gl]; simp) (wcheck_parts_false i0 i2 i9 b1 b3 b4 b5 b6 b7 b8 q0 a0 u0 d0 qc ac uc dc Q A U D w hl g0 g2 g9 gq ga gu gd gl)
                | true =>
                  rw [if_pos (by rw [hm, g0, g2, g9, gq, ga, gu, gd, gl]; rfl)]
                  exact wcheck_parts_true i0 i2 i9 b1 b3 b4 b5 b6 b7 b8 q0 a0 u0 d0 qc ac uc dc Q A U D w hl g0 g2 g9 gq ga gu gd gl
end Go.Proofs.Ytinnmfidnecncaa

namespace Go.Proofs.Ytinnmfidnecncaa
set_option linter.unusedVariables false
open Go.RowKit Go.Shelf Go.Maps Go.Proofs.Ytinnmfidnecncaa.Nm

set_option maxRecDepth 100000 in
set_option maxHeartbeats 1000000 in
/-- newPacker -/
theorem newPacker_any (w : World) :
    Calls Try.prog 13 #[] w fun e w' => ∃ P Mb, e = .returned (.pointer (some ⟨P, 0, none⟩)) ∧ Pk w' P Mb w.heap.size (.slice none 0 0) ⟨.empty, []⟩ ∧ Below w.heap.size w w' := by
  have hmm := @run_makeMap Try.prog
  go_enter Try.func13, Try.ntmps13
  go_wp2
  go_ret
  have hb : Bx ((w.alloc (.map #[] 0)).alloc (.cells #[.slice none 0 0, .map (some w.heap.size)] 49)) (w.heap.size + 1) #[.slice none 0 0, .map (some w.heap.size)] 49 := by
    have := World.alloc_heap_new (w.alloc (.map #[] 0)) (.cells #[.slice none 0 0, .map (some w.heap.size)] 49)
    rw [World.size_alloc] at this
    exact this
  have ho : ∀ W : World, W.ownsRow w.heap.size 5 1 (.slice none 0 0) (ByteArray.empty).size (Lib.strCells .empty) := fun W => World.ownsRow_nil W _ _ _
  exact ⟨w.heap.size + 1, w.heap.size, rfl, ⟨hb, ho _, (World.ownsMap_made w _ _ _).alloc _, by omega, Nat.le_refl _, (by simp [Value.ownBlock]), (by simp [Value.ownBlock]), by omega⟩, ((Below.refl _ w).alloc (Nat.le_refl _) _).alloc (by simp) _⟩
theorem msg_of {w w1 : World} {base M i0 i2 i9 : Nat} {b1 b3 b4 b5 b6 b7 b8 : Bool} {q0 a0 u0 d0 : Option Addr} {qc ac uc dc : Nat} {Q : List Qn} {A U D : List Rn} (hM : M < base) (hx : Bx w1 M #[.int .i64 (i0 : Int), .bool b1, .int .i64 (i2 : Int), .bool b3, .bool b4, .bool b5, .bool b6, .bool b7, .bool b8, .int .i64 (i9 : Int), .slice q0 Q.length qc, .slice a0 A.length ac, .slice u0 U.length uc, .slice d0 D.length dc] 25) (h : LsAt w q0 a0 u0 d0 Q A U D) (hb : Below w.heap.size w w1) (hw : w.heap.size ≤ base) : MsgAt w1 base M i0 i2 i9 b1 b3 b4 b5 b6 b7 b8 q0 a0 u0 d0 qc ac uc dc Q A U D := by
  have hr : ∀ (p : Option Addr) (l : List Rn), RsAt w p l → RsB w1 base p l := fun p l hl k hk => by
    obtain ⟨g, off, h1, h2, h3, h4, h5, h6, h7⟩ := rsAt_below hl hb k hk
    obtain ⟨g', off', h1', h2', _⟩ := hl k hk
    rw [h1] at h1'
    injection h1' with h1'
    injection h1' with h1'
    exact ⟨g, off, h1, by omega, h3, h4, h5, h6, h7⟩
  refine ⟨hM, hx, fun k hk => ?_, hr _ _ h.a, hr _ _ h.u, hr _ _ h.d⟩
  obtain ⟨g, off, h1, h2, h3, h4, h5⟩ := qsAt_below h.q hb k hk
  obtain ⟨g', off', h1', h2', _⟩ := h.q k hk
  rw [h1] at h1'
  injection h1' with h1'
  injection h1' with h1'
  exact ⟨g, off, h1, by omega, h3, h4, h5⟩
theorem own_base {w : World} {base base' e size k : Nat} {v : Value} {xs : List Value} (h : w.ownsRow base e size v k xs) (hb : base' ≤ base) : w.ownsRow base' e size v k xs := by
  obtain ⟨hl, (h0 | ⟨g, cap, cur, rfl, hg, rest⟩)⟩ := h
  · exact ⟨hl, .inl h0⟩
  · exact ⟨hl, .inr ⟨g, cap, cur, rfl, Nat.le_trans hb hg, rest⟩⟩
/-- what Pack writes -/
def packS (i0 i2 i9 : Nat) (b1 b3 b4 b5 b6 b7 b8 : Bool) (Q : List Qn) (A U D : List Rn) : PS :=
  (runR 65535 (A ++ U ++ D) (quesL Q (headP i0 i2 i9 b1 b3 b4 b5 b6 b7 b8 Q.length A.length U.length D.length ⟨.empty, []⟩)) 0).1
theorem lstOK_parts {Q : List Qn} {A U D : List Rn} (h : lstOK Q A U D = true) : (∀ q ∈ Q, qOK q = true) ∧ (∀ r ∈ A, rOK r = true) ∧ (∀ r ∈ U, rOK r = true) ∧ (∀ r ∈ D, rOK r = true) := by
  unfold lstOK at h
  simp only [Bool.and_eq_true, List.all_eq_true] at h
  exact ⟨h.1, h.2.1.1, h.2.1.2, h.2.2⟩
theorem msgOK_parts {i0 i2 i9 : Int} {Q : List Qn} {A U D : List Rn} (h : msgOK i0 i2 i9 Q A U D = true) : (∃ n : Nat, i0 = (n : Int) ∧ n < 65536) ∧ (∃ n : Nat, i2 = (n : Int) ∧ n < 16) ∧ (∃ n : Nat, i9 = (n : Int) ∧ n < 16) ∧ Q.length ≤ 65535 ∧ A.length ≤ 65535 ∧ U.length ≤ 65535 ∧ D.length ≤ 65535 ∧ lstOK Q A U D = true := by
  unfold msgOK at h
  simp only [Bool.and_eq_true, decide_eq_true_eq] at h
  exact ⟨fitsN_nat h.1.1.1.1.1.1.1, fitsN_nat h.1.1.1.1.1.1.2, fitsN_nat h.1.1.1.1.1.2, h.1.1.1.1.2, h.1.1.1.2, h.1.1.2, h.1.2, h.2⟩
/-- how Pack ends -/
def packE (s : PS) (w : World) (e : Ending) (w' : World) : Prop :=
  (if 65535 < s.out.size then e = .returned (.tuple #[.slice none 0 0, .int .i64 12]) else ∃ p c, e = .returned (.tuple #[.slice p s.out.size c, .int .i64 0]) ∧ w'.ownsRow w.heap.size 5 1 (.slice p s.out.size c) s.out.size (Lib.strCells s.out)) ∧ Below w.heap.size w w'

set_option maxRecDepth 100000 in
set_option maxHeartbeats 1000000 in
/-- Pack, of what is no message -/
theorem pack_no (i0 i2 i9 : Int) (b1 b3 b4 b5 b6 b7 b8 : Bool) (q0 a0 u0 d0 : Option Addr) (qc ac uc dc : Nat) (Q : List Qn) (A U D : List Rn) (w : World) (hl : LsAt w q0 a0 u0 d0 Q A U D) (hm : msgOK i0 i2 i9 Q A U D = false) :
    Calls Try.prog 5 #[.agg #[.int .i64 i0, .bool b1, .int .i64 i2, .bool b3, .bool b4, .bool b5, .bool b6, .bool b7, .bool b8, .int .i64 i9, .slice q0 Q.length qc, .slice a0 A.length ac, .slice u0 U.length uc, .slice d0 D.length dc]] w fun e w' => e = .returned (.tuple #[.slice none 0 0, .int .i64 8]) ∧ Below w.heap.size w w' := by
  have HB := hide' ((Below.refl w.heap.size w).alloc (Nat.le_refl _) (.cells #[.int .i64 i0, .bool b1, .int .i64 i2, .bool b3, .bool b4, .bool b5, .bool b6, .bool b7, .bool b8, .int .i64 i9, .slice q0 Q.length qc, .slice a0 A.length ac, .slice u0 U.length uc, .slice d0 D.length dc] 25))
  have HC := hide' (wcheck_any i0 i2 i9 b1 b3 b4 b5 b6 b7 b8 q0 a0 u0 d0 qc ac uc dc Q A U D _ (hl.below HB.out))
  rw [if_neg (by rw [hm]; decide)] at HC
  clear hl hm
  go_enter Try.func5, Try.ntmps5
  go_wp2_with (go_at_call 8; refine HC.out.mono ?_; rintro e w1 ⟨rfl, hB1⟩; have HB1 := hide' (bstep HB.out hB1 HB.out.size); clear hB1)
  go_ret2
  exact ⟨rfl, HB1.out⟩

set_option maxRecDepth 100000 in
set_option maxHeartbeats 1000000 in
/-- Pack, of a message -/
theorem pack_yes (i0 i2 i9 : Nat) (b1 b3 b4 b5 b6 b7 b8 : Bool) (q0 a0 u0 d0 : Option Addr) (qc ac uc dc : Nat) (Q : List Qn) (A U D : List Rn) (w : World) (hl : LsAt w q0 a0 u0 d0 Q A U D) (hm : msgOK i0 i2 i9 Q A U D = true) :
    Calls Try.prog 5 #[.agg #[.int .i64 (i0 : Int), .bool b1, .int .i64 (i2 : Int), .bool b3, .bool b4, .bool b5, .bool b6, .bool b7, .bool b8, .int .i64 (i9 : Int), .slice q0 Q.length qc, .slice a0 A.length ac, .slice u0 U.length uc, .slice d0 D.length dc]] w (packE (packS i0 i2 i9 b1 b3 b4 b5 b6 b7 b8 Q A U D) w) := by
  have HX : Hid (Bx (w.alloc (.cells #[.int .i64 (i0 : Int), .bool b1, .int .i64 (i2 : Int), .bool b3, .bool b4, .bool b5, .bool b6, .bool b7, .bool b8, .int .i64 (i9 : Int), .slice q0 Q.length qc, .slice a0 A.length ac, .slice u0 U.length uc, .slice d0 D.length dc] 25)) w.heap.size #[.int .i64 (i0 : Int), .bool b1, .int .i64 (i2 : Int), .bool b3, .bool b4, .bool b5, .bool b6, .bool b7, .bool b8, .int .i64 (i9 : Int), .slice q0 Q.length qc, .slice a0 A.length ac, .slice u0 U.length uc, .slice d0 D.length dc] 25) := World.alloc_heap_new w _
  have HB := hide' ((Below.refl w.heap.size w).alloc (Nat.le_refl _) (.cells #[.int .i64 (i0 : Int), .bool b1, .int .i64 (i2 : Int), .bool b3, .bool b4, .bool b5, .bool b6, .bool b7, .bool b8, .int .i64 (i9 : Int), .slice q0 Q.length qc, .slice a0 A.length ac, .slice u0 U.length uc, .slice d0 D.length dc] 25))
  have HC := hide' (wcheck_any i0 i2 i9 b1 b3 b4 b5 b6 b7 b8 q0 a0 u0 d0 qc ac uc dc Q A U D _ (hl.below HB.out))
  rw [if_pos hm] at HC
  obtain ⟨⟨n0, e0, k0⟩, ⟨n2, e2, k2⟩, ⟨n9, e9, k9⟩, lq, la, lu, ld, hlst⟩ := msgOK_parts hm
  have g0 : i0 < 65536 := by omega
  have g2 : i2 < 16 := by omega
  have g9 : i9 < 16 := by omega
  clear e0 k0 e2 k2 e9 k9
  obtain ⟨oq, oa, ou, od⟩ := lstOK_parts hlst
  have HW := hide' hl
  obtain ⟨sP, hsP⟩ : ∃ sP, packS i0 i2 i9 b1 b3 b4 b5 b6 b7 b8 Q A U D = sP := ⟨_, rfl⟩
  rw [hsP]
  have HSP := hide' hsP
  clear hl hm hsP
  by_cases hbig : 65535 < sP.out.size
  · have hbI : (65535 : Int) < (sP.out.size : Int) := by omega
    go_enter Try.func5, Try.ntmps5
    go_wp2_with (first
      | (go_at_call 8; refine HC.out.mono ?_; rintro e w1 ⟨rfl, hB1⟩; have HX1 : Hid (Bx w1 w.heap.size #[.int .i64 (i0 : Int), .bool b1, .int .i64 (i2 : Int), .bool b3, .bool b4, .bool b5, .bool b6, .bool b7, .bool b8, .int .i64 (i9 : Int), .slice q0 Q.length qc, .slice a0 A.length ac, .slice u0 U.length uc, .slice d0 D.length dc] 25) := HX.out.below hB1 HX.out.lt; have HB1 := hide' (bstep HB.out hB1 HB.out.size); clear hB1)
      | (go_at_call 13; refine (newPacker_any _).mono ?_; rintro e w2 ⟨P, Mb, rfl, hP, hB2⟩; have HP2 := hide' hP; have HX2 : Hid (Bx w2 w.heap.size #[.int .i64 (i0 : Int), .bool b1, .int .i64 (i2 : Int), .bool b3, .bool b4, .bool b5, .bool b6, .bool b7, .bool b8, .int .i64 (i9 : Int), .slice q0 Q.length qc, .slice a0 A.length ac, .slice u0 U.length uc, .slice d0 D.length dc] 25) := HX1.out.below hB2 HX1.out.lt; have HB2 := hide' (bstep HB1.out hB2 HB1.out.size); have HM2 := hide' (msg_of HX1.out.lt HX2.out HW.out HB2.out HB1.out.size); have hp1 := HX1.out.lt; clear hP hB2)
      | (go_at_call 14; refine (pmessage_any P Mb w1.heap.size w.heap.size (.slice none 0 0) ⟨.empty, []⟩ i0 i2 i9 b1 b3 b4 b5 b6 b7 b8 q0 a0 u0 d0 qc ac uc dc Q A U D 65535 _ HP2.out HM2.out (by omega) (by omega) (by omega) (by omega) (by omega) (by omega) (by omega) oq oa ou od (by omega) (by omega) ⟨fun x hx => (by cases hx), Nat.zero_le _⟩ rfl).mono ?_; rintro e w3 ⟨rfl, v3, r1, r2, r3⟩; have R1 : Hid (Pk w3 P Mb w1.heap.size v3 sP) := HSP.out ▸ r1; obtain ⟨p3, c3, hp3, _⟩ := own_shape R1.out.own; subst hp3; have x3 := R1.out.c0; have HB3 := hide' (HB2.out.trans ((r2.low HP2.out).mono (by omega))); clear r1 r2 r3))
    go_ret2
    exact ⟨by rw [if_pos hbig]; rfl, HB3.out⟩
  · have hbI : ¬ (65535 : Int) < (sP.out.size : Int) := by omega
    go_enter Try.func5, Try.ntmps5
    go_wp2_with (first
      | (go_at_call 8; refine HC.out.mono ?_; rintro e w1 ⟨rfl, hB1⟩; have HX1 : Hid (Bx w1 w.heap.size #[.int .i64 (i0 : Int), .bool b1, .int .i64 (i2 : Int), .bool b3, .bool b4, .bool b5, .bool b6, .bool b7, .bool b8, .int .i64 (i9 : Int), .slice q0 Q.length qc, .slice a0 A.length ac, .slice u0 U.length uc, .slice d0 D.length dc] 25) := HX.out.below hB1 HX.out.lt; have HB1 := hide' (bstep HB.out hB1 HB.out.size); clear hB1)
      | (go_at_call 13; refine (newPacker_any _).mono ?_; rintro e w2 ⟨P, Mb, rfl, hP, hB2⟩; have HP2 := hide' hP; have HX2 : Hid (Bx w2 w.heap.size #[.int .i64 (i0 : Int), .bool b1, .int .i64 (i2 : Int), .bool b3, .bool b4, .bool b5, .bool b6, .bool b7, .bool b8, .int .i64 (i9 : Int), .slice q0 Q.length qc, .slice a0 A.length ac, .slice u0 U.length uc, .slice d0 D.length dc] 25) := HX1.out.below hB2 HX1.out.lt; have HB2 := hide' (bstep HB1.out hB2 HB1.out.size); have HM2 := hide' (msg_of HX1.out.lt HX2.out HW.out HB2.out HB1.out.size); have hp1 := HX1.out.lt; clear hP hB2)
      | (go_at_call 14; refine (pmessage_any P Mb w1.heap.size w.heap.size (.slice none 0 0) ⟨.empty, []⟩ i0 i2 i9 b1 b3 b4 b5 b6 b7 b8 q0 a0 u0 d0 qc ac uc dc Q A U D 65535 _ HP2.out HM2.out (by omega) (by omega) (by omega) (by omega) (by omega) (by omega) (by omega) oq oa ou od (by omega) (by omega) ⟨fun x hx => (by cases hx), Nat.zero_le _⟩ rfl).mono ?_; rintro e w3 ⟨rfl, v3, r1, r2, r3⟩; have R1 : Hid (Pk w3 P Mb w1.heap.size v3 sP) := HSP.out ▸ r1; obtain ⟨p3, c3, hp3, _⟩ := own_shape R1.out.own; subst hp3; have x3 := R1.out.c0; have HB3 := hide' (HB2.out.trans ((r2.low HP2.out).mono (by omega))); clear r1 r2 r3))
    go_ret2
    refine ⟨?_, HB3.out⟩
    rw [if_neg hbig]
    exact ⟨p3, c3, rfl, own_base R1.out.own (by omega)⟩
end Go.Proofs.Ytinnmfidnecncaa

namespace Go.Proofs.Ytinnmfidnecncaa
set_option linter.unusedVariables false
open Go.RowKit Go.Shelf Go.Maps Go.Proofs.Ytinnmfidnecncaa.Nm

/-- two states of one size that have noted the same -/
structure Sim (s t : PS) : Prop where
  sz : s.out.size = t.out.size
  tab : s.tab = t.tab
theorem Sim.more {s t : PS} (h : Sim s t) (x y : ByteArray) (e : x.size = y.size) : Sim ⟨s.out ++ x, s.tab⟩ ⟨t.out ++ y, t.tab⟩ := ⟨by show (s.out ++ x).size = (t.out ++ y).size; rw [ByteArray.size_append, ByteArray.size_append, h.sz, e], h.tab⟩
theorem nameL_sim : ∀ (l : List ByteArray) (s t : PS), Sim s t → Sim (nameL l s) (nameL l t)
  | [], s, t, h => h.more _ _ rfl
  | x :: l, s, t, h => by
    unfold nameL
    rw [h.tab]
    cases e : tabF t.tab (putB (x :: l)) with
    | some p => exact ⟨by show (s.out ++ _).size = (t.out ++ _).size; rw [ByteArray.size_append, ByteArray.size_append, h.sz], rfl⟩
    | none =>
      refine nameL_sim l _ _ ⟨by show (s.out ++ _).size = (t.out ++ _).size; rw [ByteArray.size_append, ByteArray.size_append, h.sz], ?_⟩
      show (if s.out.size ≤ 16383 then (putB (x :: l), s.out.size) :: t.tab else t.tab) = _
      rw [h.sz]
theorem quesP_sim (n : ByteArray) (a b : Nat) {s t : PS} (h : Sim s t) : Sim (quesP n a b s) (quesP n a b t) := ((nameL_sim (labs n) s t h).more _ _ rfl).more _ _ rfl
theorem quesL_sim : ∀ (Q : List Qn) {s t : PS}, Sim s t → Sim (quesL Q s) (quesL Q t)
  | [], _, _, h => h
  | q :: l, _, _, h => quesL_sim l (quesP_sim _ _ _ h)
theorem namesP_sim : ∀ (N : List ByteArray) {s t : PS}, Sim s t → Sim (namesP N s) (namesP N t)
  | [], _, _, h => h
  | n :: l, _, _, h => namesP_sim l (nameL_sim _ _ _ h)
theorem dataP_sim (t : Int) (d : ByteArray) {a b : PS} (h : Sim a b) : Sim (dataP t d a) (dataP t d b) := by
  unfold dataP
  by_cases hc : d.size = 0 ∨ (shp t).2 = 0
  · rw [if_pos hc, if_pos hc]; exact h.more _ _ rfl
  · rw [if_neg hc, if_neg hc]; exact (namesP_sim _ (h.more _ _ rfl)).more _ _ rfl
theorem recH_sim (o : ByteArray) (t c l : Nat) {a b : PS} (h : Sim a b) : Sim (recH o t c l a) (recH o t c l b) := ((quesP_sim o t c h).more _ _ rfl).more _ _ rfl
theorem recR_sim (r : Rn) {a b : PS} (h : Sim a b) : Sim (recR r a) (recR r b) := by
  have h1 := dataP_sim (r.t.toNat : Int) r.d (recH_sim r.o r.t.toNat r.c.toNat r.l.toNat h)
  exact ⟨by unfold recR; rw [recP_size, recP_size, h1.sz], h1.tab⟩
theorem runR_sim (most : Int) : ∀ (L : List Rn) {a b : PS} (c d : Nat), Sim a b → Sim (runR most L a c).1 (runR most L b d).1
  | [], _, _, _, _, h => h
  | r :: l, a, b, c, d, h => by
    unfold runR
    rw [h.sz]
    by_cases hm : most < (b.out.size : Int)
    · rw [if_pos hm, if_pos hm]; exact h
    · rw [if_neg hm, if_neg hm]; exact runR_sim most l _ _ (recR_sim r h)
/-- what is noted stays -/
theorem nameL_keep : ∀ (l : List ByteArray) (s : PS) (n : ByteArray) (p : Nat), tabF s.tab n = some p → tabF (nameL l s).tab n = some p
  | [], s, n, p, h => h
  | x :: l, s, n, p, h => by
    unfold nameL
    cases e : tabF s.tab (putB (x :: l)) with
    | some q => exact h
    | none =>
      refine nameL_keep l _ n p ?_
      by_cases hz : s.out.size ≤ 16383
      · rw [if_pos hz]
        show tabF ((putB (x :: l), s.out.size) :: s.tab) n = some p
        unfold tabF
        rw [if_neg (fun e2 => by rw [e2] at e; rw [e] at h; cases h)]
        exact h
      · rw [if_neg hz]; exact h
theorem quesL_keep : ∀ (Q : List Qn) (s : PS) (n : ByteArray) (p : Nat), tabF s.tab n = some p → tabF (quesL Q s).tab n = some p
  | [], _, _, _, h => h
  | q :: l, s, n, p, h => quesL_keep l (quesQ q s) n p (nameL_keep _ _ _ _ h)
theorem namesP_keep : ∀ (N : List ByteArray) (s : PS) (n : ByteArray) (p : Nat), tabF s.tab n = some p → tabF (namesP N s).tab n = some p
  | [], _, _, _, h => h
  | x :: l, s, n, p, h => namesP_keep l (nameL (labs x) s) n p (nameL_keep _ _ _ _ h)
theorem dataP_keep (t : Int) (d : ByteArray) (s : PS) (n : ByteArray) (p : Nat) (h : tabF s.tab n = some p) : tabF (dataP t d s).tab n = some p := by
  unfold dataP
  by_cases hc : d.size = 0 ∨ (shp t).2 = 0
  · rw [if_pos hc]; exact h
  · rw [if_neg hc]; exact namesP_keep _ _ _ _ h
theorem recR_keep (r : Rn) (s : PS) (n : ByteArray) (p : Nat) (h : tabF s.tab n = some p) : tabF (recR r s).tab n = some p := dataP_keep _ _ _ _ _ (nameL_keep _ _ _ _ h)
theorem runR_keep (most : Int) : ∀ (L : List Rn) (s : PS) (c : Nat) (n : ByteArray) (p : Nat), tabF s.tab n = some p → tabF (runR most L s c).1.tab n = some p
  | [], _, _, _, _, h => h
  | r :: l, s, c, n, p, h => by
    unfold runR
    by_cases hm : most < (s.out.size : Int)
    · rw [if_pos hm]; exact h
    · rw [if_neg hm]; exact runR_keep most l _ _ n p (recR_keep r s n p h)
/-- a name that isn't the root's, written first, is noted at its place -/
theorem name_noted {n : ByteArray} (hn : isN n = true) (h0 : n ≠ ⟨#[0]⟩) (s : PS) (ht : s.tab = []) (hz : s.out.size ≤ 16383) : tabF (nameL (labs n) s).tab n = some s.out.size := by
  have hp := putB_labs hn
  cases hl : labs n with
  | nil => rw [hl, labs_nil_putB] at hp; exact absurd hp.symm h0
  | cons x l =>
    rw [hl] at hp
    unfold nameL
    rw [ht]
    show tabF (nameL l ⟨s.out ++ chunk x, if s.out.size ≤ 16383 then (putB (x :: l), s.out.size) :: [] else []⟩).tab n = _
    refine nameL_keep l _ n _ ?_
    rw [if_pos hz, hp]
    simp [tabF]
/-- a name that is noted takes two bytes -/
theorem name_short {n : ByteArray} (hn : isN n = true) (h0 : n ≠ ⟨#[0]⟩) (s : PS) (p : Nat) (h : tabF s.tab n = some p) : (nameL (labs n) s).out.size = s.out.size + 2 := by
  have hp := putB_labs hn
  cases hl : labs n with
  | nil => rw [hl, labs_nil_putB] at hp; exact absurd hp.symm h0
  | cons x l =>
    rw [hl] at hp
    unfold nameL
    rw [hp, h]
    show (s.out ++ numB _ 2).size = _
    rw [ByteArray.size_append, numB_size]
/-- what is written to the end has room; one record more -/
theorem runR_more (most : Int) : ∀ (L : List Rn) (r : Rn) (s : PS) (c : Nat), ((runR most L s c).1.out.size : Int) ≤ most → (runR most (L ++ [r]) s c).1 = recR r (runR most L s c).1
  | [], r, s, c, h => by
    unfold runR at h
    show (runR most [r] s c).1 = recR r (runR most [] s c).1
    unfold runR
    rw [if_neg (by simp only at h; omega)]
    rfl
  | x :: l, r, s, c, h => by
    unfold runR at h
    show (runR most (x :: (l ++ [r])) s c).1 = recR r (runR most (x :: l) s c).1
    unfold runR
    by_cases hm : most < (s.out.size : Int)
    · rw [if_pos hm] at h; simp only at h; omega
    · rw [if_neg hm] at h
      rw [if_neg hm, if_neg hm]
      exact runR_more most l r _ _ h
end Go.Proofs.Ytinnmfidnecncaa

namespace Go.Proofs.Ytinnmfidnecncaa
set_option linter.unusedVariables false
open Go.RowKit Go.Shelf Go.Maps Go.Proofs.Ytinnmfidnecncaa.Nm

def sumQ : List Qn → Nat
  | [] => 0
  | q :: l => (q.n.size + 4) + sumQ l
def sumR : List Rn → Nat
  | [] => 0
  | r :: l => (r.o.size + 10 + r.d.size) + sumR l
theorem sumQ_snoc (l : List Qn) (q : Qn) : sumQ (l ++ [q]) = sumQ l + (q.n.size + 4) := by
  induction l with
  | nil => simp [sumQ]
  | cons x l ih => simp only [List.cons_append, sumQ, ih]; omega
theorem sumR_snoc (l : List Rn) (r : Rn) : sumR (l ++ [r]) = sumR l + (r.o.size + 10 + r.d.size) := by
  induction l with
  | nil => simp [sumR]
  | cons x l ih => simp only [List.cons_append, sumR, ih]; omega
theorem sumR_append (a b : List Rn) : sumR (a ++ b) = sumR a + sumR b := by
  induction a with
  | nil => simp [sumR]
  | cons x l ih => simp only [List.cons_append, sumR, ih]; omega
/-- no longer than with names whole -/
theorem quesL_plain : ∀ (Q : List Qn) (s : PS), (∀ q ∈ Q, qOK q = true) → (quesL Q s).out.size ≤ s.out.size + sumQ Q
  | [], s, _ => Nat.le_refl _
  | q :: l, s, h => by
    have h1 := name_size (qOK_parts (h q List.mem_cons_self)).1 s
    have h2 := quesL_plain l (quesQ q s) (fun x hx => h x (List.mem_cons_of_mem _ hx))
    have h3 : (quesQ q s).out.size = (nameL (labs q.n) s).out.size + 4 := quesP_size _ _ _ _
    show (quesL l (quesQ q s)).out.size ≤ _
    simp only [sumQ]; omega
theorem recR_plain {r : Rn} (h : rOK r = true) {s : PS} (hs : POk s) : (recR r s).out.size ≤ s.out.size + (r.o.size + 10 + r.d.size) := by
  obtain ⟨h1, ⟨t, ht, htl⟩, _, _, hd⟩ := rOK_parts h
  have h2 := name_size h1 s
  have hd' : DatOK ((r.t.toNat : Nat) : Int) r.d := by rw [ht] at hd ⊢; simpa using hd
  obtain ⟨a1, a2, a3⟩ := dataP_ok hd' (recH_pok h1 r.t.toNat r.c.toNat r.l.toNat hs)
  have a4 := recH_size r.o r.t.toNat r.c.toNat r.l.toNat s
  unfold recR; rw [recP_size]; omega
theorem runR_plain (most : Int) : ∀ (L : List Rn) (s : PS) (c : Nat), (∀ r ∈ L, rOK r = true) → POk s → (runR most L s c).1.out.size ≤ s.out.size + sumR L
  | [], s, c, _, _ => Nat.le_refl _
  | r :: l, s, c, h, hs => by
    unfold runR
    by_cases hm : most < (s.out.size : Int)
    · rw [if_pos hm]; simp only; omega
    · rw [if_neg hm]
      have h1 := recR_plain (h r List.mem_cons_self) hs
      have h2 := runR_plain most l (recR r s) (c + 1) (fun x hx => h x (List.mem_cons_of_mem _ hx)) (recR_ok (h r List.mem_cons_self) hs).1
      simp only [sumR]; omega
theorem sumQ_take (Q : List Qn) (k : Nat) : sumQ (Q.take k) ≤ sumQ Q := by
  induction Q generalizing k with
  | nil => simp [sumQ]
  | cons x l ih =>
    cases k with
    | zero => simp [sumQ]
    | succ k => have := ih k; simp only [List.take_succ_cons, sumQ]; omega
theorem sumR_take (Q : List Rn) (k : Nat) : sumR (Q.take k) ≤ sumR Q := by
  induction Q generalizing k with
  | nil => simp [sumR]
  | cons x l ih =>
    cases k with
    | zero => simp [sumR]
    | succ k => have := ih k; simp only [List.take_succ_cons, sumR]; omega
theorem sumQ_len (Q : List Qn) : Q.length ≤ sumQ Q := by
  induction Q with
  | nil => simp [sumQ]
  | cons x l ih => simp only [List.length_cons, sumQ]; omega
theorem sumR_len (Q : List Rn) : Q.length ≤ sumR Q := by
  induction Q with
  | nil => simp [sumR]
  | cons x l ih => simp only [List.length_cons, sumR]; omega
def plainN (Q : List Qn) (A U D : List Rn) : Nat := 12 + sumQ Q + sumR A + sumR U + sumR D

end Go.Proofs.Ytinnmfidnecncaa

namespace Go.Proofs.Ytinnmfidnecncaa
set_option linter.unusedVariables false
open Go.RowKit Go.Shelf Go.Maps Go.Proofs.Ytinnmfidnecncaa.Nm

/-- a name of which no end is noted is written whole -/
theorem tabF_none : ∀ (t : Tab) (n : ByteArray), (∀ x ∈ t, x.1 ≠ n) → tabF t n = none
  | [], _, _ => rfl
  | (k, p) :: t, n, h => by
    unfold tabF
    rw [if_neg (h (k, p) List.mem_cons_self)]
    exact tabF_none t n (fun x hx => h x (List.mem_cons_of_mem _ hx))
theorem nameL_fresh : ∀ (l : List ByteArray) (s : PS), (∀ x ∈ s.tab, (putB l).size < x.1.size) → (nameL l s).out.size = s.out.size + (putB l).size
  | [], s, _ => by
    show (s.out ++ ⟨#[0]⟩).size = _
    rw [ByteArray.size_append, labs_nil_putB]
  | x :: l, s, h => by
    have hp : (putB (x :: l)).size = (chunk x).size + (putB l).size := by rw [putB_cons, ByteArray.size_append]
    have hc := chunk_size x
    unfold nameL
    rw [tabF_none s.tab _ (fun y hy e => by have := h y hy; rw [e] at this; omega)]
    show (nameL l _).out.size = _
    rw [nameL_fresh l _ ?_]
    · show (s.out ++ chunk x).size + _ = _
      rw [ByteArray.size_append]; omega
    · intro y hy
      by_cases hz : s.out.size ≤ 16383
      · simp only [if_pos hz] at hy
        rcases List.mem_cons.1 hy with rfl | hy
        · show _ < (putB (x :: l)).size; omega
        · have := h y hy; omega
      · simp only [if_neg hz] at hy
        have := h y hy; omega
def exN : ByteArray := ⟨#[3, 119, 119, 119, 2, 101, 120, 0]⟩
def exQ : Qn := ⟨exN, 1, 1⟩
theorem exN_ok : isN exN = true := by kernel_rfl
theorem exQ_ok : qOK exQ = true := by
  unfold qOK headOK
  rw [show exQ.n = exN from rfl, exN_ok]
  decide
theorem head_size (i0 i2 i9 : Nat) (b1 b3 b4 b5 b6 b7 b8 : Bool) (a b c d : Nat) : (headP i0 i2 i9 b1 b3 b4 b5 b6 b7 b8 a b c d ⟨.empty, []⟩).out.size = 12 ∧ (headP i0 i2 i9 b1 b3 b4 b5 b6 b7 b8 a b c d ⟨.empty, []⟩).tab = [] := by
  refine ⟨?_, rfl⟩
  unfold headP
  show ((((((_ ++ _) ++ _) ++ _) ++ _) ++ _) ++ _ : ByteArray).size = 12
  simp only [ByteArray.size_append, numB_size]
  rfl
theorem exPack : (packS 7 0 0 false false false true false false false [exQ] [] [] []).out.size = 24 := by
  unfold packS
  show (quesP exN 1 1 (headP _ _ _ _ _ _ _ _ _ _ _ _ _ _ _)).out.size = 24
  obtain ⟨h1, h2⟩ := head_size 7 0 0 false false false true false false false [exQ].length ([] : List Rn).length ([] : List Rn).length ([] : List Rn).length
  rw [quesP_size, nameL_fresh (labs exN) _ (fun x hx => by rw [h2] at hx; cases hx), h1, putB_labs exN_ok]
  rfl
theorem exMsg : msgOK ((7 : Nat) : Int) ((0 : Nat) : Int) ((0 : Nat) : Int) [exQ] [] [] [] = true := by
  unfold msgOK lstOK
  simp only [List.all_cons, List.all_nil, exQ_ok]
  decide
theorem exPlain : plainN [exQ] [] [] [] = 24 := by rfl

set_option maxRecDepth 100000 in
set_option maxHeartbeats 1000000 in
/-- gazetteerlaw2.question -/
theorem question_any (w : World) :
    Calls Try.prog 6 #[] w fun e w' => ∃ g, e = .returned (.agg #[.int .i64 7, .bool false, .int .i64 0, .bool false, .bool false, .bool true, .bool false, .bool false, .bool false, .int .i64 0, .slice (some ⟨g, 0, none⟩) 1 1, .slice none 0 0, .slice none 0 0, .slice none 0 0]) ∧ LsAt w' (some ⟨g, 0, none⟩) none none none [exQ] [] [] [] ∧ Below w.heap.size w w' := by
  go_enter Try.func6, Try.ntmps6
  go_wp2
  have hb : Bx ((w.alloc (.cells #[.int .i64 7, .bool false, .int .i64 0, .bool false, .bool false, .bool true, .bool false, .bool false, .bool false, .int .i64 0, .slice (some ⟨w.heap.size + 1, 0, none⟩) 1 1, .slice none 0 0, .slice none 0 0, .slice none 0 0] 25)).alloc (.cells #[.string ⟨#[3, 119, 119, 119, 2, 101, 120, 0]⟩, .int .i64 1, .int .i64 1] 51)) (w.heap.size + 1) #[.string ⟨#[3, 119, 119, 119, 2, 101, 120, 0]⟩, .int .i64 1, .int .i64 1] 51 := by
    have := World.alloc_heap_new (w.alloc (.cells #[.int .i64 7, .bool false, .int .i64 0, .bool false, .bool false, .bool true, .bool false, .bool false, .bool false, .int .i64 0, .slice (some ⟨w.heap.size + 1, 0, none⟩) 1 1, .slice none 0 0, .slice none 0 0, .slice none 0 0] 25)) (.cells #[.string ⟨#[3, 119, 119, 119, 2, 101, 120, 0]⟩, .int .i64 1, .int .i64 1] 51)
    rw [World.size_alloc] at this
    exact this
  refine bodyPost_ret (v := .agg #[.int .i64 7, .bool false, .int .i64 0, .bool false, .bool false, .bool true, .bool false, .bool false, .bool false, .int .i64 0, .slice (some ⟨w.heap.size + 1, 0, none⟩) 1 1, .slice none 0 0, .slice none 0 0, .slice none 0 0]) (by simp [results, go_sem]) rfl ⟨w.heap.size + 1, rfl, ⟨?_, ?_, ?_, ?_, ?_, ?_, ?_, ?_⟩, ((Below.refl _ w).alloc (Nat.le_refl _) _).alloc (by simp) _⟩
  · intro k hk
    obtain rfl : k = 0 := by simp at hk; exact hk
    exact ⟨w.heap.size + 1, 0, rfl, hb.lt, hb.cell (j := 0) rfl, hb.cell (j := 1) rfl, hb.cell (j := 2) rfl⟩
  · intro k hk; simp at hk
  · intro k hk; simp at hk
  · intro k hk; simp at hk
  · intro q hq
    rw [List.mem_singleton.1 hq]
    decide
  · intro r hr; cases hr
  · intro r hr; cases hr
  · intro r hr; cases hr
end Go.Proofs.Ytinnmfidnecncaa
