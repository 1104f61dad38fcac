import Derived.Test.YtlgogddobjkngaaPk11G
namespace Go.Proofs.Ytlgogddobjkngaa
set_option linter.unusedVariables false
open Go.RowKit Go.Shelf Go.Maps Go.Proofs.Ytlgogddobjkngaa.Nm

set_option maxRecDepth 100000 in
set_option maxHeartbeats 1000000 in
theorem wcheck_no0 (i0 i2 i9 : Int) (b1 b3 b4 b5 b6 b7 b8 : Bool) (q0 a0 u0 d0 : Option Addr) (qc ac uc dc : Nat) (Q : List Qn) (A U D : List Rn) (w : World) (hl : LsAt w q0 a0 u0 d0 Q A U D) (g0 : fitsN i0 16 = false) :
    Calls Try.prog 8 #[.agg #[.int .i64 i0, .bool b1, .int .i64 i2, .bool b3, .bool b4, .bool b5, .bool b6, .bool b7, .bool b8, .int .i64 i9, .slice q0 Q.length qc, .slice a0 A.length ac, .slice u0 U.length uc, .slice d0 D.length dc]] w fun e w' => e = .returned (.int .i64 8) ∧ Below w.heap.size w w' := by
  have HX : Hid (Bx (w.alloc (.cells #[.int .i64 i0, .bool b1, .int .i64 i2, .bool b3, .bool b4, .bool b5, .bool b6, .bool b7, .bool b8, .int .i64 i9, .slice q0 Q.length qc, .slice a0 A.length ac, .slice u0 U.length uc, .slice d0 D.length dc] 25)) w.heap.size #[.int .i64 i0, .bool b1, .int .i64 i2, .bool b3, .bool b4, .bool b5, .bool b6, .bool b7, .bool b8, .int .i64 i9, .slice q0 Q.length qc, .slice a0 A.length ac, .slice u0 U.length uc, .slice d0 D.length dc] 25) := World.alloc_heap_new w _
  have HB := hide' ((Below.refl w.heap.size w).alloc (Nat.le_refl _) (.cells #[.int .i64 i0, .bool b1, .int .i64 i2, .bool b3, .bool b4, .bool b5, .bool b6, .bool b7, .bool b8, .int .i64 i9, .slice q0 Q.length qc, .slice a0 A.length ac, .slice u0 U.length uc, .slice d0 D.length dc] 25))
  have HW := hide' (hl.below ((Below.refl w.heap.size w).alloc (Nat.le_refl _) (.cells #[.int .i64 i0, .bool b1, .int .i64 i2, .bool b3, .bool b4, .bool b5, .bool b6, .bool b7, .bool b8, .int .i64 i9, .slice q0 Q.length qc, .slice a0 A.length ac, .slice u0 U.length uc, .slice d0 D.length dc] 25)))
  have hx0 : ∀ W : World, Sem.run Try.prog (Instr.index 57 (.agg #[.pointer (some ⟨w.heap.size, 11, none⟩), .pointer (some ⟨w.heap.size, 12, none⟩), .pointer (some ⟨w.heap.size, 13, none⟩)]) (.int .i64 0)) W = .ok (.pointer (some ⟨w.heap.size, 11, none⟩)) W := fun W => by first | rfl | simp [go_sem, Instr.index]
  have hx1 : ∀ W : World, Sem.run Try.prog (Instr.index 57 (.agg #[.pointer (some ⟨w.heap.size, 11, none⟩), .pointer (some ⟨w.heap.size, 12, none⟩), .pointer (some ⟨w.heap.size, 13, none⟩)]) (.int .i64 1)) W = .ok (.pointer (some ⟨w.heap.size, 12, none⟩)) W := fun W => by first | rfl | simp [go_sem, Instr.index]
  have hx2 : ∀ W : World, Sem.run Try.prog (Instr.index 57 (.agg #[.pointer (some ⟨w.heap.size, 11, none⟩), .pointer (some ⟨w.heap.size, 12, none⟩), .pointer (some ⟨w.heap.size, 13, none⟩)]) (.int .i64 2)) W = .ok (.pointer (some ⟨w.heap.size, 13, none⟩)) W := fun W => by first | rfl | simp [go_sem, Instr.index]
  clear hl
  go_enter Try.func8, Try.ntmps8
  go_wp2_with (first
    | (go_at_call 15; refine (hasRoom_any _ _ _ (by decide)).mono ?_; rintro e wh ⟨rfl, hwh⟩; have hwh' := hwh.symm; subst hwh')
    | (go_at_call 16; refine (sectionsOf_any w.heap.size 0 _).mono ?_; rintro e w5 ⟨rfl, hB⟩; have HX5 : Hid (Bx w5 w.heap.size #[.int .i64 i0, .bool b1, .int .i64 i2, .bool b3, .bool b4, .bool b5, .bool b6, .bool b7, .bool b8, .int .i64 i9, .slice q0 Q.length qc, .slice a0 A.length ac, .slice u0 U.length uc, .slice d0 D.length dc] 25) := HX.out.below hB HX.out.lt; have x11 : w5.cell? ⟨w.heap.size, 11, none⟩ = some (.slice a0 A.length ac) := HX5.out.cell rfl; have x12 : w5.cell? ⟨w.heap.size, 12, none⟩ = some (.slice u0 U.length uc) := HX5.out.cell rfl; have x13 : w5.cell? ⟨w.heap.size, 13, none⟩ = some (.slice d0 D.length dc) := HX5.out.cell rfl; have HB5 := hide' (bstep HB.out hB HB.out.size); have HW5 := hide' (HW.out.below hB); clear hB))
  refine wp_loop_rounds 4 ?_
  rw [rounds_succ]
  go_wp2_with (go_at_call 15; refine (hasRoom_any _ _ _ (by decide)).mono ?_; rintro e wh ⟨rfl, hwh⟩; have hwh' := hwh.symm; subst hwh')
  rw [rounds_succ]
  go_wp2_with (go_at_call 15; refine (hasRoom_any _ _ _ (by decide)).mono ?_; rintro e wh ⟨rfl, hwh⟩; have hwh' := hwh.symm; subst hwh')
  rw [rounds_succ]
  go_wp2_with (go_at_call 15; refine (hasRoom_any _ _ _ (by decide)).mono ?_; rintro e wh ⟨rfl, hwh⟩; have hwh' := hwh.symm; subst hwh')
  rw [rounds_succ]
  go_wp2_with fail
  go_ret
  exact ⟨rfl, HB5.out⟩

set_option maxRecDepth 100000 in
set_option maxHeartbeats 1000000 in
theorem wcheck_no1 (i0 i2 i9 : Int) (b1 b3 b4 b5 b6 b7 b8 : Bool) (q0 a0 u0 d0 : Option Addr) (qc ac uc dc : Nat) (Q : List Qn) (A U D : List Rn) (w : World) (hl : LsAt w q0 a0 u0 d0 Q A U D) (g0 : fitsN i0 16 = true) (g2 : fitsN i2 4 = false) :
    Calls Try.prog 8 #[.agg #[.int .i64 i0, .bool b1, .int .i64 i2, .bool b3, .bool b4, .bool b5, .bool b6, .bool b7, .bool b8, .int .i64 i9, .slice q0 Q.length qc, .slice a0 A.length ac, .slice u0 U.length uc, .slice d0 D.length dc]] w fun e w' => e = .returned (.int .i64 8) ∧ Below w.heap.size w w' := by
  have HX : Hid (Bx (w.alloc (.cells #[.int .i64 i0, .bool b1, .int .i64 i2, .bool b3, .bool b4, .bool b5, .bool b6, .bool b7, .bool b8, .int .i64 i9, .slice q0 Q.length qc, .slice a0 A.length ac, .slice u0 U.length uc, .slice d0 D.length dc] 25)) w.heap.size #[.int .i64 i0, .bool b1, .int .i64 i2, .bool b3, .bool b4, .bool b5, .bool b6, .bool b7, .bool b8, .int .i64 i9, .slice q0 Q.length qc, .slice a0 A.length ac, .slice u0 U.length uc, .slice d0 D.length dc] 25) := World.alloc_heap_new w _
  have HB := hide' ((Below.refl w.heap.size w).alloc (Nat.le_refl _) (.cells #[.int .i64 i0, .bool b1, .int .i64 i2, .bool b3, .bool b4, .bool b5, .bool b6, .bool b7, .bool b8, .int .i64 i9, .slice q0 Q.length qc, .slice a0 A.length ac, .slice u0 U.length uc, .slice d0 D.length dc] 25))
  have HW := hide' (hl.below ((Below.refl w.heap.size w).alloc (Nat.le_refl _) (.cells #[.int .i64 i0, .bool b1, .int .i64 i2, .bool b3, .bool b4, .bool b5, .bool b6, .bool b7, .bool b8, .int .i64 i9, .slice q0 Q.length qc, .slice a0 A.length ac, .slice u0 U.length uc, .slice d0 D.length dc] 25)))
  have hx0 : ∀ W : World, Sem.run Try.prog (Instr.index 57 (.agg #[.pointer (some ⟨w.heap.size, 11, none⟩), .pointer (some ⟨w.heap.size, 12, none⟩), .pointer (some ⟨w.heap.size, 13, none⟩)]) (.int .i64 0)) W = .ok (.pointer (some ⟨w.heap.size, 11, none⟩)) W := fun W => by first | rfl | simp [go_sem, Instr.index]
  have hx1 : ∀ W : World, Sem.run Try.prog (Instr.index 57 (.agg #[.pointer (some ⟨w.heap.size, 11, none⟩), .pointer (some ⟨w.heap.size, 12, none⟩), .pointer (some ⟨w.heap.size, 13, none⟩)]) (.int .i64 1)) W = .ok (.pointer (some ⟨w.heap.size, 12, none⟩)) W := fun W => by first | rfl | simp [go_sem, Instr.index]
  have hx2 : ∀ W : World, Sem.run Try.prog (Instr.index 57 (.agg #[.pointer (some ⟨w.heap.size, 11, none⟩), .pointer (some ⟨w.heap.size, 12, none⟩), .pointer (some ⟨w.heap.size, 13, none⟩)]) (.int .i64 2)) W = .ok (.pointer (some ⟨w.heap.size, 13, none⟩)) W := fun W => by first | rfl | simp [go_sem, Instr.index]
  clear hl
  go_enter Try.func8, Try.ntmps8
  go_wp2_with (first
    | (go_at_call 15; refine (hasRoom_any _ _ _ (by decide)).mono ?_; rintro e wh ⟨rfl, hwh⟩; have hwh' := hwh.symm; subst hwh')
    | (go_at_call 16; refine (sectionsOf_any w.heap.size 0 _).mono ?_; rintro e w5 ⟨rfl, hB⟩; have HX5 : Hid (Bx w5 w.heap.size #[.int .i64 i0, .bool b1, .int .i64 i2, .bool b3, .bool b4, .bool b5, .bool b6, .bool b7, .bool b8, .int .i64 i9, .slice q0 Q.length qc, .slice a0 A.length ac, .slice u0 U.length uc, .slice d0 D.length dc] 25) := HX.out.below hB HX.out.lt; have x11 : w5.cell? ⟨w.heap.size, 11, none⟩ = some (.slice a0 A.length ac) := HX5.out.cell rfl; have x12 : w5.cell? ⟨w.heap.size, 12, none⟩ = some (.slice u0 U.length uc) := HX5.out.cell rfl; have x13 : w5.cell? ⟨w.heap.size, 13, none⟩ = some (.slice d0 D.length dc) := HX5.out.cell rfl; have HB5 := hide' (bstep HB.out hB HB.out.size); have HW5 := hide' (HW.out.below hB); clear hB))
  refine wp_loop_rounds 4 ?_
  rw [rounds_succ]
  go_wp2_with (go_at_call 15; refine (hasRoom_any _ _ _ (by decide)).mono ?_; rintro e wh ⟨rfl, hwh⟩; have hwh' := hwh.symm; subst hwh')
  rw [rounds_succ]
  go_wp2_with (go_at_call 15; refine (hasRoom_any _ _ _ (by decide)).mono ?_; rintro e wh ⟨rfl, hwh⟩; have hwh' := hwh.symm; subst hwh')
  rw [rounds_succ]
  go_wp2_with (go_at_call 15; refine (hasRoom_any _ _ _ (by decide)).mono ?_; rintro e wh ⟨rfl, hwh⟩; have hwh' := hwh.symm; subst hwh')
  rw [rounds_succ]
  go_wp2_with fail
  go_ret
  exact ⟨rfl, HB5.out⟩

set_option maxRecDepth 100000 in
set_option maxHeartbeats 1000000 in
theorem wcheck_no2 (i0 i2 i9 : Int) (b1 b3 b4 b5 b6 b7 b8 : Bool) (q0 a0 u0 d0 : Option Addr) (qc ac uc dc : Nat) (Q : List Qn) (A U D : List Rn) (w : World) (hl : LsAt w q0 a0 u0 d0 Q A U D) (g0 : fitsN i0 16 = true) (g2 : fitsN i2 4 = true) (g9 : fitsN i9 4 = false) :
    Calls Try.prog 8 #[.agg #[.int .i64 i0, .bool b1, .int .i64 i2, .bool b3, .bool b4, .bool b5, .bool b6, .bool b7, .bool b8, .int .i64 i9, .slice q0 Q.length qc, .slice a0 A.length ac, .slice u0 U.length uc, .slice d0 D.length dc]] w fun e w' => e = .returned (.int .i64 8) ∧ Below w.heap.size w w' := by
  have HX : Hid (Bx (w.alloc (.cells #[.int .i64 i0, .bool b1, .int .i64 i2, .bool b3, .bool b4, .bool b5, .bool b6, .bool b7, .bool b8, .int .i64 i9, .slice q0 Q.length qc, .slice a0 A.length ac, .slice u0 U.length uc, .slice d0 D.length dc] 25)) w.heap.size #[.int .i64 i0, .bool b1, .int .i64 i2, .bool b3, .bool b4, .bool b5, .bool b6, .bool b7, .bool b8, .int .i64 i9, .slice q0 Q.length qc, .slice a0 A.length ac, .slice u0 U.length uc, .slice d0 D.length dc] 25) := World.alloc_heap_new w _
  have HB := hide' ((Below.refl w.heap.size w).alloc (Nat.le_refl _) (.cells #[.int .i64 i0, .bool b1, .int .i64 i2, .bool b3, .bool b4, .bool b5, .bool b6, .bool b7, .bool b8, .int .i64 i9, .slice q0 Q.length qc, .slice a0 A.length ac, .slice u0 U.length uc, .slice d0 D.length dc] 25))
  have HW := hide' (hl.below ((Below.refl w.heap.size w).alloc (Nat.le_refl _) (.cells #[.int .i64 i0, .bool b1, .int .i64 i2, .bool b3, .bool b4, .bool b5, .bool b6, .bool b7, .bool b8, .int .i64 i9, .slice q0 Q.length qc, .slice a0 A.length ac, .slice u0 U.length uc, .slice d0 D.length dc] 25)))
  have hx0 : ∀ W : World, Sem.run Try.prog (Instr.index 57 (.agg #[.pointer (some ⟨w.heap.size, 11, none⟩), .pointer (some ⟨w.heap.size, 12, none⟩), .pointer (some ⟨w.heap.size, 13, none⟩)]) (.int .i64 0)) W = .ok (.pointer (some ⟨w.heap.size, 11, none⟩)) W := fun W => by first | rfl | simp [go_sem, Instr.index]
  have hx1 : ∀ W : World, Sem.run Try.prog (Instr.index 57 (.agg #[.pointer (some ⟨w.heap.size, 11, none⟩), .pointer (some ⟨w.heap.size, 12, none⟩), .pointer (some ⟨w.heap.size, 13, none⟩)]) (.int .i64 1)) W = .ok (.pointer (some ⟨w.heap.size, 12, none⟩)) W := fun W => by first | rfl | simp [go_sem, Instr.index]
  have hx2 : ∀ W : World, Sem.run Try.prog (Instr.index 57 (.agg #[.pointer (some ⟨w.heap.size, 11, none⟩), .pointer (some ⟨w.heap.size, 12, none⟩), .pointer (some ⟨w.heap.size, 13, none⟩)]) (.int .i64 2)) W = .ok (.pointer (some ⟨w.heap.size, 13, none⟩)) W := fun W => by first | rfl | simp [go_sem, Instr.index]
  clear hl
  go_enter Try.func8, Try.ntmps8
  go_wp2_with (first
    | (go_at_call 15; refine (hasRoom_any _ _ _ (by decide)).mono ?_; rintro e wh ⟨rfl, hwh⟩; have hwh' := hwh.symm; subst hwh')
    | (go_at_call 16; refine (sectionsOf_any w.heap.size 0 _).mono ?_; rintro e w5 ⟨rfl, hB⟩; have HX5 : Hid (Bx w5 w.heap.size #[.int .i64 i0, .bool b1, .int .i64 i2, .bool b3, .bool b4, .bool b5, .bool b6, .bool b7, .bool b8, .int .i64 i9, .slice q0 Q.length qc, .slice a0 A.length ac, .slice u0 U.length uc, .slice d0 D.length dc] 25) := HX.out.below hB HX.out.lt; have x11 : w5.cell? ⟨w.heap.size, 11, none⟩ = some (.slice a0 A.length ac) := HX5.out.cell rfl; have x12 : w5.cell? ⟨w.heap.size, 12, none⟩ = some (.slice u0 U.length uc) := HX5.out.cell rfl; have x13 : w5.cell? ⟨w.heap.size, 13, none⟩ = some (.slice d0 D.length dc) := HX5.out.cell rfl; have HB5 := hide' (bstep HB.out hB HB.out.size); have HW5 := hide' (HW.out.below hB); clear hB))
  refine wp_loop_rounds 4 ?_
  rw [rounds_succ]
  go_wp2_with (go_at_call 15; refine (hasRoom_any _ _ _ (by decide)).mono ?_; rintro e wh ⟨rfl, hwh⟩; have hwh' := hwh.symm; subst hwh')
  rw [rounds_succ]
  go_wp2_with (go_at_call 15; refine (hasRoom_any _ _ _ (by decide)).mono ?_; rintro e wh ⟨rfl, hwh⟩; have hwh' := hwh.symm; subst hwh')
  rw [rounds_succ]
  go_wp2_with (go_at_call 15; refine (hasRoom_any _ _ _ (by decide)).mono ?_; rintro e wh ⟨rfl, hwh⟩; have hwh' := hwh.symm; subst hwh')
  rw [rounds_succ]
  go_wp2_with fail
  go_ret
  exact ⟨rfl, HB5.out⟩

set_option maxRecDepth 100000 in
set_option maxHeartbeats 1000000 in
theorem wcheck_no3 (i0 i2 i9 : Int) (b1 b3 b4 b5 b6 b7 b8 : Bool) (q0 a0 u0 d0 : Option Addr) (qc ac uc dc : Nat) (Q : List Qn) (A U D : List Rn) (w : World) (hl : LsAt w q0 a0 u0 d0 Q A U D) (g0 : fitsN i0 16 = true) (g2 : fitsN i2 4 = true) (g9 : fitsN i9 4 = true) (gq : fitsN (Q.length : Int) 16 = false) :
    Calls Try.prog 8 #[.agg #[.int .i64 i0, .bool b1, .int .i64 i2, .bool b3, .bool b4, .bool b5, .bool b6, .bool b7, .bool b8, .int .i64 i9, .slice q0 Q.length qc, .slice a0 A.length ac, .slice u0 U.length uc, .slice d0 D.length dc]] w fun e w' => e = .returned (.int .i64 8) ∧ Below w.heap.size w w' := by
  have HX : Hid (Bx (w.alloc (.cells #[.int .i64 i0, .bool b1, .int .i64 i2, .bool b3, .bool b4, .bool b5, .bool b6, .bool b7, .bool b8, .int .i64 i9, .slice q0 Q.length qc, .slice a0 A.length ac, .slice u0 U.length uc, .slice d0 D.length dc] 25)) w.heap.size #[.int .i64 i0, .bool b1, .int .i64 i2, .bool b3, .bool b4, .bool b5, .bool b6, .bool b7, .bool b8, .int .i64 i9, .slice q0 Q.length qc, .slice a0 A.length ac, .slice u0 U.length uc, .slice d0 D.length dc] 25) := World.alloc_heap_new w _
  have HB := hide' ((Below.refl w.heap.size w).alloc (Nat.le_refl _) (.cells #[.int .i64 i0, .bool b1, .int .i64 i2, .bool b3, .bool b4, .bool b5, .bool b6, .bool b7, .bool b8, .int .i64 i9, .slice q0 Q.length qc, .slice a0 A.length ac, .slice u0 U.length uc, .slice d0 D.length dc] 25))
  have HW := hide' (hl.below ((Below.refl w.heap.size w).alloc (Nat.le_refl _) (.cells #[.int .i64 i0, .bool b1, .int .i64 i2, .bool b3, .bool b4, .bool b5, .bool b6, .bool b7, .bool b8, .int .i64 i9, .slice q0 Q.length qc, .slice a0 A.length ac, .slice u0 U.length uc, .slice d0 D.length dc] 25)))
  have hx0 : ∀ W : World, Sem.run Try.prog (Instr.index 57 (.agg #[.pointer (some ⟨w.heap.size, 11, none⟩), .pointer (some ⟨w.heap.size, 12, none⟩), .pointer (some ⟨w.heap.size, 13, none⟩)]) (.int .i64 0)) W = .ok (.pointer (some ⟨w.heap.size, 11, none⟩)) W := fun W => by first | rfl | simp [go_sem, Instr.index]
  have hx1 : ∀ W : World, Sem.run Try.prog (Instr.index 57 (.agg #[.pointer (some ⟨w.heap.size, 11, none⟩), .pointer (some ⟨w.heap.size, 12, none⟩), .pointer (some ⟨w.heap.size, 13, none⟩)]) (.int .i64 1)) W = .ok (.pointer (some ⟨w.heap.size, 12, none⟩)) W := fun W => by first | rfl | simp [go_sem, Instr.index]
  have hx2 : ∀ W : World, Sem.run Try.prog (Instr.index 57 (.agg #[.pointer (some ⟨w.heap.size, 11, none⟩), .pointer (some ⟨w.heap.size, 12, none⟩), .pointer (some ⟨w.heap.size, 13, none⟩)]) (.int .i64 2)) W = .ok (.pointer (some ⟨w.heap.size, 13, none⟩)) W := fun W => by first | rfl | simp [go_sem, Instr.index]
  clear hl
  go_enter Try.func8, Try.ntmps8
  go_wp2_with (first
    | (go_at_call 15; refine (hasRoom_any _ _ _ (by decide)).mono ?_; rintro e wh ⟨rfl, hwh⟩; have hwh' := hwh.symm; subst hwh')
    | (go_at_call 16; refine (sectionsOf_any w.heap.size 0 _).mono ?_; rintro e w5 ⟨rfl, hB⟩; have HX5 : Hid (Bx w5 w.heap.size #[.int .i64 i0, .bool b1, .int .i64 i2, .bool b3, .bool b4, .bool b5, .bool b6, .bool b7, .bool b8, .int .i64 i9, .slice q0 Q.length qc, .slice a0 A.length ac, .slice u0 U.length uc, .slice d0 D.length dc] 25) := HX.out.below hB HX.out.lt; have x11 : w5.cell? ⟨w.heap.size, 11, none⟩ = some (.slice a0 A.length ac) := HX5.out.cell rfl; have x12 : w5.cell? ⟨w.heap.size, 12, none⟩ = some (.slice u0 U.length uc) := HX5.out.cell rfl; have x13 : w5.cell? ⟨w.heap.size, 13, none⟩ = some (.slice d0 D.length dc) := HX5.out.cell rfl; have HB5 := hide' (bstep HB.out hB HB.out.size); have HW5 := hide' (HW.out.below hB); clear hB))
  refine wp_loop_rounds 4 ?_
  rw [rounds_succ]
  go_wp2_with (go_at_call 15; refine (hasRoom_any _ _ _ (by decide)).mono ?_; rintro e wh ⟨rfl, hwh⟩; have hwh' := hwh.symm; subst hwh')
  rw [rounds_succ]
  go_wp2_with (go_at_call 15; refine (hasRoom_any _ _ _ (by decide)).mono ?_; rintro e wh ⟨rfl, hwh⟩; have hwh' := hwh.symm; subst hwh')
  rw [rounds_succ]
  go_wp2_with (go_at_call 15; refine (hasRoom_any _ _ _ (by decide)).mono ?_; rintro e wh ⟨rfl, hwh⟩; have hwh' := hwh.symm; subst hwh')
  rw [rounds_succ]
  go_wp2_with fail
  go_ret
  exact ⟨rfl, HB5.out⟩

set_option maxRecDepth 100000 in
set_option maxHeartbeats 1000000 in
theorem wcheck_no4 (i0 i2 i9 : Int) (b1 b3 b4 b5 b6 b7 b8 : Bool) (q0 a0 u0 d0 : Option Addr) (qc ac uc dc : Nat) (Q : List Qn) (A U D : List Rn) (w : World) (hl : LsAt w q0 a0 u0 d0 Q A U D) (g0 : fitsN i0 16 = true) (g2 : fitsN i2 4 = true) (g9 : fitsN i9 4 = true) (gq : fitsN (Q.length : Int) 16 = true) (ga : fitsN (A.length : Int) 16 = false) :
    Calls Try.prog 8 #[.agg #[.int .i64 i0, .bool b1, .int .i64 i2, .bool b3, .bool b4, .bool b5, .bool b6, .bool b7, .bool b8, .int .i64 i9, .slice q0 Q.length qc, .slice a0 A.length ac, .slice u0 U.length uc, .slice d0 D.length dc]] w fun e w' => e = .returned (.int .i64 8) ∧ Below w.heap.size w w' := by
  have HX : Hid (Bx (w.alloc (.cells #[.int .i64 i0, .bool b1, .int .i64 i2, .bool b3, .bool b4, .bool b5, .bool b6, .bool b7, .bool b8, .int .i64 i9, .slice q0 Q.length qc, .slice a0 A.length ac, .slice u0 U.length uc, .slice d0 D.length dc] 25)) w.heap.size #[.int .i64 i0, .bool b1, .int .i64 i2, .bool b3, .bool b4, .bool b5, .bool b6, .bool b7, .bool b8, .int .i64 i9, .slice q0 Q.length qc, .slice a0 A.length ac, .slice u0 U.length uc, .slice d0 D.length dc] 25) := World.alloc_heap_new w _
  have HB := hide' ((Below.refl w.heap.size w).alloc (Nat.le_refl _) (.cells #[.int .i64 i0, .bool b1, .int .i64 i2, .bool b3, .bool b4, .bool b5, .bool b6, .bool b7, .bool b8, .int .i64 i9, .slice q0 Q.length qc, .slice a0 A.length ac, .slice u0 U.length uc, .slice d0 D.length dc] 25))
  have HW := hide' (hl.below ((Below.refl w.heap.size w).alloc (Nat.le_refl _) (.cells #[.int .i64 i0, .bool b1, .int .i64 i2, .bool b3, .bool b4, .bool b5, .bool b6, .bool b7, .bool b8, .int .i64 i9, .slice q0 Q.length qc, .slice a0 A.length ac, .slice u0 U.length uc, .slice d0 D.length dc] 25)))
  have hx0 : ∀ W : World, Sem.run Try.prog (Instr.index 57 (.agg #[.pointer (some ⟨w.heap.size, 11, none⟩), .pointer (some ⟨w.heap.size, 12, none⟩), .pointer (some ⟨w.heap.size, 13, none⟩)]) (.int .i64 0)) W = .ok (.pointer (some ⟨w.heap.size, 11, none⟩)) W := fun W => by first | rfl | simp [go_sem, Instr.index]
  have hx1 : ∀ W : World, Sem.run Try.prog (Instr.index 57 (.agg #[.pointer (some ⟨w.heap.size, 11, none⟩), .pointer (some ⟨w.heap.size, 12, none⟩), .pointer (some ⟨w.heap.size, 13, none⟩)]) (.int .i64 1)) W = .ok (.pointer (some ⟨w.heap.size, 12, none⟩)) W := fun W => by first | rfl | simp [go_sem, Instr.index]
  have hx2 : ∀ W : World, Sem.run Try.prog (Instr.index 57 (.agg #[.pointer (some ⟨w.heap.size, 11, none⟩), .pointer (some ⟨w.heap.size, 12, none⟩), .pointer (some ⟨w.heap.size, 13, none⟩)]) (.int .i64 2)) W = .ok (.pointer (some ⟨w.heap.size, 13, none⟩)) W := fun W => by first | rfl | simp [go_sem, Instr.index]
  clear hl
  go_enter Try.func8, Try.ntmps8
  go_wp2_with (first
    | (go_at_call 15; refine (hasRoom_any _ _ _ (by decide)).mono ?_; rintro e wh ⟨rfl, hwh⟩; have hwh' := hwh.symm; subst hwh')
    | (go_at_call 16; refine (sectionsOf_any w.heap.size 0 _).mono ?_; rintro e w5 ⟨rfl, hB⟩; have HX5 : Hid (Bx w5 w.heap.size #[.int .i64 i0, .bool b1, .int .i64 i2, .bool b3, .bool b4, .bool b5, .bool b6, .bool b7, .bool b8, .int .i64 i9, .slice q0 Q.length qc, .slice a0 A.length ac, .slice u0 U.length uc, .slice d0 D.length dc] 25) := HX.out.below hB HX.out.lt; have x11 : w5.cell? ⟨w.heap.size, 11, none⟩ = some (.slice a0 A.length ac) := HX5.out.cell rfl; have x12 : w5.cell? ⟨w.heap.size, 12, none⟩ = some (.slice u0 U.length uc) := HX5.out.cell rfl; have x13 : w5.cell? ⟨w.heap.size, 13, none⟩ = some (.slice d0 D.length dc) := HX5.out.cell rfl; have HB5 := hide' (bstep HB.out hB HB.out.size); have HW5 := hide' (HW.out.below hB); clear hB))
  refine wp_loop_rounds 4 ?_
  rw [rounds_succ]
  go_wp2_with (go_at_call 15; refine (hasRoom_any _ _ _ (by decide)).mono ?_; rintro e wh ⟨rfl, hwh⟩; have hwh' := hwh.symm; subst hwh')
  rw [rounds_succ]
  go_wp2_with (go_at_call 15; refine (hasRoom_any _ _ _ (by decide)).mono ?_; rintro e wh ⟨rfl, hwh⟩; have hwh' := hwh.symm; subst hwh')
  rw [rounds_succ]
  go_wp2_with (go_at_call 15; refine (hasRoom_any _ _ _ (by decide)).mono ?_; rintro e wh ⟨rfl, hwh⟩; have hwh' := hwh.symm; subst hwh')
  rw [rounds_succ]
  go_wp2_with fail
  go_ret
  exact ⟨rfl, HB5.out⟩

set_option maxRecDepth 100000 in
set_option maxHeartbeats 1000000 in
theorem wcheck_no5 (i0 i2 i9 : Int) (b1 b3 b4 b5 b6 b7 b8 : Bool) (q0 a0 u0 d0 : Option Addr) (qc ac uc dc : Nat) (Q : List Qn) (A U D : List Rn) (w : World) (hl : LsAt w q0 a0 u0 d0 Q A U D) (g0 : fitsN i0 16 = true) (g2 : fitsN i2 4 = true) (g9 : fitsN i9 4 = true) (gq : fitsN (Q.length : Int) 16 = true) (ga : fitsN (A.length : Int) 16 = true) (gu : fitsN (U.length : Int) 16 = false) :
    Calls Try.prog 8 #[.agg #[.int .i64 i0, .bool b1, .int .i64 i2, .bool b3, .bool b4, .bool b5, .bool b6, .bool b7, .bool b8, .int .i64 i9, .slice q0 Q.length qc, .slice a0 A.length ac, .slice u0 U.length uc, .slice d0 D.length dc]] w fun e w' => e = .returned (.int .i64 8) ∧ Below w.heap.size w w' := by
  have HX : Hid (Bx (w.alloc (.cells #[.int .i64 i0, .bool b1, .int .i64 i2, .bool b3, .bool b4, .bool b5, .bool b6, .bool b7, .bool b8, .int .i64 i9, .slice q0 Q.length qc, .slice a0 A.length ac, .slice u0 U.length uc, .slice d0 D.length dc] 25)) w.heap.size #[.int .i64 i0, .bool b1, .int .i64 i2, .bool b3, .bool b4, .bool b5, .bool b6, .bool b7, .bool b8, .int .i64 i9, .slice q0 Q.length qc, .slice a0 A.length ac, .slice u0 U.length uc, .slice d0 D.length dc] 25) := World.alloc_heap_new w _
  have HB := hide' ((Below.refl w.heap.size w).alloc (Nat.le_refl _) (.cells #[.int .i64 i0, .bool b1, .int .i64 i2, .bool b3, .bool b4, .bool b5, .bool b6, .bool b7, .bool b8, .int .i64 i9, .slice q0 Q.length qc, .slice a0 A.length ac, .slice u0 U.length uc, .slice d0 D.length dc] 25))
  have HW := hide' (hl.below ((Below.refl w.heap.size w).alloc (Nat.le_refl _) (.cells #[.int .i64 i0, .bool b1, .int .i64 i2, .bool b3, .bool b4, .bool b5, .bool b6, .bool b7, .bool b8, .int .i64 i9, .slice q0 Q.length qc, .slice a0 A.length ac, .slice u0 U.length uc, .slice d0 D.length dc] 25)))
  have hx0 : ∀ W : World, Sem.run Try.prog (Instr.index 57 (.agg #[.pointer (some ⟨w.heap.size, 11, none⟩), .pointer (some ⟨w.heap.size, 12, none⟩), .pointer (some ⟨w.heap.size, 13, none⟩)]) (.int .i64 0)) W = .ok (.pointer (some ⟨w.heap.size, 11, none⟩)) W := fun W => by first | rfl | simp [go_sem, Instr.index]
  have hx1 : ∀ W : World, Sem.run Try.prog (Instr.index 57 (.agg #[.pointer (some ⟨w.heap.size, 11, none⟩), .pointer (some ⟨w.heap.size, 12, none⟩), .pointer (some ⟨w.heap.size, 13, none⟩)]) (.int .i64 1)) W = .ok (.pointer (some ⟨w.heap.size, 12, none⟩)) W := fun W => by first | rfl | simp [go_sem, Instr.index]
  have hx2 : ∀ W : World, Sem.run Try.prog (Instr.index 57 (.agg #[.pointer (some ⟨w.heap.size, 11, none⟩), .pointer (some ⟨w.heap.size, 12, none⟩), .pointer (some ⟨w.heap.size, 13, none⟩)]) (.int .i64 2)) W = .ok (.pointer (some ⟨w.heap.size, 13, none⟩)) W := fun W => by first | rfl | simp [go_sem, Instr.index]
  clear hl
  go_enter Try.func8, Try.ntmps8
  go_wp2_with (first
    | (go_at_call 15; refine (hasRoom_any _ _ _ (by decide)).mono ?_; rintro e wh ⟨rfl, hwh⟩; have hwh' := hwh.symm; subst hwh')
    | (go_at_call 16; refine (sectionsOf_any w.heap.size 0 _).mono ?_; rintro e w5 ⟨rfl, hB⟩; have HX5 : Hid (Bx w5 w.heap.size #[.int .i64 i0, .bool b1, .int .i64 i2, .bool b3, .bool b4, .bool b5, .bool b6, .bool b7, .bool b8, .int .i64 i9, .slice q0 Q.length qc, .slice a0 A.length ac, .slice u0 U.length uc, .slice d0 D.length dc] 25) := HX.out.below hB HX.out.lt; have x11 : w5.cell? ⟨w.heap.size, 11, none⟩ = some (.slice a0 A.length ac) := HX5.out.cell rfl; have x12 : w5.cell? ⟨w.heap.size, 12, none⟩ = some (.slice u0 U.length uc) := HX5.out.cell rfl; have x13 : w5.cell? ⟨w.heap.size, 13, none⟩ = some (.slice d0 D.length dc) := HX5.out.cell rfl; have HB5 := hide' (bstep HB.out hB HB.out.size); have HW5 := hide' (HW.out.below hB); clear hB))
  refine wp_loop_rounds 4 ?_
  rw [rounds_succ]
  go_wp2_with (go_at_call 15; refine (hasRoom_any _ _ _ (by decide)).mono ?_; rintro e wh ⟨rfl, hwh⟩; have hwh' := hwh.symm; subst hwh')
  rw [rounds_succ]
  go_wp2_with (go_at_call 15; refine (hasRoom_any _ _ _ (by decide)).mono ?_; rintro e wh ⟨rfl, hwh⟩; have hwh' := hwh.symm; subst hwh')
  rw [rounds_succ]
  go_wp2_with (go_at_call 15; refine (hasRoom_any _ _ _ (by decide)).mono ?_; rintro e wh ⟨rfl, hwh⟩; have hwh' := hwh.symm; subst hwh')
  rw [rounds_succ]
  go_wp2_with fail
  go_ret
  exact ⟨rfl, HB5.out⟩

set_option maxRecDepth 100000 in
set_option maxHeartbeats 1000000 in
theorem wcheck_no6 (i0 i2 i9 : Int) (b1 b3 b4 b5 b6 b7 b8 : Bool) (q0 a0 u0 d0 : Option Addr) (qc ac uc dc : Nat) (Q : List Qn) (A U D : List Rn) (w : World) (hl : LsAt w q0 a0 u0 d0 Q A U D) (g0 : fitsN i0 16 = true) (g2 : fitsN i2 4 = true) (g9 : fitsN i9 4 = true) (gq : fitsN (Q.length : Int) 16 = true) (ga : fitsN (A.length : Int) 16 = true) (gu : fitsN (U.length : Int) 16 = true) (gd : fitsN (D.length : Int) 16 = false) :
    Calls Try.prog 8 #[.agg #[.int .i64 i0, .bool b1, .int .i64 i2, .bool b3, .bool b4, .bool b5, .bool b6, .bool b7, .bool b8, .int .i64 i9, .slice q0 Q.length qc, .slice a0 A.length ac, .slice u0 U.length uc, .slice d0 D.length dc]] w fun e w' => e = .returned (.int .i64 8) ∧ Below w.heap.size w w' := by
  have HX : Hid (Bx (w.alloc (.cells #[.int .i64 i0, .bool b1, .int .i64 i2, .bool b3, .bool b4, .bool b5, .bool b6, .bool b7, .bool b8, .int .i64 i9, .slice q0 Q.length qc, .slice a0 A.length ac, .slice u0 U.length uc, .slice d0 D.length dc] 25)) w.heap.size #[.int .i64 i0, .bool b1, .int .i64 i2, .bool b3, .bool b4, .bool b5, .bool b6, .bool b7, .bool b8, .int .i64 i9, .slice q0 Q.length qc, .slice a0 A.length ac, .slice u0 U.length uc, .slice d0 D.length dc] 25) := World.alloc_heap_new w _
  have HB := hide' ((Below.refl w.heap.size w).alloc (Nat.le_refl _) (.cells #[.int .i64 i0, .bool b1, .int .i64 i2, .bool b3, .bool b4, .bool b5, .bool b6, .bool b7, .bool b8, .int .i64 i9, .slice q0 Q.length qc, .slice a0 A.length ac, .slice u0 U.length uc, .slice d0 D.length dc] 25))
  have HW := hide' (hl.below ((Below.refl w.heap.size w).alloc (Nat.le_refl _) (.cells #[.int .i64 i0, .bool b1, .int .i64 i2, .bool b3, .bool b4, .bool b5, .bool b6, .bool b7, .bool b8, .int .i64 i9, .slice q0 Q.length qc, .slice a0 A.length ac, .slice u0 U.length uc, .slice d0 D.length dc] 25)))
  have hx0 : ∀ W : World, Sem.run Try.prog (Instr.index 57 (.agg #[.pointer (some ⟨w.heap.size, 11, none⟩), .pointer (some ⟨w.heap.size, 12, none⟩), .pointer (some ⟨w.heap.size, 13, none⟩)]) (.int .i64 0)) W = .ok (.pointer (some ⟨w.heap.size, 11, none⟩)) W := fun W => by first | rfl | simp [go_sem, Instr.index]
  have hx1 : ∀ W : World, Sem.run Try.prog (Instr.index 57 (.agg #[.pointer (some ⟨w.heap.size, 11, none⟩), .pointer (some ⟨w.heap.size, 12, none⟩), .pointer (some ⟨w.heap.size, 13, none⟩)]) (.int .i64 1)) W = .ok (.pointer (some ⟨w.heap.size, 12, none⟩)) W := fun W => by first | rfl | simp [go_sem, Instr.index]
  have hx2 : ∀ W : World, Sem.run Try.prog (Instr.index 57 (.agg #[.pointer (some ⟨w.heap.size, 11, none⟩), .pointer (some ⟨w.heap.size, 12, none⟩), .pointer (some ⟨w.heap.size, 13, none⟩)]) (.int .i64 2)) W = .ok (.pointer (some ⟨w.heap.size, 13, none⟩)) W := fun W => by first | rfl | simp [go_sem, Instr.index]
  clear hl
  go_enter Try.func8, Try.ntmps8
  go_wp2_with (first
    | (go_at_call 15; refine (hasRoom_any _ _ _ (by decide)).mono ?_; rintro e wh ⟨rfl, hwh⟩; have hwh' := hwh.symm; subst hwh')
    | (go_at_call 16; refine (sectionsOf_any w.heap.size 0 _).mono ?_; rintro e w5 ⟨rfl, hB⟩; have HX5 : Hid (Bx w5 w.heap.size #[.int .i64 i0, .bool b1, .int .i64 i2, .bool b3, .bool b4, .bool b5, .bool b6, .bool b7, .bool b8, .int .i64 i9, .slice q0 Q.length qc, .slice a0 A.length ac, .slice u0 U.length uc, .slice d0 D.length dc] 25) := HX.out.below hB HX.out.lt; have x11 : w5.cell? ⟨w.heap.size, 11, none⟩ = some (.slice a0 A.length ac) := HX5.out.cell rfl; have x12 : w5.cell? ⟨w.heap.size, 12, none⟩ = some (.slice u0 U.length uc) := HX5.out.cell rfl; have x13 : w5.cell? ⟨w.heap.size, 13, none⟩ = some (.slice d0 D.length dc) := HX5.out.cell rfl; have HB5 := hide' (bstep HB.out hB HB.out.size); have HW5 := hide' (HW.out.below hB); clear hB))
  refine wp_loop_rounds 4 ?_
  rw [rounds_succ]
  go_wp2_with (go_at_call 15; refine (hasRoom_any _ _ _ (by decide)).mono ?_; rintro e wh ⟨rfl, hwh⟩; have hwh' := hwh.symm; subst hwh')
  rw [rounds_succ]
  go_wp2_with (go_at_call 15; refine (hasRoom_any _ _ _ (by decide)).mono ?_; rintro e wh ⟨rfl, hwh⟩; have hwh' := hwh.symm; subst hwh')
  rw [rounds_succ]
  go_wp2_with (go_at_call 15; refine (hasRoom_any _ _ _ (by decide)).mono ?_; rintro e wh ⟨rfl, hwh⟩; have hwh' := hwh.symm; subst hwh')
  rw [rounds_succ]
  go_wp2_with fail
  go_ret
  exact ⟨rfl, HB5.out⟩

set_option maxRecDepth 100000 in
set_option maxHeartbeats 1000000 in
theorem wcheck_parts_false (i0 i2 i9 : Int) (b1 b3 b4 b5 b6 b7 b8 : Bool) (q0 a0 u0 d0 : Option Addr) (qc ac uc dc : Nat) (Q : List Qn) (A U D : List Rn) (w : World) (hl : LsAt w q0 a0 u0 d0 Q A U D) (g0 : fitsN i0 16 = true) (g2 : fitsN i2 4 = true) (g9 : fitsN i9 4 = true) (gq : fitsN (Q.length : Int) 16 = true) (ga : fitsN (A.length : Int) 16 = true) (gu : fitsN (U.length : Int) 16 = true) (gd : fitsN (D.length : Int) 16 = true) (gl : lstOK Q A U D = false) :
    Calls Try.prog 8 #[.agg #[.int .i64 i0, .bool b1, .int .i64 i2, .bool b3, .bool b4, .bool b5, .bool b6, .bool b7, .bool b8, .int .i64 i9, .slice q0 Q.length qc, .slice a0 A.length ac, .slice u0 U.length uc, .slice d0 D.length dc]] w fun e w' => e = .returned (.int .i64 8) ∧ Below w.heap.size w w' := by
  have hlq : Q.length ≤ 65535 := of_decide_eq_true ((fitsN_len _).symm.trans gq)
  have hla : A.length ≤ 65535 := of_decide_eq_true ((fitsN_len _).symm.trans ga)
  have hlu : U.length ≤ 65535 := of_decide_eq_true ((fitsN_len _).symm.trans gu)
  have hld : D.length ≤ 65535 := of_decide_eq_true ((fitsN_len _).symm.trans gd)
  have HX : Hid (Bx (w.alloc (.cells #[.int .i64 i0, .bool b1, .int .i64 i2, .bool b3, .bool b4, .bool b5, .bool b6, .bool b7, .bool b8, .int .i64 i9, .slice q0 Q.length qc, .slice a0 A.length ac, .slice u0 U.length uc, .slice d0 D.length dc] 25)) w.heap.size #[.int .i64 i0, .bool b1, .int .i64 i2, .bool b3, .bool b4, .bool b5, .bool b6, .bool b7, .bool b8, .int .i64 i9, .slice q0 Q.length qc, .slice a0 A.length ac, .slice u0 U.length uc, .slice d0 D.length dc] 25) := World.alloc_heap_new w _
  have HB := hide' ((Below.refl w.heap.size w).alloc (Nat.le_refl _) (.cells #[.int .i64 i0, .bool b1, .int .i64 i2, .bool b3, .bool b4, .bool b5, .bool b6, .bool b7, .bool b8, .int .i64 i9, .slice q0 Q.length qc, .slice a0 A.length ac, .slice u0 U.length uc, .slice d0 D.length dc] 25))
  have HW := hide' (hl.below ((Below.refl w.heap.size w).alloc (Nat.le_refl _) (.cells #[.int .i64 i0, .bool b1, .int .i64 i2, .bool b3, .bool b4, .bool b5, .bool b6, .bool b7, .bool b8, .int .i64 i9, .slice q0 Q.length qc, .slice a0 A.length ac, .slice u0 U.length uc, .slice d0 D.length dc] 25)))
  have hx0 : ∀ W : World, Sem.run Try.prog (Instr.index 57 (.agg #[.pointer (some ⟨w.heap.size, 11, none⟩), .pointer (some ⟨w.heap.size, 12, none⟩), .pointer (some ⟨w.heap.size, 13, none⟩)]) (.int .i64 0)) W = .ok (.pointer (some ⟨w.heap.size, 11, none⟩)) W := fun W => by first | rfl | simp [go_sem, Instr.index]
  have hx1 : ∀ W : World, Sem.run Try.prog (Instr.index 57 (.agg #[.pointer (some ⟨w.heap.size, 11, none⟩), .pointer (some ⟨w.heap.size, 12, none⟩), .pointer (some ⟨w.heap.size, 13, none⟩)]) (.int .i64 1)) W = .ok (.pointer (some ⟨w.heap.size, 12, none⟩)) W := fun W => by first | rfl | simp [go_sem, Instr.index]
  have hx2 : ∀ W : World, Sem.run Try.prog (Instr.index 57 (.agg #[.pointer (some ⟨w.heap.size, 11, none⟩), .pointer (some ⟨w.heap.size, 12, none⟩), .pointer (some ⟨w.heap.size, 13, none⟩)]) (.int .i64 2)) W = .ok (.pointer (some ⟨w.heap.size, 13, none⟩)) W := fun W => by first | rfl | simp [go_sem, Instr.index]
  clear hl
  go_enter Try.func8, Try.ntmps8
  go_wp2_with (first
    | (go_at_call 15; refine (hasRoom_any _ _ _ (by decide)).mono ?_; rintro e wh ⟨rfl, hwh⟩; have hwh' := hwh.symm; subst hwh')
    | (go_at_call 16; refine (sectionsOf_any w.heap.size 0 _).mono ?_; rintro e w5 ⟨rfl, hB⟩; have HX5 : Hid (Bx w5 w.heap.size #[.int .i64 i0, .bool b1, .int .i64 i2, .bool b3, .bool b4, .bool b5, .bool b6, .bool b7, .bool b8, .int .i64 i9, .slice q0 Q.length qc, .slice a0 A.length ac, .slice u0 U.length uc, .slice d0 D.length dc] 25) := HX.out.below hB HX.out.lt; have x11 : w5.cell? ⟨w.heap.size, 11, none⟩ = some (.slice a0 A.length ac) := HX5.out.cell rfl; have x12 : w5.cell? ⟨w.heap.size, 12, none⟩ = some (.slice u0 U.length uc) := HX5.out.cell rfl; have x13 : w5.cell? ⟨w.heap.size, 13, none⟩ = some (.slice d0 D.length dc) := HX5.out.cell rfl; have HB5 := hide' (bstep HB.out hB HB.out.size); have HW5 := hide' (HW.out.below hB); clear hB))
  refine wp_loop_rounds 4 ?_
  rw [rounds_succ]
  go_wp2_with (go_at_call 15; refine (hasRoom_any _ _ _ (by decide)).mono ?_; rintro e wh ⟨rfl, hwh⟩; have hwh' := hwh.symm; subst hwh')
  rw [rounds_succ]
  go_wp2_with (go_at_call 15; refine (hasRoom_any _ _ _ (by decide)).mono ?_; rintro e wh ⟨rfl, hwh⟩; have hwh' := hwh.symm; subst hwh')
  rw [rounds_succ]
  go_wp2_with (go_at_call 15; refine (hasRoom_any _ _ _ (by decide)).mono ?_; rintro e wh ⟨rfl, hwh⟩; have hwh' := hwh.symm; subst hwh')
  rw [rounds_succ]
  go_wp2_with (go_at_call 17; refine (rightParts_any w.heap.size q0 a0 u0 d0 qc ac uc dc Q A U D _ HX5.out.lt (HX5.out.cell rfl) (HX5.out.cell rfl) (HX5.out.cell rfl) (HX5.out.cell rfl) HW5.out hlq hla hlu hld).mono ?_; rintro e w7 ⟨rfl, hB⟩; have HB7 := hide' (bstep HB5.out hB HB5.out.size); clear hB)
  go_ret
  exact ⟨rfl, HB7.out⟩

set_option maxRecDepth 100000 in
set_option maxHeartbeats 1000000 in
theorem wcheck_parts_true (i0 i2 i9 : Int) (b1 b3 b4 b5 b6 b7 b8 : Bool) (q0 a0 u0 d0 : Option Addr) (qc ac uc dc : Nat) (Q : List Qn) (A U D : List Rn) (w : World) (hl : LsAt w q0 a0 u0 d0 Q A U D) (g0 : fitsN i0 16 = true) (g2 : fitsN i2 4 = true) (g9 : fitsN i9 4 = true) (gq : fitsN (Q.length : Int) 16 = true) (ga : fitsN (A.length : Int) 16 = true) (gu : fitsN (U.length : Int) 16 = true) (gd : fitsN (D.length : Int) 16 = true) (gl : lstOK Q A U D = true) :
    Calls Try.prog 8 #[.agg #[.int .i64 i0, .bool b1, .int .i64 i2, .bool b3, .bool b4, .bool b5, .bool b6, .bool b7, .bool b8, .int .i64 i9, .slice q0 Q.length qc, .slice a0 A.length ac, .slice u0 U.length uc, .slice d0 D.length dc]] w fun e w' => e = .returned (.int .i64 0) ∧ Below w.heap.size w w' := by
  have hlq : Q.length ≤ 65535 := of_decide_eq_true ((fitsN_len _).symm.trans gq)
  have hla : A.length ≤ 65535 := of_decide_eq_true ((fitsN_len _).symm.trans ga)
  have hlu : U.length ≤ 65535 := of_decide_eq_true ((fitsN_len _).symm.trans gu)
  have hld : D.length ≤ 65535 := of_decide_eq_true ((fitsN_len _).symm.trans gd)
  have HX : Hid (Bx (w.alloc (.cells #[.int .i64 i0, .bool b1, .int .i64 i2, .bool b3, .bool b4, .bool b5, .bool b6, .bool b7, .bool b8, .int .i64 i9, .slice q0 Q.length qc, .slice a0 A.length ac, .slice u0 U.length uc, .slice d0 D.length dc] 25)) w.heap.size #[.int .i64 i0, .bool b1, .int .i64 i2, .bool b3, .bool b4, .bool b5, .bool b6, .bool b7, .bool b8, .int .i64 i9, .slice q0 Q.length qc, .slice a0 A.length ac, .slice u0 U.length uc, .slice d0 D.length dc] 25) := World.alloc_heap_new w _
  have HB := hide' ((Below.refl w.heap.size w).alloc (Nat.le_refl _) (.cells #[.int .i64 i0, .bool b1, .int .i64 i2, .bool b3, .bool b4, .bool b5, .bool b6, .bool b7, .bool b8, .int .i64 i9, .slice q0 Q.length qc, .slice a0 A.length ac, .slice u0 U.length uc, .slice d0 D.length dc] 25))
  have HW := hide' (hl.below ((Below.refl w.heap.size w).alloc (Nat.le_refl _) (.cells #[.int .i64 i0, .bool b1, .int .i64 i2, .bool b3, .bool b4, .bool b5, .bool b6, .bool b7, .bool b8, .int .i64 i9, .slice q0 Q.length qc, .slice a0 A.length ac, .slice u0 U.length uc, .slice d0 D.length dc] 25)))
  have hx0 : ∀ W : World, Sem.run Try.prog (Instr.index 57 (.agg #[.pointer (some ⟨w.heap.size, 11, none⟩), .pointer (some ⟨w.heap.size, 12, none⟩), .pointer (some ⟨w.heap.size, 13, none⟩)]) (.int .i64 0)) W = .ok (.pointer (some ⟨w.heap.size, 11, none⟩)) W := fun W => by first | rfl | simp [go_sem, Instr.index]
  have hx1 : ∀ W : World, Sem.run Try.prog (Instr.index 57 (.agg #[.pointer (some ⟨w.heap.size, 11, none⟩), .pointer (some ⟨w.heap.size, 12, none⟩), .pointer (some ⟨w.heap.size, 13, none⟩)]) (.int .i64 1)) W = .ok (.pointer (some ⟨w.heap.size, 12, none⟩)) W := fun W => by first | rfl | simp [go_sem, Instr.index]
  have hx2 : ∀ W : World, Sem.run Try.prog (Instr.index 57 (.agg #[.pointer (some ⟨w.heap.size, 11, none⟩), .pointer (some ⟨w.heap.size, 12, none⟩), .pointer (some ⟨w.heap.size, 13, none⟩)]) (.int .i64 2)) W = .ok (.pointer (some ⟨w.heap.size, 13, none⟩)) W := fun W => by first | rfl | simp [go_sem, Instr.index]
  clear hl
  go_enter Try.func8, Try.ntmps8
  go_wp2_with (first
    | (go_at_call 15; refine (hasRoom_any _ _ _ (by decide)).mono ?_; rintro e wh ⟨rfl, hwh⟩; have hwh' := hwh.symm; subst hwh')
    | (go_at_call 16; refine (sectionsOf_any w.heap.size 0 _).mono ?_; rintro e w5 ⟨rfl, hB⟩; have HX5 : Hid (Bx w5 w.heap.size #[.int .i64 i0, .bool b1, .int .i64 i2, .bool b3, .bool b4, .bool b5, .bool b6, .bool b7, .bool b8, .int .i64 i9, .slice q0 Q.length qc, .slice a0 A.length ac, .slice u0 U.length uc, .slice d0 D.length dc] 25) := HX.out.below hB HX.out.lt; have x11 : w5.cell? ⟨w.heap.size, 11, none⟩ = some (.slice a0 A.length ac) := HX5.out.cell rfl; have x12 : w5.cell? ⟨w.heap.size, 12, none⟩ = some (.slice u0 U.length uc) := HX5.out.cell rfl; have x13 : w5.cell? ⟨w.heap.size, 13, none⟩ = some (.slice d0 D.length dc) := HX5.out.cell rfl; have HB5 := hide' (bstep HB.out hB HB.out.size); have HW5 := hide' (HW.out.below hB); clear hB))
  refine wp_loop_rounds 4 ?_
  rw [rounds_succ]
  go_wp2_with (go_at_call 15; refine (hasRoom_any _ _ _ (by decide)).mono ?_; rintro e wh ⟨rfl, hwh⟩; have hwh' := hwh.symm; subst hwh')
  rw [rounds_succ]
  go_wp2_with (go_at_call 15; refine (hasRoom_any _ _ _ (by decide)).mono ?_; rintro e wh ⟨rfl, hwh⟩; have hwh' := hwh.symm; subst hwh')
  rw [rounds_succ]
  go_wp2_with (go_at_call 15; refine (hasRoom_any _ _ _ (by decide)).mono ?_; rintro e wh ⟨rfl, hwh⟩; have hwh' := hwh.symm; subst hwh')
  rw [rounds_succ]
  go_wp2_with (go_at_call 17; refine (rightParts_any w.heap.size q0 a0 u0 d0 qc ac uc dc Q A U D _ HX5.out.lt (HX5.out.cell rfl) (HX5.out.cell rfl) (HX5.out.cell rfl) (HX5.out.cell rfl) HW5.out hlq hla hlu hld).mono ?_; rintro e w7 ⟨rfl, hB⟩; have HB7 := hide' (bstep HB5.out hB HB5.out.size); clear hB)
  go_ret
  exact ⟨rfl, HB7.out⟩

/-- wire.Check -/
theorem wcheck_any (i0 i2 i9 : Int) (b1 b3 b4 b5 b6 b7 b8 : Bool) (q0 a0 u0 d0 : Option Addr) (qc ac uc dc : Nat) (Q : List Qn) (A U D : List Rn) (w : World) (hl : LsAt w q0 a0 u0 d0 Q A U D) :
    Calls Try.prog 8 #[.agg #[.int .i64 i0, .bool b1, .int .i64 i2, .bool b3, .bool b4, .bool b5, .bool b6, .bool b7, .bool b8, .int .i64 i9, .slice q0 Q.length qc, .slice a0 A.length ac, .slice u0 U.length uc, .slice d0 D.length dc]] w fun e w' => e = .returned (.int .i64 (if msgOK i0 i2 i9 Q A U D = true then 0 else 8)) ∧ Below w.heap.size w w' := by
  have hno : msgOK i0 i2 i9 Q A U D = false → (Calls Try.prog 8 #[.agg #[.int .i64 i0, .bool b1, .int .i64 i2, .bool b3, .bool b4, .bool b5, .bool b6, .bool b7, .bool b8, .int .i64 i9, .slice q0 Q.length qc, .slice a0 A.length ac, .slice u0 U.length uc, .slice d0 D.length dc]] w fun e w' => e = .returned (.int .i64 8) ∧ Below w.heap.size w w') → Calls Try.prog 8 #[.agg #[.int .i64 i0, .bool b1, .int .i64 i2, .bool b3, .bool b4, .bool b5, .bool b6, .bool b7, .bool b8, .int .i64 i9, .slice q0 Q.length qc, .slice a0 A.length ac, .slice u0 U.length uc, .slice d0 D.length dc]] w fun e w' => e = .returned (.int .i64 (if msgOK i0 i2 i9 Q A U D = true then 0 else 8)) ∧ Below w.heap.size w w' := fun h1 h2 => by
    rw [if_neg (by rw [h1]; decide)]; exact h2
  have hm : msgOK i0 i2 i9 Q A U D = (fitsN i0 16 && fitsN i2 4 && fitsN i9 4 && fitsN (Q.length : Int) 16 && fitsN (A.length : Int) 16 && fitsN (U.length : Int) 16 && fitsN (D.length : Int) 16 && lstOK Q A U D) := by
    unfold msgOK; rw [fitsN_len, fitsN_len, fitsN_len, fitsN_len]
  cases g0 : fitsN i0 16 with
  | false => exact hno (by rw [hm, g0]; simp) (wcheck_no0 i0 i2 i9 b1 b3 b4 b5 b6 b7 b8 q0 a0 u0 d0 qc ac uc dc Q A U D w hl g0)
  | true =>
    cases g2 : fitsN i2 4 with
    | false => exact hno (by rw [hm, g0, g2]; simp) (wcheck_no1 i0 i2 i9 b1 b3 b4 b5 b6 b7 b8 q0 a0 u0 d0 qc ac uc dc Q A U D w hl g0 g2)
    | true =>
      cases g9 : fitsN i9 4 with
      | false => exact hno (by rw [hm, g0, g2, g9]; simp) (wcheck_no2 i0 i2 i9 b1 b3 b4 b5 b6 b7 b8 q0 a0 u0 d0 qc ac uc dc Q A U D w hl g0 g2 g9)
      | true =>
        cases gq : fitsN (Q.length : Int) 16 with
        | false => exact hno (by rw [hm, g0, g2, g9, gq]; simp) (wcheck_no3 i0 i2 i9 b1 b3 b4 b5 b6 b7 b8 q0 a0 u0 d0 qc ac uc dc Q A U D w hl g0 g2 g9 gq)
        | true =>
          cases ga : fitsN (A.length : Int) 16 with
          | false => exact hno (by rw [hm, g0, g2, g9, gq, ga]; simp) (wcheck_no4 i0 i2 i9 b1 b3 b4 b5 b6 b7 b8 q0 a0 u0 d0 qc ac uc dc Q A U D w hl g0 g2 g9 gq ga)
          | true =>
            cases gu : fitsN (U.length : Int) 16 with
            | false => exact hno (by rw [hm, g0, g2, g9, gq, ga, gu]; simp) (wcheck_no5 i0 i2 i9 b1 b3 b4 b5 b6 b7 b8 q0 a0 u0 d0 qc ac uc dc Q A U D w hl g0 g2 g9 gq ga gu)
            | true =>
              cases gd : fitsN (D.length : Int) 16 with
              | false => exact hno (by rw [hm, g0, g2, g9, gq, ga, gu, gd]; simp) (wcheck_no6 i0 i2 i9 b1 b3 b4 b5 b6 b7 b8 q0 a0 u0 d0 qc ac uc dc Q A U D w hl g0 g2 g9 gq ga gu gd)
              | true =>
                cases gl : lstOK Q A U D with
                | false => exact hno (by rw [hm, gl]; simp) (wcheck_parts_false i0 i2 i9 b1 b3 b4 b5 b6 b7 b8 q0 a0 u0 d0 qc ac uc dc Q A U D w hl g0 g2 g9 gq ga gu gd gl)
                | true =>
                  rw [if_pos (by rw [hm, g0, g2, g9, gq, ga, gu, gd, gl]; rfl)]
                  exact wcheck_parts_true i0 i2 i9 b1 b3 b4 b5 b6 b7 b8 q0 a0 u0 d0 qc ac uc dc Q A U D w hl g0 g2 g9 gq ga gu gd gl
end Go.Proofs.Ytlgogddobjkngaa
