import Derived.Test.YtjnmbgmdkkiidaaGreatPk11G
namespace Go.Proofs.YtjnmbgmdkkiidaaGreat
set_option linter.unusedVariables false
open Go.RowKit Go.Shelf Go.Maps Go.Proofs.YtjnmbgmdkkiidaaGreat.Nm

set_option maxRecDepth 100000 in
set_option maxHeartbeats 1000000 in
theorem wcheck_no0 (i0 i2 i9 : Int) (b1 b3 b4 b5 b6 b7 b8 : Bool) (q0 a0 u0 d0 : Option Addr) (qc ac uc dc : Nat) (Q : List Qn) (A U D : List Rn) (w : World) (hl : LsAt w q0 a0 u0 d0 Q A U D) (g0 : fitsN i0 16 = false) :
    Calls Tryz.prog 10 #[.agg #[.int .i64 i0, .bool b1, .int .i64 i2, .bool b3, .bool b4, .bool b5, .bool b6, .bool b7, .bool b8, .int .i64 i9, .slice q0 Q.length qc, .slice a0 A.length ac, .slice u0 U.length uc, .slice d0 D.length dc]] w fun e w' => e = .returned (.int .i64 8) ∧ Below w.heap.size w w' := by
  have HX : Hid (Bx (w.alloc (.cells #[.int .i64 i0, .bool b1, .int .i64 i2, .bool b3, .bool b4, .bool b5, .bool b6, .bool b7, .bool b8, .int .i64 i9, .slice q0 Q.length qc, .slice a0 A.length ac, .slice u0 U.length uc, .slice d0 D.length dc] 25)) w.heap.size #[.int .i64 i0, .bool b1, .int .i64 i2, .bool b3, .bool b4, .bool b5, .bool b6, .bool b7, .bool b8, .int .i64 i9, .slice q0 Q.length qc, .slice a0 A.length ac, .slice u0 U.length uc, .slice d0 D.length dc] 25) := World.alloc_heap_new w _
  have HB := hide' ((Below.refl w.heap.size w).alloc (Nat.le_refl _) (.cells #[.int .i64 i0, .bool b1, .int .i64 i2, .bool b3, .bool b4, .bool b5, .bool b6, .bool b7, .bool b8, .int .i64 i9, .slice q0 Q.length qc, .slice a0 A.length ac, .slice u0 U.length uc, .slice d0 D.length dc] 25))
  have HW := hide' (hl.below ((Below.refl w.heap.size w).alloc (Nat.le_refl _) (.cells #[.int .i64 i0, .bool b1, .int .i64 i2, .bool b3, .bool b4, .bool b5, .bool b6, .bool b7, .bool b8, .int .i64 i9, .slice q0 Q.length qc, .slice a0 A.length ac, .slice u0 U.length uc, .slice d0 D.length dc] 25)))
  have hx0 : ∀ W : World, Sem.run Tryz.prog (Instr.index 65 (.agg #[.pointer (some ⟨w.heap.size, 11, none⟩), .pointer (some ⟨w.heap.size, 12, none⟩), .pointer (some ⟨w.heap.size, 13, none⟩)]) (.int .i64 0)) W = .ok (.pointer (some ⟨w.heap.size, 11, none⟩)) W := fun W => by first | rfl | simp [go_sem, Instr.index]
  have hx1 : ∀ W : World, Sem.run Tryz.prog (Instr.index 65 (.agg #[.pointer (some ⟨w.heap.size, 11, none⟩), .pointer (some ⟨w.heap.size, 12, none⟩), .pointer (some ⟨w.heap.size, 13, none⟩)]) (.int .i64 1)) W = .ok (.pointer (some ⟨w.heap.size, 12, none⟩)) W := fun W => by first | rfl | simp [go_sem, Instr.index]
  have hx2 : ∀ W : World, Sem.run Tryz.prog (Instr.index 65 (.agg #[.pointer (some ⟨w.heap.size, 11, none⟩), .pointer (some ⟨w.heap.size, 12, none⟩), .pointer (some ⟨w.heap.size, 13, none⟩)]) (.int .i64 2)) W = .ok (.pointer (some ⟨w.heap.size, 13, none⟩)) W := fun W => by first | rfl | simp [go_sem, Instr.index]
  clear hl
  go_enter Tryz.func10, Tryz.ntmps10
  go_wp2_with (first
    | (go_at_call 27; refine (hasRoom_any _ _ _ (by decide)).mono ?_; rintro e wh ⟨rfl, hwh⟩; have hwh' := hwh.symm; subst hwh')
    | (go_at_call 28; refine (sectionsOf_any w.heap.size 0 _).mono ?_; rintro e w5 ⟨rfl, hB⟩; have HX5 : Hid (Bx w5 w.heap.size #[.int .i64 i0, .bool b1, .int .i64 i2, .bool b3, .bool b4, .bool b5, .bool b6, .bool b7, .bool b8, .int .i64 i9, .slice q0 Q.length qc, .slice a0 A.length ac, .slice u0 U.length uc, .slice d0 D.length dc] 25) := HX.out.below hB HX.out.lt; have x11 : w5.cell? ⟨w.heap.size, 11, none⟩ = some (.slice a0 A.length ac) := HX5.out.cell rfl; have x12 : w5.cell? ⟨w.heap.size, 12, none⟩ = some (.slice u0 U.length uc) := HX5.out.cell rfl; have x13 : w5.cell? ⟨w.heap.size, 13, none⟩ = some (.slice d0 D.length dc) := HX5.out.cell rfl; have HB5 := hide' (bstep HB.out hB HB.out.size); have HW5 := hide' (HW.out.below hB); clear hB))
  refine wp_loop_rounds 4 ?_
  rw [rounds_succ]
  go_wp2_with (go_at_call 27; refine (hasRoom_any _ _ _ (by decide)).mono ?_; rintro e wh ⟨rfl, hwh⟩; have hwh' := hwh.symm; subst hwh')
  rw [rounds_succ]
  go_wp2_with (go_at_call 27; refine (hasRoom_any _ _ _ (by decide)).mono ?_; rintro e wh ⟨rfl, hwh⟩; have hwh' := hwh.symm; subst hwh')
  rw [rounds_succ]
  go_wp2_with (go_at_call 27; refine (hasRoom_any _ _ _ (by decide)).mono ?_; rintro e wh ⟨rfl, hwh⟩; have hwh' := hwh.symm; subst hwh')
  rw [rounds_succ]
  go_wp2_with fail
  go_ret
  exact ⟨rfl, HB5.out⟩

set_option maxRecDepth 100000 in
set_option maxHeartbeats 1000000 in
theorem wcheck_no1 (i0 i2 i9 : Int) (b1 b3 b4 b5 b6 b7 b8 : Bool) (q0 a0 u0 d0 : Option Addr) (qc ac uc dc : Nat) (Q : List Qn) (A U D : List Rn) (w : World) (hl : LsAt w q0 a0 u0 d0 Q A U D) (g0 : fitsN i0 16 = true) (g2 : fitsN i2 4 = false) :
    Calls Tryz.prog 10 #[.agg #[.int .i64 i0, .bool b1, .int .i64 i2, .bool b3, .bool b4, .bool b5, .bool b6, .bool b7, .bool b8, .int .i64 i9, .slice q0 Q.length qc, .slice a0 A.length ac, .slice u0 U.length uc, .slice d0 D.length dc]] w fun e w' => e = .returned (.int .i64 8) ∧ Below w.heap.size w w' := by
  have HX : Hid (Bx (w.alloc (.cells #[.int .i64 i0, .bool b1, .int .i64 i2, .bool b3, .bool b4, .bool b5, .bool b6, .bool b7, .bool b8, .int .i64 i9, .slice q0 Q.length qc, .slice a0 A.length ac, .slice u0 U.length uc, .slice d0 D.length dc] 25)) w.heap.size #[.int .i64 i0, .bool b1, .int .i64 i2, .bool b3, .bool b4, .bool b5, .bool b6, .bool b7, .bool b8, .int .i64 i9, .slice q0 Q.length qc, .slice a0 A.length ac, .slice u0 U.length uc, .slice d0 D.length dc] 25) := World.alloc_heap_new w _
  have HB := hide' ((Below.refl w.heap.size w).alloc (Nat.le_refl _) (.cells #[.int .i64 i0, .bool b1, .int .i64 i2, .bool b3, .bool b4, .bool b5, .bool b6, .bool b7, .bool b8, .int .i64 i9, .slice q0 Q.length qc, .slice a0 A.length ac, .slice u0 U.length uc, .slice d0 D.length dc] 25))
  have HW := hide' (hl.below ((Below.refl w.heap.size w).alloc (Nat.le_refl _) (.cells #[.int .i64 i0, .bool b1, .int .i64 i2, .bool b3, .bool b4, .bool b5, .bool b6, .bool b7, .bool b8, .int .i64 i9, .slice q0 Q.length qc, .slice a0 A.length ac, .slice u0 U.length uc, .slice d0 D.length dc] 25)))
  have hx0 : ∀ W : World, Sem.run Tryz.prog (Instr.index 65 (.agg #[.pointer (some ⟨w.heap.size, 11, none⟩), .pointer (some ⟨w.heap.size, 12, none⟩), .pointer (some ⟨w.heap.size, 13, none⟩)]) (.int .i64 0)) W = .ok (.pointer (some ⟨w.heap.size, 11, none⟩)) W := fun W => by first | rfl | simp [go_sem, Instr.index]
  have hx1 : ∀ W : World, Sem.run Tryz.prog (Instr.index 65 (.agg #[.pointer (some ⟨w.heap.size, 11, none⟩), .pointer (some ⟨w.heap.size, 12, none⟩), .pointer (some ⟨w.heap.size, 13, none⟩)]) (.int .i64 1)) W = .ok (.pointer (some ⟨w.heap.size, 12, none⟩)) W := fun W => by first | rfl | simp [go_sem, Instr.index]
  have hx2 : ∀ W : World, Sem.run Tryz.prog (Instr.index 65 (.agg #[.pointer (some ⟨w.heap.size, 11, none⟩), .pointer (some ⟨w.heap.size, 12, none⟩), .pointer (some ⟨w.heap.size, 13, none⟩)]) (.int .i64 2)) W = .ok (.pointer (some ⟨w.heap.size, 13, none⟩)) W := fun W => by first | rfl | simp [go_sem, Instr.index]
  clear hl
  go_enter Tryz.func10, Tryz.ntmps10
  go_wp2_with (first
    | (go_at_call 27; refine (hasRoom_any _ _ _ (by decide)).mono ?_; rintro e wh ⟨rfl, hwh⟩; have hwh' := hwh.symm; subst hwh')
    | (go_at_call 28; refine (sectionsOf_any w.heap.size 0 _).mono ?_; rintro e w5 ⟨rfl, hB⟩; have HX5 : Hid (Bx w5 w.heap.size #[.int .i64 i0, .bool b1, .int .i64 i2, .bool b3, .bool b4, .bool b5, .bool b6, .bool b7, .bool b8, .int .i64 i9, .slice q0 Q.length qc, .slice a0 A.length ac, .slice u0 U.length uc, .slice d0 D.length dc] 25) := HX.out.below hB HX.out.lt; have x11 : w5.cell? ⟨w.heap.size, 11, none⟩ = some (.slice a0 A.length ac) := HX5.out.cell rfl; have x12 : w5.cell? ⟨w.heap.size, 12, none⟩ = some (.slice u0 U.length uc) := HX5.out.cell rfl; have x13 : w5.cell? ⟨w.heap.size, 13, none⟩ = some (.slice d0 D.length dc) := HX5.out.cell rfl; have HB5 := hide' (bstep HB.out hB HB.out.size); have HW5 := hide' (HW.out.below hB); clear hB))
  refine wp_loop_rounds 4 ?_
  rw [rounds_succ]
  go_wp2_with (go_at_call 27; refine (hasRoom_any _ _ _ (by decide)).mono ?_; rintro e wh ⟨rfl, hwh⟩; have hwh' := hwh.symm; subst hwh')
  rw [rounds_succ]
  go_wp2_with (go_at_call 27; refine (hasRoom_any _ _ _ (by decide)).mono ?_; rintro e wh ⟨rfl, hwh⟩; have hwh' := hwh.symm; subst hwh')
  rw [rounds_succ]
  go_wp2_with (go_at_call 27; refine (hasRoom_any _ _ _ (by decide)).mono ?_; rintro e wh ⟨rfl, hwh⟩; have hwh' := hwh.symm; subst hwh')
  rw [rounds_succ]
  go_wp2_with fail
  go_ret
  exact ⟨rfl, HB5.out⟩

set_option maxRecDepth 100000 in
set_option maxHeartbeats 1000000 in
theorem wcheck_no2 (i0 i2 i9 : Int) (b1 b3 b4 b5 b6 b7 b8 : Bool) (q0 a0 u0 d0 : Option Addr) (qc ac uc dc : Nat) (Q : List Qn) (A U D : List Rn) (w : World) (hl : LsAt w q0 a0 u0 d0 Q A U D) (g0 : fitsN i0 16 = true) (g2 : fitsN i2 4 = true) (g9 : fitsN i9 4 = false) :
    Calls Tryz.prog 10 #[.agg #[.int .i64 i0, .bool b1, .int .i64 i2, .bool b3, .bool b4, .bool b5, .bool b6, .bool b7, .bool b8, .int .i64 i9, .slice q0 Q.length qc, .slice a0 A.length ac, .slice u0 U.length uc, .slice d0 D.length dc]] w fun e w' => e = .returned (.int .i64 8) ∧ Below w.heap.size w w' := by
  have HX : Hid (Bx (w.alloc (.cells #[.int .i64 i0, .bool b1, .int .i64 i2, .bool b3, .bool b4, .bool b5, .bool b6, .bool b7, .bool b8, .int .i64 i9, .slice q0 Q.length qc, .slice a0 A.length ac, .slice u0 U.length uc, .slice d0 D.length dc] 25)) w.heap.size #[.int .i64 i0, .bool b1, .int .i64 i2, .bool b3, .bool b4, .bool b5, .bool b6, .bool b7, .bool b8, .int .i64 i9, .slice q0 Q.length qc, .slice a0 A.length ac, .slice u0 U.length uc, .slice d0 D.length dc] 25) := World.alloc_heap_new w _
  have HB := hide' ((Below.refl w.heap.size w).alloc (Nat.le_refl _) (.cells #[.int .i64 i0, .bool b1, .int .i64 i2, .bool b3, .bool b4, .bool b5, .bool b6, .bool b7, .bool b8, .int .i64 i9, .slice q0 Q.length qc, .slice a0 A.length ac, .slice u0 U.length uc, .slice d0 D.length dc] 25))
  have HW := hide' (hl.below ((Below.refl w.heap.size w).alloc (Nat.le_refl _) (.cells #[.int .i64 i0, .bool b1, .int .i64 i2, .bool b3, .bool b4, .bool b5, .bool b6, .bool b7, .bool b8, .int .i64 i9, .slice q0 Q.length qc, .slice a0 A.length ac, .slice u0 U.length uc, .slice d0 D.length dc] 25)))
  have hx0 : ∀ W : World, Sem.run Tryz.prog (Instr.index 65 (.agg #[.pointer (some ⟨w.heap.size, 11, none⟩), .pointer (some ⟨w.heap.size, 12, none⟩), .pointer (some ⟨w.heap.size, 13, none⟩)]) (.int .i64 0)) W = .ok (.pointer (some ⟨w.heap.size, 11, none⟩)) W := fun W => by first | rfl | simp [go_sem, Instr.index]
  have hx1 : ∀ W : World, Sem.run Tryz.prog (Instr.index 65 (.agg #[.pointer (some ⟨w.heap.size, 11, none⟩), .pointer (some ⟨w.heap.size, 12, none⟩), .pointer (some ⟨w.heap.size, 13, none⟩)]) (.int .i64 1)) W = .ok (.pointer (some ⟨w.heap.size, 12, none⟩)) W := fun W => by first | rfl | simp [go_sem, Instr.index]
  have hx2 : ∀ W : World, Sem.run Tryz.prog (Instr.index 65 (.agg #[.pointer (some ⟨w.heap.size, 11, none⟩), .pointer (some ⟨w.heap.size, 12, none⟩), .pointer (some ⟨w.heap.size, 13, none⟩)]) (.int .i64 2)) W = .ok (.pointer (some ⟨w.heap.size, 13, none⟩)) W := fun W => by first | rfl | simp [go_sem, Instr.index]
  clear hl
  go_enter Tryz.func10, Tryz.ntmps10
  go_wp2_with (first
    | (go_at_call 27; refine (hasRoom_any _ _ _ (by decide)).mono ?_; rintro e wh ⟨rfl, hwh⟩; have hwh' := hwh.symm; subst hwh')
    | (go_at_call 28; refine (sectionsOf_any w.heap.size 0 _).mono ?_; rintro e w5 ⟨rfl, hB⟩; have HX5 : Hid (Bx w5 w.heap.size #[.int .i64 i0, .bool b1, .int .i64 i2, .bool b3, .bool b4, .bool b5, .bool b6, .bool b7, .bool b8, .int .i64 i9, .slice q0 Q.length qc, .slice a0 A.length ac, .slice u0 U.length uc, .slice d0 D.length dc] 25) := HX.out.below hB HX.out.lt; have x11 : w5.cell? ⟨w.heap.size, 11, none⟩ = some (.slice a0 A.length ac) := HX5.out.cell rfl; have x12 : w5.cell? ⟨w.heap.size, 12, none⟩ = some (.slice u0 U.length uc) := HX5.out.cell rfl; have x13 : w5.cell? ⟨w.heap.size, 13, none⟩ = some (.slice d0 D.length dc) := HX5.out.cell rfl; have HB5 := hide' (bstep HB.out hB HB.out.size); have HW5 := hide' (HW.out.below hB); clear hB))
  refine wp_loop_rounds 4 ?_
  rw [rounds_succ]
  go_wp2_with (go_at_call 27; refine (hasRoom_any _ _ _ (by decide)).mono ?_; rintro e wh ⟨rfl, hwh⟩; have hwh' := hwh.symm; subst hwh')
  rw [rounds_succ]
  go_wp2_with (go_at_call 27; refine (hasRoom_any _ _ _ (by decide)).mono ?_; rintro e wh ⟨rfl, hwh⟩; have hwh' := hwh.symm; subst hwh')
  rw [rounds_succ]
  go_wp2_with (go_at_call 27; refine (hasRoom_any _ _ _ (by decide)).mono ?_; rintro e wh ⟨rfl, hwh⟩; have hwh' := hwh.symm; subst hwh')
  rw [rounds_succ]
  go_wp2_with fail
  go_ret
  exact ⟨rfl, HB5.out⟩

set_option maxRecDepth 100000 in
set_option maxHeartbeats 1000000 in
theorem wcheck_no3 (i0 i2 i9 : Int) (b1 b3 b4 b5 b6 b7 b8 : Bool) (q0 a0 u0 d0 : Option Addr) (qc ac uc dc : Nat) (Q : List Qn) (A U D : List Rn) (w : World) (hl : LsAt w q0 a0 u0 d0 Q A U D) (g0 : fitsN i0 16 = true) (g2 : fitsN i2 4 = true) (g9 : fitsN i9 4 = true) (gq : fitsN (Q.length : Int) 16 = false) :
    Calls Tryz.prog 10 #[.agg #[.int .i64 i0, .bool b1, .int .i64 i2, .bool b3, .bool b4, .bool b5, .bool b6, .bool b7, .bool b8, .int .i64 i9, .slice q0 Q.length qc, .slice a0 A.length ac, .slice u0 U.length uc, .slice d0 D.length dc]] w fun e w' => e = .returned (.int .i64 8) ∧ Below w.heap.size w w' := by
  have HX : Hid (Bx (w.alloc (.cells #[.int .i64 i0, .bool b1, .int .i64 i2, .bool b3, .bool b4, .bool b5, .bool b6, .bool b7, .bool b8, .int .i64 i9, .slice q0 Q.length qc, .slice a0 A.length ac, .slice u0 U.length uc, .slice d0 D.length dc] 25)) w.heap.size #[.int .i64 i0, .bool b1, .int .i64 i2, .bool b3, .bool b4, .bool b5, .bool b6, .bool b7, .bool b8, .int .i64 i9, .slice q0 Q.length qc, .slice a0 A.length ac, .slice u0 U.length uc, .slice d0 D.length dc] 25) := World.alloc_heap_new w _
  have HB := hide' ((Below.refl w.heap.size w).alloc (Nat.le_refl _) (.cells #[.int .i64 i0, .bool b1, .int .i64 i2, .bool b3, .bool b4, .bool b5, .bool b6, .bool b7, .bool b8, .int .i64 i9, .slice q0 Q.length qc, .slice a0 A.length ac, .slice u0 U.length uc, .slice d0 D.length dc] 25))
  have HW := hide' (hl.below ((Below.refl w.heap.size w).alloc (Nat.le_refl _) (.cells #[.int .i64 i0, .bool b1, .int .i64 i2, .bool b3, .bool b4, .bool b5, .bool b6, .bool b7, .bool b8, .int .i64 i9, .slice q0 Q.length qc, .slice a0 A.length ac, .slice u0 U.length uc, .slice d0 D.length dc] 25)))
  have hx0 : ∀ W : World, Sem.run Tryz.prog (Instr.index 65 (.agg #[.pointer (some ⟨w.heap.size, 11, none⟩), .pointer (some ⟨w.heap.size, 12, none⟩), .pointer (some ⟨w.heap.size, 13, none⟩)]) (.int .i64 0)) W = .ok (.pointer (some ⟨w.heap.size, 11, none⟩)) W := fun W => by first | rfl | simp [go_sem, Instr.index]
  have hx1 : ∀ W : World, Sem.run Tryz.prog (Instr.index 65 (.agg #[.pointer (some ⟨w.heap.size, 11, none⟩), .pointer (some ⟨w.heap.size, 12, none⟩), .pointer (some ⟨w.heap.size, 13, none⟩)]) (.int .i64 1)) W = .ok (.pointer (some ⟨w.heap.size, 12, none⟩)) W := fun W => by first | rfl | simp [go_sem, Instr.index]
  have hx2 : ∀ W : World, Sem.run Tryz.prog (Instr.index 65 (.agg #[.pointer (some ⟨w.heap.size, 11, none⟩), .pointer (some ⟨w.heap.size, 12, none⟩), .pointer (some ⟨w.heap.size, 13, none⟩)]) (.int .i64 2)) W = .ok (.pointer (some ⟨w.heap.size, 13, none⟩)) W := fun W => by first | rfl | simp [go_sem, Instr.index]
  clear hl
  go_enter Tryz.func10, Tryz.ntmps10
  go_wp2_with (first
    | (go_at_call 27; refine (hasRoom_any _ _ _ (by decide)).mono ?_; rintro e wh ⟨rfl, hwh⟩; have hwh' := hwh.symm; subst hwh')
    | (go_at_call 28; refine (sectionsOf_any w.heap.size 0 _).mono ?_; rintro e w5 ⟨rfl, hB⟩; have HX5 : Hid (Bx w5 w.heap.size #[.int .i64 i0, .bool b1, .int .i64 i2, .bool b3, .bool b4, .bool b5, .bool b6, .bool b7, .bool b8, .int .i64 i9, .slice q0 Q.length qc, .slice a0 A.length ac, .slice u0 U.length uc, .slice d0 D.length dc] 25) := HX.out.below hB HX.out.lt; have x11 : w5.cell? ⟨w.heap.size, 11, none⟩ = some (.slice a0 A.length ac) := HX5.out.cell rfl; have x12 : w5.cell? ⟨w.heap.size, 12, none⟩ = some (.slice u0 U.length uc) := HX5.out.cell rfl; have x13 : w5.cell? ⟨w.heap.size, 13, none⟩ = some (.slice d0 D.length dc) := HX5.out.cell rfl; have HB5 := hide' (bstep HB.out hB HB.out.size); have HW5 := hide' (HW.out.below hB); clear hB))
  refine wp_loop_rounds 4 ?_
  rw [rounds_succ]
  go_wp2_with (go_at_call 27; refine (hasRoom_any _ _ _ (by decide)).mono ?_; rintro e wh ⟨rfl, hwh⟩; have hwh' := hwh.symm; subst hwh')
  rw [rounds_succ]
  go_wp2_with (go_at_call 27; refine (hasRoom_any _ _ _ (by decide)).mono ?_; rintro e wh ⟨rfl, hwh⟩; have hwh' := hwh.symm; subst hwh')
  rw [rounds_succ]
  go_wp2_with (go_at_call 27; refine (hasRoom_any _ _ _ (by decide)).mono ?_; rintro e wh ⟨rfl, hwh⟩; have hwh' := hwh.symm; subst hwh')
  rw [rounds_succ]
  go_wp2_with fail
  go_ret
  exact ⟨rfl, HB5.out⟩

set_option maxRecDepth 100000 in
set_option maxHeartbeats 1000000 in
theorem wcheck_no4 (i0 i2 i9 : Int) (b1 b3 b4 b5 b6 b7 b8 : Bool) (q0 a0 u0 d0 : Option Addr) (qc ac uc dc : Nat) (Q : List Qn) (A U D : List Rn) (w : World) (hl : LsAt w q0 a0 u0 d0 Q A U D) (g0 : fitsN i0 16 = true) (g2 : fitsN i2 4 = true) (g9 : fitsN i9 4 = true) (gq : fitsN (Q.length : Int) 16 = true) (ga : fitsN (A.length : Int) 16 = false) :
    Calls Tryz.prog 10 #[.agg #[.int .i64 i0, .bool b1, .int .i64 i2, .bool b3, .bool b4, .bool b5, .bool b6, .bool b7, .bool b8, .int .i64 i9, .slice q0 Q.length qc, .slice a0 A.length ac, .slice u0 U.length uc, .slice d0 D.length dc]] w fun e w' => e = .returned (.int .i64 8) ∧ Below w.heap.size w w' := by
  have HX : Hid (Bx (w.alloc (.cells #[.int .i64 i0, .bool b1, .int .i64 i2, .bool b3, .bool b4, .bool b5, .bool b6, .bool b7, .bool b8, .int .i64 i9, .slice q0 Q.length qc, .slice a0 A.length ac, .slice u0 U.length uc, .slice d0 D.length dc] 25)) w.heap.size #[.int .i64 i0, .bool b1, .int .i64 i2, .bool b3, .bool b4, .bool b5, .bool b6, .bool b7, .bool b8, .int .i64 i9, .slice q0 Q.length qc, .slice a0 A.length ac, .slice u0 U.length uc, .slice d0 D.length dc] 25) := World.alloc_heap_new w _
  have HB := hide' ((Below.refl w.heap.size w).alloc (Nat.le_refl _) (.cells #[.int .i64 i0, .bool b1, .int .i64 i2, .bool b3, .bool b4, .bool b5, .bool b6, .bool b7, .bool b8, .int .i64 i9, .slice q0 Q.length qc, .slice a0 A.length ac, .slice u0 U.length uc, .slice d0 D.length dc] 25))
  have HW := hide' (hl.below ((Below.refl w.heap.size w).alloc (Nat.le_refl _) (.cells #[.int .i64 i0, .bool b1, .int .i64 i2, .bool b3, .bool b4, .bool b5, .bool b6, .bool b7, .bool b8, .int .i64 i9, .slice q0 Q.length qc, .slice a0 A.length ac, .slice u0 U.length uc, .slice d0 D.length dc] 25)))
  have hx0 : ∀ W : World, Sem.run Tryz.prog (Instr.index 65 (.agg #[.pointer (some ⟨w.heap.size, 11, none⟩), .pointer (some ⟨w.heap.size, 12, none⟩), .pointer (some ⟨w.heap.size, 13, none⟩)]) (.int .i64 0)) W = .ok (.pointer (some ⟨w.heap.size, 11, none⟩)) W := fun W => by first | rfl | simp [go_sem, Instr.index]
  have hx1 : ∀ W : World, Sem.run Tryz.prog (Instr.index 65 (.agg #[.pointer (some ⟨w.heap.size, 11, none⟩), .pointer (some ⟨w.heap.size, 12, none⟩), .pointer (some ⟨w.heap.size, 13, none⟩)]) (.int .i64 1)) W = .ok (.pointer (some ⟨w.heap.size, 12, none⟩)) W := fun W => by first | rfl | simp [go_sem, Instr.index]
  have hx2 : ∀ W : World, Sem.run Tryz.prog (Instr.index 65 (.agg #[.pointer (some ⟨w.heap.size, 11, none⟩), .pointer (some ⟨w.heap.size, 12, none⟩), .pointer (some ⟨w.heap.size, 13, none⟩)]) (.int .i64 2)) W = .ok (.pointer (some ⟨w.heap.size, 13, none⟩)) W := fun W => by first | rfl | simp [go_sem, Instr.index]
  clear hl
  go_enter Tryz.func10, Tryz.ntmps10
  go_wp2_with (first
    | (go_at_call 27; refine (hasRoom_any _ _ _ (by decide)).mono ?_; rintro e wh ⟨rfl, hwh⟩; have hwh' := hwh.symm; subst hwh')
    | (go_at_call 28; refine (sectionsOf_any w.heap.size 0 _).mono ?_; rintro e w5 ⟨rfl, hB⟩; have HX5 : Hid (Bx w5 w.heap.size #[.int .i64 i0, .bool b1, .int .i64 i2, .bool b3, .bool b4, .bool b5, .bool b6, .bool b7, .bool b8, .int .i64 i9, .slice q0 Q.length qc, .slice a0 A.length ac, .slice u0 U.length uc, .slice d0 D.length dc] 25) := HX.out.below hB HX.out.lt; have x11 : w5.cell? ⟨w.heap.size, 11, none⟩ = some (.slice a0 A.length ac) := HX5.out.cell rfl; have x12 : w5.cell? ⟨w.heap.size, 12, none⟩ = some (.slice u0 U.length uc) := HX5.out.cell rfl; have x13 : w5.cell? ⟨w.heap.size, 13, none⟩ = some (.slice d0 D.length dc) := HX5.out.cell rfl; have HB5 := hide' (bstep HB.out hB HB.out.size); have HW5 := hide' (HW.out.below hB); clear hB))
  refine wp_loop_rounds 4 ?_
  rw [rounds_succ]
  go_wp2_with (go_at_call 27; refine (hasRoom_any _ _ _ (by decide)).mono ?_; rintro e wh ⟨rfl, hwh⟩; have hwh' := hwh.symm; subst hwh')
  rw [rounds_succ]
  go_wp2_with (go_at_call 27; refine (hasRoom_any _ _ _ (by decide)).mono ?_; rintro e wh ⟨rfl, hwh⟩; have hwh' := hwh.symm; subst hwh')
  rw [rounds_succ]
  go_wp2_with (go_at_call 27; refine (hasRoom_any _ _ _ (by decide)).mono ?_; rintro e wh ⟨rfl, hwh⟩; have hwh' := hwh.symm; subst hwh')
  rw [rounds_succ]
  go_wp2_with fail
  go_ret
  exact ⟨rfl, HB5.out⟩

set_option maxRecDepth 100000 in
set_option maxHeartbeats 1000000 in
theorem wcheck_no5 (i0 i2 i9 : Int) (b1 b3 b4 b5 b6 b7 b8 : Bool) (q0 a0 u0 d0 : Option Addr) (qc ac uc dc : Nat) (Q : List Qn) (A U D : List Rn) (w : World) (hl : LsAt w q0 a0 u0 d0 Q A U D) (g0 : fitsN i0 16 = true) (g2 : fitsN i2 4 = true) (g9 : fitsN i9 4 = true) (gq : fitsN (Q.length : Int) 16 = true) (ga : fitsN (A.length : Int) 16 = true) (gu : fitsN (U.length : Int) 16 = false) :
    Calls Tryz.prog 10 #[.agg #[.int .i64 i0, .bool b1, .int .i64 i2, .bool b3, .bool b4, .bool b5, .bool b6, .bool b7, .bool b8, .int .i64 i9, .slice q0 Q.length qc, .slice a0 A.length ac, .slice u0 U.length uc, .slice d0 D.length dc]] w fun e w' => e = .returned (.int .i64 8) ∧ Below w.heap.size w w' := by
  have HX : Hid (Bx (w.alloc (.cells #[.int .i64 i0, .bool b1, .int .i64 i2, .bool b3, .bool b4, .bool b5, .bool b6, .bool b7, .bool b8, .int .i64 i9, .slice q0 Q.length qc, .slice a0 A.length ac, .slice u0 U.length uc, .slice d0 D.length dc] 25)) w.heap.size #[.int .i64 i0, .bool b1, .int .i64 i2, .bool b3, .bool b4, .bool b5, .bool b6, .bool b7, .bool b8, .int .i64 i9, .slice q0 Q.length qc, .slice a0 A.length ac, .slice u0 U.length uc, .slice d0 D.length dc] 25) := World.alloc_heap_new w _
  have HB := hide' ((Below.refl w.heap.size w).alloc (Nat.le_refl _) (.cells #[.int .i64 i0, .bool b1, .int .i64 i2, .bool b3, .bool b4, .bool b5, .bool b6, .bool b7, .bool b8, .int .i64 i9, .slice q0 Q.length qc, .slice a0 A.length ac, .slice u0 U.length uc, .slice d0 D.length dc] 25))
  have HW := hide' (hl.below ((Below.refl w.heap.size w).alloc (Nat.le_refl _) (.cells #[.int .i64 i0, .bool b1, .int .i64 i2, .bool b3, .bool b4, .bool b5, .bool b6, .bool b7, .bool b8, .int .i64 i9, .slice q0 Q.length qc, .slice a0 A.length ac, .slice u0 U.length uc, .slice d0 D.length dc] 25)))
  have hx0 : ∀ W : World, Sem.run Tryz.prog (Instr.index 65 (.agg #[.pointer (some ⟨w.heap.size, 11, none⟩), .pointer (some ⟨w.heap.size, 12, none⟩), .pointer (some ⟨w.heap.size, 13, none⟩)]) (.int .i64 0)) W = .ok (.pointer (some ⟨w.heap.size, 11, none⟩)) W := fun W => by first | rfl | simp [go_sem, Instr.index]
  have hx1 : ∀ W : World, Sem.run Tryz.prog (Instr.index 65 (.agg #[.pointer (some ⟨w.heap.size, 11, none⟩), .pointer (some ⟨w.heap.size, 12, none⟩), .pointer (some ⟨w.heap.size, 13, none⟩)]) (.int .i64 1)) W = .ok (.pointer (some ⟨w.heap.size, 12, none⟩)) W := fun W => by first | rfl | simp [go_sem, Instr.index]
  have hx2 : ∀ W : World, Sem.run Tryz.prog (Instr.index 65 (.agg #[.pointer (some ⟨w.heap.size, 11, none⟩), .pointer (some ⟨w.heap.size, 12, none⟩), .pointer (some ⟨w.heap.size, 13, none⟩)]) (.int .i64 2)) W = .ok (.pointer (some ⟨w.heap.size, 13, none⟩)) W := fun W => by first | rfl | simp [go_sem, Instr.index]
  clear hl
  go_enter Tryz.func10, Tryz.ntmps10
  go_wp2_with (first
    | (go_at_call 27; refine (hasRoom_any _ _ _ (by decide)).mono ?_; rintro e wh ⟨rfl, hwh⟩; have hwh' := hwh.symm; subst hwh')
    | (go_at_call 28; refine (sectionsOf_any w.heap.size 0 _).mono ?_; rintro e w5 ⟨rfl, hB⟩; have HX5 : Hid (Bx w5 w.heap.size #[.int .i64 i0, .bool b1, .int .i64 i2, .bool b3, .bool b4, .bool b5, .bool b6, .bool b7, .bool b8, .int .i64 i9, .slice q0 Q.length qc, .slice a0 A.length ac, .slice u0 U.length uc, .slice d0 D.length dc] 25) := HX.out.below hB HX.out.lt; have x11 : w5.cell? ⟨w.heap.size, 11, none⟩ = some (.slice a0 A.length ac) := HX5.out.cell rfl; have x12 : w5.cell? ⟨w.heap.size, 12, none⟩ = some (.slice u0 U.length uc) := HX5.out.cell rfl; have x13 : w5.cell? ⟨w.heap.size, 13, none⟩ = some (.slice d0 D.length dc) := HX5.out.cell rfl; have HB5 := hide' (bstep HB.out hB HB.out.size); have HW5 := hide' (HW.out.below hB); clear hB))
  refine wp_loop_rounds 4 ?_
  rw [rounds_succ]
  go_wp2_with (go_at_call 27; refine (hasRoom_any _ _ _ (by decide)).mono ?_; rintro e wh ⟨rfl, hwh⟩; have hwh' := hwh.symm; subst hwh')
  rw [rounds_succ]
  go_wp2_with (go_at_call 27; refine (hasRoom_any _ _ _ (by decide)).mono ?_; rintro e wh ⟨rfl, hwh⟩; have hwh' := hwh.symm; subst hwh')
  rw [rounds_succ]
  go_wp2_with (go_at_call 27; refine (hasRoom_any _ _ _ (by decide)).mono ?_; rintro e wh ⟨rfl, hwh⟩; have hwh' := hwh.symm; subst hwh')
  rw [rounds_succ]
  go_wp2_with fail
  go_ret
  exact ⟨rfl, HB5.out⟩

set_option maxRecDepth 100000 in
set_option maxHeartbeats 1000000 in
theorem wcheck_no6 (i0 i2 i9 : Int) (b1 b3 b4 b5 b6 b7 b8 : Bool) (q0 a0 u0 d0 : Option Addr) (qc ac uc dc : Nat) (Q : List Qn) (A U D : List Rn) (w : World) (hl : LsAt w q0 a0 u0 d0 Q A U D) (g0 : fitsN i0 16 = true) (g2 : fitsN i2 4 = true) (g9 : fitsN i9 4 = true) (gq : fitsN (Q.length : Int) 16 = true) (ga : fitsN (A.length : Int) 16 = true) (gu : fitsN (U.length : Int) 16 = true) (gd : fitsN (D.length : Int) 16 = false) :
    Calls Tryz.prog 10 #[.agg #[.int .i64 i0, .bool b1, .int .i64 i2, .bool b3, .bool b4, .bool b5, .bool b6, .bool b7, .bool b8, .int .i64 i9, .slice q0 Q.length qc, .slice a0 A.length ac, .slice u0 U.length uc, .slice d0 D.length dc]] w fun e w' => e = .returned (.int .i64 8) ∧ Below w.heap.size w w' := by
  have HX : Hid (Bx (w.alloc (.cells #[.int .i64 i0, .bool b1, .int .i64 i2, .bool b3, .bool b4, .bool b5, .bool b6, .bool b7, .bool b8, .int .i64 i9, .slice q0 Q.length qc, .slice a0 A.length ac, .slice u0 U.length uc, .slice d0 D.length dc] 25)) w.heap.size #[.int .i64 i0, .bool b1, .int .i64 i2, .bool b3, .bool b4, .bool b5, .bool b6, .bool b7, .bool b8, .int .i64 i9, .slice q0 Q.length qc, .slice a0 A.length ac, .slice u0 U.length uc, .slice d0 D.length dc] 25) := World.alloc_heap_new w _
  have HB := hide' ((Below.refl w.heap.size w).alloc (Nat.le_refl _) (.cells #[.int .i64 i0, .bool b1, .int .i64 i2, .bool b3, .bool b4, .bool b5, .bool b6, .bool b7, .bool b8, .int .i64 i9, .slice q0 Q.length qc, .slice a0 A.length ac, .slice u0 U.length uc, .slice d0 D.length dc] 25))
  have HW := hide' (hl.below ((Below.refl w.heap.size w).alloc (Nat.le_refl _) (.cells #[.int .i64 i0, .bool b1, .int .i64 i2, .bool b3, .bool b4, .bool b5, .bool b6, .bool b7, .bool b8, .int .i64 i9, .slice q0 Q.length qc, .slice a0 A.length ac, .slice u0 U.length uc, .slice d0 D.length dc] 25)))
  have hx0 : ∀ W : World, Sem.run Tryz.prog (Instr.index 65 (.agg #[.pointer (some ⟨w.heap.size, 11, none⟩), .pointer (some ⟨w.heap.size, 12, none⟩), .pointer (some ⟨w.heap.size, 13, none⟩)]) (.int .i64 0)) W = .ok (.pointer (some ⟨w.heap.size, 11, none⟩)) W := fun W => by first | rfl | simp [go_sem, Instr.index]
  have hx1 : ∀ W : World, Sem.run Tryz.prog (Instr.index 65 (.agg #[.pointer (some ⟨w.heap.size, 11, none⟩), .pointer (some ⟨w.heap.size, 12, none⟩), .pointer (some ⟨w.heap.size, 13, none⟩)]) (.int .i64 1)) W = .ok (.pointer (some ⟨w.heap.size, 12, none⟩)) W := fun W => by first | rfl | simp [go_sem, Instr.index]
  have hx2 : ∀ W : World, Sem.run Tryz.prog (Instr.index 65 (.agg #[.pointer (some ⟨w.heap.size, 11, none⟩), .pointer (some ⟨w.heap.size, 12, none⟩), .pointer (some ⟨w.heap.size, 13, none⟩)]) (.int .i64 2)) W = .ok (.pointer (some ⟨w.heap.size, 13, none⟩)) W := fun W => by first | rfl | simp [go_sem, Instr.index]
  clear hl
  go_enter Tryz.func10, Tryz.ntmps10
  go_wp2_with (first
    | (go_at_call 27; refine (hasRoom_any _ _ _ (by decide)).mono ?_; rintro e wh ⟨rfl, hwh⟩; have hwh' := hwh.symm; subst hwh')
    | (go_at_call 28; refine (sectionsOf_any w.heap.size 0 _).mono ?_; rintro e w5 ⟨rfl, hB⟩; have HX5 : Hid (Bx w5 w.heap.size #[.int .i64 i0, .bool b1, .int .i64 i2, .bool b3, .bool b4, .bool b5, .bool b6, .bool b7, .bool b8, .int .i64 i9, .slice q0 Q.length qc, .slice a0 A.length ac, .slice u0 U.length uc, .slice d0 D.length dc] 25) := HX.out.below hB HX.out.lt; have x11 : w5.cell? ⟨w.heap.size, 11, none⟩ = some (.slice a0 A.length ac) := HX5.out.cell rfl; have x12 : w5.cell? ⟨w.heap.size, 12, none⟩ = some (.slice u0 U.length uc) := HX5.out.cell rfl; have x13 : w5.cell? ⟨w.heap.size, 13, none⟩ = some (.slice d0 D.length dc) := HX5.out.cell rfl; have HB5 := hide' (bstep HB.out hB HB.out.size); have HW5 := hide' (HW.out.below hB); clear hB))
  refine wp_loop_rounds 4 ?_
  rw [rounds_succ]
  go_wp2_with (go_at_call 27; refine (hasRoom_any _ _ _ (by decide)).mono ?_; rintro e wh ⟨rfl, hwh⟩; have hwh' := hwh.symm; subst hwh')
  rw [rounds_succ]
  go_wp2_with (go_at_call 27; refine (hasRoom_any _ _ _ (by decide)).mono ?_; rintro e wh ⟨rfl, hwh⟩; have hwh' := hwh.symm; subst hwh')
  rw [rounds_succ]
  go_wp2_with (go_at_call 27; refine (hasRoom_any _ _ _ (by decide)).mono ?_; rintro e wh ⟨rfl, hwh⟩; have hwh' := hwh.symm; subst hwh')
  rw [rounds_succ]
  go_wp2_with fail
  go_ret
  exact ⟨rfl, HB5.out⟩

set_option maxRecDepth 100000 in
set_option maxHeartbeats 1000000 in
theorem wcheck_parts_false (i0 i2 i9 : Int) (b1 b3 b4 b5 b6 b7 b8 : Bool) (q0 a0 u0 d0 : Option Addr) (qc ac uc dc : Nat) (Q : List Qn) (A U D : List Rn) (w : World) (hl : LsAt w q0 a0 u0 d0 Q A U D) (g0 : fitsN i0 16 = true) (g2 : fitsN i2 4 = true) (g9 : fitsN i9 4 = true) (gq : fitsN (Q.length : Int) 16 = true) (ga : fitsN (A.length : Int) 16 = true) (gu : fitsN (U.length : Int) 16 = true) (gd : fitsN (D.length : Int) 16 = true) (gl : lstOK Q A U D = false) :
    Calls Tryz.prog 10 #[.agg #[.int .i64 i0, .bool b1, .int .i64 i2, .bool b3, .bool b4, .bool b5, .bool b6, .bool b7, .bool b8, .int .i64 i9, .slice q0 Q.length qc, .slice a0 A.length ac, .slice u0 U.length uc, .slice d0 D.length dc]] w fun e w' => e = .returned (.int .i64 8) ∧ Below w.heap.size w w' := by
  have hlq : Q.length ≤ 65535 := of_decide_eq_true ((fitsN_len _).symm.trans gq)
  have hla : A.length ≤ 65535 := of_decide_eq_true ((fitsN_len _).symm.trans ga)
  have hlu : U.length ≤ 65535 := of_decide_eq_true ((fitsN_len _).symm.trans gu)
  have hld : D.length ≤ 65535 := of_decide_eq_true ((fitsN_len _).symm.trans gd)
  have HX : Hid (Bx (w.alloc (.cells #[.int .i64 i0, .bool b1, .int .i64 i2, .bool b3, .bool b4, .bool b5, .bool b6, .bool b7, .bool b8, .int .i64 i9, .slice q0 Q.length qc, .slice a0 A.length ac, .slice u0 U.length uc, .slice d0 D.length dc] 25)) w.heap.size #[.int .i64 i0, .bool b1, .int .i64 i2, .bool b3, .bool b4, .bool b5, .bool b6, .bool b7, .bool b8, .int .i64 i9, .slice q0 Q.length qc, .slice a0 A.length ac, .slice u0 U.length uc, .slice d0 D.length dc] 25) := World.alloc_heap_new w _
  have HB := hide' ((Below.refl w.heap.size w).alloc (Nat.le_refl _) (.cells #[.int .i64 i0, .bool b1, .int .i64 i2, .bool b3, .bool b4, .bool b5, .bool b6, .bool b7, .bool b8, .int .i64 i9, .slice q0 Q.length qc, .slice a0 A.length ac, .slice u0 U.length uc, .slice d0 D.length dc] 25))
  have HW := hide' (hl.below ((Below.refl w.heap.size w).alloc (Nat.le_refl _) (.cells #[.int .i64 i0, .bool b1, .int .i64 i2, .bool b3, .bool b4, .bool b5, .bool b6, .bool b7, .bool b8, .int .i64 i9, .slice q0 Q.length qc, .slice a0 A.length ac, .slice u0 U.length uc, .slice d0 D.length dc] 25)))
  have hx0 : ∀ W : World, Sem.run Tryz.prog (Instr.index 65 (.agg #[.pointer (some ⟨w.heap.size, 11, none⟩), .pointer (some ⟨w.heap.size, 12, none⟩), .pointer (some ⟨w.heap.size, 13, none⟩)]) (.int .i64 0)) W = .ok (.pointer (some ⟨w.heap.size, 11, none⟩)) W := fun W => by first | rfl | simp [go_sem, Instr.index]
  have hx1 : ∀ W : World, Sem.run Tryz.prog (Instr.index 65 (.agg #[.pointer (some ⟨w.heap.size, 11, none⟩), .pointer (some ⟨w.heap.size, 12, none⟩), .pointer (some ⟨w.heap.size, 13, none⟩)]) (.int .i64 1)) W = .ok (.pointer (some ⟨w.heap.size, 12, none⟩)) W := fun W => by first | rfl | simp [go_sem, Instr.index]
  have hx2 : ∀ W : World, Sem.run Tryz.prog (Instr.index 65 (.agg #[.pointer (some ⟨w.heap.size, 11, none⟩), .pointer (some ⟨w.heap.size, 12, none⟩), .pointer (some ⟨w.heap.size, 13, none⟩)]) (.int .i64 2)) W = .ok (.pointer (some ⟨w.heap.size, 13, none⟩)) W := fun W => by first | rfl | simp [go_sem, Instr.index]
  clear hl
  go_enter Tryz.func10, Tryz.ntmps10
  go_wp2_with (first
    | (go_at_call 27; refine (hasRoom_any _ _ _ (by decide)).mono ?_; rintro e wh ⟨rfl, hwh⟩; have hwh' := hwh.symm; subst hwh')
    | (go_at_call 28; refine (sectionsOf_any w.heap.size 0 _).mono ?_; rintro e w5 ⟨rfl, hB⟩; have HX5 : Hid (Bx w5 w.heap.size #[.int .i64 i0, .bool b1, .int .i64 i2, .bool b3, .bool b4, .bool b5, .bool b6, .bool b7, .bool b8, .int .i64 i9, .slice q0 Q.length qc, .slice a0 A.length ac, .slice u0 U.length uc, .slice d0 D.length dc] 25) := HX.out.below hB HX.out.lt; have x11 : w5.cell? ⟨w.heap.size, 11, none⟩ = some (.slice a0 A.length ac) := HX5.out.cell rfl; have x12 : w5.cell? ⟨w.heap.size, 12, none⟩ = some (.slice u0 U.length uc) := HX5.out.cell rfl; have x13 : w5.cell? ⟨w.heap.size, 13, none⟩ = some (.slice d0 D.length dc) := HX5.out.cell rfl; have HB5 := hide' (bstep HB.out hB HB.out.size); have HW5 := hide' (HW.out.below hB); clear hB))
  refine wp_loop_rounds 4 ?_
  rw [rounds_succ]
  go_wp2_with (go_at_call 27; refine (hasRoom_any _ _ _ (by decide)).mono ?_; rintro e wh ⟨rfl, hwh⟩; have hwh' := hwh.symm; subst hwh')
  rw [rounds_succ]
  go_wp2_with (go_at_call 27; refine (hasRoom_any _ _ _ (by decide)).mono ?_; rintro e wh ⟨rfl, hwh⟩; have hwh' := hwh.symm; subst hwh')
  rw [rounds_succ]
  go_wp2_with (go_at_call 27; refine (hasRoom_any _ _ _ (by decide)).mono ?_; rintro e wh ⟨rfl, hwh⟩; have hwh' := hwh.symm; subst hwh')
  rw [rounds_succ]
  go_wp2_with (go_at_call 29; refine (rightParts_any w.heap.size q0 a0 u0 d0 qc ac uc dc Q A U D _ HX5.out.lt (HX5.out.cell rfl) (HX5.out.cell rfl) (HX5.out.cell rfl) (HX5.out.cell rfl) HW5.out hlq hla hlu hld).mono ?_; rintro e w7 ⟨rfl, hB⟩; have HB7 := hide' (bstep HB5.out hB HB5.out.size); clear hB)
  go_ret
  exact ⟨rfl, HB7.out⟩

set_option maxRecDepth 100000 in
set_option maxHeartbeats 1000000 in
theorem wcheck_parts_true (i0 i2 i9 : Int) (b1 b3 b4 b5 b6 b7 b8 : Bool) (q0 a0 u0 d0 : Option Addr) (qc ac uc dc : Nat) (Q : List Qn) (A U D : List Rn) (w : World) (hl : LsAt w q0 a0 u0 d0 Q A U D) (g0 : fitsN i0 16 = true) (g2 : fitsN i2 4 = true) (g9 : fitsN i9 4 = true) (gq : fitsN (Q.length : Int) 16 = true) (ga : fitsN (A.length : Int) 16 = true) (gu : fitsN (U.length : Int) 16 = true) (gd : fitsN (D.length : Int) 16 = true) (gl : lstOK Q A U D = true) :
    Calls Tryz.prog 10 #[.agg #[.int .i64 i0, .bool b1, .int .i64 i2, .bool b3, .bool b4, .bool b5, .bool b6, .bool b7, .bool b8, .int .i64 i9, .slice q0 Q.length qc, .slice a0 A.length ac, .slice u0 U.length uc, .slice d0 D.length dc]] w fun e w' => e = .returned (.int .i64 0) ∧ Below w.heap.size w w' := by
  have hlq : Q.length ≤ 65535 := of_decide_eq_true ((fitsN_len _).symm.trans gq)
  have hla : A.length ≤ 65535 := of_decide_eq_true ((fitsN_len _).symm.trans ga)
  have hlu : U.length ≤ 65535 := of_decide_eq_true ((fitsN_len _).symm.trans gu)
  have hld : D.length ≤ 65535 := of_decide_eq_true ((fitsN_len _).symm.trans gd)
  have HX : Hid (Bx (w.alloc (.cells #[.int .i64 i0, .bool b1, .int .i64 i2, .bool b3, .bool b4, .bool b5, .bool b6, .bool b7, .bool b8, .int .i64 i9, .slice q0 Q.length qc, .slice a0 A.length ac, .slice u0 U.length uc, .slice d0 D.length dc] 25)) w.heap.size #[.int .i64 i0, .bool b1, .int .i64 i2, .bool b3, .bool b4, .bool b5, .bool b6, .bool b7, .bool b8, .int .i64 i9, .slice q0 Q.length qc, .slice a0 A.length ac, .slice u0 U.length uc, .slice d0 D.length dc] 25) := World.alloc_heap_new w _
  have HB := hide' ((Below.refl w.heap.size w).alloc (Nat.le_refl _) (.cells #[.int .i64 i0, .bool b1, .int .i64 i2, .bool b3, .bool b4, .bool b5, .bool b6, .bool b7, .bool b8, .int .i64 i9, .slice q0 Q.length qc, .slice a0 A.length ac, .slice u0 U.length uc, .slice d0 D.length dc] 25))
  have HW := hide' (hl.below ((Below.refl w.heap.size w).alloc (Nat.le_refl _) (.cells #[.int .i64 i0, .bool b1, .int .i64 i2, .bool b3, .bool b4, .bool b5, .bool b6, .bool b7, .bool b8, .int .i64 i9, .slice q0 Q.length qc, .slice a0 A.length ac, .slice u0 U.length uc, .slice d0 D.length dc] 25)))
  have hx0 : ∀ W : World, Sem.run Tryz.prog (Instr.index 65 (.agg #[.pointer (some ⟨w.heap.size, 11, none⟩), .pointer (some ⟨w.heap.size, 12, none⟩), .pointer (some ⟨w.heap.size, 13, none⟩)]) (.int .i64 0)) W = .ok (.pointer (some ⟨w.heap.size, 11, none⟩)) W := fun W => by first | rfl | simp [go_sem, Instr.index]
  have hx1 : ∀ W : World, Sem.run Tryz.prog (Instr.index 65 (.agg #[.pointer (some ⟨w.heap.size, 11, none⟩), .pointer (some ⟨w.heap.size, 12, none⟩), .pointer (some ⟨w.heap.size, 13, none⟩)]) (.int .i64 1)) W = .ok (.pointer (some ⟨w.heap.size, 12, none⟩)) W := fun W => by first | rfl | simp [go_sem, Instr.index]
  have hx2 : ∀ W : World, Sem.run Tryz.prog (Instr.index 65 (.agg #[.pointer (some ⟨w.heap.size, 11, none⟩), .pointer (some ⟨w.heap.size, 12, none⟩), .pointer (some ⟨w.heap.size, 13, none⟩)]) (.int .i64 2)) W = .ok (.pointer (some ⟨w.heap.size, 13, none⟩)) W := fun W => by first | rfl | simp [go_sem, Instr.index]
  clear hl
  go_enter Tryz.func10, Tryz.ntmps10
  go_wp2_with (first
    | (go_at_call 27; refine (hasRoom_any _ _ _ (by decide)).mono ?_; rintro e wh ⟨rfl, hwh⟩; have hwh' := hwh.symm; subst hwh')
    | (go_at_call 28; refine (sectionsOf_any w.heap.size 0 _).mono ?_; rintro e w5 ⟨rfl, hB⟩; have HX5 : Hid (Bx w5 w.heap.size #[.int .i64 i0, .bool b1, .int .i64 i2, .bool b3, .bool b4, .bool b5, .bool b6, .bool b7, .bool b8, .int .i64 i9, .slice q0 Q.length qc, .slice a0 A.length ac, .slice u0 U.length uc, .slice d0 D.length dc] 25) := HX.out.below hB HX.out.lt; have x11 : w5.cell? ⟨w.heap.size, 11, none⟩ = some (.slice a0 A.length ac) := HX5.out.cell rfl; have x12 : w5.cell? ⟨w.heap.size, 12, none⟩ = some (.slice u0 U.length uc) := HX5.out.cell rfl; have x13 : w5.cell? ⟨w.heap.size, 13, none⟩ = some (.slice d0 D.length dc) := HX5.out.cell rfl; have HB5 := hide' (bstep HB.out hB HB.out.size); have HW5 := hide' (HW.out.below hB); clear hB))
  refine wp_loop_rounds 4 ?_
  rw [rounds_succ]
  go_wp2_with (go_at_call 27; refine (hasRoom_any _ _ _ (by decide)).mono ?_; rintro e wh ⟨rfl, hwh⟩; have hwh' := hwh.symm; subst hwh')
  rw [rounds_succ]
  go_wp2_with (go_at_call 27; refine (hasRoom_any _ _ _ (by decide)).mono ?_; rintro e wh ⟨rfl, hwh⟩; have hwh' := hwh.symm; subst hwh')
  rw [rounds_succ]
  go_wp2_with (go_at_call 27; refine (hasRoom_any _ _ _ (by decide)).mono ?_; rintro e wh ⟨rfl, hwh⟩; have hwh' := hwh.symm; subst hwh')
  rw [rounds_succ]
  go_wp2_with (go_at_call 29; refine (rightParts_any w.heap.size q0 a0 u0 d0 qc ac uc dc Q A U D _ HX5.out.lt (HX5.out.cell rfl) (HX5.out.cell rfl) (HX5.out.cell rfl) (HX5.out.cell rfl) HW5.out hlq hla hlu hld).mono ?_; rintro e w7 ⟨rfl, hB⟩; have HB7 := hide' (bstep HB5.out hB HB5.out.size); clear hB)
  go_ret
  exact ⟨rfl, HB7.out⟩

/-- wire.Check -/
theorem wcheck_any (i0 i2 i9 : Int) (b1 b3 b4 b5 b6 b7 b8 : Bool) (q0 a0 u0 d0 : Option Addr) (qc ac uc dc : Nat) (Q : List Qn) (A U D : List Rn) (w : World) (hl : LsAt w q0 a0 u0 d0 Q A U D) :
    Calls Tryz.prog 10 #[.agg #[.int .i64 i0, .bool b1, .int .i64 i2, .bool b3, .bool b4, .bool b5, .bool b6, .bool b7, .bool b8, .int .i64 i9, .slice q0 Q.length qc, .slice a0 A.length ac, .slice u0 U.length uc, .slice d0 D.length dc]] w fun e w' => e = .returned (.int .i64 (if msgOK i0 i2 i9 Q A U D = true then 0 else 8)) ∧ Below w.heap.size w w' := by
  have hno : msgOK i0 i2 i9 Q A U D = false → (Calls Tryz.prog 10 #[.agg #[.int .i64 i0, .bool b1, .int .i64 i2, .bool b3, .bool b4, .bool b5, .bool b6, .bool b7, .bool b8, .int .i64 i9, .slice q0 Q.length qc, .slice a0 A.length ac, .slice u0 U.length uc, .slice d0 D.length dc]] w fun e w' => e = .returned (.int .i64 8) ∧ Below w.heap.size w w') → Calls Tryz.prog 10 #[.agg #[.int .i64 i0, .bool b1, .int .i64 i2, .bool b3, .bool b4, .bool b5, .bool b6, .bool b7, .bool b8, .int .i64 i9, .slice q0 Q.length qc, .slice a0 A.length ac, .slice u0 U.length uc, .slice d0 D.length dc]] w fun e w' => e = .returned (.int .i64 (if msgOK i0 i2 i9 Q A U D = true then 0 else 8)) ∧ Below w.heap.size w w' := fun h1 h2 => by
    rw [if_neg (by rw [h1]; decide)]; exact h2
  have hm : msgOK i0 i2 i9 Q A U D = (fitsN i0 16 && fitsN i2 4 && fitsN i9 4 && fitsN (Q.length : Int) 16 && fitsN (A.length : Int) 16 && fitsN (U.length : Int) 16 && fitsN (D.length : Int) 16 && lstOK Q A U D) := by
    unfold msgOK; rw [fitsN_len, fitsN_len, fitsN_len, fitsN_len]
  cases g0 : fitsN i0 16 with
  | false => exact hno (by rw [hm, g0]; simp) (wcheck_no0 i0 i2 i9 b1 b3 b4 b5 b6 b7 b8 q0 a0 u0 d0 qc ac uc dc Q A U D w hl g0)
  | true =>
    cases g2 : fitsN i2 4 with
    | false => exact hno (by rw [hm, g0, g2]; simp) (wcheck_no1 i0 i2 i9 b1 b3 b4 b5 b6 b7 b8 q0 a0 u0 d0 qc ac uc dc Q A U D w hl g0 g2)
    | true =>
      cases g9 : fitsN i9 4 with
      | false => exact hno (by rw [hm, g0, g2, g9]; simp) (wcheck_no2 i0 i2 i9 b1 b3 b4 b5 b6 b7 b8 q0 a0 u0 d0 qc ac uc dc Q A U D w hl g0 g2 g9)
      | true =>
        cases gq : fitsN (Q.length : Int) 16 with
        | false => exact hno (by rw [hm, g0, g2, g9, gq]; simp) (wcheck_no3 i0 i2 i9 b1 b3 b4 b5 b6 b7 b8 q0 a0 u0 d0 qc ac uc dc Q A U D w hl g0 g2 g9 gq)
        | true =>
          cases ga : fitsN (A.length : Int) 16 with
          | false => exact hno (by rw [hm, g0, g2, g9, gq, ga]; simp) (wcheck_no4 i0 i2 i9 b1 b3 b4 b5 b6 b7 b8 q0 a0 u0 d0 qc ac uc dc Q A U D w hl g0 g2 g9 gq ga)
          | true =>
            cases gu : fitsN (U.length : Int) 16 with
            | false => exact hno (by rw [hm, g0, g2, g9, gq, ga, gu]; simp) (wcheck_no5 i0 i2 i9 b1 b3 b4 b5 b6 b7 b8 q0 a0 u0 d0 qc ac uc dc Q A U D w hl g0 g2 g9 gq ga gu)
            | true =>
              cases gd : fitsN (D.length : Int) 16 with
              | false => exact hno (by rw [hm, g0, g2, g9, gq, ga, gu, gd]; simp) (wcheck_no6 i0 i2 i9 b1 b3 b4 b5 b6 b7 b8 q0 a0 u0 d0 qc ac uc dc Q A U D w hl g0 g2 g9 gq ga gu gd)
              | true =>
                cases gl : lstOK Q A U D with
                | false => exact hno (by rw [hm, gl]; simp) (wcheck_parts_false i0 i2 i9 b1 b3 b4 b5 b6 b7 b8 q0 a0 u0 d0 qc ac uc dc Q A U D w hl g0 g2 g9 gq ga gu gd gl)
                | true =>
                  rw [if_pos (by rw [hm, g0, g2, g9, gq, ga, gu, gd, gl]; rfl)]
                  exact wcheck_parts_true i0 i2 i9 b1 b3 b4 b5 b6 b7 b8 q0 a0 u0 d0 qc ac uc dc Q A U D w hl g0 g2 g9 gq ga gu gd gl
end Go.Proofs.YtjnmbgmdkkiidaaGreat

namespace Go.Proofs.YtjnmbgmdkkiidaaGreat
set_option linter.unusedVariables false
open Go.RowKit Go.Shelf Go.Maps Go.Proofs.YtjnmbgmdkkiidaaGreat.Nm

set_option maxRecDepth 100000 in
set_option maxHeartbeats 1000000 in
/-- newPacker -/
theorem newPacker_any (w : World) :
    Calls Tryz.prog 17 #[] w fun e w' => ∃ P Mb, e = .returned (.pointer (some ⟨P, 0, none⟩)) ∧ Pk w' P Mb w.heap.size (.slice none 0 0) ⟨.empty, []⟩ ∧ Below w.heap.size w w' := by
  have hmm := @run_makeMap Tryz.prog
  go_enter Tryz.func17, Tryz.ntmps17
  go_wp2
  go_ret
  have hb : Bx ((w.alloc (.map #[] 0)).alloc (.cells #[.slice none 0 0, .map (some w.heap.size)] 47)) (w.heap.size + 1) #[.slice none 0 0, .map (some w.heap.size)] 47 := by
    have := World.alloc_heap_new (w.alloc (.map #[] 0)) (.cells #[.slice none 0 0, .map (some w.heap.size)] 47)
    rw [World.size_alloc] at this
    exact this
  have ho : ∀ W : World, W.ownsRow w.heap.size 5 1 (.slice none 0 0) (ByteArray.empty).size (Lib.strCells .empty) := fun W => World.ownsRow_nil W _ _ _
  exact ⟨w.heap.size + 1, w.heap.size, rfl, ⟨hb, ho _, (World.ownsMap_made w _ _ _).alloc _, by omega, Nat.le_refl _, (by simp [Value.ownBlock]), (by simp [Value.ownBlock]), by omega⟩, ((Below.refl _ w).alloc (Nat.le_refl _) _).alloc (by simp) _⟩
theorem msg_of {w w1 : World} {base M i0 i2 i9 : Nat} {b1 b3 b4 b5 b6 b7 b8 : Bool} {q0 a0 u0 d0 : Option Addr} {qc ac uc dc : Nat} {Q : List Qn} {A U D : List Rn} (hM : M < base) (hx : Bx w1 M #[.int .i64 (i0 : Int), .bool b1, .int .i64 (i2 : Int), .bool b3, .bool b4, .bool b5, .bool b6, .bool b7, .bool b8, .int .i64 (i9 : Int), .slice q0 Q.length qc, .slice a0 A.length ac, .slice u0 U.length uc, .slice d0 D.length dc] 25) (h : LsAt w q0 a0 u0 d0 Q A U D) (hb : Below w.heap.size w w1) (hw : w.heap.size ≤ base) : MsgAt w1 base M i0 i2 i9 b1 b3 b4 b5 b6 b7 b8 q0 a0 u0 d0 qc ac uc dc Q A U D := by
  have hr : ∀ (p : Option Addr) (l : List Rn), RsAt w p l → RsB w1 base p l := fun p l hl k hk => by
    obtain ⟨g, off, h1, h2, h3, h4, h5, h6, h7⟩ := rsAt_below hl hb k hk
    obtain ⟨g', off', h1', h2', _⟩ := hl k hk
    rw [h1] at h1'
    injection h1' with h1'
    injection h1' with h1'
    exact ⟨g, off, h1, by omega, h3, h4, h5, h6, h7⟩
  refine ⟨hM, hx, fun k hk => ?_, hr _ _ h.a, hr _ _ h.u, hr _ _ h.d⟩
  obtain ⟨g, off, h1, h2, h3, h4, h5⟩ := qsAt_below h.q hb k hk
  obtain ⟨g', off', h1', h2', _⟩ := h.q k hk
  rw [h1] at h1'
  injection h1' with h1'
  injection h1' with h1'
  exact ⟨g, off, h1, by omega, h3, h4, h5⟩
theorem own_base {w : World} {base base' e size k : Nat} {v : Value} {xs : List Value} (h : w.ownsRow base e size v k xs) (hb : base' ≤ base) : w.ownsRow base' e size v k xs := by
  obtain ⟨hl, (h0 | ⟨g, cap, cur, rfl, hg, rest⟩)⟩ := h
  · exact ⟨hl, .inl h0⟩
  · exact ⟨hl, .inr ⟨g, cap, cur, rfl, Nat.le_trans hb hg, rest⟩⟩
/-- what Pack writes -/
def packS (i0 i2 i9 : Nat) (b1 b3 b4 b5 b6 b7 b8 : Bool) (Q : List Qn) (A U D : List Rn) : PS :=
  (runR 65535 (A ++ U ++ D) (quesL Q (headP i0 i2 i9 b1 b3 b4 b5 b6 b7 b8 Q.length A.length U.length D.length ⟨.empty, []⟩)) 0).1
theorem lstOK_parts {Q : List Qn} {A U D : List Rn} (h : lstOK Q A U D = true) : (∀ q ∈ Q, qOK q = true) ∧ (∀ r ∈ A, rOK r = true) ∧ (∀ r ∈ U, rOK r = true) ∧ (∀ r ∈ D, rOK r = true) := by
  unfold lstOK at h
  simp only [Bool.and_eq_true, List.all_eq_true] at h
  exact ⟨h.1, h.2.1.1, h.2.1.2, h.2.2⟩
theorem msgOK_parts {i0 i2 i9 : Int} {Q : List Qn} {A U D : List Rn} (h : msgOK i0 i2 i9 Q A U D = true) : (∃ n : Nat, i0 = (n : Int) ∧ n < 65536) ∧ (∃ n : Nat, i2 = (n : Int) ∧ n < 16) ∧ (∃ n : Nat, i9 = (n : Int) ∧ n < 16) ∧ Q.length ≤ 65535 ∧ A.length ≤ 65535 ∧ U.length ≤ 65535 ∧ D.length ≤ 65535 ∧ lstOK Q A U D = true := by
  unfold msgOK at h
  simp only [Bool.and_eq_true, decide_eq_true_eq] at h
  exact ⟨fitsN_nat h.1.1.1.1.1.1.1, fitsN_nat h.1.1.1.1.1.1.2, fitsN_nat h.1.1.1.1.1.2, h.1.1.1.1.2, h.1.1.1.2, h.1.1.2, h.1.2, h.2⟩
/-- how Pack ends -/
def packE (s : PS) (w : World) (e : Ending) (w' : World) : Prop :=
  (if 65535 < s.out.size then e = .returned (.tuple #[.slice none 0 0, .int .i64 12]) else ∃ p c, e = .returned (.tuple #[.slice p s.out.size c, .int .i64 0]) ∧ w'.ownsRow w.heap.size 5 1 (.slice p s.out.size c) s.out.size (Lib.strCells s.out)) ∧ Below w.heap.size w w'

set_option maxRecDepth 100000 in
set_option maxHeartbeats 1000000 in
/-- Pack, of what is no message -/
theorem pack_no (i0 i2 i9 : Int) (b1 b3 b4 b5 b6 b7 b8 : Bool) (q0 a0 u0 d0 : Option Addr) (qc ac uc dc : Nat) (Q : List Qn) (A U D : List Rn) (w : World) (hl : LsAt w q0 a0 u0 d0 Q A U D) (hm : msgOK i0 i2 i9 Q A U D = false) :
    Calls Tryz.prog 6 #[.agg #[.int .i64 i0, .bool b1, .int .i64 i2, .bool b3, .bool b4, .bool b5, .bool b6, .bool b7, .bool b8, .int .i64 i9, .slice q0 Q.length qc, .slice a0 A.length ac, .slice u0 U.length uc, .slice d0 D.length dc]] w fun e w' => e = .returned (.tuple #[.slice none 0 0, .int .i64 8]) ∧ Below w.heap.size w w' := by
  have HB := hide' ((Below.refl w.heap.size w).alloc (Nat.le_refl _) (.cells #[.int .i64 i0, .bool b1, .int .i64 i2, .bool b3, .bool b4, .bool b5, .bool b6, .bool b7, .bool b8, .int .i64 i9, .slice q0 Q.length qc, .slice a0 A.length ac, .slice u0 U.length uc, .slice d0 D.length dc] 25))
  have HC := hide' (wcheck_any i0 i2 i9 b1 b3 b4 b5 b6 b7 b8 q0 a0 u0 d0 qc ac uc dc Q A U D _ (hl.below HB.out))
  rw [if_neg (by rw [hm]; decide)] at HC
  clear hl hm
  go_enter Tryz.func6, Tryz.ntmps6
  go_wp2_with (go_at_call 10; refine HC.out.mono ?_; rintro e w1 ⟨rfl, hB1⟩; have HB1 := hide' (bstep HB.out hB1 HB.out.size); clear hB1)
  go_ret2
  exact ⟨rfl, HB1.out⟩

set_option maxRecDepth 100000 in
set_option maxHeartbeats 1000000 in
/-- Pack, of a message -/
theorem pack_yes (i0 i2 i9 : Nat) (b1 b3 b4 b5 b6 b7 b8 : Bool) (q0 a0 u0 d0 : Option Addr) (qc ac uc dc : Nat) (Q : List Qn) (A U D : List Rn) (w : World) (hl : LsAt w q0 a0 u0 d0 Q A U D) (hm : msgOK i0 i2 i9 Q A U D = true) :
    Calls Tryz.prog 6 #[.agg #[.int .i64 (i0 : Int), .bool b1, .int .i64 (i2 : Int), .bool b3, .bool b4, .bool b5, .bool b6, .bool b7, .bool b8, .int .i64 (i9 : Int), .slice q0 Q.length qc, .slice a0 A.length ac, .slice u0 U.length uc, .slice d0 D.length dc]] w (packE (packS i0 i2 i9 b1 b3 b4 b5 b6 b7 b8 Q A U D) w) := by
  have HX : Hid (Bx (w.alloc (.cells #[.int .i64 (i0 : Int), .bool b1, .int .i64 (i2 : Int), .bool b3, .bool b4, .bool b5, .bool b6, .bool b7, .bool b8, .int .i64 (i9 : Int), .slice q0 Q.length qc, .slice a0 A.length ac, .slice u0 U.length uc, .slice d0 D.length dc] 25)) w.heap.size #[.int .i64 (i0 : Int), .bool b1, .int .i64 (i2 : Int), .bool b3, .bool b4, .bool b5, .bool b6, .bool b7, .bool b8, .int .i64 (i9 : Int), .slice q0 Q.length qc, .slice a0 A.length ac, .slice u0 U.length uc, .slice d0 D.length dc] 25) := World.alloc_heap_new w _
  have HB := hide' ((Below.refl w.heap.size w).alloc (Nat.le_refl _) (.cells #[.int .i64 (i0 : Int), .bool b1, .int .i64 (i2 : Int), .bool b3, .bool b4, .bool b5, .bool b6, .bool b7, .bool b8, .int .i64 (i9 : Int), .slice q0 Q.length qc, .slice a0 A.length ac, .slice u0 U.length uc, .slice d0 D.length dc] 25))
  have HC := hide' (wcheck_any i0 i2 i9 b1 b3 b4 b5 b6 b7 b8 q0 a0 u0 d0 qc ac uc dc Q A U D _ (hl.below HB.out))
  rw [if_pos hm] at HC
  obtain ⟨⟨n0, e0, k0⟩, ⟨n2, e2, k2⟩, ⟨n9, e9, k9⟩, lq, la, lu, ld, hlst⟩ := msgOK_parts hm
  have g0 : i0 < 65536 := by omega
  have g2 : i2 < 16 := by omega
  have g9 : i9 < 16 := by omega
  clear e0 k0 e2 k2 e9 k9
  obtain ⟨oq, oa, ou, od⟩ := lstOK_parts hlst
  have HW := hide' hl
  obtain ⟨sP, hsP⟩ : ∃ sP, packS i0 i2 i9 b1 b3 b4 b5 b6 b7 b8 Q A U D = sP := ⟨_, rfl⟩
  rw [hsP]
  have HSP := hide' hsP
  clear hl hm hsP
  by_cases hbig : 65535 < sP.out.size
  · have hbI : (65535 : Int) < (sP.out.size : Int) := by omega
    go_enter Tryz.func6, Tryz.ntmps6
    go_wp2_with (first
      | (go_at_call 10; refine HC.out.mono ?_; rintro e w1 ⟨rfl, hB1⟩; have HX1 : Hid (Bx w1 w.heap.size #[.int .i64 (i0 : Int), .bool b1, .int .i64 (i2 : Int), .bool b3, .bool b4, .bool b5, .bool b6, .bool b7, .bool b8, .int .i64 (i9 : Int), .slice q0 Q.length qc, .slice a0 A.length ac, .slice u0 U.length uc, .slice d0 D.length dc] 25) := HX.out.below hB1 HX.out.lt; have HB1 := hide' (bstep HB.out hB1 HB.out.size); clear hB1)
      | (go_at_call 17; refine (newPacker_any _).mono ?_; rintro e w2 ⟨P, Mb, rfl, hP, hB2⟩; have HP2 := hide' hP; have HX2 : Hid (Bx w2 w.heap.size #[.int .i64 (i0 : Int), .bool b1, .int .i64 (i2 : Int), .bool b3, .bool b4, .bool b5, .bool b6, .bool b7, .bool b8, .int .i64 (i9 : Int), .slice q0 Q.length qc, .slice a0 A.length ac, .slice u0 U.length uc, .slice d0 D.length dc] 25) := HX1.out.below hB2 HX1.out.lt; have HB2 := hide' (bstep HB1.out hB2 HB1.out.size); have HM2 := hide' (msg_of HX1.out.lt HX2.out HW.out HB2.out HB1.out.size); have hp1 := HX1.out.lt; clear hP hB2)
      | (go_at_call 18; refine (pmessage_any P Mb w1.heap.size w.heap.size (.slice none 0 0) ⟨.empty, []⟩ i0 i2 i9 b1 b3 b4 b5 b6 b7 b8 q0 a0 u0 d0 qc ac uc dc Q A U D 65535 _ HP2.out HM2.out (by omega) (by omega) (by omega) (by omega) (by omega) (by omega) (by omega) oq oa ou od (by omega) (by omega) ⟨fun x hx => (by cases hx), Nat.zero_le _⟩ rfl).mono ?_; rintro e w3 ⟨rfl, v3, r1, r2, r3⟩; have R1 : Hid (Pk w3 P Mb w1.heap.size v3 sP) := HSP.out ▸ r1; obtain ⟨p3, c3, hp3, _⟩ := own_shape R1.out.own; subst hp3; have x3 := R1.out.c0; have HB3 := hide' (HB2.out.trans ((r2.low HP2.out).mono (by omega))); clear r1 r2 r3))
    go_ret2
    exact ⟨by rw [if_pos hbig]; rfl, HB3.out⟩
  · have hbI : ¬ (65535 : Int) < (sP.out.size : Int) := by omega
    go_enter Tryz.func6, Tryz.ntmps6
    go_wp2_with (first
      | (go_at_call 10; refine HC.out.mono ?_; rintro e w1 ⟨rfl, hB1⟩; have HX1 : Hid (Bx w1 w.heap.size #[.int .i64 (i0 : Int), .bool b1, .int .i64 (i2 : Int), .bool b3, .bool b4, .bool b5, .bool b6, .bool b7, .bool b8, .int .i64 (i9 : Int), .slice q0 Q.length qc, .slice a0 A.length ac, .slice u0 U.length uc, .slice d0 D.length dc] 25) := HX.out.below hB1 HX.out.lt; have HB1 := hide' (bstep HB.out hB1 HB.out.size); clear hB1)
      | (go_at_call 17; refine (newPacker_any _).mono ?_; rintro e w2 ⟨P, Mb, rfl, hP, hB2⟩; have HP2 := hide' hP; have HX2 : Hid (Bx w2 w.heap.size #[.int .i64 (i0 : Int), .bool b1, .int .i64 (i2 : Int), .bool b3, .bool b4, .bool b5, .bool b6, .bool b7, .bool b8, .int .i64 (i9 : Int), .slice q0 Q.length qc, .slice a0 A.length ac, .slice u0 U.length uc, .slice d0 D.length dc] 25) := HX1.out.below hB2 HX1.out.lt; have HB2 := hide' (bstep HB1.out hB2 HB1.out.size); have HM2 := hide' (msg_of HX1.out.lt HX2.out HW.out HB2.out HB1.out.size); have hp1 := HX1.out.lt; clear hP hB2)
      | (go_at_call 18; refine (pmessage_any P Mb w1.heap.size w.heap.size (.slice none 0 0) ⟨.empty, []⟩ i0 i2 i9 b1 b3 b4 b5 b6 b7 b8 q0 a0 u0 d0 qc ac uc dc Q A U D 65535 _ HP2.out HM2.out (by omega) (by omega) (by omega) (by omega) (by omega) (by omega) (by omega) oq oa ou od (by omega) (by omega) ⟨fun x hx => (by cases hx), Nat.zero_le _⟩ rfl).mono ?_; rintro e w3 ⟨rfl, v3, r1, r2, r3⟩; have R1 : Hid (Pk w3 P Mb w1.heap.size v3 sP) := HSP.out ▸ r1; obtain ⟨p3, c3, hp3, _⟩ := own_shape R1.out.own; subst hp3; have x3 := R1.out.c0; have HB3 := hide' (HB2.out.trans ((r2.low HP2.out).mono (by omega))); clear r1 r2 r3))
    go_ret2
    refine ⟨?_, HB3.out⟩
    rw [if_neg hbig]
    exact ⟨p3, c3, rfl, own_base R1.out.own (by omega)⟩
end Go.Proofs.YtjnmbgmdkkiidaaGreat
