import Derived.Test.YtennkhdhnbdbeaaGreatSd1G
import Derived.Test.YtennkhdhnbdbeaaGreatGr0G
import Derived.Deep.RegionHeld3
namespace Go.Proofs.YtennkhdhnbdbeaaGreat.Nm
/-- a stamp's bytes -/
def stB (c a l g u f t : Nat) (sg : ByteArray) : ByteArray := nB c 2 ++ nB a 1 ++ nB l 1 ++ nB g 4 ++ nB u 4 ++ nB f 4 ++ nB t 2 ++ sg
end Go.Proofs.YtennkhdhnbdbeaaGreat.Nm
namespace Go.Proofs.YtennkhdhnbdbeaaGreat
set_option linter.unusedVariables false
open Go.RowKit Go.Shelf Go.Proofs.YtennkhdhnbdbeaaGreat.Nm

theorem bx_drew {w : World} {R : Nat} {cs : Array Value} {T : TypeId} (h : Bx w R cs T) : Bx w.drew R cs T := h

set_option maxRecDepth 100000 in
set_option maxHeartbeats 2000000 in
/-- (stamp).bytes -/
theorem stamp_any (c a l g u f t : Nat) (sg : ByteArray) (w : World) (hsg : sg.size ≤ 1048576) (hc : c < 65536) (ha : a < 256) (hl : l < 256) (hg : g < 4294967296) (hu : u < 4294967296) (hf : f < 4294967296) (ht : t < 65536) :
    Calls Tryz.prog 31 #[.agg #[.int .i64 (c : Int), .int .i64 (a : Int), .int .i64 (l : Int), .int .i64 (g : Int), .int .i64 (u : Int), .int .i64 (f : Int), .int .i64 (t : Int), .string sg]] w fun r w' => r = .returned (.string (stB c a l g u f t sg)) ∧ Below w.heap.size w w' := by
  obtain ⟨X0, hX0⟩ : ∃ X, nB c 2 = X := ⟨_, rfl⟩
  have z0 : X0.size = 2 := by rw [← hX0, nB_size]
  have HX0 := hide' hX0
  obtain ⟨X1, hX1⟩ : ∃ X, nB a 1 = X := ⟨_, rfl⟩
  have z1 : X1.size = 1 := by rw [← hX1, nB_size]
  have HX1 := hide' hX1
  obtain ⟨X2, hX2⟩ : ∃ X, nB l 1 = X := ⟨_, rfl⟩
  have z2 : X2.size = 1 := by rw [← hX2, nB_size]
  have HX2 := hide' hX2
  obtain ⟨X3, hX3⟩ : ∃ X, nB g 4 = X := ⟨_, rfl⟩
  have z3 : X3.size = 4 := by rw [← hX3, nB_size]
  have HX3 := hide' hX3
  obtain ⟨X4, hX4⟩ : ∃ X, nB u 4 = X := ⟨_, rfl⟩
  have z4 : X4.size = 4 := by rw [← hX4, nB_size]
  have HX4 := hide' hX4
  obtain ⟨X5, hX5⟩ : ∃ X, nB f 4 = X := ⟨_, rfl⟩
  have z5 : X5.size = 4 := by rw [← hX5, nB_size]
  have HX5 := hide' hX5
  obtain ⟨X6, hX6⟩ : ∃ X, nB t 2 = X := ⟨_, rfl⟩
  have z6 : X6.size = 2 := by rw [← hX6, nB_size]
  have HX6 := hide' hX6
  have s1 : ∀ W : World, (Op.stringOp .add (X0) X1).run Tryz.prog W = .ok (.string (X0 ++ X1)) W := fun W => run_string_add_sum W _ _ (by first | omega | (simp only [ByteArray.size_append]; omega))
  have s2 : ∀ W : World, (Op.stringOp .add (X0 ++ X1) X2).run Tryz.prog W = .ok (.string (X0 ++ X1 ++ X2)) W := fun W => run_string_add_sum W _ _ (by first | omega | (simp only [ByteArray.size_append]; omega))
  have s3 : ∀ W : World, (Op.stringOp .add (X0 ++ X1 ++ X2) X3).run Tryz.prog W = .ok (.string (X0 ++ X1 ++ X2 ++ X3)) W := fun W => run_string_add_sum W _ _ (by first | omega | (simp only [ByteArray.size_append]; omega))
  have s4 : ∀ W : World, (Op.stringOp .add (X0 ++ X1 ++ X2 ++ X3) X4).run Tryz.prog W = .ok (.string (X0 ++ X1 ++ X2 ++ X3 ++ X4)) W := fun W => run_string_add_sum W _ _ (by first | omega | (simp only [ByteArray.size_append]; omega))
  have s5 : ∀ W : World, (Op.stringOp .add (X0 ++ X1 ++ X2 ++ X3 ++ X4) X5).run Tryz.prog W = .ok (.string (X0 ++ X1 ++ X2 ++ X3 ++ X4 ++ X5)) W := fun W => run_string_add_sum W _ _ (by first | omega | (simp only [ByteArray.size_append]; omega))
  have s6 : ∀ W : World, (Op.stringOp .add (X0 ++ X1 ++ X2 ++ X3 ++ X4 ++ X5) X6).run Tryz.prog W = .ok (.string (X0 ++ X1 ++ X2 ++ X3 ++ X4 ++ X5 ++ X6)) W := fun W => run_string_add_sum W _ _ (by first | omega | (simp only [ByteArray.size_append]; omega))
  have s7 : ∀ W : World, (Op.stringOp .add (X0 ++ X1 ++ X2 ++ X3 ++ X4 ++ X5 ++ X6) sg).run Tryz.prog W = .ok (.string (X0 ++ X1 ++ X2 ++ X3 ++ X4 ++ X5 ++ X6 ++ sg)) W := fun W => run_string_add_sum W _ _ (by first | omega | (simp only [ByteArray.size_append]; omega))
  have HV : Hid (stB c a l g u f t sg = X0 ++ X1 ++ X2 ++ X3 ++ X4 ++ X5 ++ X6 ++ sg) := by unfold Hid stB; rw [hX0, hX1, hX2, hX3, hX4, hX5, hX6]
  rw [HV.out]
  have T0 : Hid True := trivial
  have T1 : Hid True := trivial
  have T2 : Hid True := trivial
  have T3 : Hid True := trivial
  have T4 : Hid True := trivial
  have T5 : Hid True := trivial
  have T6 : Hid True := trivial
  have h0 : Bx (w.alloc (.cells #[.int .i64 (c : Int), .int .i64 (a : Int), .int .i64 (l : Int), .int .i64 (g : Int), .int .i64 (u : Int), .int .i64 (f : Int), .int .i64 (t : Int), .string sg] 53)) w.heap.size #[.int .i64 (c : Int), .int .i64 (a : Int), .int .i64 (l : Int), .int .i64 (g : Int), .int .i64 (u : Int), .int .i64 (f : Int), .int .i64 (t : Int), .string sg] 53 := World.alloc_heap_new w _
  have HB0 : Hid (Below w.heap.size w (w.alloc (.cells #[.int .i64 (c : Int), .int .i64 (a : Int), .int .i64 (l : Int), .int .i64 (g : Int), .int .i64 (u : Int), .int .i64 (f : Int), .int .i64 (t : Int), .string sg] 53))) := (Below.refl _ _).alloc (Nat.le_refl _) _
  obtain ⟨C0, hC0⟩ : ∃ C0, (w.alloc (.cells #[.int .i64 (c : Int), .int .i64 (a : Int), .int .i64 (l : Int), .int .i64 (g : Int), .int .i64 (u : Int), .int .i64 (f : Int), .int .i64 (t : Int), .string sg] 53)) = C0 := ⟨_, rfl⟩
  rw [hC0] at h0 HB0
  have HH := hide' h0
  have QF : Hid (∀ W : World, Bx W w.heap.size #[.int .i64 (c : Int), .int .i64 (a : Int), .int .i64 (l : Int), .int .i64 (g : Int), .int .i64 (u : Int), .int .i64 (f : Int), .int .i64 (t : Int), .string sg] 53 → W.cell? ⟨w.heap.size, 0, none⟩ = some (.int .i64 (c : Int)) ∧ W.cell? ⟨w.heap.size, 1, none⟩ = some (.int .i64 (a : Int)) ∧ W.cell? ⟨w.heap.size, 2, none⟩ = some (.int .i64 (l : Int)) ∧ W.cell? ⟨w.heap.size, 3, none⟩ = some (.int .i64 (g : Int)) ∧ W.cell? ⟨w.heap.size, 4, none⟩ = some (.int .i64 (u : Int)) ∧ W.cell? ⟨w.heap.size, 5, none⟩ = some (.int .i64 (f : Int)) ∧ W.cell? ⟨w.heap.size, 6, none⟩ = some (.int .i64 (t : Int)) ∧ W.cell? ⟨w.heap.size, 7, none⟩ = some (.string sg)) := fun W h => ⟨h.cell rfl, h.cell rfl, h.cell rfl, h.cell rfl, h.cell rfl, h.cell rfl, h.cell rfl, h.cell rfl⟩
  obtain ⟨k0, k1, k2, k3, k4, k5, k6, k7⟩ := QF.out C0 h0
  clear h0 HV hX0 z0 hX1 z1 hX2 z2 hX3 z3 hX4 z4 hX5 z5 hX6 z6
  go_enter Tryz.func31, Tryz.ntmps31
  go_wp2_with fail
  try rw [hC0]
  clear hC0
  go_region_held3 (fun w' => w'.cell? ⟨w.heap.size, 0, none⟩ = some (.int .i64 (c : Int)) ∧ w'.cell? ⟨w.heap.size, 1, none⟩ = some (.int .i64 (a : Int)) ∧ w'.cell? ⟨w.heap.size, 2, none⟩ = some (.int .i64 (l : Int)) ∧ w'.cell? ⟨w.heap.size, 3, none⟩ = some (.int .i64 (g : Int)) ∧ w'.cell? ⟨w.heap.size, 4, none⟩ = some (.int .i64 (u : Int)) ∧ w'.cell? ⟨w.heap.size, 5, none⟩ = some (.int .i64 (f : Int)) ∧ w'.cell? ⟨w.heap.size, 6, none⟩ = some (.int .i64 (t : Int)) ∧ w'.cell? ⟨w.heap.size, 7, none⟩ = some (.string sg)) (first | go_keep | exact QF.out _ HH6.out | exact QF.out _ HH5.out | exact QF.out _ HH4.out | exact QF.out _ HH3.out | exact QF.out _ HH2.out | exact QF.out _ HH1.out | exact QF.out _ HH0.out) (first
    | (go_at_call 32; have _ := T0; clear T0; refine (spellBytes_any 2 c _ (by omega) (by omega)).mono ?_; rw [HX0.out]; rintro r w1 ⟨rfl, hB⟩; have HH0 := hide' (show Bx w1 w.heap.size #[.int .i64 (c : Int), .int .i64 (a : Int), .int .i64 (l : Int), .int .i64 (g : Int), .int .i64 (u : Int), .int .i64 (f : Int), .int .i64 (t : Int), .string sg] 53 by first | exact HH.out.below hB HH.out.lt | exact (bx_drew HH.out).below hB HH.out.lt); have HB1 := hide' (show Below w.heap.size w w1 by first | exact bstep HB0.out hB HB0.out.size | exact bstep HB0.out.drew hB HB0.out.size); clear hB)
    | (go_at_call 32; have _ := T1; clear T1; refine (spellBytes_any 1 a _ (by omega) (by omega)).mono ?_; rw [HX1.out]; rintro r w2 ⟨rfl, hB⟩; have HH1 := hide' (show Bx w2 w.heap.size #[.int .i64 (c : Int), .int .i64 (a : Int), .int .i64 (l : Int), .int .i64 (g : Int), .int .i64 (u : Int), .int .i64 (f : Int), .int .i64 (t : Int), .string sg] 53 by first | exact HH0.out.below hB HH0.out.lt | exact (bx_drew HH0.out).below hB HH0.out.lt); have HB2 := hide' (show Below w.heap.size w w2 by first | exact bstep HB1.out hB HB1.out.size | exact bstep HB1.out.drew hB HB1.out.size); clear hB)
    | (go_at_call 32; have _ := T2; clear T2; refine (spellBytes_any 1 l _ (by omega) (by omega)).mono ?_; rw [HX2.out]; rintro r w3 ⟨rfl, hB⟩; have HH2 := hide' (show Bx w3 w.heap.size #[.int .i64 (c : Int), .int .i64 (a : Int), .int .i64 (l : Int), .int .i64 (g : Int), .int .i64 (u : Int), .int .i64 (f : Int), .int .i64 (t : Int), .string sg] 53 by first | exact HH1.out.below hB HH1.out.lt | exact (bx_drew HH1.out).below hB HH1.out.lt); have HB3 := hide' (show Below w.heap.size w w3 by first | exact bstep HB2.out hB HB2.out.size | exact bstep HB2.out.drew hB HB2.out.size); clear hB)
    | (go_at_call 32; have _ := T3; clear T3; refine (spellBytes_any 4 g _ (by omega) (by omega)).mono ?_; rw [HX3.out]; rintro r w4 ⟨rfl, hB⟩; have HH3 := hide' (show Bx w4 w.heap.size #[.int .i64 (c : Int), .int .i64 (a : Int), .int .i64 (l : Int), .int .i64 (g : Int), .int .i64 (u : Int), .int .i64 (f : Int), .int .i64 (t : Int), .string sg] 53 by first | exact HH2.out.below hB HH2.out.lt | exact (bx_drew HH2.out).below hB HH2.out.lt); have HB4 := hide' (show Below w.heap.size w w4 by first | exact bstep HB3.out hB HB3.out.size | exact bstep HB3.out.drew hB HB3.out.size); clear hB)
    | (go_at_call 32; have _ := T4; clear T4; refine (spellBytes_any 4 u _ (by omega) (by omega)).mono ?_; rw [HX4.out]; rintro r w5 ⟨rfl, hB⟩; have HH4 := hide' (show Bx w5 w.heap.size #[.int .i64 (c : Int), .int .i64 (a : Int), .int .i64 (l : Int), .int .i64 (g : Int), .int .i64 (u : Int), .int .i64 (f : Int), .int .i64 (t : Int), .string sg] 53 by first | exact HH3.out.below hB HH3.out.lt | exact (bx_drew HH3.out).below hB HH3.out.lt); have HB5 := hide' (show Below w.heap.size w w5 by first | exact bstep HB4.out hB HB4.out.size | exact bstep HB4.out.drew hB HB4.out.size); clear hB)
    | (go_at_call 32; have _ := T5; clear T5; refine (spellBytes_any 4 f _ (by omega) (by omega)).mono ?_; rw [HX5.out]; rintro r w6 ⟨rfl, hB⟩; have HH5 := hide' (show Bx w6 w.heap.size #[.int .i64 (c : Int), .int .i64 (a : Int), .int .i64 (l : Int), .int .i64 (g : Int), .int .i64 (u : Int), .int .i64 (f : Int), .int .i64 (t : Int), .string sg] 53 by first | exact HH4.out.below hB HH4.out.lt | exact (bx_drew HH4.out).below hB HH4.out.lt); have HB6 := hide' (show Below w.heap.size w w6 by first | exact bstep HB5.out hB HB5.out.size | exact bstep HB5.out.drew hB HB5.out.size); clear hB)
    | (go_at_call 32; have _ := T6; clear T6; refine (spellBytes_any 2 t _ (by omega) (by omega)).mono ?_; rw [HX6.out]; rintro r w7 ⟨rfl, hB⟩; have HH6 := hide' (show Bx w7 w.heap.size #[.int .i64 (c : Int), .int .i64 (a : Int), .int .i64 (l : Int), .int .i64 (g : Int), .int .i64 (u : Int), .int .i64 (f : Int), .int .i64 (t : Int), .string sg] 53 by first | exact HH5.out.below hB HH5.out.lt | exact (bx_drew HH5.out).below hB HH5.out.lt); have HB7 := hide' (show Below w.heap.size w w7 by first | exact bstep HB6.out hB HB6.out.size | exact bstep HB6.out.drew hB HB6.out.size); clear hB))
  go_wp2_with fail
  go_ret
  exact ⟨rfl, by first | exact HB7.out | exact HB7.out.drew⟩
end Go.Proofs.YtennkhdhnbdbeaaGreat
