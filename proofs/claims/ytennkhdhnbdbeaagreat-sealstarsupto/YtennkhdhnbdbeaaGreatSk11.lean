import Derived.Test.YtennkhdhnbdbeaaGreatSk9G
import Derived.Test.YtennkhdhnbdbeaaGreatGr0G
namespace Go.Proofs.YtennkhdhnbdbeaaGreat.Nm
set_option linter.unusedVariables false
/-- are the data a key's? -/
def kyB (d : ByteArray) : ByteArray := pubB (vN (d.extract 0 2) 2) (vN (d.extract 4 8) 4) (vN (d.extract 8 12) 4) 1
def keyB (d : ByteArray) : Bool := decide (d.size = 12) && ((kyB d).toList == d.toList)
theorem keyB_12 {d : ByteArray} (h : d.size = 12) : keyB d = ((kyB d).toList == d.toList) := by unfold keyB; rw [decide_eq_true h]; rfl
end Go.Proofs.YtennkhdhnbdbeaaGreat.Nm
namespace Go.Proofs.YtennkhdhnbdbeaaGreat
set_option linter.unusedVariables false
open Go.RowKit Go.Shelf Go.Proofs.YtennkhdhnbdbeaaGreat.Nm

theorem ko_start (w : World) (Z Kc : Array Value) (t t' : TypeId) (W1 : World) (h : W1 = ((w.alloc (.cells Z t)).alloc (.cells Kc t')).drew) : Bx W1 w.heap.size Z t ∧ Bx W1 (w.heap.size + 1) Kc t' ∧ Below w.heap.size w W1 := by
  subst h
  have h1 : Bx (w.alloc (.cells Z t)) w.heap.size Z t := World.alloc_heap_new w _
  have h2 : Bx ((w.alloc (.cells Z t)).alloc (.cells Kc t')) (w.alloc (.cells Z t)).heap.size Kc t' := World.alloc_heap_new _ _
  rw [World.size_alloc] at h2
  have h3 : Bx ((w.alloc (.cells Z t)).alloc (.cells Kc t')) w.heap.size Z t := h1.grown (World.grownBy_alloc _ _ none) (by simp)
  exact ⟨h3, h2, (((Below.refl _ _).alloc (Nat.le_refl _) _).alloc (by rw [World.size_alloc]; omega) _).drew⟩

set_option maxRecDepth 100000 in
set_option maxHeartbeats 2000000 in
/-- seal.keyOf -/
theorem keyOf_any (d : ByteArray) (w : World) (hd : d.size ≤ 1048576) :
    Calls Tryz.prog 48 #[.string d] w fun r w' => (∃ k0 k1 k2 k3 : Int, r = .returned (.tuple #[.agg #[.int .i64 k0, .int .i64 k1, .int .i64 k2, .int .i64 k3], .bool (keyB d)])) ∧ Below w.heap.size w w' := by
  by_cases h12 : d.size = 12
  · have z1 : (d.extract 0 2).size = 2 := by simp [ByteArray.size_extract]; omega
    have z2 : (d.extract 4 8).size = 4 := by simp [ByteArray.size_extract]; omega
    have z3 : (d.extract 8 12).size = 4 := by simp [ByteArray.size_extract]; omega
    have V1 := hide' (fun w => spellValue_any (d.extract 0 2) w (by omega))
    have V2 := hide' (fun w => spellValue_any (d.extract 4 8) w (by omega))
    have V3 := hide' (fun w => spellValue_any (d.extract 8 12) w (by omega))
    rw [z1] at V1
    rw [z2] at V2
    rw [z3] at V3
    have hI : (d.size : Int) = 12 := by omega
    have HP := hide' (fun w => public_any (vN (d.extract 0 2) 2 : Int) (vN (d.extract 4 8) 4 : Int) (vN (d.extract 8 12) 4 : Int) 1 w)
    obtain ⟨K, hK⟩ : ∃ K, pubB (vN (d.extract 0 2) 2 : Int) (vN (d.extract 4 8) 4 : Int) (vN (d.extract 8 12) 4 : Int) 1 = K := ⟨_, rfl⟩
    rw [hK] at HP
    have HK : Hid (keyB d = (K.toList == d.toList)) := by unfold Hid; rw [keyB_12 h12, ← hK]; rfl
    clear hK z1 z2 z3
    generalize vN (d.extract 0 2) 2 = v1 at *
    generalize vN (d.extract 4 8) 4 = v2 at *
    generalize vN (d.extract 8 12) 4 = v3 at *
    have T1 : Hid True := trivial
    have T2 : Hid True := trivial
    go_enter Tryz.func48, Tryz.ntmps48
    go_wp2_with fail
    go_region_with (first
      | (go_at_call 88; have _ := T1; clear T1; refine (V1.out _).mono ?_; rintro r w1 ⟨rfl, rfl⟩)
      | (go_at_call 88; have _ := T2; clear T2; refine (V2.out _).mono ?_; rintro r w1 ⟨rfl, rfl⟩)
      | (go_at_call 88; refine (V3.out _).mono ?_; rintro r w1 ⟨rfl, rfl⟩))
    all_goals
      go_wp2_with fail
      obtain ⟨W1, hW1⟩ : ∃ W1, ((w.alloc (.cells #[.int .i64 0, .int .i64 0, .int .i64 0, .int .i64 0] 23)).alloc (.cells #[.int .i64 (v1 : Int), .int .i64 (v2 : Int), .int .i64 (v3 : Int), .int .i64 1] 23)).drew = W1 := ⟨_, rfl⟩
      rw [hW1]
      obtain ⟨X1, Y1, B1⟩ := ko_start w _ _ _ _ W1 hW1.symm
      have HX1 := hide' X1
      have HY1 := hide' Y1
      have HB1 := hide' B1
      have y0 := Y1.cell (j := 0) rfl
      have y1 := Y1.cell (j := 1) rfl
      have y2 := Y1.cell (j := 2) rfl
      have y3 := Y1.cell (j := 3) rfl
      clear X1 Y1 B1 hW1
      go_region_held3 (fun w' => w'.cell? ⟨w.heap.size + 1, 0, none⟩ = some (.int .i64 (v1 : Int)) ∧ w'.cell? ⟨w.heap.size + 1, 1, none⟩ = some (.int .i64 (v2 : Int)) ∧ w'.cell? ⟨w.heap.size + 1, 2, none⟩ = some (.int .i64 (v3 : Int)) ∧ w'.cell? ⟨w.heap.size + 1, 3, none⟩ = some (.int .i64 1)) (first | go_keep | exact S2.out | exact ⟨HY3.out.cell rfl, HY3.out.cell rfl, HY3.out.cell rfl, HY3.out.cell rfl⟩) ((go_at_call 15; refine (HP.out _).mono ?_; rintro r w2 ⟨rfl, hB2⟩; have HX2 := hide' (show Bx w2 w.heap.size #[.int .i64 0, .int .i64 0, .int .i64 0, .int .i64 0] 23 by first | exact HX1.out.below hB2 HX1.out.lt | exact (show Bx W1.drew w.heap.size #[.int .i64 0, .int .i64 0, .int .i64 0, .int .i64 0] 23 from HX1.out).below hB2 HX1.out.lt); have HY2 := hide' (show Bx w2 (w.heap.size + 1) #[.int .i64 (v1 : Int), .int .i64 (v2 : Int), .int .i64 (v3 : Int), .int .i64 1] 23 by first | exact HY1.out.below hB2 HY1.out.lt | exact (show Bx W1.drew (w.heap.size + 1) #[.int .i64 (v1 : Int), .int .i64 (v2 : Int), .int .i64 (v3 : Int), .int .i64 1] 23 from HY1.out).below hB2 HY1.out.lt); have HB2 := hide' (show Below w.heap.size w w2 by first | exact bstep HB1.out hB2 HB1.out.size | exact bstep HB1.out.drew hB2 HB1.out.size); have S2 := hide' (show w2.cell? ⟨w.heap.size + 1, 0, none⟩ = some (.int .i64 (v1 : Int)) ∧ w2.cell? ⟨w.heap.size + 1, 1, none⟩ = some (.int .i64 (v2 : Int)) ∧ w2.cell? ⟨w.heap.size + 1, 2, none⟩ = some (.int .i64 (v3 : Int)) ∧ w2.cell? ⟨w.heap.size + 1, 3, none⟩ = some (.int .i64 1) from ⟨HY2.out.cell rfl, HY2.out.cell rfl, HY2.out.cell rfl, HY2.out.cell rfl⟩); have x0 : w2.cell? ⟨w.heap.size, 0, none⟩ = some (.int .i64 0) := HX2.out.cell rfl; have x1 : w2.cell? ⟨w.heap.size, 1, none⟩ = some (.int .i64 0) := HX2.out.cell rfl; have x2 : w2.cell? ⟨w.heap.size, 2, none⟩ = some (.int .i64 0) := HX2.out.cell rfl; have x3 : w2.cell? ⟨w.heap.size, 3, none⟩ = some (.int .i64 0) := HX2.out.cell rfl; have g0 := HX2.out.free 0; have g1 := HX2.out.free 1; have g2 := HX2.out.free 2; have g3 := HX2.out.free 3; clear hB2))
    all_goals
      have E3 := (((HX2.out.set 0 (.int .i64 (v1 : Int))).set 1 (.int .i64 (v2 : Int))).set 2 (.int .i64 (v3 : Int))).set 3 (.int .i64 1)
      have q0 := E3.cell (j := 0) (v := .int .i64 (v1 : Int)) (by simp)
      have q1 := E3.cell (j := 1) (v := .int .i64 (v2 : Int)) (by simp)
      have q2 := E3.cell (j := 2) (v := .int .i64 (v3 : Int)) (by simp)
      have q3 := E3.cell (j := 3) (v := .int .i64 1) (by simp)
      have BE := hide' ((((HB2.out.setCell (p := ⟨w.heap.size, 0, none⟩) (Nat.le_refl _) (.int .i64 (v1 : Int))).setCell (p := ⟨w.heap.size, 1, none⟩) (Nat.le_refl _) (.int .i64 (v2 : Int))).setCell (p := ⟨w.heap.size, 2, none⟩) (Nat.le_refl _) (.int .i64 (v3 : Int))).setCell (p := ⟨w.heap.size, 3, none⟩) (Nat.le_refl _) (.int .i64 1))
      go_wp2_with fail
      refine bodyPost_ret (v := .tuple #[.agg #[.int .i64 (v1 : Int), .int .i64 (v2 : Int), .int .i64 (v3 : Int), .int .i64 1], .bool (K.toList == d.toList)]) (by simp [results, go_sem, q0, q1, q2, q3]) rfl ⟨⟨_, _, _, _, by rw [HK.out]⟩, by first | exact BE.out | exact BE.out.drew⟩
  · have HK : Hid (keyB d = false) := by unfold Hid keyB; rw [decide_eq_false h12]; rfl
    have hI : ((d.size : Int) == 12) = false := by rw [beq_eq_false_iff_ne]; omega
    have hJ : ¬ (d.size : Int) = 12 := by omega
    go_enter Tryz.func48, Tryz.ntmps48
    go_wp2
    obtain ⟨q0, q1, q2, q3⟩ := cells4 w (.int .i64 0) (.int .i64 0) (.int .i64 0) (.int .i64 0) 23
    refine bodyPost_ret (v := .tuple #[.agg #[.int .i64 0, .int .i64 0, .int .i64 0, .int .i64 0], .bool false]) (by simp [results, go_sem, q0, q1, q2, q3]) rfl ⟨⟨_, _, _, _, by rw [HK.out]⟩, below_one w _⟩

set_option maxRecDepth 100000 in
set_option maxHeartbeats 1000000 in
/-- gazetteerref4.IsKey -/
theorem isKey_any (d : ByteArray) (w : World) (hd : d.size ≤ 1048576) :
    Calls Tryz.prog 56 #[.string d] w fun r w' => r = .returned (.bool (keyB d)) ∧ Below w.heap.size w w' := by
  by_cases h12 : d.size = 12
  · have z1 : (d.extract 0 2).size = 2 := by simp [ByteArray.size_extract]; omega
    have z2 : (d.extract 4 8).size = 4 := by simp [ByteArray.size_extract]; omega
    have z3 : (d.extract 8 12).size = 4 := by simp [ByteArray.size_extract]; omega
    have V1 := hide' (fun w => refValue4_any (d.extract 0 2) w (by omega))
    have V2 := hide' (fun w => refValue4_any (d.extract 4 8) w (by omega))
    have V3 := hide' (fun w => refValue4_any (d.extract 8 12) w (by omega))
    rw [z1] at V1
    rw [z2] at V2
    rw [z3] at V3
    have hI : (d.size : Int) = 12 := by omega
    have HP := hide' (fun w => refPublic_any (vN (d.extract 0 2) 2 : Int) (vN (d.extract 4 8) 4 : Int) (vN (d.extract 8 12) 4 : Int) 1 w)
    obtain ⟨K, hK⟩ : ∃ K, pubB (vN (d.extract 0 2) 2 : Int) (vN (d.extract 4 8) 4 : Int) (vN (d.extract 8 12) 4 : Int) 1 = K := ⟨_, rfl⟩
    rw [hK] at HP
    have HK : Hid (keyB d = (K.toList == d.toList)) := by unfold Hid; rw [keyB_12 h12, ← hK]; rfl
    clear hK z1 z2 z3
    generalize vN (d.extract 0 2) 2 = v1 at *
    generalize vN (d.extract 4 8) 4 = v2 at *
    generalize vN (d.extract 8 12) 4 = v3 at *
    have T1 : Hid True := trivial
    have T2 : Hid True := trivial
    go_enter Tryz.func56, Tryz.ntmps56
    go_wp2_with fail
    go_region_with (first
      | (go_at_call 54; have _ := T1; clear T1; refine (V1.out _).mono ?_; rintro r w1 ⟨rfl, rfl⟩)
      | (go_at_call 54; have _ := T2; clear T2; refine (V2.out _).mono ?_; rintro r w1 ⟨rfl, rfl⟩)
      | (go_at_call 54; refine (V3.out _).mono ?_; rintro r w1 ⟨rfl, rfl⟩)
      | (go_at_call 40; refine (HP.out _).mono ?_; rintro r w2 ⟨rfl, hB2⟩))
    go_wp2_with fail
    go_ret
    exact ⟨by rw [HK.out]; rfl, by first | exact hB2 | exact bstep (Below.refl _ w).drew hB2 (Nat.le_refl _)⟩
  · have HK : Hid (keyB d = false) := by unfold Hid keyB; rw [decide_eq_false h12]; rfl
    have hI : ((d.size : Int) == 12) = false := by rw [beq_eq_false_iff_ne]; omega
    have hJ : ¬ (d.size : Int) = 12 := by omega
    go_enter Tryz.func56, Tryz.ntmps56
    go_wp2
    go_ret
    exact ⟨by rw [HK.out]; rfl, Below.refl _ _⟩
end Go.Proofs.YtennkhdhnbdbeaaGreat
